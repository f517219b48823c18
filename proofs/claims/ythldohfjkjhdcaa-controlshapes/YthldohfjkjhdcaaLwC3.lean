/- What ControlShapes answers: true, at every shape. -/
import Derived.Test.YthldohfjkjhdcaaCo5
import Derived.Test.YthldohfjkjhdcaaKept
namespace Go.Proofs.Ythldohfjkjhdcaa
open Go.RowKit Go.Great

/-- all that is looked at -/
structure Shp (f s a b c : Int) : Prop where
  mono : a ≤ b
  turn : f ≠ -9223372036854775808 → c = -a
  lo : -(max s 0) ≤ a
  hi : a ≤ max s 0
  up : 0 < f → 0 ≤ a
  dn : f < 0 → a ≤ 0
  no : f = 0 → a = 0
theorem shp_any (f m s a : Int) (hf : I64 f) : Shp f s (lawS f s a) (lawS (sat (f + max m 0)) s a) (lawS (sat (0 - f)) s a) := by
  have hs : f ≤ sat (f + max m 0) := by
    unfold I64 at hf
    unfold sat
    repeat' split
    all_goals omega
  obtain ⟨u, d, n⟩ := lawS_sign (sp := s) (ac := a) hf
  exact ⟨lawS_mono hf (sat_in _) hs, fun h => lawS_turn hf h, (lawS_bound hf).1, (lawS_bound hf).2, u, d, n⟩
set_option maxHeartbeats 4000000 in
theorem ControlShapes_walk (f m s a : Int) (hf : I64 f) (hm : I64 m) (hs : I64 s) (ha : I64 a) (w : World) : Calls Try.prog 5 #[.agg #[.int .i64 f, .int .i64 m, .int .i64 s, .int .i64 a]] w fun e w' => e = .returned (.bool true) ∧ Below w.heap.size w w' := by
  have L1 := hide (fun W => law_any f s a W hf hs ha)
  have A1 := hide (fun W => ref_add_any f (max m 0) W hf (by unfold I64 at *; omega))
  have S1 := hide (fun W => ref_sub_any 0 f W (by unfold I64; omega) hf)
  have L2 := hide (fun W => law_any (sat (f + max m 0)) s a W (sat_in _) hs ha)
  have L3 := hide (fun W => law_any (sat (0 - f)) s a W (sat_in _) hs ha)
  have HS := hide (shp_any f m s a hf)
  have hx := lawS_i (a := a) hf hs
  generalize lawS f s a = x at *
  generalize lawS (sat (f + max m 0)) s a = y at *
  generalize lawS (sat (0 - f)) s a = z at *
  generalize sat (f + max m 0) = f2 at *
  generalize sat (0 - f) = f3 at *
  obtain ⟨W0, hW0, b0, D0, z0⟩ := one_box w #[.int .i64 f, .int .i64 m, .int .i64 s, .int .i64 a] 49
  have Hb := hide b0
  obtain ⟨c0, c1, c2, c3⟩ := four_cells D0
  clear b0 D0 z0 hf hm ha
  go_enter Try.func5, Try.ntmps5
  go_upto_region 6 with (first | (go_at_call 9; refine (L1.out _).mono ?_; rintro e w1 ⟨rfl, hw⟩; obtain rfl := hw.symm))
  clear c0 c1 c2 c3 hW0 L1
  generalize hM : max m 0 = M at *
  go_wp2_with fail
  refine (A1.out _).mono ?_
  rintro e w2 ⟨rfl, b2⟩
  replace Hb := hide (below_next Hb.out (Nat.le_refl _) b2)
  clear b2 A1
  go_upto_region 7 with (first | (go_at_call 9; refine (L2.out _).mono ?_; rintro e w1 ⟨rfl, hw⟩; obtain rfl := hw.symm))
  clear L2
  go_wp2_with fail
  refine (S1.out _).mono ?_
  rintro e w3 ⟨rfl, b3⟩
  replace Hb := hide (below_next Hb.out (Nat.le_refl _) b3)
  clear b3 S1
  go_upto_region 8 with (first | (go_at_call 9; refine (L3.out _).mono ?_; rintro e w1 ⟨rfl, hw⟩; obtain rfl := hw.symm))
  clear L3
  obtain ⟨g1, g2, g3, g4, g5, g6, g7⟩ := HS.out
  clear HS
  unfold I64 at hs hx
  generalize hT : max s 0 = T at *
  have hT2 : 0 ≤ T ∧ T ≤ 9223372036854775807 := by omega
  clear hs
  have AW := hide awakeC
  go_upto_region 9 with fail
  clear hT
  by_cases hmin : f = -9223372036854775808
  · subst hmin
    have k6 := g6 (by decide)
    clear g2 g5 g6 g7
    by_cases hz : z = -x
    · subst hz
      have eb : (-x == -x) = true := by simp
      go_wp2_with (first | (go_at_call 13; refine (AW.out _).mono ?_; rintro e w4 ⟨rfl, b4⟩))
      go_ret
      exact ⟨rfl, below_next Hb.out (Nat.le_refl _) b4⟩
    · have eb : (z == -x) = false := by simp [hz]
      go_wp2_with (first | (go_at_call 13; refine (AW.out _).mono ?_; rintro e w4 ⟨rfl, b4⟩))
      go_ret
      exact ⟨rfl, below_next Hb.out (Nat.le_refl _) b4⟩
  · obtain rfl : z = -x := g2 hmin
    have eb : (-x == -x) = true := by simp
    clear g2
    rcases Int.lt_trichotomy f 0 with hf | hf | hf
    · have k6 := g6 hf
      clear g5 g6 g7
      go_wp2_with (first | (go_at_call 13; refine (AW.out _).mono ?_; rintro e w4 ⟨rfl, b4⟩))
      go_ret
      exact ⟨rfl, below_next Hb.out (Nat.le_refl _) b4⟩
    · obtain rfl : x = 0 := g7 hf
      subst hf
      clear g5 g6 g7
      go_wp2_with (first | (go_at_call 13; refine (AW.out _).mono ?_; rintro e w4 ⟨rfl, b4⟩))
      go_ret
      exact ⟨rfl, below_next Hb.out (Nat.le_refl _) b4⟩
    · have k5 := g5 hf
      clear g5 g6 g7
      go_wp2_with (first | (go_at_call 13; refine (AW.out _).mono ?_; rintro e w4 ⟨rfl, b4⟩))
      go_ret
      exact ⟨rfl, below_next Hb.out (Nat.le_refl _) b4⟩
end Go.Proofs.Ythldohfjkjhdcaa
