/- What FixSlews answers: true, at every three numbers. -/
import Derived.Test.YtpefkflllpamjaaAwake
import Derived.Test.YtpefkflllpamjaaKept
namespace Go.Proofs.Ytpefkflllpamjaa
open Go.RowKit

theorem sat_cases (x : Int) : (x < -9223372036854775808 ∧ sat x = -9223372036854775808) ∨ (9223372036854775807 < x ∧ sat x = 9223372036854775807) ∨ (-9223372036854775808 ≤ x ∧ x ≤ 9223372036854775807 ∧ sat x = x) := by
  unfold sat; split <;> (try split) <;> omega
theorem slew_up (a b s : Int) (h : 1 ≤ s) (hab : a < b) (ha : I64 a) (hb : I64 b) : (b ≤ sat (a + s) → slew a b s = b) ∧ (sat (a + s) ≤ b → slew a b s = sat (a + s)) := by
  unfold I64 at ha hb
  unfold slew
  rw [if_neg (by omega)]
  rcases sat_cases (a + s) with g | g | g <;> refine ⟨fun q => ?_, fun q => ?_⟩ <;> split <;> (try split) <;> omega
theorem slew_down (a b s : Int) (h : 1 ≤ s) (hab : b ≤ a) (ha : I64 a) (hb : I64 b) : (sat (a - s) ≤ b → slew a b s = b) ∧ (b ≤ sat (a - s) → slew a b s = sat (a - s)) := by
  unfold I64 at ha hb
  unfold slew
  rw [if_neg (by omega)]
  rcases sat_cases (a - s) with g | g | g <;> refine ⟨fun q => ?_, fun q => ?_⟩ <;> split <;> (try split) <;> omega
theorem slew_facts (a b s : Int) (h : 1 ≤ s) (ha : I64 a) (hb : I64 b) : I64 (slew a b s) ∧ (a ≤ b → a ≤ slew a b s ∧ slew a b s ≤ b) ∧ (b ≤ a → b ≤ slew a b s ∧ slew a b s ≤ a) ∧ ((slew a b s - a).natAbs : Int) ≤ s ∧ (slew a b s = a → a = b) := by
  unfold I64 at *
  unfold slew
  rw [if_neg (by omega)]
  split <;> (try split) <;> omega
set_option maxHeartbeats 1000000 in
theorem ref_slew_any (a b s : Int) (w : World) (ha : I64 a) (hb : I64 b) (hs : I64 s) : Calls Try.prog 28 #[.int .i64 a, .int .i64 b, .int .i64 s] w fun e w' => e = .returned (.int .i64 (slew a b s)) ∧ Below w.heap.size w w' := by
  have HA := hide ha
  have HB := hide hb
  have HS := hide hs
  by_cases h1 : s < 1
  · have H := hide (show slew a b s = a by unfold slew; rw [if_pos h1])
    clear ha hb hs
    go_enter Try.func28, Try.ntmps28
    go_wp2
    go_ret
    exact ⟨ret_int H.out.symm, Below.refl _ _⟩
  · by_cases h2 : a < b
    · have H := hide (slew_up a b s (by omega) h2 ha hb)
      clear ha hb hs
      go_enter Try.func28, Try.ntmps28
      go_wp2_with fail
      refine (ref_add_any a s _ HA.out HS.out).mono ?_
      rintro e w1 ⟨rfl, k1⟩
      have K1 := hide k1; clear k1
      obtain ⟨t, HT⟩ : ∃ t, Hid (sat (a + s) = t) := ⟨_, rfl⟩
      rw [HT.out]
      go_wp2_with fail
      all_goals
        go_ret
        refine ⟨ret_int ?_, K1.out⟩
        have hh := H.out
        rw [HT.out] at hh
        first | exact (hh.1 (by omega)).symm | exact (hh.2 (by omega)).symm
    · have H := hide (slew_down a b s (by omega) (by omega) ha hb)
      clear ha hb hs
      go_enter Try.func28, Try.ntmps28
      go_wp2_with fail
      refine (ref_sub_any a s _ HA.out HS.out).mono ?_
      rintro e w1 ⟨rfl, k1⟩
      have K1 := hide k1; clear k1
      obtain ⟨t, HT⟩ : ∃ t, Hid (sat (a - s) = t) := ⟨_, rfl⟩
      rw [HT.out]
      go_wp2_with fail
      all_goals
        go_ret
        refine ⟨ret_int ?_, K1.out⟩
        have hh := H.out
        rw [HT.out] at hh
        first | exact (hh.1 (by omega)).symm | exact (hh.2 (by omega)).symm

theorem below_undrew {B : Nat} {w w' : World} (h : Below B w.drew w') : Below B w w' := ⟨h.os, h.tape, h.output, h.size, h.block⟩
set_option maxHeartbeats 4000000 in
theorem FixSlews_walk (a b s : Int) (ha : I64 a) (hb : I64 b) (hs : I64 s) (w : World) : Calls Try.prog 8 #[.int .i64 a, .int .i64 b, .int .i64 s] w fun e w' => e = .returned (.bool true) ∧ Below w.heap.size w w' := by
  have HA := hide ha
  have HB := hide hb
  have HS := hide hs
  have R1 := hide (fun (W : World) => slew_any a b s W ha hb hs)
  have R2 := hide (fun (W : World) => ref_slew_any a b s W ha hb hs)
  by_cases h1 : s < 1
  · have hx : slew a b s = a := by unfold slew; rw [if_pos h1]
    rw [hx] at R1 R2
    clear ha hb hs hx
    have hne : (a == a) = true := by simp
    go_enter Try.func8, Try.ntmps8
    go_wp2_with fail
    refine (R1.out _).mono ?_
    rintro e w0 ⟨rfl, rfl⟩
    go_wp2_with fail
    refine (R2.out _).mono ?_
    rintro e w1 ⟨rfl, k1⟩
    have K1 := hide k1; clear k1
    go_wp2_with fail
    refine (awake_any _).mono ?_
    rintro e w2 ⟨rfl, n, rfl⟩
    go_wp2_with fail
    go_ret
    exact ⟨rfl, below_draw K1.out _⟩
  · obtain ⟨f1, f2, f3, f4, f5⟩ := slew_facts a b s (by omega) ha hb
    obtain ⟨x, HX⟩ : ∃ x, Hid (slew a b s = x) := ⟨_, rfl⟩
    rw [HX.out] at R1 R2 f1 f2 f3 f4 f5
    have F1 := hide f1
    have hne : (x == x) = true := by simp
    rcases Int.lt_trichotomy x a with g1 | g1 | g1
    · have g2 : b ≤ x := by omega
      have g3 : b < a := by omega
      have d1 : decide (x ≤ a) = true := by simp; omega
      have d2 : decide (b ≤ x) = true := by simp; omega
      have hxa : (x == a) = false := by simp; omega
      have hcmp : -1 ≤ cmpI (a - x) s ∧ cmpI (a - x) s ≤ 0 := by unfold cmpI; split <;> (try split) <;> omega
      obtain ⟨c, HC⟩ : ∃ c, Hid (cmpI (a - x) s = c) := ⟨_, rfl⟩
      rw [HC.out] at hcmp
      have hcd : decide (c ≤ 0) = true := by simp; omega
      clear ha hb hs f1 f2 f3 f4 f5
      go_enter Try.func8, Try.ntmps8
      go_wp2_with fail
      refine (R1.out _).mono ?_
      rintro e w0 ⟨rfl, rfl⟩
      go_wp2_with fail
      refine (R2.out _).mono ?_
      rintro e w1 ⟨rfl, k1⟩
      have K1 := hide k1; clear k1
      go_wp2_with fail
      refine (of_any a _ HA.out).mono ?_
      rintro e w2 ⟨v2, rfl, h2, k2⟩
      have H2 := hide h2; have K2 := hide k2; clear h2 k2
      go_wp2_with fail
      refine (of_any x _ F1.out).mono ?_
      rintro e w3 ⟨v3, rfl, h3, k3⟩
      have H3 := hide h3; have K3 := hide k3; clear h3 k3
      go_wp2_with fail
      refine (minus_any _ _ a x 3 3 4 _ (K2.out.below H3.out) K3.out (by omega) (by omega) (by omega)).mono ?_
      rintro e w4 ⟨v4, rfl, h4, k4⟩
      obtain ⟨s4, p4, l4, c4, rfl⟩ := whole_agg k4
      have H4 := hide h4; have K4 := hide k4; clear h4 k4
      go_wp2_with fail
      go_region_with (first
        | (go_at_call 20; refine (of_any s _ HS.out).mono ?_; rintro e w5 ⟨v5, rfl, h5, k5⟩; obtain ⟨hc5, hf5⟩ := kept_cells h5; obtain ⟨s5, p5, l5, c5, rfl⟩ := whole_agg k5; have H5 := hide (below_undrew h5); have K5 := hide k5; clear h5 k5)
        | (go_at_call 21; refine (cmp_any _ _ (a - x) s 4 3 _ ((K4.out.below (below_alloc _ _)).below H5.out) K5.out (by omega)).mono ?_; rintro e w6 ⟨rfl, h6⟩; rw [HC.out]; have H6 := hide h6; clear h6))
      all_goals
        go_wp2_with fail
        refine (awake_any _).mono ?_
        rintro e w7 ⟨rfl, n, rfl⟩
        go_wp2_with fail
        go_ret
        exact ⟨rfl, below_draw (below_step (below_step (below_step (below_step (below_step (below_step K1.out (Nat.le_refl _) H2.out) (Nat.le_refl _) H3.out) (Nat.le_refl _) H4.out) (Nat.le_refl _) (below_alloc _ _)) (Nat.le_refl _) H5.out) (Nat.le_refl _) H6.out) _⟩
    · have g2 := f5 g1
      subst g2
      subst g1
      have hcmp : -1 ≤ cmpI (x - x) s ∧ cmpI (x - x) s ≤ 0 := by unfold cmpI; split <;> (try split) <;> omega
      obtain ⟨c, HC⟩ : ∃ c, Hid (cmpI (x - x) s = c) := ⟨_, rfl⟩
      rw [HC.out] at hcmp
      have hcd : decide (c ≤ 0) = true := by simp; omega
      clear ha hb hs f1 f2 f3 f4 f5
      go_enter Try.func8, Try.ntmps8
      go_wp2_with fail
      refine (R1.out _).mono ?_
      rintro e w0 ⟨rfl, rfl⟩
      go_wp2_with fail
      refine (R2.out _).mono ?_
      rintro e w1 ⟨rfl, k1⟩
      have K1 := hide k1; clear k1
      go_wp2_with fail
      refine (of_any x _ HA.out).mono ?_
      rintro e w2 ⟨v2, rfl, h2, k2⟩
      have H2 := hide h2; have K2 := hide k2; clear h2 k2
      go_wp2_with fail
      refine (of_any x _ F1.out).mono ?_
      rintro e w3 ⟨v3, rfl, h3, k3⟩
      have H3 := hide h3; have K3 := hide k3; clear h3 k3
      go_wp2_with fail
      refine (minus_any _ _ x x 3 3 4 _ (K2.out.below H3.out) K3.out (by omega) (by omega) (by omega)).mono ?_
      rintro e w4 ⟨v4, rfl, h4, k4⟩
      obtain ⟨s4, p4, l4, c4, rfl⟩ := whole_agg k4
      have H4 := hide h4; have K4 := hide k4; clear h4 k4
      go_wp2_with fail
      go_region_with (first
        | (go_at_call 20; refine (of_any s _ HS.out).mono ?_; rintro e w5 ⟨v5, rfl, h5, k5⟩; obtain ⟨hc5, hf5⟩ := kept_cells h5; obtain ⟨s5, p5, l5, c5, rfl⟩ := whole_agg k5; have H5 := hide (below_undrew h5); have K5 := hide k5; clear h5 k5)
        | (go_at_call 21; refine (cmp_any _ _ (x - x) s 4 3 _ ((K4.out.below (below_alloc _ _)).below H5.out) K5.out (by omega)).mono ?_; rintro e w6 ⟨rfl, h6⟩; rw [HC.out]; have H6 := hide h6; clear h6))
      all_goals
        go_wp2_with fail
        refine (awake_any _).mono ?_
        rintro e w7 ⟨rfl, n, rfl⟩
        go_wp2_with fail
        go_ret
        exact ⟨rfl, below_draw (below_step (below_step (below_step (below_step (below_step (below_step K1.out (Nat.le_refl _) H2.out) (Nat.le_refl _) H3.out) (Nat.le_refl _) H4.out) (Nat.le_refl _) (below_alloc _ _)) (Nat.le_refl _) H5.out) (Nat.le_refl _) H6.out) _⟩
    · have g2 : x ≤ b := by omega
      have g3 : a < b := by omega
      have d1 : decide (a ≤ x) = true := by simp; omega
      have d2 : decide (x ≤ b) = true := by simp; omega
      have hxa : (x == a) = false := by simp; omega
      have hcmp : -1 ≤ cmpI (x - a) s ∧ cmpI (x - a) s ≤ 0 := by unfold cmpI; split <;> (try split) <;> omega
      obtain ⟨c, HC⟩ : ∃ c, Hid (cmpI (x - a) s = c) := ⟨_, rfl⟩
      rw [HC.out] at hcmp
      have hcd : decide (c ≤ 0) = true := by simp; omega
      clear ha hb hs f1 f2 f3 f4 f5
      go_enter Try.func8, Try.ntmps8
      go_wp2_with fail
      refine (R1.out _).mono ?_
      rintro e w0 ⟨rfl, rfl⟩
      go_wp2_with fail
      refine (R2.out _).mono ?_
      rintro e w1 ⟨rfl, k1⟩
      have K1 := hide k1; clear k1
      go_wp2_with fail
      refine (of_any x _ F1.out).mono ?_
      rintro e w2 ⟨v2, rfl, h2, k2⟩
      have H2 := hide h2; have K2 := hide k2; clear h2 k2
      go_wp2_with fail
      refine (of_any a _ HA.out).mono ?_
      rintro e w3 ⟨v3, rfl, h3, k3⟩
      have H3 := hide h3; have K3 := hide k3; clear h3 k3
      go_wp2_with fail
      refine (minus_any _ _ x a 3 3 4 _ (K2.out.below H3.out) K3.out (by omega) (by omega) (by omega)).mono ?_
      rintro e w4 ⟨v4, rfl, h4, k4⟩
      obtain ⟨s4, p4, l4, c4, rfl⟩ := whole_agg k4
      have H4 := hide h4; have K4 := hide k4; clear h4 k4
      go_wp2_with fail
      go_region_with (first
        | (go_at_call 20; refine (of_any s _ HS.out).mono ?_; rintro e w5 ⟨v5, rfl, h5, k5⟩; obtain ⟨hc5, hf5⟩ := kept_cells h5; obtain ⟨s5, p5, l5, c5, rfl⟩ := whole_agg k5; have H5 := hide (below_undrew h5); have K5 := hide k5; clear h5 k5)
        | (go_at_call 21; refine (cmp_any _ _ (x - a) s 4 3 _ ((K4.out.below (below_alloc _ _)).below H5.out) K5.out (by omega)).mono ?_; rintro e w6 ⟨rfl, h6⟩; rw [HC.out]; have H6 := hide h6; clear h6))
      all_goals
        go_wp2_with fail
        refine (awake_any _).mono ?_
        rintro e w7 ⟨rfl, n, rfl⟩
        go_wp2_with fail
        go_ret
        exact ⟨rfl, below_draw (below_step (below_step (below_step (below_step (below_step (below_step K1.out (Nat.le_refl _) H2.out) (Nat.le_refl _) H3.out) (Nat.le_refl _) H4.out) (Nat.le_refl _) (below_alloc _ _)) (Nat.le_refl _) H5.out) (Nat.le_refl _) H6.out) _⟩
end Go.Proofs.Ytpefkflllpamjaa
