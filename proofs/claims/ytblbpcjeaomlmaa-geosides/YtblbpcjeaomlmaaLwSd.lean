/- GeoSides. -/
import Derived.Test.YtblbpcjeaomlmaaGrG
namespace Go.Proofs.Ytblbpcjeaomlmaa
open Go.RowKit Go.Great

set_option maxHeartbeats 4000000 in
theorem sides_walk (l : List Pt) (v : Value) (p0 p1 : Int) (w : World) (hv : PtsIn w v l) : Calls Try.prog 6 #[v, .agg #[.int .i64 p0, .int .i64 p1]] w fun e w' => e = .returned (.bool true) ∧ Below w.heap.size w w' := by
  have AW := awake_any
  have LE := fun W' (hb : Below w.heap.size w W') => lent_any l v W' ⟨hv.1.below hb, hv.2⟩
  have hl : l.length ≤ 4611686018427387904 := by have := hv.2.2; omega
  have SP := fun (W : World) (g n cap : Nat) (h : Pts W (.slice (some ⟨g, 0, none⟩) n cap) (l ++ [mark])) => side_own l p0 p1 hl h
  have RS := fun W' (hb : Below w.heap.size w W') => rside_any l v p0 p1 W' (hv.1.below hb) hl
  have KE := fun W' (hb : Below w.heap.size w W') g cap h1 h2 => kept_any l v g cap W' (hv.1.below hb) h1 h2 hl
  obtain ⟨a, cap, rfl, hc⟩ := hv.1
  clear hv hc
  generalize sdI l (p0, p1) = S at *
  generalize sdE l (p0, p1) = E at *
  obtain ⟨m, hm⟩ : ∃ m, l.length = m := ⟨_, rfl⟩
  rw [hm] at LE SP RS KE ⊢
  clear hm hl
  go_enter Try.func6, Try.ntmps6
  go_wp2_with fail
  have B0 : Blk (w.alloc (.cells #[.int .i64 p0, .int .i64 p1] 23)) w.heap.size #[.int .i64 p0, .int .i64 p1] 23 := Blk.new _ _ _
  refine (LE _ (below_alloc _ _)).mono ?_
  rintro e w1 ⟨g1, c1, rfl, hP, hcap, hb1⟩
  replace B0 := B0.after hb1
  have hB := below_over hb1
  have k0 := B0.cell 0 rfl
  have k1 := B0.cell 1 rfl
  clear hb1 LE
  go_wp2_with fail
  refine (SP _ _ _ _ hP).mono ?_
  rintro e w2 ⟨rfl, hb2⟩
  replace B0 := B0.after hb2
  replace hP := hP.below hb2
  replace hB := below_next hB (Nat.le_refl _) hb2
  clear k0 k1 hb2 SP
  have k0 := B0.cell 0 rfl
  have k1 := B0.cell 1 rfl
  go_wp2_with fail
  refine (RS _ hB).mono ?_
  rintro e w3 ⟨rfl, hb3⟩
  replace hP := hP.below hb3
  replace hB := below_next hB (Nat.le_refl _) hb3
  clear k0 k1 hb3 RS B0
  go_wp2_with fail
  refine (AW _).mono ?_
  rintro e w4 ⟨rfl, hb4⟩
  replace hP := hP.below hb4
  replace hB := below_next hB (Nat.le_refl _) hb4
  clear hb4
  go_wp2_with fail
  refine (KE _ hB _ _ hP hcap).mono ?_
  rintro e w5 ⟨rfl, n, rfl⟩
  go_wp2_with fail
  go_ret
  exact ⟨by first | rfl | exact ret_bool (by simp), below_drewN hB _⟩
theorem GeoSides_walk (v : Value) (p0 p1 : Int) (w : World) (h : ∃ l, PtsIn w v l) : Calls Try.prog 6 #[v, .agg #[.int .i64 p0, .int .i64 p1]] w fun e w' => e = .returned (.bool true) ∧ Below w.heap.size w w' := by
  obtain ⟨l, hl⟩ := h
  exact sides_walk l v p0 p1 w hl
end Go.Proofs.Ytblbpcjeaomlmaa
