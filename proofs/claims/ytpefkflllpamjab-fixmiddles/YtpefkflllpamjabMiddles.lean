/- What FixMiddles answers: true, at every two numbers. -/
import Derived.Test.YtpefkflllpamjabAwake
import Derived.Test.YtpefkflllpamjabIntAny
namespace Go.Proofs.Ytpefkflllpamjab
open Go.RowKit

set_option maxHeartbeats 2000000 in
theorem FixMiddles_walk (a b : Int) (ha : I64 a) (hb : I64 b) (w : World) : Calls Try.prog 3 #[.int .i64 a, .int .i64 b] w fun e w' => e = .returned (.bool true) ∧ Below w.heap.size w w' := by
  have HA := hide ha
  have HB := hide hb
  have hm : I64 ((a + b) / 2) := by unfold I64 at *; omega
  have HM := hide hm
  obtain ⟨m, HE⟩ : ∃ m, Hid ((a + b) / 2 = m) := ⟨_, rfl⟩
  obtain ⟨x, HX⟩ : ∃ x, Hid (a + b - (m + m) = x) := ⟨_, rfl⟩
  have hx : Hid (I64 x) := by show I64 x; unfold I64; have := HX.out; have := HE.out; omega
  have hx01 := hide (show x = 0 ∨ x = 1 by have := HX.out; have := HE.out; omega)
  have hmm : (m == m) = true := by simp
  have HM2 := HM.out
  rw [HE.out] at HM2
  have HM3 := hide HM2
  have MM (w : World) := middle_any a b w HA.out HB.out
  have MN (w : World) := middle_any b a w HB.out HA.out
  rw [HE.out] at MM
  rw [Int.add_comm, HE.out] at MN
  have M1 := hide MM
  have M2 := hide MN
  clear ha hb hm HM HM2 MM MN
  go_enter Try.func3, Try.ntmps3
  go_wp2_with fail
  refine (M1.out _).mono ?_
  rintro e w0 ⟨rfl, rfl⟩
  go_wp2_with fail
  refine (of_any m _ HM3.out).mono ?_
  rintro e w1 ⟨v1, rfl, h1, k1⟩
  have H1 := hide h1; have K1 := hide k1; clear h1 k1
  go_wp2_with fail
  refine (of_any m _ HM3.out).mono ?_
  rintro e w2 ⟨v2, rfl, h2, k2⟩
  have H2 := hide h2; have K2 := hide k2; clear h2 k2
  go_wp2_with fail
  refine (plus_any _ _ m m 3 3 4 _ (K1.out.below H2.out) K2.out (by omega) (by omega) (by omega)).mono ?_
  rintro e w3 ⟨v3, rfl, h3, k3⟩
  obtain ⟨s3, p3, l3, c3, rfl⟩ := whole_agg k3
  have H3 := hide h3; have K3 := hide k3; clear h3 k3
  go_wp2_with fail
  refine (of_any a _ HA.out).mono ?_
  rintro e w4 ⟨v4, rfl, h4, k4⟩
  have t0 : w4.cell? ⟨w3.heap.size, 0, none⟩ = some (.bool s3) := (h4.cell (p := ⟨w3.heap.size, 0, none⟩) (by simp)).trans (by simp)
  have t1 : w4.cell? ⟨w3.heap.size, 1, none⟩ = some (.slice p3 l3 c3) := (h4.cell (p := ⟨w3.heap.size, 1, none⟩) (by simp)).trans (by simp)
  have z4 : w3.heap.size < w4.heap.size := by have := h4.size; simp at this; omega
  have H4 := hide h4; have K4 := hide k4; clear h4 k4
  go_wp2_with fail
  refine (of_any b _ HB.out).mono ?_
  rintro e w5 ⟨v5, rfl, h5, k5⟩
  replace t0 := (h5.cell (p := ⟨w3.heap.size, 0, none⟩) z4).trans t0
  replace t1 := (h5.cell (p := ⟨w3.heap.size, 1, none⟩) z4).trans t1
  have z5 : w3.heap.size < w5.heap.size := by have := h5.size; omega
  have H5 := hide h5; have K5 := hide k5; clear h5 k5
  go_wp2_with fail
  refine (plus_any _ _ a b 3 3 4 _ (K4.out.below H5.out) K5.out (by omega) (by omega) (by omega)).mono ?_
  rintro e w6 ⟨v6, rfl, h6, k6⟩
  obtain ⟨s6, p6, l6, c6, rfl⟩ := whole_agg k6
  replace t0 := (h6.cell (p := ⟨w3.heap.size, 0, none⟩) z5).trans t0
  replace t1 := (h6.cell (p := ⟨w3.heap.size, 1, none⟩) z5).trans t1
  have z6 : w3.heap.size < w6.heap.size := by have := h6.size; omega
  have H6 := hide h6; have K6 := hide k6; clear h6 k6 z4 z5
  go_wp2_with fail
  refine (minus_any _ _ (a + b) (m + m) 4 4 5 _ (K6.out.below (below_alloc _ _)) (((((K3.out.below (below_alloc _ _)).below H4.out).below H5.out).below H6.out).below (below_alloc _ _)) (by omega) (by omega) (by omega)).mono ?_
  rintro e w7 ⟨v7, rfl, h7, k7⟩
  obtain ⟨s7, p7, l7, c7, rfl⟩ := whole_agg k7
  rw [HX.out] at k7
  have H7 := hide h7; have K7 := hide k7; clear h7 k7 t0 t1 z6
  go_wp2_with fail
  refine (int_yes _ x 5 _ (K7.out.below (below_alloc _ _)) (by omega) hx.out).mono ?_
  rintro e w8 ⟨rfl, h8⟩
  have H8 := hide h8; clear h8
  have hB := below_step (below_step (below_step (below_step (below_step (below_step (below_step (below_step (below_step (below_step H1.out (Nat.le_refl _) H2.out) (Nat.le_refl _) H3.out) (Nat.le_refl _) (below_alloc _ _)) (Nat.le_refl _) H4.out) (Nat.le_refl _) H5.out) (Nat.le_refl _) H6.out) (Nat.le_refl _) (below_alloc _ _)) (Nat.le_refl _) H7.out) (Nat.le_refl _) (below_alloc _ _)) (Nat.le_refl _) H8.out
  have HBB := hide hB; clear hB
  rcases hx01.out with e | e
  all_goals
    subst e
    go_wp2_with fail
    refine (M2.out _).mono ?_
    rintro e w9 ⟨rfl, rfl⟩
    go_wp2_with fail
    refine (awake_any _).mono ?_
    rintro e w9 ⟨rfl, n, rfl⟩
    go_wp2_with fail
    go_ret
    exact ⟨rfl, below_draw HBB.out _⟩
end Go.Proofs.Ytpefkflllpamjab
