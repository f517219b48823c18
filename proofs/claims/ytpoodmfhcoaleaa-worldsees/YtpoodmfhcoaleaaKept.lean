/- What is kept of a whole number, and the reference's sums: the walks of kept, Add, Sub, Mul of the reference. -/
import Derived.Test.YtpoodmfhcoaleaaIntAny
namespace Go.Proofs.Ytpoodmfhcoaleaa
open Go.RowKit

set_option maxHeartbeats 1000000 in
theorem kept_any (va : Value) (a : Int) (L : Nat) (w : World) (ha : Whole w va a L) (hL : L ≤ 1000000) :
    Calls Try.prog 41 #[va] w fun e w' => e = .returned (.int .i64 (sat a)) ∧ Below w.heap.size w w' := by
  obtain ⟨s1, p1, l1, c1, rfl⟩ := whole_agg ha
  have hs : s1 = decide (a < 0) := by
    obtain ⟨sl, ds, hv, _⟩ := ha
    simp only [Value.agg.injEq, Array.mk.injEq, List.cons.injEq, Value.bool.injEq] at hv
    exact hv.1
  have ha2 := ha.below (below_allocC w (.cells #[.bool s1, .slice p1 l1 c1] 67))
  have z0 : (w.alloc (.cells #[.bool s1, .slice p1 l1 c1] 67)).cell? ⟨w.heap.size, 0, none⟩ = some (.bool s1) := by simp
  have hbz := below_allocC w (.cells #[.bool s1, .slice p1 l1 c1] 67)
  by_cases h : I64 a
  · have HI := hide (int_yes _ a L _ ha2 hL h)
    have HB := hide hbz
    have hsat : sat a = a := by unfold I64 at h; unfold sat; split <;> (try split) <;> omega
    rw [hsat]
    clear ha ha2 z0 hbz h hsat hs
    go_enter Try.func41, Try.ntmps41
    go_wp2_with (go_at_call 51; refine HI.out.mono ?_; rintro e w' ⟨rfl, hb⟩; have HB2 := hide hb; clear hb)
    go_ret
    exact ⟨rfl, HB.out.trans (HB2.out.mono (by simp))⟩
  · have HI := hide (int_no _ a L _ ha2 hL h)
    have HB := hide hbz
    have Z0 := hide z0
    have hsat : sat a = if s1 then -9223372036854775808 else 9223372036854775807 := by
      unfold I64 at h; unfold sat; rw [hs]; simp only [decide_eq_true_eq]; split <;> (try split) <;> (try split) <;> omega
    have HSat := hide hsat
    clear ha ha2 z0 hbz h hsat hs
    cases s1
    all_goals
      go_enter Try.func41, Try.ntmps41
      go_wp2_with (go_at_call 51; refine HI.out.mono ?_; rintro e w' ⟨rfl, hb⟩; have k0 := (hb.cell (p := ⟨w.heap.size, 0, none⟩) (by simp)).trans Z0.out; have HB2 := hide hb; clear hb)
      go_ret
      exact ⟨ret_int (by rw [HSat.out]; rfl), HB.out.trans (HB2.out.mono (by simp))⟩
set_option maxHeartbeats 1000000 in
theorem ref_add_any (a b : Int) (w : World) (ha : I64 a) (hb : I64 b) : Calls Try.prog 26 #[.int .i64 a, .int .i64 b] w fun e w' => e = .returned (.int .i64 (sat (a + b))) ∧ Below w.heap.size w w' := by
  have HA := hide ha
  have HB := hide hb
  clear ha hb
  go_enter Try.func26, Try.ntmps26
  go_wp2_with fail
  refine (of_any a _ HA.out).mono ?_
  rintro e w1 ⟨v1, rfl, h1, k1⟩
  go_wp2_with fail
  refine (of_any b _ HB.out).mono ?_
  rintro e w2 ⟨v2, rfl, h2, k2⟩
  go_wp2_with fail
  refine (plus_any _ _ a b 3 3 4 _ (k1.below h2) k2 (by omega) (by omega) (by omega)).mono ?_
  rintro e w3 ⟨v3, rfl, h3, k3⟩
  go_wp2_with fail
  refine (kept_any _ (a + b) 4 _ k3 (by omega)).mono ?_
  rintro e w4 ⟨rfl, h4⟩
  go_wp2_with fail
  go_ret
  exact ⟨rfl, below_step (below_step (below_step h1 (Nat.le_refl _) h2) (Nat.le_refl _) h3) (Nat.le_refl _) h4⟩
set_option maxHeartbeats 1000000 in
theorem ref_sub_any (a b : Int) (w : World) (ha : I64 a) (hb : I64 b) : Calls Try.prog 27 #[.int .i64 a, .int .i64 b] w fun e w' => e = .returned (.int .i64 (sat (a - b))) ∧ Below w.heap.size w w' := by
  have HA := hide ha
  have HB := hide hb
  clear ha hb
  go_enter Try.func27, Try.ntmps27
  go_wp2_with fail
  refine (of_any a _ HA.out).mono ?_
  rintro e w1 ⟨v1, rfl, h1, k1⟩
  go_wp2_with fail
  refine (of_any b _ HB.out).mono ?_
  rintro e w2 ⟨v2, rfl, h2, k2⟩
  go_wp2_with fail
  refine (minus_any _ _ a b 3 3 4 _ (k1.below h2) k2 (by omega) (by omega) (by omega)).mono ?_
  rintro e w3 ⟨v3, rfl, h3, k3⟩
  go_wp2_with fail
  refine (kept_any _ (a - b) 4 _ k3 (by omega)).mono ?_
  rintro e w4 ⟨rfl, h4⟩
  go_wp2_with fail
  go_ret
  exact ⟨rfl, below_step (below_step (below_step h1 (Nat.le_refl _) h2) (Nat.le_refl _) h3) (Nat.le_refl _) h4⟩
end Go.Proofs.Ytpoodmfhcoaleaa
