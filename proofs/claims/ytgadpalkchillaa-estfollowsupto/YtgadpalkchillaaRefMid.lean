/- The reference's middle of two ints: the walks of Floor and Middle of windhoverref01. -/
import Derived.Test.YtgadpalkchillaaIntAny
namespace Go.Proofs.Ytgadpalkchillaa
open Go.RowKit

set_option maxHeartbeats 1000000 in
theorem ref_half (a : Int) (w : World) (ha : I64 a) : Calls Try.prog 50 #[.int .i64 a, .int .i64 2] w fun e w' => e = .returned (.int .i64 (a / 2)) ∧ w' = w := by
  unfold I64 at ha
  have f := fl a 2 (by omega)
  by_cases g : a.tmod 2 < 0
  · have e := f.1 g
    have hd : -9223372036854775807 ≤ a.tdiv 2 ∧ a.tdiv 2 ≤ 9223372036854775807 := by omega
    have E := hide e
    clear f e
    go_enter Try.func50, Try.ntmps50
    go_wp2
    go_ret
    exact ⟨ret_int E.out, rfl⟩
  · have e := f.2 (by omega)
    have E := hide e
    clear f e
    go_enter Try.func50, Try.ntmps50
    go_wp2
    go_ret
    exact ⟨ret_int E.out, rfl⟩
theorem half_sum (a b : Int) : a.tdiv 2 + b.tdiv 2 + (a.tmod 2 + b.tmod 2) / 2 = (a + b) / 2 := by
  have h1 := Int.mul_tdiv_add_tmod a 2
  have h2 := Int.mul_tdiv_add_tmod b 2
  omega
theorem tmod_two (a : Int) : -1 ≤ a.tmod 2 ∧ a.tmod 2 ≤ 1 := by
  have h1 := Int.tmod_lt_of_pos a (show (0 : Int) < 2 by omega)
  have h2 := Int.tmod_lt_of_pos (-a) (show (0 : Int) < 2 by omega)
  rw [Int.neg_tmod] at h2
  omega
theorem tdiv_two (a : Int) (h : I64 a) : -4611686018427387904 ≤ a.tdiv 2 ∧ a.tdiv 2 ≤ 4611686018427387903 := by
  unfold I64 at h
  by_cases g : 0 ≤ a
  · rw [Int.tdiv_eq_ediv_of_nonneg g]; omega
  · have e := Int.neg_tdiv (a := a) (b := 2)
    rw [Int.tdiv_eq_ediv_of_nonneg (show 0 ≤ -a by omega)] at e
    omega
set_option maxHeartbeats 2000000 in
theorem ref_middle_any (a b : Int) (w : World) (ha : I64 a) (hb : I64 b) : Calls Try.prog 36 #[.int .i64 a, .int .i64 b] w fun e w' => e = .returned (.int .i64 ((a + b) / 2)) ∧ Below w.heap.size w w' := by
  have HA := hide ha
  have HB := hide hb
  have t1 := tdiv_two a ha
  have t2 := tdiv_two b hb
  have t3 := tmod_two a
  have t4 := tmod_two b
  have HS := hide (half_sum a b)
  by_cases h : I64 (a + b)
  · have HI := hide h
    clear ha hb h t1 t2 t3 t4
    go_enter Try.func36, Try.ntmps36
    go_wp2_with fail
    refine (of_any a _ HA.out).mono ?_
    rintro e w1 ⟨v1, rfl, h1, k1⟩
    have H1 := hide h1; have K1 := hide k1; clear h1 k1
    go_wp2_with fail
    refine (of_any b _ HB.out).mono ?_
    rintro e w2 ⟨v2, rfl, h2, k2⟩
    have H2 := hide h2; have K2 := hide k2; clear h2 k2
    go_wp2_with fail
    refine (plus_any _ _ a b 3 3 4 _ (K1.out.below H2.out) K2.out (by omega) (by omega) (by omega)).mono ?_
    rintro e w3 ⟨v3, rfl, h3, k3⟩
    obtain ⟨s3, p3, l3, c3, rfl⟩ := whole_agg k3
    have H3 := hide h3; have K3 := hide k3; clear h3 k3
    go_wp2_with fail
    refine (int_yes _ (a + b) 4 _ (K3.out.below (below_allocC _ _)) (by omega) HI.out).mono ?_
    rintro e w4 ⟨rfl, h4⟩
    have H4 := hide h4; clear h4
    go_wp2_with fail
    refine (ref_half (a + b) _ HI.out).mono ?_
    rintro e w5 ⟨rfl, rfl⟩
    go_wp2_with fail
    go_ret
    exact ⟨rfl, below_step (below_step (below_step (below_step H1.out (Nat.le_refl _) H2.out) (Nat.le_refl _) H3.out) (Nat.le_refl _) (below_allocC _ _)) (Nat.le_refl _) H4.out⟩
  · have HI := hide h
    have HM : Hid (I64 (a.tmod 2 + b.tmod 2)) := by show I64 _; unfold I64; omega
    have t5 : -1 ≤ (a.tmod 2 + b.tmod 2) / 2 ∧ (a.tmod 2 + b.tmod 2) / 2 ≤ 1 := by omega
    have t6 : -9223372036854775808 ≤ a.tdiv 2 + b.tdiv 2 + (a.tmod 2 + b.tmod 2) / 2 ∧ a.tdiv 2 + b.tdiv 2 + (a.tmod 2 + b.tmod 2) / 2 ≤ 9223372036854775807 := by
      have := HS.out; unfold I64 at ha hb; omega
    have t7 : -9223372036854775808 ≤ a.tdiv 2 + b.tdiv 2 ∧ a.tdiv 2 + b.tdiv 2 ≤ 9223372036854775807 := by omega
    clear ha hb h
    go_enter Try.func36, Try.ntmps36
    go_wp2_with fail
    refine (of_any a _ HA.out).mono ?_
    rintro e w1 ⟨v1, rfl, h1, k1⟩
    have H1 := hide h1; have K1 := hide k1; clear h1 k1
    go_wp2_with fail
    refine (of_any b _ HB.out).mono ?_
    rintro e w2 ⟨v2, rfl, h2, k2⟩
    have H2 := hide h2; have K2 := hide k2; clear h2 k2
    go_wp2_with fail
    refine (plus_any _ _ a b 3 3 4 _ (K1.out.below H2.out) K2.out (by omega) (by omega) (by omega)).mono ?_
    rintro e w3 ⟨v3, rfl, h3, k3⟩
    obtain ⟨s3, p3, l3, c3, rfl⟩ := whole_agg k3
    have H3 := hide h3; have K3 := hide k3; clear h3 k3
    go_wp2_with fail
    refine (int_no _ (a + b) 4 _ (K3.out.below (below_allocC _ _)) (by omega) HI.out).mono ?_
    rintro e w4 ⟨rfl, h4⟩
    have H4 := hide h4; clear h4
    go_wp2_with fail
    refine (ref_half (a.tmod 2 + b.tmod 2) _ HM.out).mono ?_
    rintro e w5 ⟨rfl, rfl⟩
    go_wp2_with fail
    go_ret
    exact ⟨ret_int HS.out, below_step (below_step (below_step (below_step H1.out (Nat.le_refl _) H2.out) (Nat.le_refl _) H3.out) (Nat.le_refl _) (below_allocC _ _)) (Nat.le_refl _) H4.out⟩
end Go.Proofs.Ytgadpalkchillaa
