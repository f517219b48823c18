/- What FixRounds answers: true, at every two numbers. -/
import Derived.Test.YtpefkflllpamjaaAwake
import Derived.Test.YtpefkflllpamjaaTimesAny
import Derived.Test.YtpefkflllpamjaaIntAny
namespace Go.Proofs.Ytpefkflllpamjaa
open Go.RowKit

theorem down_facts (a b : Int) (ha : I64 a) (h : 1 ≤ b) : I64 (a / b) ∧ I64 (-((-a) / b)) ∧ a / b * b ≤ a ∧ a ≤ -((-a) / b) * b := by
  unfold I64 at *
  have h1 := ediv_in a b h
  have h2 := ediv_in (-a) b h
  have h3 := Int.mul_ediv_add_emod a b
  have h4 := Int.emod_nonneg a (by omega : b ≠ 0)
  have h5 := Int.mul_ediv_add_emod (-a) b
  have h6 := Int.emod_nonneg (-a) (by omega : b ≠ 0)
  rw [Int.mul_comm (a / b), Int.mul_comm (-(-a / b)), Int.mul_neg]
  omega
theorem whole_facts (a b : Int) (h : 1 ≤ b) : (a.tmod b = 0 → -((-a) / b) = a / b) ∧ (a.tmod b ≠ 0 → -((-a) / b) = a / b + 1) := by
  have f := fl a b h
  have c := ce a b h
  refine ⟨fun g => ?_, fun g => ?_⟩
  · rw [← f.2 (by omega), ← c.2 (by omega)]
  · by_cases k : a.tmod b < 0
    · rw [← f.1 k, ← c.2 (by omega)]; omega
    · rw [← f.2 (by omega), ← c.1 (by omega)]
set_option maxHeartbeats 4000000 in
theorem FixRounds_walk (a b : Int) (ha : I64 a) (hb : I64 b) (w : World) : Calls Try.prog 7 #[.int .i64 a, .int .i64 b] w fun e w' => e = .returned (.bool true) ∧ Below w.heap.size w w' := by
  have HA := hide ha
  have HB := hide hb
  by_cases h : b < 1
  · clear ha hb
    go_enter Try.func7, Try.ntmps7
    go_wp2_with (first
      | (go_at_call 25; refine (down_no _ _ _ h).mono ?_; rintro e w' ⟨rfl, rfl⟩)
      | (go_at_call 26; refine (up_no _ _ _ h).mono ?_; rintro e w' ⟨rfl, rfl⟩)
      | (go_at_call 15; refine (awake_any _).mono ?_; rintro e w' ⟨rfl, n, rfl⟩))
    go_ret
    exact ⟨rfl, below_draw (Below.refl _ _) _⟩
  · obtain ⟨f1, f2, f3, f4⟩ := down_facts a b ha (by omega)
    have fw := whole_facts a b (by omega)
    have D1 := hide (fun (W : World) => down_any a b W ha (by omega))
    have U1 := hide (fun (W : World) => up_any a b W ha (by omega))
    obtain ⟨d, HD⟩ : ∃ d, Hid (a / b = d) := ⟨_, rfl⟩
    obtain ⟨u, HU⟩ : ∃ d, Hid (-((-a) / b) = d) := ⟨_, rfl⟩
    rw [HD.out] at D1 f1 f3 fw
    rw [HU.out] at U1 f2 f4 fw
    have c1 : cmpI (d * b) a ≤ 0 := by unfold cmpI; split <;> (try split) <;> omega
    have c2 : 0 ≤ cmpI (u * b) a := by unfold cmpI; split <;> (try split) <;> omega
    obtain ⟨x, HX⟩ : ∃ z, Hid (cmpI (d * b) a = z) := ⟨_, rfl⟩
    obtain ⟨y, HY⟩ : ∃ z, Hid (cmpI (u * b) a = z) := ⟨_, rfl⟩
    rw [HX.out] at c1
    rw [HY.out] at c2
    have x1 : decide (x ≤ 0) = true := by simpa using c1
    have y1 : decide (0 ≤ y) = true := by simpa using c2
    have Fd := hide f1
    have Fu := hide f2
    have hb1 : 1 ≤ b := by omega
    have hdb : -9223372036854775808 ≤ d ∧ d ≤ 9223372036854775807 := f1
    have hub : -9223372036854775808 ≤ u ∧ u ≤ 9223372036854775807 := f2
    have ha1 : -9223372036854775808 ≤ a ∧ a ≤ 9223372036854775807 := ha
    clear ha hb f1 f2 f3 f4 c1 c2 h
    cases hw : (a.tmod b == 0)
    · have e1 := fw.2 (by simpa using hw)
      have hd2 : d ≤ 9223372036854775806 := by omega
      have e2 : (u == d + 1) = true := by rw [beq_iff_eq]; exact e1
      clear fw e1 hub
      go_enter Try.func7, Try.ntmps7
      go_wp2_with fail
      refine (D1.out _).mono ?_
      rintro e w' ⟨rfl, rfl⟩
      go_wp2_with fail
      refine (U1.out _).mono ?_
      rintro e w' ⟨rfl, rfl⟩
      go_wp2_with fail
      refine (of_any d _ Fd.out).mono ?_
      rintro e w1 ⟨v1, rfl, h1, k1⟩
      have H1 := hide h1; have K1 := hide k1; clear h1 k1
      go_wp2_with fail
      refine (of_any b _ HB.out).mono ?_
      rintro e w2 ⟨v2, rfl, h2, k2⟩
      have H2 := hide h2; have K2 := hide k2; clear h2 k2
      go_wp2_with fail
      refine (times_any _ _ d b 3 3 6 _ (K1.out.below H2.out) K2.out (by omega) (by omega) (by omega)).mono ?_
      rintro e w3 ⟨v3, rfl, h3, k3⟩
      have H3 := hide h3; have K3 := hide k3; clear h3 k3
      go_wp2_with fail
      refine (of_any a _ HA.out).mono ?_
      rintro e w4 ⟨v4, rfl, h4, k4⟩
      have H4 := hide h4; have K4 := hide k4; clear h4 k4
      go_wp2_with fail
      refine (cmp_any _ _ (d * b) a 6 3 _ (K3.out.below H4.out) K4.out (by omega)).mono ?_
      rintro e w5 ⟨rfl, h5⟩
      rw [HX.out]
      have H5 := hide h5; clear h5
      go_wp2_with fail
      refine (of_any u _ Fu.out).mono ?_
      rintro e w6 ⟨v6, rfl, h6, k6⟩
      have H6 := hide h6; have K6 := hide k6; clear h6 k6
      go_wp2_with fail
      refine (of_any b _ HB.out).mono ?_
      rintro e w7 ⟨v7, rfl, h7, k7⟩
      have H7 := hide h7; have K7 := hide k7; clear h7 k7
      go_wp2_with fail
      refine (times_any _ _ u b 3 3 6 _ (K6.out.below H7.out) K7.out (by omega) (by omega) (by omega)).mono ?_
      rintro e w8 ⟨v8, rfl, h8, k8⟩
      have H8 := hide h8; have K8 := hide k8; clear h8 k8
      go_wp2_with fail
      refine (of_any a _ HA.out).mono ?_
      rintro e w9 ⟨v9, rfl, h9, k9⟩
      have H9 := hide h9; have K9 := hide k9; clear h9 k9
      go_wp2_with fail
      refine (cmp_any _ _ (u * b) a 6 3 _ (K8.out.below H9.out) K9.out (by omega)).mono ?_
      rintro e w10 ⟨rfl, h10⟩
      rw [HY.out]
      have H10 := hide h10; clear h10
      go_wp2_with fail
      refine (awake_any _).mono ?_
      rintro e wz ⟨rfl, n, rfl⟩
      go_wp2_with fail
      go_ret
      exact ⟨rfl, below_draw (below_step (below_step (below_step (below_step (below_step (below_step (below_step (below_step (below_step (H1.out) (Nat.le_refl _) H2.out) (Nat.le_refl _) H3.out) (Nat.le_refl _) H4.out) (Nat.le_refl _) H5.out) (Nat.le_refl _) H6.out) (Nat.le_refl _) H7.out) (Nat.le_refl _) H8.out) (Nat.le_refl _) H9.out) (Nat.le_refl _) H10.out) _⟩
    · have e1 := fw.1 (by simpa using hw)
      have e2 : (u == d) = true := by rw [beq_iff_eq]; exact e1
      clear fw e1 hub
      go_enter Try.func7, Try.ntmps7
      go_wp2_with fail
      refine (D1.out _).mono ?_
      rintro e w' ⟨rfl, rfl⟩
      go_wp2_with fail
      refine (U1.out _).mono ?_
      rintro e w' ⟨rfl, rfl⟩
      go_wp2_with fail
      refine (of_any d _ Fd.out).mono ?_
      rintro e w1 ⟨v1, rfl, h1, k1⟩
      have H1 := hide h1; have K1 := hide k1; clear h1 k1
      go_wp2_with fail
      refine (of_any b _ HB.out).mono ?_
      rintro e w2 ⟨v2, rfl, h2, k2⟩
      have H2 := hide h2; have K2 := hide k2; clear h2 k2
      go_wp2_with fail
      refine (times_any _ _ d b 3 3 6 _ (K1.out.below H2.out) K2.out (by omega) (by omega) (by omega)).mono ?_
      rintro e w3 ⟨v3, rfl, h3, k3⟩
      have H3 := hide h3; have K3 := hide k3; clear h3 k3
      go_wp2_with fail
      refine (of_any a _ HA.out).mono ?_
      rintro e w4 ⟨v4, rfl, h4, k4⟩
      have H4 := hide h4; have K4 := hide k4; clear h4 k4
      go_wp2_with fail
      refine (cmp_any _ _ (d * b) a 6 3 _ (K3.out.below H4.out) K4.out (by omega)).mono ?_
      rintro e w5 ⟨rfl, h5⟩
      rw [HX.out]
      have H5 := hide h5; clear h5
      go_wp2_with fail
      refine (of_any u _ Fu.out).mono ?_
      rintro e w6 ⟨v6, rfl, h6, k6⟩
      have H6 := hide h6; have K6 := hide k6; clear h6 k6
      go_wp2_with fail
      refine (of_any b _ HB.out).mono ?_
      rintro e w7 ⟨v7, rfl, h7, k7⟩
      have H7 := hide h7; have K7 := hide k7; clear h7 k7
      go_wp2_with fail
      refine (times_any _ _ u b 3 3 6 _ (K6.out.below H7.out) K7.out (by omega) (by omega) (by omega)).mono ?_
      rintro e w8 ⟨v8, rfl, h8, k8⟩
      have H8 := hide h8; have K8 := hide k8; clear h8 k8
      go_wp2_with fail
      refine (of_any a _ HA.out).mono ?_
      rintro e w9 ⟨v9, rfl, h9, k9⟩
      have H9 := hide h9; have K9 := hide k9; clear h9 k9
      go_wp2_with fail
      refine (cmp_any _ _ (u * b) a 6 3 _ (K8.out.below H9.out) K9.out (by omega)).mono ?_
      rintro e w10 ⟨rfl, h10⟩
      rw [HY.out]
      have H10 := hide h10; clear h10
      go_wp2_with fail
      refine (awake_any _).mono ?_
      rintro e wz ⟨rfl, n, rfl⟩
      go_wp2_with fail
      go_ret
      exact ⟨rfl, below_draw (below_step (below_step (below_step (below_step (below_step (below_step (below_step (below_step (below_step (H1.out) (Nat.le_refl _) H2.out) (Nat.le_refl _) H3.out) (Nat.le_refl _) H4.out) (Nat.le_refl _) H5.out) (Nat.le_refl _) H6.out) (Nat.le_refl _) H7.out) (Nat.le_refl _) H8.out) (Nat.le_refl _) H9.out) (Nat.le_refl _) H10.out) _⟩
end Go.Proofs.Ytpefkflllpamjaa
