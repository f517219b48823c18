/- TrigBack: the angle of a direction that was made of an angle is that angle, but for one part: at every input. -/
import Derived.Test.YtcfoeknijgiboaaTrigL
namespace Go.Proofs.Ytcfoeknijgiboaa
open Go.RowKit

theorem tab_one : 0 < tab sN 1 := by decide
theorem tab_pos (k : Nat) (h : 1 ≤ k) (h' : k ≤ 16384) : 0 < tab sN k := by
  have e := tab_up sTab 1 (k - 1) (by omega)
  rw [show 1 + (k - 1) = k by omega] at e
  exact Nat.lt_of_lt_of_le tab_one e
theorem stp_scale (k s c : Nat) (hk : 0 < k) : stp (k * s) (k * c) = stp s c := by
  by_cases h : s ≤ c
  · rw [stp_flat s c h, stp_flat _ _ (Nat.mul_le_mul_left k h), Nat.mul_assoc, Nat.mul_div_mul_left _ _ hk]
  · rw [stp_steep s c (by omega), stp_steep _ _ (Nat.mul_lt_mul_of_pos_left (by omega) hk), Nat.mul_assoc, Nat.mul_div_mul_left _ _ hk]
theorem nonneg_scale (k s : Int) (hk : 0 < k) : 0 ≤ k * s ↔ 0 ≤ s := by
  refine ⟨fun h => ?_, fun h => Int.mul_nonneg (by omega) h⟩
  by_cases g : 0 ≤ s
  · exact g
  · have := Int.mul_lt_mul_of_pos_left (show s < 0 by omega) hk
    rw [Int.mul_zero] at this
    omega
theorem atan_scale (k s c : Int) (hk : 0 < k) : atanI (k * s) (k * c) = atanI s c := by
  have e : stp (k * s).natAbs (k * c).natAbs = stp s.natAbs c.natAbs := by
    rw [Int.natAbs_mul, Int.natAbs_mul, stp_scale _ _ _ (by omega)]
  have e1 : (0 ≤ k * s) = (0 ≤ s) := propext (nonneg_scale _ _ hk)
  have e2 : (0 ≤ k * c) = (0 ≤ c) := propext (nonneg_scale _ _ hk)
  have e3 : (k * c < 0) = (c < 0) := by
    have := nonneg_scale k c hk
    exact propext ⟨fun h => by omega, fun h => by omega⟩
  unfold atanI
  rw [e]
  simp only [e1, e2, e3]
theorem back_int (a : Int) : 0 ≤ atanI (sinI a) (cosI a) ∧ atanI (sinI a) (cosI a) < 65536 ∧ -1 ≤ wayI a (atanI (sinI a) (cosI a)) ∧ wayI a (atanI (sinI a) (cosI a)) ≤ 1 ∧ ¬ (sinI a = 0 ∧ cosI a = 0) := by
  obtain ⟨j, hj, hq⟩ := quad a
  have hb := back_tab j hj
  have hl := stp_le (tab sN j) (tab sN (16384 - j))
  have p1 : 1 ≤ j → 0 < tab sN j := fun h => tab_pos j h hj
  have p2 : j ≤ 16383 → 0 < tab sN (16384 - j) := fun h => tab_pos _ (by omega) (by omega)
  have p3 : j = 0 → tab sN j = 0 := fun h => by rw [h]; exact tab_zero
  have p4 : j = 16384 → tab sN (16384 - j) = 0 := fun h => by rw [h]; exact tab_zero
  have en : ∀ n : Nat, (-(n : Int)).natAbs = n := fun n => by omega
  have ep : ∀ n : Nat, ((n : Int)).natAbs = n := fun n => by omega
  rw [cos_sin]
  unfold wayI atanI
  rcases hq with h | h | h | h
  · rw [sin_q0 a j h hj, sin_q1 (a + 16384) (16384 - j) (by omega) (by omega), ep, ep]
    generalize stp (tab sN j) (tab sN (16384 - j)) = st at *
    generalize tab sN j = S at *
    generalize tab sN (16384 - j) = C at *
    rw [if_pos (by omega)]
    omega
  · rw [sin_q1 a j h hj, sin_q2 (a + 16384) (16384 - j) (by omega) (by omega), ep, en]
    generalize stp (tab sN j) (tab sN (16384 - j)) = st at *
    generalize tab sN j = S at *
    generalize tab sN (16384 - j) = C at *
    by_cases e : j = 16384
    · rw [if_pos (by omega)]; omega
    · rw [if_neg (by omega), if_pos (by omega)]; omega
  · rw [sin_q2 a j h hj, sin_q3 (a + 16384) (16384 - j) (by omega) (by omega), en, en]
    generalize stp (tab sN j) (tab sN (16384 - j)) = st at *
    generalize tab sN j = S at *
    generalize tab sN (16384 - j) = C at *
    by_cases e : j = 16384
    · rw [if_neg (by omega), if_neg (by omega), if_neg (by omega)]; omega
    · by_cases f : j = 0
      · rw [if_neg (by omega), if_pos (by omega)]; omega
      · rw [if_neg (by omega), if_neg (by omega), if_pos (by omega)]; omega
  · rw [sin_q3 a j h hj, sin_q0 (a + 16384) (16384 - j) (by omega) (by omega), en, ep]
    generalize stp (tab sN j) (tab sN (16384 - j)) = st at *
    generalize tab sN j = S at *
    generalize tab sN (16384 - j) = C at *
    by_cases f : j = 0
    · rw [if_pos (by omega)]; omega
    · rw [if_neg (by omega), if_neg (by omega), if_neg (by omega)]; omega
theorem mul_in (k s : Int) (h0 : 1 ≤ k) (h1 : k ≤ 1099511627776) (h2 : -16384 ≤ s ∧ s ≤ 16384) : -18014398509481984 ≤ k * s ∧ k * s ≤ 18014398509481984 := by
  have e : (k * s).natAbs = k.natAbs * s.natAbs := Int.natAbs_mul _ _
  have := Nat.mul_le_mul (show k.natAbs ≤ 1099511627776 by omega) (show s.natAbs ≤ 16384 by omega)
  generalize k * s = x at *
  omega
set_option maxHeartbeats 4000000 in
theorem TrigBack_walk (a k : Int) (_ : I64 a) (_ : I64 k) (w : World) : Calls Try.prog 10 #[.int .i64 a, .int .i64 k] w fun e w' => e = .returned (.bool true) ∧ Below w.heap.size w w' := by
  by_cases c1 : k < 1
  · have t1 : decide (k < 1) = true := by simpa using c1
    go_enter Try.func10, Try.ntmps10
    go_wp2_with fail
    refine (awake2_any _).mono ?_; rintro e w1 ⟨rfl, h1⟩
    have H1 := hide h1; clear h1
    go_wp2_with fail
    go_ret
    exact ⟨rfl, H1.out⟩
  have t1 : decide (k < 1) = false := by simpa using c1
  by_cases c2 : 1099511627776 < k
  · have t2 : decide (1099511627776 < k) = true := by simpa using c2
    go_enter Try.func10, Try.ntmps10
    go_wp2_with fail
    refine (awake2_any _).mono ?_; rintro e w1 ⟨rfl, h1⟩
    have H1 := hide h1; clear h1
    go_wp2_with fail
    go_ret
    exact ⟨rfl, H1.out⟩
  have t2 : decide (1099511627776 < k) = false := by simpa using c2
  have S0 := fun W => sin_any a W
  have C0 := fun W => cos_any a W
  have hs := sinI_in a
  have hc : -16384 ≤ cosI a ∧ cosI a ≤ 16384 := by rw [cos_sin]; exact sinI_in _
  have h := back_int a
  have ha := atan_scale k (sinI a) (cosI a) (by omega)
  have W0 := fun W => way_any a (atanI (sinI a) (cosI a)) W
  obtain ⟨s, HS⟩ : ∃ s, Hid (sinI a = s) := ⟨_, rfl⟩
  obtain ⟨c, HC⟩ : ∃ c, Hid (cosI a = c) := ⟨_, rfl⟩
  rw [HS.out] at S0 hs h ha W0
  rw [HC.out] at C0 hc h ha W0
  have q1 := mul_in k s (by omega) (by omega) hs
  have q2 := mul_in k c (by omega) (by omega) hc
  have hz : ¬ (k * s = 0 ∧ k * c = 0) := by
    intro z
    exact h.2.2.2.2 ⟨(Int.mul_eq_zero.1 z.1).resolve_left (by omega), (Int.mul_eq_zero.1 z.2).resolve_left (by omega)⟩
  have A0 := fun W => atan_any (k * s) (k * c) (by unfold I64; omega) (by unfold I64; omega) hz W
  rw [ha] at A0
  obtain ⟨x, hx⟩ : ∃ x, k * s = x := ⟨_, rfl⟩
  obtain ⟨y, hy⟩ : ∃ y, k * c = y := ⟨_, rfl⟩
  obtain ⟨b, HB⟩ : ∃ b, Hid (atanI s c = b) := ⟨_, rfl⟩
  rw [HB.out] at A0 W0 h
  obtain ⟨v, HV⟩ : ∃ v, Hid (wayI a b = v) := ⟨_, rfl⟩
  rw [HV.out] at W0 h
  rw [hx] at q1 A0
  rw [hy] at q2 A0
  have S0 := hide S0
  have C0 := hide C0
  have A0 := hide A0
  have W0 := hide W0
  have r1 : decide (16384 < s) = false := by simp; omega
  have r2 : decide (s < -16384) = false := by simp; omega
  have r3 : decide (16384 < c) = false := by simp; omega
  have r4 : decide (c < -16384) = false := by simp; omega
  have t3 : decide (0 ≤ b) = true := by simpa using h.1
  have t4 : decide (b < 65536) = true := by simpa using h.2.1
  have t5 : decide (-1 ≤ v) = true := by simpa using h.2.2.1
  have t6 : decide (v ≤ 1) = true := by simpa using h.2.2.2.1
  clear HS HC hs hc ha hz HB HV h
  go_enter Try.func10, Try.ntmps10
  go_wp2_with fail
  refine (S0.out _).mono ?_; rintro e w1 ⟨rfl, h1⟩
  have H1 := hide h1; clear h1
  go_wp2_with fail
  refine (C0.out _).mono ?_; rintro e w2 ⟨rfl, h2⟩
  have H2 := hide h2; clear h2
  go_wp2_with fail
  refine (A0.out _).mono ?_; rintro e w3 ⟨rfl, h3⟩
  have H3 := hide h3; clear h3
  go_wp2_with fail
  refine (W0.out _).mono ?_; rintro e wq ⟨rfl, rfl⟩
  go_wp2_with fail
  refine (awake2_any _).mono ?_; rintro e w4 ⟨rfl, h4⟩
  have H4 := hide h4; clear h4
  go_wp2_with fail
  go_ret
  exact ⟨rfl, (below_next (below_next (below_next H1.out (Nat.le_refl _) H2.out) (Nat.le_refl _) H3.out) (Nat.le_refl _) H4.out)⟩
end Go.Proofs.Ytcfoeknijgiboaa
