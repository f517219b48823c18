/- What GuardAdds answers: true, at every velocity and braking. -/
import Derived.Test.YtjinfjibodoflaaGu5
namespace Go.Proofs.Ytjinfjibodoflaa
open Go.RowKit Go.Great

/-- what is left in the ticks 1 to i, added up -/
def sm (v b : Int) : Nat → Int
  | 0 => 0
  | i + 1 => sm v b i + (v - b * ((i : Int) + 1))
theorem sm_two (v b : Int) (i : Nat) : 2 * sm v b i = (i : Int) * (2 * v - b * ((i : Int) + 1)) := by
  induction i with
  | zero => simp [sm]
  | succ i ih => simp only [sm, Int.natCast_add, Int.cast_ofNat_Int]; grind
theorem sm_in (v b : Int) (hb : 1 ≤ b) (_ : 1 ≤ v) : ∀ i : Nat, b * (i : Int) ≤ v → 0 ≤ sm v b i ∧ sm v b i ≤ (i : Int) * v := by
  intro i
  induction i with
  | zero => intro _; simp [sm]
  | succ i ih =>
    intro h
    have e : b * ((i : Int) + 1) = b * (i : Int) + b := by rw [Int.mul_add, Int.mul_one]
    have e2 : ((i + 1 : Nat) : Int) * v = (i : Int) * v + v := by rw [Int.natCast_add, Int.add_mul]; simp
    rw [Int.natCast_add, Int.cast_ofNat_Int, e] at h
    have := ih (by omega)
    have p : 0 ≤ b * (i : Int) := Int.mul_nonneg (by omega) (by omega)
    simp only [sm]
    rw [e, e2]
    omega
theorem stp_sm (v b : Int) (hb : 1 ≤ b) (hv : 1 ≤ v) (i : Nat) (hi : (i : Int) = v / b) : stp v b = sat (sm v b i) := by
  unfold stp
  rw [if_neg (by omega)]
  have e := Int.mul_ediv_add_emod v b
  rw [← hi] at e ⊢
  have t := sm_two v b i
  have : (i : Int) * (v - b + v % b) = 2 * sm v b i := by
    rw [t]
    have e3 : v % b = v - b * (i : Int) := by omega
    rw [e3]
    have : b * ((i : Int) + 1) = b * (i : Int) + b := by rw [Int.mul_add, Int.mul_one]
    rw [this]
    congr 1
    omega
  rw [this]
  congr 1
  omega
theorem div_of (v b : Int) (hb : 1 ≤ b) (i : Int) (h1 : b * i ≤ v) (h2 : v < b * i + b) : v / b = i := by
  have e := Int.mul_ediv_add_emod v b
  have m0 := Int.emod_nonneg v (show b ≠ 0 by omega)
  have m1 := Int.emod_lt_of_pos v (show 0 < b by omega)
  have l1 : i ≤ v / b := (Int.le_ediv_iff_mul_le (by omega)).2 (by rw [Int.mul_comm]; exact h1)
  have l2 : v / b < i + 1 := (Int.ediv_lt_iff_lt_mul (by omega)).2 (by rw [Int.add_mul, Int.one_mul, Int.mul_comm]; exact h2)
  omega
theorem sm_end (v b : Int) (hb : 1 ≤ b) (hv : 1 ≤ v) (i : Nat) (h1 : b * (i : Int) < v) (h2 : v - b * ((i : Int) + 1) ≤ 0) : stp v b = sat (sm v b i) := by
  have e : b * ((i : Int) + 1) = b * (i : Int) + b := by rw [Int.mul_add, Int.mul_one]
  by_cases h : v < b * (i : Int) + b
  · exact stp_sm v b hb hv i (div_of v b hb i (by omega) h).symm
  · have hz : v = b * (i : Int) + b := by omega
    have hd : v / b = ((i + 1 : Nat) : Int) := div_of v b hb _ (by rw [Int.natCast_add, Int.cast_ofNat_Int, e]; omega) (by rw [Int.natCast_add, Int.cast_ofNat_Int, e]; omega)
    rw [stp_sm v b hb hv (i + 1) hd.symm]
    simp only [sm]
    rw [e, hz]
    congr 1
    omega
theorem sat_in {x : Int} (h0 : -9223372036854775808 ≤ x) (h1 : x ≤ 9223372036854775807) : sat x = x := by
  unfold sat
  rw [if_neg (by omega), if_neg (by omega)]
theorem sm_bound (v b : Int) (hb : 1 ≤ b) (hv : 1 ≤ v) (hq : v / b ≤ 1048576) (ht : v ≤ 1099511627776) (i : Nat) (h1 : b * (i : Int) < v) : 0 ≤ sm v b i ∧ sm v b i ≤ 1152921504606846976 := by
  have h := sm_in v b hb hv i (by omega)
  have l1 : (i : Int) ≤ v / b := (Int.le_ediv_iff_mul_le (by omega)).2 (by rw [Int.mul_comm]; omega)
  have l2 : (i : Int) * v ≤ 1048576 * v := Int.mul_le_mul_of_nonneg_right (by omega) (by omega)
  omega
set_option maxHeartbeats 1000000 in
theorem GuardAdds_walk (v b : Int) (hv : I64 v) (hb : I64 b) (w : World) : Calls Try.prog 4 #[.int .i64 v, .int .i64 b] w fun e w' => e = .returned (.bool true) ∧ Below w.heap.size w w' := by
  have AW := hide awakeU
  have SP := hide (fun W => stop_any v b W hv hb)
  unfold I64 at hv hb
  by_cases h1 : v < 1
  · go_enter Try.func4, Try.ntmps4
    go_wp2_with (first | (go_at_call 12; refine (AW.out _).mono ?_; rintro e w4 ⟨rfl, b4⟩))
    go_ret
    exact ⟨rfl, b4⟩
  by_cases h2 : b < 1
  · go_enter Try.func4, Try.ntmps4
    go_wp2_with (first | (go_at_call 12; refine (AW.out _).mono ?_; rintro e w4 ⟨rfl, b4⟩))
    go_ret
    exact ⟨rfl, b4⟩
  have hq : v.tdiv b = v / b := Int.tdiv_eq_ediv_of_nonneg (by omega)
  have q0 : 0 ≤ v / b := Int.ediv_nonneg (by omega) (by omega)
  have q1 : v / b ≤ v := Int.ediv_le_self b (by omega)
  have EN := hide (sm_end v b (by omega) (by omega))
  have BO := hide (sm_bound v b (by omega) (by omega))
  obtain ⟨q, eq⟩ : ∃ q, Hid (v / b = q) := ⟨_, hide rfl⟩
  rw [eq.out] at hq q0 q1 BO
  by_cases h3 : 1048576 < q
  · go_enter Try.func4, Try.ntmps4
    go_wp2_with (first | (go_at_call 12; refine (AW.out _).mono ?_; rintro e w4 ⟨rfl, b4⟩))
    go_ret
    exact ⟨rfl, b4⟩
  by_cases h4 : 1099511627776 < v
  · go_enter Try.func4, Try.ntmps4
    go_wp2_with (first | (go_at_call 12; refine (AW.out _).mono ?_; rintro e w4 ⟨rfl, b4⟩))
    go_ret
    exact ⟨rfl, b4⟩
  replace BO := hide (BO.out (by omega) (by omega))
  go_enter Try.func4, Try.ntmps4
  go_wp2_with fail
  clear hq q0 q1 eq h3
  go_loop [5, 6] (fun sv lv => ∃ (i : Nat) (s l : Int), sv = .int .i64 s ∧ lv = .int .i64 l ∧ Hid (s = sm v b i) ∧ Hid (l = v - b * ((i : Int) + 1)) ∧ Hid (b * (i : Int) < v) ∧ 0 ≤ s ∧ s ≤ 1152921504606846976 ∧ l ≤ v ∧ -b < l) (fun _ lv => (intOf lv).toNat)
  case atStart => exact ⟨0, 0, v - b, rfl, rfl, hide rfl, hide (by simp), hide (by simp; omega), by omega, by omega, by omega, by omega⟩
  case round =>
    obtain ⟨i, s, l, rfl, rfl, HS, HL, HI, s0, s1, l0, l1⟩ := hrel
    by_cases hl : 0 < l
    · have e : b * ((i : Int) + 1) = b * (i : Int) + b := by rw [Int.mul_add, Int.mul_one]
      have e2 : b * (((i + 1 : Nat) : Int) + 1) = b * (i : Int) + b + b := by rw [Int.natCast_add, Int.cast_ofNat_Int, Int.mul_add, Int.mul_one, e]
      have H1 : Hid (b * ((i + 1 : Nat) : Int) < v) := hide (by have h := HL.out; rw [Int.natCast_add, Int.cast_ofNat_Int]; omega)
      have B := BO.out (i + 1) H1.out
      have HS2 : Hid (s + l = sm v b (i + 1)) := hide (by simp only [sm]; rw [← HS.out, ← HL.out])
      rw [← HS2.out] at B
      have HL2 : Hid (l - b = v - b * (((i + 1 : Nat) : Int) + 1)) := hide (by have h := HL.out; omega)
      clear e e2 HS HL HI
      go_wp2_with fail
      go_round
      case rel => exact ⟨i + 1, s + l, l - b, rfl, rfl, HS2, HL2, H1, by omega, by omega, by omega, by omega⟩
      case measure => simp [intOf]; omega
    · have e := EN.out i HI.out (by have h := HL.out; omega)
      rw [← HS.out, sat_in (by omega) (by omega)] at e
      rw [e] at SP
      clear e EN BO HS HL HI l0 l1 s0 s1
      have es : (s == s) = true := by simp
      go_wp2_with fail
      refine (SP.out _).mono ?_
      rintro e w1 ⟨rfl, n, hw⟩
      have HB : Hid (Below w.heap.size w w1) := by rw [hw]; exact hide (below_drewN (Below.refl _ _) n)
      clear hw
      go_wp2_with (first | (go_at_call 12; refine (AW.out _).mono ?_; rintro e w4 ⟨rfl, b4⟩))
      go_ret
      exact ⟨rfl, below_next HB.out (Nat.le_refl _) b4⟩
end Go.Proofs.Ytjinfjibodoflaa
