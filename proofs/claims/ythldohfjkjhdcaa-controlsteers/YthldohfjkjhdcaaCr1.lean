/- The document's steering, walked: its root, Law, Twist, Slew, Axis. -/
import Derived.Test.YthldohfjkjhdcaaCo4
import Derived.Test.YthldohfjkjhdcaaTimesAny
import Derived.Test.YthldohfjkjhdcaaKept
namespace Go.Proofs.Ythldohfjkjhdcaa
open Go.RowKit Go.Great

set_option maxHeartbeats 1000000 in
theorem ref_mul_any (a b : Int) (w : World) (ha : I64 a) (hb : I64 b) : Calls Try.prog 31 #[.int .i64 a, .int .i64 b] w fun e w' => e = .returned (.int .i64 (sat (a * b))) ∧ Below w.heap.size w w' := by
  have HA := hide ha
  have HB := hide hb
  clear ha hb
  go_enter Try.func31, Try.ntmps31
  go_wp2_with fail
  refine (of_any a _ HA.out).mono ?_
  rintro e w1 ⟨v1, rfl, h1, k1⟩
  go_wp2_with fail
  refine (of_any b _ HB.out).mono ?_
  rintro e w2 ⟨v2, rfl, h2, k2⟩
  go_wp2_with fail
  refine (times_any _ _ a b 3 3 6 _ (k1.below h2) k2 (by omega) (by omega) (by omega)).mono ?_
  rintro e w3 ⟨v3, rfl, h3, k3⟩
  go_wp2_with fail
  refine (kept_any _ (a * b) 6 _ k3 (by omega)).mono ?_
  rintro e w4 ⟨rfl, h4⟩
  go_wp2_with fail
  go_ret
  exact ⟨rfl, below_step (below_step (below_step h1 (Nat.le_refl _) h2) (Nat.le_refl _) h3) (Nat.le_refl _) h4⟩
theorem sat_cases (x : Int) : (x < -9223372036854775808 ∧ sat x = -9223372036854775808) ∨ (9223372036854775807 < x ∧ sat x = 9223372036854775807) ∨ (-9223372036854775808 ≤ x ∧ x ≤ 9223372036854775807 ∧ sat x = x) := by
  unfold sat; split <;> (try split) <;> omega
theorem slew_up (a b s : Int) (h : 1 ≤ s) (hab : a < b) (ha : I64 a) (hb : I64 b) : min b (sat (a + s)) = slew a b s := by
  unfold I64 at ha hb
  unfold slew
  rw [if_neg (by omega)]
  rcases sat_cases (a + s) with g | g | g <;> split <;> (try split) <;> omega
theorem slew_down (a b s : Int) (h : 1 ≤ s) (hab : b ≤ a) (ha : I64 a) (hb : I64 b) : max b (sat (a - s)) = slew a b s := by
  unfold I64 at ha hb
  unfold slew
  rw [if_neg (by omega)]
  rcases sat_cases (a - s) with g | g | g <;> split <;> (try split) <;> omega
set_option maxHeartbeats 1000000 in
theorem ref_slew_any (a b s : Int) (w : World) (ha : I64 a) (hb : I64 b) (hs : I64 s) : Calls Try.prog 42 #[.int .i64 a, .int .i64 b, .int .i64 s] w fun e w' => e = .returned (.int .i64 (slew a b s)) ∧ Below w.heap.size w w' := by
  have HA := hide ha
  have HB := hide hb
  have HS := hide hs
  by_cases h1 : s < 1
  · have H := hide (show slew a b s = a by unfold slew; rw [if_pos h1])
    clear ha hb hs
    go_enter Try.func42, Try.ntmps42
    go_wp2
    go_ret
    exact ⟨ret_int H.out.symm, Below.refl _ _⟩
  · by_cases h2 : a < b
    · have H := hide (slew_up a b s (by omega) h2 ha hb)
      clear ha hb hs
      go_enter Try.func42, Try.ntmps42
      go_wp2_with fail
      refine (ref_add_any a s _ HA.out HS.out).mono ?_
      rintro e w1 ⟨rfl, k1⟩
      have K1 := hide k1; clear k1
      generalize sat (a + s) = t at *
      go_wp2_with fail
      go_ret
      exact ⟨ret_int H.out, K1.out⟩
    · have H := hide (slew_down a b s (by omega) (by omega) ha hb)
      clear ha hb hs
      go_enter Try.func42, Try.ntmps42
      go_wp2_with fail
      refine (ref_sub_any a s _ HA.out HS.out).mono ?_
      rintro e w1 ⟨rfl, k1⟩
      have K1 := hide k1; clear k1
      generalize sat (a - s) = t at *
      go_wp2_with fail
      go_ret
      exact ⟨ret_int H.out, K1.out⟩
set_option maxHeartbeats 400000 in
theorem rclampC (x lo hi : Int) (w : World) : Calls Try.prog 26 #[.int .i64 x, .int .i64 lo, .int .i64 hi] w fun e w' => e = .returned (.int .i64 (clamp x lo hi)) ∧ w' = w := by
  go_enter Try.func26, Try.ntmps26
  go_wp2
  all_goals (go_ret; refine ⟨ret_int ?_, rfl⟩; unfold clamp; split <;> (try split) <;> omega)
theorem sq_in (t : Int) (h : 0 ≤ t) (h' : t ≤ 3037000499) : 0 ≤ t * t ∧ t * t ≤ 9223372030926249001 := by
  refine ⟨Int.mul_nonneg h h, ?_⟩
  have := Int.mul_le_mul (a := t) (b := t) (c := 3037000499) (d := 3037000499) h' h' h (by omega)
  omega
set_option maxHeartbeats 1000000 in
theorem rsqrt_any (n : Int) (w : World) (hn : I64 n) : Calls Try.prog 30 #[.int .i64 n] w fun e w' => e = .returned (.int .i64 (rt n)) ∧ w' = w := by
  unfold I64 at hn
  go_enter Try.func30, Try.ntmps30
  go_wp2
  go_loop [3, 4] (fun r b => ∃ (k : Nat) (x : Int), k ≤ 32 ∧ r = .int .i64 x ∧ b = .int .i64 (bitOf k) ∧ 0 ≤ x ∧ x + 2 * bitOf k ≤ 4294967296 ∧ Hid (sqrtFrom k n x = rt n)) (fun _ b => (intOf b).toNat)
  case atStart => exact ⟨32, 0, by omega, rfl, rfl, by omega, by decide, rfl⟩
  case round =>
    obtain ⟨k, x, hk, rfl, rfl, hx, hb, HS⟩ := hrel
    cases k with
    | zero =>
      rw [bitOf_zero] at hb
      rw [bitOf_zero]
      go_wp2
      go_ret
      exact ⟨ret_int HS.out, rfl⟩
    | succ k =>
      have hp := pow_in k (by omega)
      have e1 := bitOf_succ k
      have e2 := bitOf_half k
      have h3 : bitOf k * 2 ≤ 2 ^ k := by unfold bitOf; omega
      have h4 : 0 ≤ bitOf k := by unfold bitOf; omega
      have e5 : (2 : Int) ^ k / 2 = bitOf k := rfl
      rw [e1] at hb e2
      rw [e1]
      have HE := hide e5
      clear e1 e2 e5
      have HS' : Hid ((if x + 2 ^ k ≤ n.tdiv (x + 2 ^ k) then sqrtFrom k n (x + 2 ^ k) else sqrtFrom k n x) = rt n) := HS.out
      clear HS
      generalize (2 : Int) ^ k = b at *
      have hq := root_cond n (x + b) hn.2 (by omega)
      by_cases g1 : x + b ≤ 3037000499
      · have h5 := sq_in (x + b) (by omega) g1
        by_cases g2 : (x + b) * (x + b) ≤ n
        · have HS2 : Hid (sqrtFrom k n (x + b) = rt n) := by have := HS'.out; rw [if_pos (hq.1 ⟨g1, g2⟩)] at this; exact this
          clear HS' hq
          go_wp2
          go_round
          case rel => exact ⟨k, x + b, by omega, rfl, by rw [← HE.out], by omega, by omega, HS2⟩
          case measure => simp [intOf]; omega
        · have HS2 : Hid (sqrtFrom k n x = rt n) := by have := HS'.out; rw [if_neg (fun z => g2 (hq.2 z).2)] at this; exact this
          clear HS' hq
          go_wp2
          go_round
          case rel => exact ⟨k, x, by omega, rfl, by rw [← HE.out], by omega, by omega, HS2⟩
          case measure => simp [intOf]; omega
      · have HS2 : Hid (sqrtFrom k n x = rt n) := by have := HS'.out; rw [if_neg (fun z => g1 (hq.2 z).1)] at this; exact this
        clear HS' hq
        go_wp2
        go_round
        case rel => exact ⟨k, x, by omega, rfl, by rw [← HE.out], by omega, by omega, HS2⟩
        case measure => simp [intOf]; omega
set_option maxHeartbeats 1000000 in
theorem rlaw_any (far sp ac : Int) (w : World) (hf : I64 far) (hs : I64 sp) (ha : I64 ac) : Calls Try.prog 10 #[.int .i64 far, .int .i64 sp, .int .i64 ac] w fun e w' => e = .returned (.int .i64 (lawS far sp ac)) ∧ Below w.heap.size w w' := by
  have SU := hide (fun W => ref_sub_any 0 far W (by unfold I64; omega) hf)
  have MU := hide (fun W => ref_mul_any ac (amt far) W ha ⟨by have := (amt_in hf).1; omega, (amt_in hf).2⟩)
  have SQ := hide (fun W => rsqrt_any (sat (ac * amt far)) W (sat_in _))
  have hm := amt_in hf
  have EF : Hid (¬ far < 0 → amt far = far) := hide (fun h => by unfold amt; rw [if_neg h])
  have EG : Hid (far < 0 → amt far = sat (0 - far)) := hide (fun h => by unfold amt; rw [if_pos h])
  by_cases hc : sp < 1 ∨ ac < 1
  · have e0 : Hid (lawS far sp ac = 0) := hide (by unfold lawS; rw [if_pos hc])
    rw [e0.out]
    clear SU MU SQ EF EG e0
    by_cases h1 : sp < 1
    · go_enter Try.func10, Try.ntmps10
      go_wp2
      go_ret
      exact ⟨rfl, Below.refl _ _⟩
    · have h2 : ac < 1 := by omega
      go_enter Try.func10, Try.ntmps10
      go_wp2
      go_ret
      exact ⟨rfl, Below.refl _ _⟩
  · have h1 : ¬ sp < 1 := by omega
    have h2 : ¬ ac < 1 := by omega
    have hl := lawM_in (m := amt far) (sp := sp) (ac := ac) hm.1 (by omega) (by omega)
    have e0 : Hid (lawS far sp ac = if far < 0 then -(lawM (amt far) sp ac) else lawM (amt far) sp ac) := hide (by
      unfold lawS
      rw [if_neg hc]
      by_cases hn : far < 0
      · rw [if_pos hn, if_pos hn]
      · rw [if_neg hn, if_neg hn, EF.out hn])
    have e1 : Hid (lawM (amt far) sp ac = min sp (min (rt (sat (ac * amt far))) (amt far / 32))) := hide rfl
    rw [e0.out]
    clear e0
    rw [e1.out] at hl ⊢
    clear e1
    generalize rt (sat (ac * amt far)) = q at *
    have MN := run_min3 sp q (amt far / 32)
    generalize sat (ac * amt far) = p at *
    unfold I64 at hf hs ha
    by_cases hn : far < 0
    · rw [← EG.out hn] at SU
      clear EF EG
      rw [if_pos hn]
      generalize amt far = m at *
      go_enter Try.func10, Try.ntmps10
      go_wp2_with fail
      refine (SU.out _).mono ?_
      rintro e w1 ⟨rfl, b1⟩
      have H1 := hide b1
      clear b1
      go_wp2_with fail
      refine (MU.out _).mono ?_
      rintro e w2 ⟨rfl, b2⟩
      have H2 := hide (below_next H1.out (Nat.le_refl _) b2)
      clear b2 H1
      go_wp2_with fail
      refine (SQ.out _).mono ?_
      rintro e w3 ⟨rfl, hw⟩
      obtain rfl := hw.symm
      go_wp2_with fail
      go_ret
      exact ⟨ret_int (by omega), H2.out⟩
    · rw [EF.out hn] at *
      clear EF EG SU
      rw [if_neg hn]
      go_enter Try.func10, Try.ntmps10
      go_wp2_with fail
      refine (MU.out _).mono ?_
      rintro e w2 ⟨rfl, b2⟩
      have H2 := hide b2
      clear b2
      go_wp2_with fail
      refine (SQ.out _).mono ?_
      rintro e w3 ⟨rfl, hw⟩
      obtain rfl := hw.symm
      go_wp2_with fail
      go_ret
      exact ⟨ret_int (by omega), H2.out⟩
end Go.Proofs.Ythldohfjkjhdcaa
