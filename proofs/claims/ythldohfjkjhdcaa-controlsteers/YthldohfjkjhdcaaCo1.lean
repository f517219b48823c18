/- Package control, walked: Law, Twist. -/
import Derived.Test.YthldohfjkjhdcaaGn0
import Derived.Test.YthldohfjkjhdcaaCoM
import Derived.Lib.MinMax
namespace Go.Proofs.Ythldohfjkjhdcaa
open Go.RowKit Go.Great

/-- the shorter way from 0 to a heading -/
def shw (h : Int) : Int := (h + 524288) % 1048576 - 524288
/-- what Twist says -/
def twG (h r m : Int) : Int := clamp ((sat (clamp (-((shw h).tdiv 64)) (-(max m 0)) (max m 0) - r)).tdiv 4) (-100) 100
theorem shw_in (h : Int) : -524288 ≤ shw h ∧ shw h < 524288 := by unfold shw; omega
theorem tdiv_in64 (a : Int) (h : -524288 ≤ a ∧ a < 524288) : -8192 ≤ a.tdiv 64 ∧ a.tdiv 64 ≤ 8192 := by
  have h1 := Int.mul_tdiv_add_tmod a 64
  have h2 := Int.tmod_lt_of_pos a (show (0 : Int) < 64 by decide)
  have h3 := Int.lt_tmod_of_pos a (show (0 : Int) < 64 by decide)
  omega
theorem tdiv_in4 (a : Int) (h : I64 a) : -4611686018427387904 ≤ a.tdiv 4 ∧ a.tdiv 4 ≤ 4611686018427387904 := by
  unfold I64 at h
  have h1 := Int.mul_tdiv_add_tmod a 4
  have h2 := Int.tmod_lt_of_pos a (show (0 : Int) < 4 by decide)
  have h3 := Int.lt_tmod_of_pos a (show (0 : Int) < 4 by decide)
  omega
theorem tmod_is (a : Int) : -1048576 < a.tmod 1048576 ∧ a.tmod 1048576 < 1048576 ∧ ∃ k, a = 1048576 * k + a.tmod 1048576 :=
  ⟨Int.lt_tmod_of_pos a (by decide), Int.tmod_lt_of_pos a (by decide), a.tdiv 1048576, (Int.mul_tdiv_add_tmod a 1048576).symm⟩
theorem clamp_mid {x lo hi : Int} (h : lo ≤ hi) : lo ≤ clamp x lo hi ∧ clamp x lo hi ≤ hi := by
  unfold clamp
  split
  · omega
  · split <;> omega
theorem run_min3 (x y z : Int) (ts : Array TypeId) (t : TypeId) (w : World) : (Builtin.min_ ts t #[.int .i64 x, .int .i64 y, .int .i64 z]).run Try.prog w = .ok (.int .i64 (min (min x y) z)) w := by
  have e1 : (if y < x then y else x) = min x y := by rw [Int.min_def]; split <;> split <;> omega
  have e2 : (if z < min x y then z else min x y) = min (min x y) z := by rw [Int.min_def (min x y)]; split <;> split <;> omega
  simp [Builtin.min_, Builtin.min2, e1, e2]
theorem amount_any (x : Int) (w : World) (hx : I64 x) : Calls Try.prog 27 #[.int .i64 x] w fun e w' => e = .returned (.int .i64 (amt x)) ∧ w' = w := by
  unfold I64 at hx
  go_enter Try.func27, Try.ntmps27
  go_wp2
  all_goals (go_ret; refine ⟨ret_int ?_, rfl⟩; unfold amt sat; repeat (first | omega | split))
theorem shorter_any (h : Int) (w : World) : Calls Try.prog 33 #[.int .i64 h] w fun e w' => e = .returned (.int .i64 (shw h)) ∧ w' = w := by
  obtain ⟨h1, h2, k, hk⟩ := tmod_is h
  have HK := hide hk
  clear hk
  go_enter Try.func33, Try.ntmps33
  go_wp2
  all_goals (go_ret; refine ⟨ret_int ?_, rfl⟩; have := HK.out; unfold shw; omega)
set_option maxHeartbeats 400000 in
theorem law_any (far sp ac : Int) (w : World) (hf : I64 far) (hs : I64 sp) (ha : I64 ac) : Calls Try.prog 9 #[.int .i64 far, .int .i64 sp, .int .i64 ac] w fun e w' => e = .returned (.int .i64 (lawS far sp ac)) ∧ w' = w := by
  have AM := hide (fun W => amount_any far W hf)
  have MU := hide (fun W => mul_any ac (amt far) W ha ⟨by have := (amt_in hf).1; omega, (amt_in hf).2⟩)
  have SQ := hide (fun W => sqrt_any (sat (ac * amt far)) W (sat_in _))
  have hm := amt_in hf
  have EF : Hid (¬ far < 0 → amt far = far) := hide (fun h => by unfold amt; rw [if_neg h])
  by_cases hc : sp < 1 ∨ ac < 1
  · have e0 : Hid (lawS far sp ac = 0) := hide (by unfold lawS; rw [if_pos hc])
    rw [e0.out]
    clear AM MU SQ EF e0
    by_cases h1 : sp < 1
    · go_enter Try.func9, Try.ntmps9
      go_wp2
      go_ret
      simp
    · have h2 : ac < 1 := by omega
      go_enter Try.func9, Try.ntmps9
      go_wp2
      go_ret
      simp
  · have h1 : ¬ sp < 1 := by omega
    have h2 : ¬ ac < 1 := by omega
    have hl := lawM_in (m := amt far) (sp := sp) (ac := ac) hm.1 (by omega) (by omega)
    have e0 : Hid (lawS far sp ac = if far < 0 then -(lawM (amt far) sp ac) else lawM (amt far) sp ac) := hide (by
      unfold lawS
      rw [if_neg hc]
      by_cases hn : far < 0
      · rw [if_pos hn, if_pos hn]
      · rw [if_neg hn, if_neg hn, EF.out hn])
    have e1 : Hid (lawM (amt far) sp ac = min sp (min (sqrtFrom 32 (sat (ac * amt far)) 0) (amt far / 32))) := hide rfl
    rw [e0.out]
    clear e0 EF
    rw [e1.out] at hl ⊢
    clear e1
    generalize sqrtFrom 32 (sat (ac * amt far)) 0 = q at *
    have MN := run_min3 sp q (amt far / 32)
    generalize sat (ac * amt far) = p at *
    generalize amt far = m at *
    unfold I64 at hf hs ha
    go_enter Try.func9, Try.ntmps9
    go_wp2_with (first
      | (go_at_call 27; refine (AM.out _).mono ?_; rintro e w1 ⟨rfl, rfl⟩)
      | (go_at_call 29; refine (MU.out _).mono ?_; rintro e w1 ⟨rfl, rfl⟩)
      | (go_at_call 28; refine (SQ.out _).mono ?_; rintro e w1 ⟨rfl, rfl⟩))
    all_goals (go_ret; refine ⟨ret_int ?_, rfl⟩)
    all_goals omega
set_option maxHeartbeats 400000 in
theorem twist_any (h r m : Int) (w : World) (hr : I64 r) (hm : I64 m) : Calls Try.prog 11 #[.int .i64 h, .int .i64 r, .int .i64 m] w fun e w' => e = .returned (.int .i64 (twG h r m)) ∧ w' = w := by
  have SH := hide (fun W => shorter_any h W)
  have h1 := tdiv_in64 (shw h) (shw_in h)
  have hq := clamp_mid (x := -((shw h).tdiv 64)) (lo := -(max m 0)) (hi := max m 0) (by omega)
  unfold twG
  unfold I64 at hm
  generalize shw h = s at *
  generalize hM : max m 0 = M at *
  have CL := hide (fun W => clamp_any (-(s.tdiv 64)) (-M) M W)
  generalize clamp (-(s.tdiv 64)) (-M) M = c at *
  have SB := hide (fun W => sub_any c r W (by unfold I64; omega) hr)
  have CM := hide (fun W => clamp_any ((sat (c - r)).tdiv 4) (-100) 100 W)
  have h4 := tdiv_in4 (sat (c - r)) (sat_in _)
  generalize sat (c - r) = d at *
  generalize clamp (d.tdiv 4) (-100) 100 = z at *
  go_enter Try.func11, Try.ntmps11
  go_upto_region 3 with (first
    | (go_at_call 33; refine (SH.out _).mono ?_; rintro e w1 ⟨rfl, rfl⟩)
    | (go_at_call 32; refine (CL.out _).mono ?_; rintro e w1 ⟨rfl, rfl⟩))
  clear hq h1 CL SH
  go_wp2_with (first
    | (go_at_call 34; refine (SB.out _).mono ?_; rintro e w1 ⟨rfl, rfl⟩)
    | (go_at_call 32; refine (CM.out _).mono ?_; rintro e w1 ⟨rfl, rfl⟩))
  go_ret
  exact ⟨rfl, rfl⟩
end Go.Proofs.Ythldohfjkjhdcaa
