/- Package guard, walked: Stop, what is asked for on an axis, the fall reference, Slow; a backup's block. -/
import Derived.Test.YtjinfjibodoflaaTri
import Derived.Test.YtjinfjibodoflaaMulDiv
import Derived.Lib.MinMax
namespace Go.Proofs.Ytjinfjibodoflaa
open Go.RowKit Go.Great

/-- how far a velocity leads until braking has taken it -/
def stp (v b : Int) : Int := if v < 1 ∨ b < 1 then 0 else sat (v / b * (v - b + v % b) / 2)
theorem div_facts (v b : Int) (hv : 1 ≤ v) (hb : 1 ≤ b) : 0 ≤ v / b ∧ v / b ≤ v ∧ 0 ≤ v % b ∧ v % b < b ∧ v % b ≤ v ∧ v - b + v % b ≤ v := by
  have h1 := Int.ediv_nonneg (show 0 ≤ v by omega) (show 0 ≤ b by omega)
  have h2 := Int.ediv_le_self b (show 0 ≤ v by omega)
  have h3 := Int.emod_nonneg v (show b ≠ 0 by omega)
  have h4 := Int.emod_lt_of_pos v (show 0 < b by omega)
  have e := Int.mul_ediv_add_emod v b
  have h5 : 0 ≤ b * (v / b) := Int.mul_nonneg (by omega) h1
  by_cases h : v / b = 0
  · rw [h, Int.mul_zero] at e; omega
  · have h6 : b * 1 ≤ b * (v / b) := Int.mul_le_mul_of_nonneg_left (by omega) (by omega)
    omega
set_option maxHeartbeats 400000 in
theorem stop_any (v b : Int) (w : World) (hv : I64 v) (hb : I64 b) : Calls Try.prog 10 #[.int .i64 v, .int .i64 b] w fun e w' => e = .returned (.int .i64 (stp v b)) ∧ ∃ n, w' = w.drewN n := by
  by_cases hc : v < 1 ∨ b < 1
  · have e0 : stp v b = 0 := by unfold stp; rw [if_pos hc]
    rw [e0]
    clear e0
    by_cases h1 : v < 1
    · go_enter Try.func10, Try.ntmps10
      go_wp2
      go_ret
      exact ⟨rfl, 0, rfl⟩
    · have h2 : b < 1 := by omega
      go_enter Try.func10, Try.ntmps10
      go_wp2
      go_ret
      exact ⟨rfl, 0, rfl⟩
  · have h1 : ¬ v < 1 := by omega
    have h2 : ¬ b < 1 := by omega
    obtain ⟨n0, n1, r0, r1, r2, s1⟩ := div_facts v b (by omega) (by omega)
    have e0 : stp v b = sat (floorOf (v / b) (v - b + v % b) 2) := by unfold stp floorOf; rw [if_neg hc, if_neg (by decide)]
    rw [e0]
    unfold I64 at hv hb
    have MD := hide (fun W => muldiv_any (v / b) (v - b + v % b) 2 W (by unfold I64; omega) (by unfold I64; omega) (by unfold I64; omega) (by decide))
    generalize sat (floorOf (v / b) (v - b + v % b) 2) = z at *
    clear hc e0
    have hq : v.tdiv b = v / b := Int.tdiv_eq_ediv_of_nonneg (by omega)
    have hr : v.tmod b = v % b := Int.tmod_eq_emod_of_nonneg (by omega)
    generalize v / b = n at *
    generalize v % b = r at *
    go_enter Try.func10, Try.ntmps10
    go_wp2_with fail
    go_quiet (fail)
    go_wp2_with (first
      | (go_at_call 22; refine (MD.out _).mono ?_; rintro e w1 ⟨rfl, k, rfl⟩))
    go_ret
    exact ⟨rfl, _, rfl⟩
theorem push_any (r s : Int) (w : World) (hr : I64 r) (hs : I64 s) : Calls Try.prog 31 #[.int .i64 r, .int .i64 s] w fun e w' => e = .returned (.int .i64 (ask r s)) ∧ w' = w := by
  have SU := hide (fun W => sub_any r s W hr hs)
  have CL := hide (fun W => clamp_any (sat (r - s)) (-64) 64 W)
  rw [show clamp (sat (r - s)) (-64) 64 = ask r s from rfl] at CL
  generalize sat (r - s) = d at *
  generalize ask r s = z at *
  go_enter Try.func31, Try.ntmps31
  go_wp2_with (first
    | (go_at_call 45; refine (SU.out _).mono ?_; rintro e w1 ⟨rfl, hw⟩; obtain rfl := hw.symm)
    | (go_at_call 51; refine (CL.out _).mono ?_; rintro e w1 ⟨rfl, hw⟩; obtain rfl := hw.symm))
  go_ret
  exact ⟨rfl, rfl⟩
theorem lowest_any (f : Int) (w : World) (hf : I64 f) : Calls Try.prog 34 #[.int .i64 f] w fun e w' => e = .returned (.int .i64 (-(max f 0))) ∧ w' = w := by
  unfold I64 at hf
  have h : 0 ≤ max f 0 ∧ max f 0 ≤ 9223372036854775807 := by omega
  generalize hM : max f 0 = M at *
  go_enter Try.func34, Try.ntmps34
  go_wp2
  go_ret
  exact ⟨rfl, rfl⟩
/-- the fall reference of the next tick -/
def fnx (r : Int) (k : Bool) (f : Int) : Int := if k = true then max (sat (r - 32)) (-(max f 0)) else 0
theorem fnx_in (r : Int) (k : Bool) (f : Int) (hf : I64 f) : I64 (fnx r k f) := by
  have h := sat_any (r - 32)
  unfold fnx
  unfold I64 at *
  split <;> omega
theorem next_any (r : Int) (k : Bool) (f : Int) (w : World) (hr : I64 r) (hf : I64 f) : Calls Try.prog 32 #[.int .i64 r, .bool k, .int .i64 f] w fun e w' => e = .returned (.int .i64 (fnx r k f)) ∧ w' = w := by
  unfold fnx
  cases k
  · go_enter Try.func32, Try.ntmps32
    go_wp2
    go_ret
    simp
  · have SU := hide (fun W => sub_any r 32 W hr (i64_of (by decide)))
    have LO := hide (fun W => lowest_any f W hf)
    generalize sat (r - 32) = d at *
    generalize -(max f 0) = l at *
    go_enter Try.func32, Try.ntmps32
    go_wp2_with (first
      | (go_at_call 45; refine (SU.out _).mono ?_; rintro e w1 ⟨rfl, hw⟩; obtain rfl := hw.symm)
      | (go_at_call 34; refine (LO.out _).mono ?_; rintro e w1 ⟨rfl, hw⟩; obtain rfl := hw.symm))
    go_ret
    simp
/-- a backup's cells -/
def gbC (r : Int) : Array Value := #[.func (.func 31) #[] #[], .int .i64 r]
abbrev Bup (w : World) (B : Nat) (r : Int) : Prop := Blk w B (gbC r) 72
abbrev bP (B : Nat) : Value := .pointer (some ⟨B, 0, none⟩)
theorem newBk_any (w : World) : Calls Try.prog 16 #[] w fun e w' => ∃ B, e = .returned (bP B) ∧ Bup w' B 0 ∧ Below w.heap.size w w' ∧ w.heap.size ≤ B := by
  go_enter Try.func16, Try.ntmps16
  go_wp2
  go_ret
  exact ⟨_, rfl, Blk.new _ _ _, below_alloc _ _, Nat.le_refl _⟩
theorem fallNil (f : Int) (w : World) : Calls Try.prog 19 #[.pointer none, .int .i64 f] w fun e w' => e = .returned (.bool false) ∧ ∃ n, w' = w.drewN n := by
  go_enter Try.func19, Try.ntmps19
  go_wp2_with fail
  go_quiet (fail)
  go_wp2_with fail
  go_ret
  exact ⟨rfl, _, rfl⟩
theorem fall_any (w : World) (B : Nat) (r f : Int) (hB : Bup w B r) (hf : I64 f) : Calls Try.prog 19 #[bP B, .int .i64 f] w fun e w' => e = .returned (.bool (decide (r ≤ -(max f 0)))) ∧ ∃ n, w' = w.drewN n := by
  have LO := hide (fun W => lowest_any f W hf)
  generalize -(max f 0) = l at *
  have c1 : w.cell? ⟨B, 1, none⟩ = some (.int .i64 r) := hB.cell 1 rfl
  clear hB
  go_enter Try.func19, Try.ntmps19
  go_wp2_with fail
  go_quiet (first | (go_at_call 34; exact Calls.quiet_of_same (LO.out _)))
  go_wp2_with fail
  go_ret
  exact ⟨rfl, _, rfl⟩
end Go.Proofs.Ytjinfjibodoflaa
