/- The example that each statement looks at ('awake'). -/
import Derived.Test.YtnofpcoohbmnpaaPw4
namespace Go.Proofs.Ytnofpcoohbmnpaa
open Go.RowKit Go.Great

theorem eqI14 (d : Nat) (a b : Int) (w : World) : (Op.equalIn (d + 1) 3 (.int .i64 a) (.int .i64 b)).run Try.prog w = .ok (a == b) w := by
  simp only [Op.equalIn, Sem.run_bind, run_underlying Try.underlying3, Result.andThen_ok]
  simp
def ba1 : Ba := stpS (bN deL) true 10000
def ba2 : Ba := stpS ba1 false 0
theorem i64_lit {x : Int} (h : -9223372036854775808 ≤ x ∧ x ≤ 9223372036854775807) : I64 x := h
theorem ba1_ok : BOk ba1 := stp_ok (bN_ok deL_sound) _ _
theorem ba2_ok : BOk ba2 := stp_ok ba1_ok _ _
theorem ba0_is : tierI (bN deL) 0 0 = 2 := by decide +kernel
theorem ba2_is : ba2.lo = 9896 ∧ ba2.hi = 10100 ∧ ba2.kn = true ∧ tierI ba2 0 0 = 1 := by decide +kernel
set_option maxHeartbeats 2000000 in
set_option maxRecDepth 100000 in
theorem awakeP (w : World) : Calls Try.prog 11 #[] w fun e w' => e = .returned (.bool true) ∧ Below w.heap.size w w' := by
  have NO : Hid (∀ W, Calls Try.prog 8 #[.slice none 0 0] W fun e w' => e = .returned (.tuple #[.pointer none, .int .i64 3]) ∧ Below W.heap.size W w') := by
    intro W
    have := newB_no W [] _ (Ints.nil W) (by rw [chk_nil]; omega)
    rw [chk_nil] at this
    exact this
  go_enter Try.func11, Try.ntmps11
  go_wp2_with fail
  refine (defaults_any w).mono ?_
  rintro e w1 ⟨v1, rfl, hR1, hb1⟩
  have HI1 := hide hR1.ints
  have Hb1 := hide hb1
  clear hR1 hb1
  go_wp2_with fail
  refine (newB_any w1 deL v1 HI1.out deL_sound).mono ?_
  rintro e w2 ⟨B, rfl, hB2, hb2, hBw⟩
  have HB2 := hide hB2
  have hBB : w.heap.size ≤ B := Nat.le_trans Hb1.out.size hBw
  have Hb2 := hide (below_next Hb1.out (Nat.le_refl _) hb2)
  clear hB2 hb2 HI1 Hb1 hBw
  go_wp2_with fail
  refine (NO.out _).mono ?_
  rintro e w3 ⟨rfl, hb3⟩
  have HB3 := hide (HB2.out.after hb3)
  have Hb3 := hide (below_next Hb2.out (Nat.le_refl _) hb3)
  clear hb3 HB2 Hb2
  have T0 := hide (tier_any w3 B (bN deL) 0 0 HB3.out (bN_ok deL_sound))
  rw [ba0_is] at T0
  go_wp2_with fail
  refine T0.out.mono ?_
  rintro e w4 ⟨rfl, hb4⟩
  have HB4 := hide (HB3.out.after hb4)
  have Hb4 := hide (below_next Hb3.out (Nat.le_refl _) hb4)
  clear hb4 HB3 Hb3 T0
  go_wp2_with fail
  refine (step_any w4 B (bN deL) true 10000 HB4.out (bN_ok deL_sound) (i64_lit (by decide))).mono ?_
  rintro e w5 ⟨rfl, hB5, hG5⟩
  have HB5 : Hid (Bat w5 B ba1) := hide hB5
  have Hb5 := hide (below_grown Hb4.out hG5 (fun q e => by injection e with e; omega))
  clear hB5 hG5 HB4 Hb4
  go_wp2_with fail
  refine (step_any w5 B ba1 false 0 HB5.out ba1_ok (i64_lit (by decide))).mono ?_
  rintro e w6 ⟨rfl, hB6, hG6⟩
  have HB6 : Hid (Bat w6 B ba2) := hide hB6
  have Hb6 := hide (below_grown Hb5.out hG6 (fun q e => by injection e with e; omega))
  clear hB6 hG6 HB5 Hb5
  have L0 := hide (left_any w6 B ba2 HB6.out ba2_ok.snd.len)
  rw [ba2_is.1, ba2_is.2.1, ba2_is.2.2.1] at L0
  go_wp2_with fail
  refine L0.out.mono ?_
  rintro e w7 ⟨rfl, hb7⟩
  have HS := hide (Blk.new w7 #[.int .i64 9896, .int .i64 10100] 31)
  have HB8 := hide ((HB6.out.after hb7).alloc (.cells #[.int .i64 9896, .int .i64 10100] 31))
  have Hb8 := hide (below_next (below_next Hb6.out (Nat.le_refl _) hb7) (Nat.le_refl _) (below_alloc w7 (.cells #[.int .i64 9896, .int .i64 10100] 31)))
  clear hb7 HB6 Hb6 L0
  go_upto_region 9 with fail
  generalize w7.heap.size = d at *
  generalize w7.alloc (.cells #[.int .i64 9896, .int .i64 10100] 31) = W8 at *
  have s0 : W8.cell? ⟨d, 0, none⟩ = some (.int .i64 9896) := HS.out.cell 0 rfl
  have s1 : W8.cell? ⟨d, 1, none⟩ = some (.int .i64 10100) := HS.out.cell 1 rfl
  have T1 := hide (tier_any W8 B ba2 0 0 HB8.out ba2_ok)
  rw [ba2_is.2.2.2] at T1
  go_wp2_with fail
  refine T1.out.mono ?_
  rintro e w9 ⟨rfl, hb9⟩
  go_wp2_with fail
  go_ret
  exact ⟨rfl, below_next Hb8.out (Nat.le_refl _) hb9⟩
end Go.Proofs.Ytnofpcoohbmnpaa
