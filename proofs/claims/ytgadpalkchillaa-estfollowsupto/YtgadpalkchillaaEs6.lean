/- The example that each statement looks at ('awake'). -/
import Derived.Test.YtgadpalkchillaaEs5
namespace Go.Proofs.Ytgadpalkchillaa
open Go.RowKit Go.Great

theorem eqI13 (d : Nat) (a b : Int) (w : World) : (Op.equalIn (d + 1) 3 (.int .i64 a) (.int .i64 b)).run Try.prog w = .ok (a == b) w := by
  simp only [Op.equalIn, Sem.run_bind, run_underlying Try.underlying3, Result.andThen_ok]
  simp
def ft0 : Fi := fN 2
def ft1 : Fi := fstp 0 0 false ⟨true, 100, 10⟩ ⟨true, 5, 1⟩ ft0
def ft2 : Fi := fstp 2 1 false ⟨false, 0, 0⟩ ⟨false, 0, 0⟩ ft1
theorem i64_lit {x : Int} (h : -9223372036854775808 ≤ x ∧ x ≤ 9223372036854775807) : I64 x := h
theorem ft0_ok : FOk ft0 := fN_ok (i64_lit (by decide))
theorem ft1_ok : FOk ft1 := fstp_ok ft0_ok
theorem ft2_ok : FOk ft2 := fstp_ok ft1_ok
theorem ft2_is : ft2.pl = 95 ∧ ft2.ph = 119 ∧ ft2.vl = 5 ∧ ft2.vh = 9 ∧ fgd ft2 = true := by decide +kernel
theorem mok_lit {o : Bool} {x e : Int} (h : -9223372036854775808 ≤ x ∧ x ≤ 9223372036854775807) (g : -9223372036854775808 ≤ e ∧ e ≤ 9223372036854775807) : MOk ⟨o, x, e⟩ := ⟨h, g⟩
set_option maxHeartbeats 2000000 in
set_option maxRecDepth 100000 in
theorem awakeE (w : World) : Calls Try.prog 9 #[] w fun e w' => e = .returned (.bool true) ∧ Below w.heap.size w w' := by
  go_enter Try.func9, Try.ntmps9
  go_upto_region 2 with (go_at_call 7; refine (newF_any w 2 (by decide)).mono ?_; rintro e w1 ⟨B, rfl, hB, hb1, hBw⟩)
  have HB0 : Hid (Blk w1 B (fC ft0) 72) := hide hB
  have Hb := hide hb1
  clear hB hb1
  go_upto_region 5 with (go_at_call 7; refine (newF_no w1 0 (by decide)).mono ?_; rintro e w' ⟨rfl, hw'⟩; obtain rfl := hw'.symm)
  go_upto_region 6 with (go_at_call 10; refine (stepF_any w1 B ft0 0 0 false ⟨true, 100, 10⟩ ⟨true, 5, 1⟩ HB0.out ft0_ok (i64_lit (by decide)) (i64_lit (by decide)) (mok_lit (by decide) (by decide)) (mok_lit (by decide) (by decide))).mono ?_; rintro e w2 ⟨rfl, hB2, hG2⟩)
  have HB1 : Hid (Blk w2 B (fC ft1) 72) := hide hB2
  replace Hb := hide (below_grown Hb.out hG2 (fun q e => by injection e with e; omega))
  clear HB0 hB2 hG2
  go_upto_region 7 with (go_at_call 10; refine (stepF_any w2 B ft1 2 1 false ⟨false, 0, 0⟩ ⟨false, 0, 0⟩ HB1.out ft1_ok (i64_lit (by decide)) (i64_lit (by decide)) (mok_lit (by decide) (by decide)) (mok_lit (by decide) (by decide))).mono ?_; rintro e w3 ⟨rfl, hB3, hG3⟩)
  have HB2 : Hid (Blk w3 B (fC ft2) 72) := hide hB3
  replace Hb := hide (below_grown Hb.out hG3 (fun q e => by injection e with e; omega))
  clear HB1 hB3 hG3
  have MD : Hid (Calls Try.prog 12 #[.pointer (some ⟨B, 0, none⟩)] w3 fun e w' => e = .returned (.tuple #[.int .i64 107, .int .i64 7]) ∧ Below w3.heap.size w3 w') := hide (by
    have := middleF_any w3 B ft2 HB2.out ft2_ok
    rw [ft2_is.1, ft2_is.2.1, ft2_is.2.2.1, ft2_is.2.2.2.1] at this
    exact this)
  go_upto_region 8 with (go_at_call 12; refine MD.out.mono ?_; rintro e w4 ⟨rfl, hb4⟩)
  have HB4 := hide (HB2.out.after hb4)
  replace Hb := hide (below_next Hb.out (Nat.le_refl _) hb4)
  clear HB2 hb4 MD
  have AX : Hid (Calls Try.prog 14 #[.pointer (some ⟨B, 0, none⟩)] w4 fun e w' => e = .returned (axV 95 119 5 9) ∧ Below w4.heap.size w4 w') := hide (by
    have := axisF_any w4 B ft2 HB4.out
    rw [ft2_is.1, ft2_is.2.1, ft2_is.2.2.1, ft2_is.2.2.2.1] at this
    exact this)
  go_wp2_with (go_at_call 14; refine AX.out.mono ?_; rintro e w5 ⟨rfl, hb5⟩; have GD : Hid (Calls Try.prog 15 #[.pointer (some ⟨B, 0, none⟩)] w5 fun e w' => e = .returned (.bool true) ∧ ∃ k, w' = w5.drewN k) := (hide (by have := good_any w5 B ft2 (HB4.out.after hb5); rw [ft2_is.2.2.2.2] at this; exact this)))
  refine GD.out.mono ?_
  rintro e w6 ⟨rfl, k, rfl⟩
  go_wp2_with fail
  go_ret
  exact ⟨rfl, below_drewN (below_next Hb.out (Nat.le_refl _) hb5) k⟩
end Go.Proofs.Ytgadpalkchillaa
