/- CrcLosesNothing: for every input the Go function windhoverlaw03.CrcLosesNothing returns true and leaves its arguments as they were; no condition. -/
import Derived.Test.YtplcmdibcjamlaaRows
import Derived.WalkKit
import Derived.ProofKit
import Derived.OpenShut
import Derived.Lib.SmallJoins
import Derived.Test.YtplcmdibcjamlaaCrcL
namespace Go.Proofs.Ytplcmdibcjamlaa
open Go.ChangeShapes Go.WideShapes Go.ChangeAt Go.RowKit
set_option linter.unusedVariables false

theorem CrcLosesNothing_own : ownKnob Try.prog.godebug = none := by kernel_rfl
theorem CrcLosesNothing_cells0 : Try.prog.cellsOf 31 = 2 := by kernel_rfl
theorem CrcLosesNothing_cells1 : Try.prog.cellsOf 31 = 2 := by kernel_rfl

set_option maxRecDepth 100000 in
theorem CrcLosesNothing_lifted (os : Os) (started : os.Started) (H : Type) (enc : TypeId × Value → H) :
    ReturnsInHanded {} Try.checked os 6 .any (Rows.crcLosesNothingSpec.pre6 enc Try.prog Try.f6 Rows.crcLosesNothingRow.domain false) (Rows.crcLosesNothingSpec.post enc Try.prog Try.f6 false true false false) := by
  refine returnsInHanded_of_change (C := Try.checked) CrcLosesNothing_own started (by kernel_rfl) Try.func6
    (ChangeSpec.witness6 (enc := enc) (C := Try.checked) false ⟨#[], #[.agg #[.int .u16 0, .int .u8 0], .agg #[.int .u16 0, .int .u8 0]], []⟩ 8 (by kernel_rfl) (by kernel_rfl) (by kernel_rfl) (by kernel_rfl)) ?_
  intro W base args ds gs before hval0 hW hcnd _
  have hval : ∀ (j : Nat) t v, Try.f6.params[j]? = some t → args[j]? = some v → Value.okWide Try.prog W .any base t v := hval0
  have hW' := hW
  obtain ⟨p, q, hA0, hV, rfl, hfz, hnd⟩ := hW
  have hA : DataW.TrodAll enc Try.prog W 0 (fun _ => true) true Try.f6.params.toList args.toList ds p := hA0
  rw [Try.params6] at hA hval
  obtain ⟨v0, vs0, d0, ds0, p0, q0, hargs, rfl, rfl, h0, r0⟩ := trodAll_cons hA
  obtain ⟨v1, vs1, d1, ds1, p1, q1, rfl, rfl, rfl, h1, r1⟩ := trodAll_cons r0
  obtain ⟨rfl, rfl, rfl⟩ := trodAll_nil r1
  obtain rfl : args = #[v0, v1] := by cases args; simp_all
  obtain ⟨rfl, rfl⟩ := trodVars_none hV
  obtain ⟨c0_0, c0_1, y0_0, y0_1, m0, rfl, rfl, rfl, hy0_0, hy0_1⟩ := Joins.open_agg2 Try.underlying31 (by kernel_rfl) CrcLosesNothing_cells0 (hval 0 31 v0 rfl rfl) h0
  obtain ⟨a0_0, e0_0, q0_0, w0_0⟩ := DataW.trod_int Try.underlying22 hy0_0
  simp at e0_0 q0_0; subst e0_0 q0_0
  obtain ⟨a0_1, e0_1, q0_1, w0_1⟩ := DataW.trod_int Try.underlying5 hy0_1
  simp at e0_1 q0_1; subst e0_1 q0_1
  obtain ⟨c1_0, c1_1, y1_0, y1_1, m1, rfl, rfl, rfl, hy1_0, hy1_1⟩ := Joins.open_agg2 Try.underlying31 (by kernel_rfl) CrcLosesNothing_cells1 (hval 1 31 v1 rfl rfl) h1
  obtain ⟨a1_0, e1_0, q1_0, w1_0⟩ := DataW.trod_int Try.underlying22 hy1_0
  simp at e1_0 q1_0; subst e1_0 q1_0
  obtain ⟨a1_1, e1_1, q1_1, w1_1⟩ := DataW.trod_int Try.underlying5 hy1_1
  simp at e1_1 q1_1; subst e1_1 q1_1
  clear hA0 hval0
  refine (CrcLosesNothing_walk a0_0 a0_1 a1_0 a1_1 w0_0 w0_1 w1_0 w1_1 W).mono fun e W' ⟨he, hg⟩ => ?_
  subst he
  exact ⟨_, rfl, _, _, _, [], [], [], hW', (trodAll_cons_mk (shut_bool Try.underlying4 _) trodAll_mk0), (trodAll_cons_mk (Joins.shut_agg2 (y0 := (.lit (.int .u16 a0_0), [])) (y1 := (.lit (.int .u8 a0_1), [])) Try.underlying31 (by kernel_rfl) CrcLosesNothing_cells0 ⟨1, by simp [DataW.trod, Try.underlying22, w0_0]⟩ ⟨1, by simp [DataW.trod, Try.underlying5, w0_1]⟩) (trodAll_cons_mk (Joins.shut_agg2 (y0 := (.lit (.int .u16 a1_0), [])) (y1 := (.lit (.int .u8 a1_1), [])) Try.underlying31 (by kernel_rfl) CrcLosesNothing_cells1 ⟨1, by simp [DataW.trod, Try.underlying22, w1_0]⟩ ⟨1, by simp [DataW.trod, Try.underlying5, w1_1]⟩) trodAll_mk0)), rfl, hg.frame _, fun h => by cases h⟩

theorem CrcLosesNothing_over : Rows.crcLosesNothingRow.holds Try.pinned (OpenSpec.ofChange Rows.crcLosesNothingSpec) :=
  OpenClaim.holds_of_wide 6 Try.f6 rfl rfl rfl rfl rfl rfl rfl ⟨rfl, rfl, rfl, rfl, rfl⟩ rfl rfl rfl rfl rfl (by kernel_rfl) Try.func6 (by kernel_rfl)
    (of_decide_eq_true (by kernel_rfl)) (by unfold Func.isWrapper; first | (rw [if_pos (by decide +kernel)]; kernel_rfl) | (rw [if_neg (by decide +kernel)]; exact ⟨rfl, rfl⟩))
    (fun os started H enc _ => CrcLosesNothing_lifted os started H enc)

theorem CrcLosesNothing_proved : Rows.CrcLosesNothingSaid := CrcLosesNothing_over
#print axioms CrcLosesNothing_proved
end Go.Proofs.Ytplcmdibcjamlaa
