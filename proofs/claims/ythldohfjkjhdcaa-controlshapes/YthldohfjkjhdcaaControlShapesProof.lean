/- ControlShapes: for every input the Go function windhoverlaw17.ControlShapes returns true and leaves its arguments as they were; no condition. -/
import Derived.Test.YthldohfjkjhdcaaRows
import Derived.WalkKit
import Derived.ProofKit
import Derived.OpenShut
import Derived.Lib.SmallJoins
import Derived.Test.YthldohfjkjhdcaaLwC3
namespace Go.Proofs.Ythldohfjkjhdcaa
open Go.ChangeShapes Go.WideShapes Go.ChangeAt Go.RowKit
set_option linter.unusedVariables false

theorem ControlShapes_own : ownKnob Try.prog.godebug = none := by kernel_rfl
theorem ControlShapes_cells0 : Try.prog.cellsOf 49 = 4 := by kernel_rfl

set_option maxRecDepth 100000 in
theorem ControlShapes_lifted (os : Os) (started : os.Started) (H : Type) (enc : TypeId × Value → H) :
    ReturnsInHanded {} Try.checked os 5 .any (Rows.controlShapesSpec.pre6 enc Try.prog Try.f5 Rows.controlShapesRow.domain false) (Rows.controlShapesSpec.post enc Try.prog Try.f5 false true false false) := by
  refine returnsInHanded_of_change (C := Try.checked) ControlShapes_own started (by kernel_rfl) Try.func5
    (ChangeSpec.witness6 (enc := enc) (C := Try.checked) false ⟨#[], #[.agg #[.int .i64 0, .int .i64 0, .int .i64 0, .int .i64 0]], []⟩ 8 (by kernel_rfl) (by kernel_rfl) (by kernel_rfl) (by kernel_rfl)) ?_
  intro W base args ds gs before hval0 hW hcnd _
  have hval : ∀ (j : Nat) t v, Try.f5.params[j]? = some t → args[j]? = some v → Value.okWide Try.prog W .any base t v := hval0
  have hW' := hW
  obtain ⟨p, q, hA0, hV, rfl, hfz, hnd⟩ := hW
  have hA : DataW.TrodAll enc Try.prog W 0 (fun _ => true) true Try.f5.params.toList args.toList ds p := hA0
  rw [Try.params5] at hA hval
  obtain ⟨v0, vs0, d0, ds0, p0, q0, hargs, rfl, rfl, h0, r0⟩ := trodAll_cons hA
  obtain ⟨rfl, rfl, rfl⟩ := trodAll_nil r0
  obtain rfl : args = #[v0] := by cases args; simp_all
  obtain ⟨rfl, rfl⟩ := trodVars_none hV
  obtain ⟨c0_0, c0_1, c0_2, c0_3, y0_0, y0_1, y0_2, y0_3, m0, rfl, rfl, rfl, hy0_0, hy0_1, hy0_2, hy0_3⟩ := Joins.open_agg4 Try.underlying49 (by kernel_rfl) ControlShapes_cells0 (hval 0 49 v0 rfl rfl) h0
  obtain ⟨a0_0, e0_0, q0_0, w0_0⟩ := DataW.trod_int Try.underlying3 hy0_0
  simp at e0_0 q0_0; subst e0_0 q0_0
  obtain ⟨a0_1, e0_1, q0_1, w0_1⟩ := DataW.trod_int Try.underlying3 hy0_1
  simp at e0_1 q0_1; subst e0_1 q0_1
  obtain ⟨a0_2, e0_2, q0_2, w0_2⟩ := DataW.trod_int Try.underlying3 hy0_2
  simp at e0_2 q0_2; subst e0_2 q0_2
  obtain ⟨a0_3, e0_3, q0_3, w0_3⟩ := DataW.trod_int Try.underlying3 hy0_3
  simp at e0_3 q0_3; subst e0_3 q0_3
  clear hA0 hval0
  refine (ControlShapes_walk a0_0 a0_1 a0_2 a0_3 (wf_i64 w0_0) (wf_i64 w0_1) (wf_i64 w0_2) (wf_i64 w0_3) W).mono fun e W' ⟨he, hg⟩ => ?_
  subst he
  exact ⟨_, rfl, _, _, _, [], [], [], hW', (trodAll_cons_mk (shut_bool Try.underlying4 _) trodAll_mk0), (trodAll_cons_mk (Joins.shut_agg4 (y0 := (.lit (.int .i64 a0_0), [])) (y1 := (.lit (.int .i64 a0_1), [])) (y2 := (.lit (.int .i64 a0_2), [])) (y3 := (.lit (.int .i64 a0_3), [])) Try.underlying49 (by kernel_rfl) ControlShapes_cells0 (show ∃ m, DataW.trod enc Try.prog W' 0 _ true m 3 [.int .i64 a0_0] = some (.lit (.int .i64 a0_0), []) from ⟨1, by simp [DataW.trod, Try.underlying3, w0_0]⟩) (show ∃ m, DataW.trod enc Try.prog W' 0 _ true m 3 [.int .i64 a0_1] = some (.lit (.int .i64 a0_1), []) from ⟨1, by simp [DataW.trod, Try.underlying3, w0_1]⟩) (show ∃ m, DataW.trod enc Try.prog W' 0 _ true m 3 [.int .i64 a0_2] = some (.lit (.int .i64 a0_2), []) from ⟨1, by simp [DataW.trod, Try.underlying3, w0_2]⟩) (show ∃ m, DataW.trod enc Try.prog W' 0 _ true m 3 [.int .i64 a0_3] = some (.lit (.int .i64 a0_3), []) from ⟨1, by simp [DataW.trod, Try.underlying3, w0_3]⟩)) trodAll_mk0), rfl, hg.frame _, fun h => by cases h⟩

theorem ControlShapes_over : Rows.controlShapesRow.holds Try.pinned (OpenSpec.ofChange Rows.controlShapesSpec) :=
  OpenClaim.holds_of_wide 5 Try.f5 rfl rfl rfl rfl rfl rfl rfl ⟨rfl, rfl, rfl, rfl, rfl⟩ rfl rfl rfl rfl rfl (by kernel_rfl) Try.func5 (by kernel_rfl)
    (of_decide_eq_true (by kernel_rfl)) (by unfold Func.isWrapper; first | (rw [if_pos (by decide +kernel)]; kernel_rfl) | (rw [if_neg (by decide +kernel)]; exact ⟨rfl, rfl⟩))
    (fun os started H enc _ => ControlShapes_lifted os started H enc)

theorem ControlShapes_proved : Rows.ControlShapesSaid := ControlShapes_over
#print axioms ControlShapes_proved
end Go.Proofs.Ythldohfjkjhdcaa
