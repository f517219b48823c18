/- MsgsDecodes: for every input the Go function windhoverlaw05.MsgsDecodes returns true and leaves its arguments as they were; no condition. -/
import Derived.Test.YtgdjphiicgiegaaRows
import Derived.WalkKit
import Derived.ProofKit
import Derived.OpenShut
import Derived.Lib.SmallJoins
import Derived.SizedLaws
import Derived.Test.YtgdjphiicgiegaaLwDe
namespace Go.Proofs.Ytgdjphiicgiegaa
open Go.ChangeShapes Go.WideShapes Go.ChangeAt Go.RowKit
set_option linter.unusedVariables false

theorem MsgsDecodes_own : ownKnob Try.prog.godebug = none := by kernel_rfl
theorem MsgsDecodes_cells0 : Try.prog.cellsOf 28 = 3 := by kernel_rfl

set_option maxRecDepth 100000 in
theorem MsgsDecodes_lifted (os : Os) (started : os.Started) (H : Type) (enc : TypeId × Value → H) :
    ReturnsInHanded {} Try.checked os 4 .any (Rows.msgsDecodesSpec.pre6 enc Try.prog Try.f4 Rows.msgsDecodesRow.domain false) (Rows.msgsDecodesSpec.post enc Try.prog Try.f4 false true false false) := by
  refine returnsInHanded_of_change_sized (C := Try.checked) MsgsDecodes_own started (by kernel_rfl) Try.func4
    (ChangeSpec.witness6 (enc := enc) (C := Try.checked) false ⟨#[], #[.agg #[.int .i64 0, .int .i64 0, .string ByteArray.empty]], []⟩ 8 (by kernel_rfl) (by kernel_rfl) (by kernel_rfl) (by kernel_rfl)) ?_
  intro W base args ds gs before hval0 hW hcnd hsz0 _
  have hval : ∀ (j : Nat) t v, Try.f4.params[j]? = some t → args[j]? = some v → Value.okWide Try.prog W .any base t v := hval0
  have hW' := hW
  obtain ⟨p, q, hA0, hV, rfl, hfz, hnd⟩ := hW
  have hA : DataW.TrodAll enc Try.prog W 0 (fun _ => true) true Try.f4.params.toList args.toList ds p := hA0
  have hsz : (DataW.weightsEach Try.prog (Try.f4.params.toList ++ Rows.msgsDecodesSpec.plain.varTypes Try.prog) (ds ++ gs)).all (· ≤ reachBytes) = true := hsz0
  rw [Try.params4] at hA hval hsz
  obtain ⟨v0, vs0, d0, ds0, p0, q0, hargs, rfl, rfl, h0, r0⟩ := trodAll_cons hA
  obtain ⟨rfl, rfl, rfl⟩ := trodAll_nil r0
  obtain rfl : args = #[v0] := by cases args; simp_all
  obtain ⟨rfl, rfl⟩ := trodVars_none hV
  obtain ⟨c0_0, c0_1, c0_2, y0_0, y0_1, y0_2, m0, rfl, rfl, rfl, hy0_0, hy0_1, hy0_2⟩ := Joins.open_agg3 Try.underlying28 (by kernel_rfl) MsgsDecodes_cells0 (hval 0 28 v0 rfl rfl) h0
  obtain ⟨a0_0, e0_0, q0_0, w0_0⟩ := DataW.trod_int Try.underlying3 hy0_0
  simp at e0_0 q0_0; subst e0_0 q0_0
  obtain ⟨a0_1, e0_1, q0_1, w0_1⟩ := DataW.trod_int Try.underlying3 hy0_1
  simp at e0_1 q0_1; subst e0_1 q0_1
  obtain ⟨a0_2, e0_2, q0_2, w0_2⟩ := DataW.trod_string Try.underlying9 hy0_2
  simp at e0_2 q0_2; subst e0_2 q0_2
  have z0_2 : a0_2.size ≤ 140737488351232 := by
    have hq2 : a0_2.data.toList.length ≤ reachBytes := of_decide_eq_true (List.all_eq_true.1 hsz _ (DataW.weights_mem_each (j := 0) rfl rfl a0_2.data.toList.length (by simp [DataW.weights, DataW.weightsEach, Try.underlying28])))
    rw [Array.length_toList] at hq2
    exact hq2
  clear hA0 hval0
  refine (MsgsDecodes_walk a0_0 a0_1 a0_2 z0_2 W).mono fun e W' ⟨he, hg⟩ => ?_
  subst he
  exact ⟨_, rfl, _, _, _, [], [], [], hW', (trodAll_cons_mk (shut_bool Try.underlying4 _) trodAll_mk0), (trodAll_cons_mk (Joins.shut_agg3 (y0 := (.lit (.int .i64 a0_0), [])) (y1 := (.lit (.int .i64 a0_1), [])) (y2 := (.lit (.string a0_2.data.toList), [])) Try.underlying28 (by kernel_rfl) MsgsDecodes_cells0 ⟨1, by simp [DataW.trod, Try.underlying3, w0_0]⟩ ⟨1, by simp [DataW.trod, Try.underlying3, w0_1]⟩ ⟨1, by simp [DataW.trod, Try.underlying9]; exact w0_2⟩) trodAll_mk0), rfl, hg.frame _, fun h => by cases h⟩

theorem MsgsDecodes_over : Rows.msgsDecodesRow.holds Try.pinned (OpenSpec.ofChange Rows.msgsDecodesSpec) :=
  OpenClaim.holds_of_wide 4 Try.f4 rfl rfl rfl rfl rfl rfl rfl ⟨rfl, rfl, rfl, rfl, rfl⟩ rfl rfl rfl rfl rfl (by kernel_rfl) Try.func4 (by kernel_rfl)
    (of_decide_eq_true (by kernel_rfl)) (by unfold Func.isWrapper; first | (rw [if_pos (by decide +kernel)]; kernel_rfl) | (rw [if_neg (by decide +kernel)]; exact ⟨rfl, rfl⟩))
    (fun os started H enc _ => MsgsDecodes_lifted os started H enc)

theorem MsgsDecodes_proved : Rows.MsgsDecodesSaid := MsgsDecodes_over
#print axioms MsgsDecodes_proved
end Go.Proofs.Ytgdjphiicgiegaa
