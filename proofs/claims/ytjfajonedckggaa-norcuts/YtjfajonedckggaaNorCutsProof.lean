/- NorCuts: for every input the Go function windhoverlaw06.NorCuts returns true and leaves its arguments as they were; no condition. -/
import Derived.Test.YtjfajonedckggaaRows
import Derived.WalkKit
import Derived.ProofKit
import Derived.OpenShut
import Derived.Lib.SmallJoins
import Derived.ShutString
import Derived.SizedLaws
import Derived.Test.YtjfajonedckggaaLwCu
namespace Go.Proofs.Ytjfajonedckggaa
open Go.ChangeShapes Go.WideShapes Go.ChangeAt Go.RowKit
open Go.ChangeMaps (open_string shut_string)
set_option linter.unusedVariables false

theorem NorCuts_own : ownKnob Try.prog.godebug = none := by kernel_rfl
theorem NorCuts_cells1 : Try.prog.cellsOf 38 = 4 := by kernel_rfl

set_option maxRecDepth 100000 in
theorem NorCuts_lifted (os : Os) (started : os.Started) (H : Type) (enc : TypeId × Value → H) :
    ReturnsInHanded {} Try.checked os 5 .any (Rows.norCutsSpec.pre6 enc Try.prog Try.f5 Rows.norCutsRow.domain false) (Rows.norCutsSpec.post enc Try.prog Try.f5 false true false false) := by
  refine returnsInHanded_of_change_sized (C := Try.checked) NorCuts_own started (by kernel_rfl) Try.func5
    (ChangeSpec.witness6 (enc := enc) (C := Try.checked) false ⟨#[], #[.string ByteArray.empty, .agg #[.int .i64 0, .string ByteArray.empty, .int .i64 0, .string ByteArray.empty]], []⟩ 8 (by kernel_rfl) (by kernel_rfl) (by kernel_rfl) (by kernel_rfl)) ?_
  intro W base args ds gs before hval0 hW hcnd hsz0 _
  have hval : ∀ (j : Nat) t v, Try.f5.params[j]? = some t → args[j]? = some v → Value.okWide Try.prog W .any base t v := hval0
  have hW' := hW
  obtain ⟨p, q, hA0, hV, rfl, hfz, hnd⟩ := hW
  have hA : DataW.TrodAll enc Try.prog W 0 (fun _ => true) true Try.f5.params.toList args.toList ds p := hA0
  have hsz : (DataW.weightsEach Try.prog (Try.f5.params.toList ++ Rows.norCutsSpec.plain.varTypes Try.prog) (ds ++ gs)).all (· ≤ reachBytes) = true := hsz0
  rw [Try.params5] at hA hval hsz
  obtain ⟨v0, vs0, d0, ds0, p0, q0, hargs, rfl, rfl, h0, r0⟩ := trodAll_cons hA
  obtain ⟨v1, vs1, d1, ds1, p1, q1, rfl, rfl, rfl, h1, r1⟩ := trodAll_cons r0
  obtain ⟨rfl, rfl, rfl⟩ := trodAll_nil r1
  obtain rfl : args = #[v0, v1] := by cases args; simp_all
  obtain ⟨rfl, rfl⟩ := trodVars_none hV
  obtain ⟨a0, rfl, rfl, rfl, w0⟩ := open_string Try.underlying9 (hval 0 9 v0 rfl rfl) h0
  obtain ⟨c1_0, c1_1, c1_2, c1_3, y1_0, y1_1, y1_2, y1_3, m1, rfl, rfl, rfl, hy1_0, hy1_1, hy1_2, hy1_3⟩ := Joins.open_agg4 Try.underlying38 (by kernel_rfl) NorCuts_cells1 (hval 1 38 v1 rfl rfl) h1
  obtain ⟨a1_0, e1_0, q1_0, w1_0⟩ := DataW.trod_int Try.underlying3 hy1_0
  simp at e1_0 q1_0; subst e1_0 q1_0
  obtain ⟨a1_1, e1_1, q1_1, w1_1⟩ := DataW.trod_string Try.underlying9 hy1_1
  simp at e1_1 q1_1; subst e1_1 q1_1
  have z1_1 : a1_1.size ≤ 140737488351232 := by
    have hq2 : a1_1.data.toList.length ≤ reachBytes := of_decide_eq_true (List.all_eq_true.1 hsz _ (DataW.weights_mem_each (j := 1) rfl rfl a1_1.data.toList.length (by simp [DataW.weights, DataW.weightsEach, Try.underlying38])))
    rw [Array.length_toList] at hq2
    exact hq2
  obtain ⟨a1_2, e1_2, q1_2, w1_2⟩ := DataW.trod_int Try.underlying3 hy1_2
  simp at e1_2 q1_2; subst e1_2 q1_2
  obtain ⟨a1_3, e1_3, q1_3, w1_3⟩ := DataW.trod_string Try.underlying9 hy1_3
  simp at e1_3 q1_3; subst e1_3 q1_3
  have z1_3 : a1_3.size ≤ 140737488351232 := by
    have hq2 : a1_3.data.toList.length ≤ reachBytes := of_decide_eq_true (List.all_eq_true.1 hsz _ (DataW.weights_mem_each (j := 1) rfl rfl a1_3.data.toList.length (by simp [DataW.weights, DataW.weightsEach, Try.underlying38])))
    rw [Array.length_toList] at hq2
    exact hq2
  have s0 : a0.size ≤ 140737488351232 := by
    have := sized_string hsz (j := 0) (t := 9) rfl rfl
    simpa [reachBytes] using this
  clear hA0 hval0
  refine (NorCuts_walk a0 a1_0 a1_1 a1_2 a1_3 s0 (wf_i64 w1_0) z1_1 (wf_i64 w1_2) z1_3 W).mono fun e W' ⟨he, hg⟩ => ?_
  subst he
  exact ⟨_, rfl, _, _, _, [], [], [], hW', (trodAll_cons_mk (shut_bool Try.underlying4 _) trodAll_mk0), (trodAll_cons_mk (shut_string Try.underlying9 w0) (trodAll_cons_mk (Joins.shut_agg4 (y0 := (.lit (.int .i64 a1_0), [])) (y1 := (.lit (.string a1_1.data.toList), [])) (y2 := (.lit (.int .i64 a1_2), [])) (y3 := (.lit (.string a1_3.data.toList), [])) Try.underlying38 (by kernel_rfl) NorCuts_cells1 ⟨1, by simp [DataW.trod, Try.underlying3, w1_0]⟩ ⟨1, by simp [DataW.trod, Try.underlying9]; exact w1_1⟩ ⟨1, by simp [DataW.trod, Try.underlying3, w1_2]⟩ ⟨1, by simp [DataW.trod, Try.underlying9]; exact w1_3⟩) trodAll_mk0)), rfl, hg.frame _, fun h => by cases h⟩

theorem NorCuts_over : Rows.norCutsRow.holds Try.pinned (OpenSpec.ofChange Rows.norCutsSpec) :=
  OpenClaim.holds_of_wide 5 Try.f5 rfl rfl rfl rfl rfl rfl rfl ⟨rfl, rfl, rfl, rfl, rfl⟩ rfl rfl rfl rfl rfl (by kernel_rfl) Try.func5 (by kernel_rfl)
    (of_decide_eq_true (by kernel_rfl)) (by unfold Func.isWrapper; first | (rw [if_pos (by decide +kernel)]; kernel_rfl) | (rw [if_neg (by decide +kernel)]; exact ⟨rfl, rfl⟩))
    (fun os started H enc _ => NorCuts_lifted os started H enc)

theorem NorCuts_proved : Rows.NorCutsSaid := NorCuts_over
#print axioms NorCuts_proved
end Go.Proofs.Ytjfajonedckggaa
