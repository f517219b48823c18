/- WorldObeys: for every input the Go function windhoverlaw23.WorldObeys returns true and leaves its arguments as they were; no condition. -/
import Derived.Test.YtpoodmfhcoaleaaRows
import Derived.WalkKit
import Derived.ProofKit
import Derived.OpenShut
import Derived.Carry
import Derived.Lib.SmallJoins
import Derived.SizedLaws
import Derived.Test.YtpoodmfhcoaleaaLwB2
namespace Go.Proofs.Ytpoodmfhcoaleaa
open Go.ChangeShapes Go.WideShapes Go.ChangeAt Go.RowKit
set_option linter.unusedVariables false

theorem WorldObeys_own : ownKnob Try.prog.godebug = none := by kernel_rfl
theorem WorldObeys_cells1 : Try.prog.cellsOf 46 = 4 := by kernel_rfl

set_option maxRecDepth 100000 in
theorem WorldObeys_lifted (os : Os) (started : os.Started) (H : Type) (enc : TypeId × Value → H) :
    ReturnsInHanded {} Try.checked os 6 .any (Rows.worldObeysSpec.pre6 enc Try.prog Try.f6 Rows.worldObeysRow.domain false) (Rows.worldObeysSpec.post enc Try.prog Try.f6 false true false false) := by
  refine returnsInHanded_of_change_sized (C := Try.checked) WorldObeys_own started (by kernel_rfl) Try.func6
    (ChangeSpec.witness6 (enc := enc) (C := Try.checked) false ⟨#[], #[.agg #[.int .i64 0, .int .i64 0, .int .i64 0, .int .i64 0, .int .i64 0, .int .i64 0, .int .i64 0, .int .i64 0, .int .i64 0], .agg #[.int .i64 0, .int .i64 0, .int .i64 0, .int .i64 0], .agg #[.int .i64 0, .int .i64 0, .int .i64 0, .int .i64 0, .int .i64 0, .int .i64 0, .int .i64 0, .int .i64 0, .int .i64 0, .int .i64 0, .int .i64 0, .int .i64 0, .int .i64 0]], []⟩ 8 (by kernel_rfl) (by kernel_rfl) (by kernel_rfl) (by kernel_rfl)) ?_
  intro W base args ds gs before hval0 hW hcnd hsz0 _
  have hval : ∀ (j : Nat) t v, Try.f6.params[j]? = some t → args[j]? = some v → Value.okWide Try.prog W .any base t v := hval0
  have hW' := hW
  obtain ⟨p, q, hA0, hV, rfl, hfz, hnd⟩ := hW
  have hA : DataW.TrodAll enc Try.prog W 0 (fun _ => true) true Try.f6.params.toList args.toList ds p := hA0
  have hsz : (DataW.weightsEach Try.prog (Try.f6.params.toList ++ Rows.worldObeysSpec.plain.varTypes Try.prog) (ds ++ gs)).all (· ≤ reachBytes) = true := hsz0
  rw [Try.params6] at hA hval hsz
  obtain ⟨v0, vs0, d0, ds0, p0, q0, hargs, rfl, rfl, h0, r0⟩ := trodAll_cons hA
  obtain ⟨v1, vs1, d1, ds1, p1, q1, rfl, rfl, rfl, h1, r1⟩ := trodAll_cons r0
  obtain ⟨v2, vs2, d2, ds2, p2, q2, rfl, rfl, rfl, h2, r2⟩ := trodAll_cons r1
  obtain ⟨rfl, rfl, rfl⟩ := trodAll_nil r2
  obtain rfl : args = #[v0, v1, v2] := by cases args; simp_all
  obtain ⟨rfl, rfl⟩ := trodVars_none hV
  have k0 := h0
  have lt0 : ∀ x ∈ p0, x.block < W.heap.size := by obtain ⟨m, hm⟩ := k0; exact DataW.trod_lt m _ _ _ hm
  have i0 := open_world (hval 0 24 v0 rfl rfl) h0 (fun q hq => by have hq2 := List.all_eq_true.1 hsz _ (DataW.weights_mem_each (j := 0) rfl rfl q hq); simpa using hq2)
  obtain ⟨c1_0, c1_1, c1_2, c1_3, y1_0, y1_1, y1_2, y1_3, m1, rfl, rfl, rfl, hy1_0, hy1_1, hy1_2, hy1_3⟩ := Joins.open_agg4 Try.underlying46 (by kernel_rfl) WorldObeys_cells1 (hval 1 46 v1 rfl rfl) h1
  obtain ⟨a1_0, e1_0, q1_0, w1_0⟩ := DataW.trod_int Try.underlying3 hy1_0
  simp at e1_0 q1_0; subst e1_0 q1_0
  obtain ⟨a1_1, e1_1, q1_1, w1_1⟩ := DataW.trod_int Try.underlying3 hy1_1
  simp at e1_1 q1_1; subst e1_1 q1_1
  obtain ⟨a1_2, e1_2, q1_2, w1_2⟩ := DataW.trod_int Try.underlying3 hy1_2
  simp at e1_2 q1_2; subst e1_2 q1_2
  obtain ⟨a1_3, e1_3, q1_3, w1_3⟩ := DataW.trod_int Try.underlying3 hy1_3
  simp at e1_3 q1_3; subst e1_3 q1_3
  have k2 := h2
  have lt2 : ∀ x ∈ p2, x.block < W.heap.size := by obtain ⟨m, hm⟩ := k2; exact DataW.trod_lt m _ _ _ hm
  have i2 := open_tick (hval 2 28 v2 rfl rfl) h2 (fun q hq => by have hq2 := List.all_eq_true.1 hsz _ (DataW.weights_mem_each (j := 2) rfl rfl q hq); simpa using hq2)
  clear hA0 hval0
  refine (WorldObeys_walk v0 a1_0 a1_1 a1_2 a1_3 v2 W i0 i2).mono fun e W' ⟨he, hg⟩ => ?_
  subst he
  exact ⟨_, rfl, _, _, _, [], _, [], hW', (trodAll_cons_mk (shut_bool Try.underlying4 _) trodAll_mk0), (trodAll_cons_mk (Below.trod (by kernel_rfl) (by kernel_rfl) (of_decide_eq_true (by kernel_rfl)) k0 hg lt0) (trodAll_cons_mk (Joins.shut_agg4 (y0 := (.lit (.int .i64 a1_0), [])) (y1 := (.lit (.int .i64 a1_1), [])) (y2 := (.lit (.int .i64 a1_2), [])) (y3 := (.lit (.int .i64 a1_3), [])) Try.underlying46 (by kernel_rfl) WorldObeys_cells1 (show ∃ m, DataW.trod enc Try.prog W' 0 _ true m 3 [.int .i64 a1_0] = some (.lit (.int .i64 a1_0), []) from ⟨1, by simp [DataW.trod, Try.underlying3, w1_0]⟩) (show ∃ m, DataW.trod enc Try.prog W' 0 _ true m 3 [.int .i64 a1_1] = some (.lit (.int .i64 a1_1), []) from ⟨1, by simp [DataW.trod, Try.underlying3, w1_1]⟩) (show ∃ m, DataW.trod enc Try.prog W' 0 _ true m 3 [.int .i64 a1_2] = some (.lit (.int .i64 a1_2), []) from ⟨1, by simp [DataW.trod, Try.underlying3, w1_2]⟩) (show ∃ m, DataW.trod enc Try.prog W' 0 _ true m 3 [.int .i64 a1_3] = some (.lit (.int .i64 a1_3), []) from ⟨1, by simp [DataW.trod, Try.underlying3, w1_3]⟩)) (trodAll_cons_mk (Below.trod (by kernel_rfl) (by kernel_rfl) (of_decide_eq_true (by kernel_rfl)) k2 hg lt2) trodAll_mk0))), rfl, hg.frame _, fun h => by cases h⟩

theorem WorldObeys_over : Rows.worldObeysRow.holds Try.pinned (OpenSpec.ofChange Rows.worldObeysSpec) :=
  OpenClaim.holds_of_wide 6 Try.f6 rfl rfl rfl rfl rfl rfl rfl ⟨rfl, rfl, rfl, rfl, rfl⟩ rfl rfl rfl rfl rfl (by kernel_rfl) Try.func6 (by kernel_rfl)
    (of_decide_eq_true (by kernel_rfl)) (by unfold Func.isWrapper; first | (rw [if_pos (by decide +kernel)]; kernel_rfl) | (rw [if_neg (by decide +kernel)]; exact ⟨rfl, rfl⟩))
    (fun os started H enc _ => WorldObeys_lifted os started H enc)

theorem WorldObeys_proved : Rows.WorldObeysSaid := WorldObeys_over
#print axioms WorldObeys_proved
end Go.Proofs.Ytpoodmfhcoaleaa
