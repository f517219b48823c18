/- MixerMixes: for every input the Go function windhoverlaw16.MixerMixes returns true and leaves its arguments as they were; no condition. -/
import Derived.Test.YtjnpcbgfgplohaaRows
import Derived.WalkKit
import Derived.ProofKit
import Derived.OpenShut
import Derived.Carry
import Derived.Lib.SmallJoins
import Derived.SizedLaws
import Derived.Test.YtjnpcbgfgplohaaLwX4
namespace Go.Proofs.Ytjnpcbgfgplohaa
open Go.ChangeShapes Go.WideShapes Go.ChangeAt Go.RowKit
set_option linter.unusedVariables false

theorem MixerMixes_own : ownKnob Try.prog.godebug = none := by kernel_rfl
theorem MixerMixes_cells0 : Try.prog.cellsOf 23 = 4 := by kernel_rfl

set_option maxRecDepth 100000 in
theorem MixerMixes_lifted (os : Os) (started : os.Started) (H : Type) (enc : TypeId × Value → H) :
    ReturnsInHanded {} Try.checked os 3 .any (Rows.mixerMixesSpec.pre6 enc Try.prog Try.f3 Rows.mixerMixesRow.domain false) (Rows.mixerMixesSpec.post enc Try.prog Try.f3 false true false false) := by
  refine returnsInHanded_of_change_sized (C := Try.checked) MixerMixes_own started (by kernel_rfl) Try.func3
    (ChangeSpec.witness6 (enc := enc) (C := Try.checked) false ⟨#[], #[.agg #[.int .i64 0, .int .i64 0, .int .i64 0, .int .i64 0], .int .i64 0, .agg #[.int .i64 0, .int .i64 0, .int .i64 0, .int .i64 0, .int .i64 0, .int .i64 0, .int .i64 0, .int .i64 0]], []⟩ 8 (by kernel_rfl) (by kernel_rfl) (by kernel_rfl) (by kernel_rfl)) ?_
  intro W base args ds gs before hval0 hW hcnd hsz0 _
  have hval : ∀ (j : Nat) t v, Try.f3.params[j]? = some t → args[j]? = some v → Value.okWide Try.prog W .any base t v := hval0
  have hW' := hW
  obtain ⟨p, q, hA0, hV, rfl, hfz, hnd⟩ := hW
  have hA : DataW.TrodAll enc Try.prog W 0 (fun _ => true) true Try.f3.params.toList args.toList ds p := hA0
  have hsz : (DataW.weightsEach Try.prog (Try.f3.params.toList ++ Rows.mixerMixesSpec.plain.varTypes Try.prog) (ds ++ gs)).all (· ≤ reachBytes) = true := hsz0
  rw [Try.params3] at hA hval hsz
  obtain ⟨v0, vs0, d0, ds0, p0, q0, hargs, rfl, rfl, h0, r0⟩ := trodAll_cons hA
  obtain ⟨v1, vs1, d1, ds1, p1, q1, rfl, rfl, rfl, h1, r1⟩ := trodAll_cons r0
  obtain ⟨v2, vs2, d2, ds2, p2, q2, rfl, rfl, rfl, h2, r2⟩ := trodAll_cons r1
  obtain ⟨rfl, rfl, rfl⟩ := trodAll_nil r2
  obtain rfl : args = #[v0, v1, v2] := by cases args; simp_all
  obtain ⟨rfl, rfl⟩ := trodVars_none hV
  obtain ⟨c0_0, c0_1, c0_2, c0_3, y0_0, y0_1, y0_2, y0_3, m0, rfl, rfl, rfl, hy0_0, hy0_1, hy0_2, hy0_3⟩ := Joins.open_agg4 Try.underlying23 (by kernel_rfl) MixerMixes_cells0 (hval 0 23 v0 rfl rfl) h0
  obtain ⟨a0_0, e0_0, q0_0, w0_0⟩ := DataW.trod_int Try.underlying3 hy0_0
  simp at e0_0 q0_0; subst e0_0 q0_0
  obtain ⟨a0_1, e0_1, q0_1, w0_1⟩ := DataW.trod_int Try.underlying3 hy0_1
  simp at e0_1 q0_1; subst e0_1 q0_1
  obtain ⟨a0_2, e0_2, q0_2, w0_2⟩ := DataW.trod_int Try.underlying3 hy0_2
  simp at e0_2 q0_2; subst e0_2 q0_2
  obtain ⟨a0_3, e0_3, q0_3, w0_3⟩ := DataW.trod_int Try.underlying3 hy0_3
  simp at e0_3 q0_3; subst e0_3 q0_3
  obtain ⟨a1, rfl, rfl, rfl, w1⟩ := open_int Try.underlying3 (hval 1 3 v1 rfl rfl) h1
  have k2 := h2
  have lt2 : ∀ x ∈ p2, x.block < W.heap.size := by obtain ⟨m, hm⟩ := k2; exact DataW.trod_lt m _ _ _ hm
  have i2 := open_motors (hval 2 24 v2 rfl rfl) h2 (fun q hq => by have hq2 := List.all_eq_true.1 hsz _ (DataW.weights_mem_each (j := 2) rfl rfl q hq); simpa using hq2)
  clear hA0 hval0
  refine (MixerMixes_walk a0_0 a0_1 a0_2 a0_3 a1 v2 W i2).mono fun e W' ⟨he, hg⟩ => ?_
  subst he
  exact ⟨_, rfl, _, _, _, [], _, [], hW', (trodAll_cons_mk (shut_bool Try.underlying4 _) trodAll_mk0), (trodAll_cons_mk (Joins.shut_agg4 (y0 := (.lit (.int .i64 a0_0), [])) (y1 := (.lit (.int .i64 a0_1), [])) (y2 := (.lit (.int .i64 a0_2), [])) (y3 := (.lit (.int .i64 a0_3), [])) Try.underlying23 (by kernel_rfl) MixerMixes_cells0 (show ∃ m, DataW.trod enc Try.prog W' 0 _ true m 3 [.int .i64 a0_0] = some (.lit (.int .i64 a0_0), []) from ⟨1, by simp [DataW.trod, Try.underlying3, w0_0]⟩) (show ∃ m, DataW.trod enc Try.prog W' 0 _ true m 3 [.int .i64 a0_1] = some (.lit (.int .i64 a0_1), []) from ⟨1, by simp [DataW.trod, Try.underlying3, w0_1]⟩) (show ∃ m, DataW.trod enc Try.prog W' 0 _ true m 3 [.int .i64 a0_2] = some (.lit (.int .i64 a0_2), []) from ⟨1, by simp [DataW.trod, Try.underlying3, w0_2]⟩) (show ∃ m, DataW.trod enc Try.prog W' 0 _ true m 3 [.int .i64 a0_3] = some (.lit (.int .i64 a0_3), []) from ⟨1, by simp [DataW.trod, Try.underlying3, w0_3]⟩)) (trodAll_cons_mk (shut_int Try.underlying3 w1) (trodAll_cons_mk (Below.trod (by kernel_rfl) (by kernel_rfl) (of_decide_eq_true (by kernel_rfl)) k2 hg lt2) trodAll_mk0))), rfl, hg.frame _, fun h => by cases h⟩

theorem MixerMixes_over : Rows.mixerMixesRow.holds Try.pinned (OpenSpec.ofChange Rows.mixerMixesSpec) :=
  OpenClaim.holds_of_wide 3 Try.f3 rfl rfl rfl rfl rfl rfl rfl ⟨rfl, rfl, rfl, rfl, rfl⟩ rfl rfl rfl rfl rfl (by kernel_rfl) Try.func3 (by kernel_rfl)
    (of_decide_eq_true (by kernel_rfl)) (by unfold Func.isWrapper; first | (rw [if_pos (by decide +kernel)]; kernel_rfl) | (rw [if_neg (by decide +kernel)]; exact ⟨rfl, rfl⟩))
    (fun os started H enc _ => MixerMixes_lifted os started H enc)

theorem MixerMixes_proved : Rows.MixerMixesSaid := MixerMixes_over
#print axioms MixerMixes_proved
end Go.Proofs.Ytjnpcbgfgplohaa
