/- PnH. -/
import Derived.Test.YtapfaaaepnplcaaGreatDoorG00
import Derived.Test.YtapfaaaepnplcaaGreatDoorTie
import Derived.Test.YtapfaaaepnplcaaGreatDoorCards
import Derived.SevenTiedAt
import Derived.Carry
import Derived.SizedLaws
import Derived.Test.YtapfaaaepnplcaaGreatDoorG07
import Derived.Test.YtapfaaaepnplcaaGreatDoorG45
import Derived.Test.YtapfaaaepnplcaaGreatDoorG46
namespace Go.Proofs.YtapfaaaepnplcaaGreatDoor
open Go.ChangeShapes Go.WideShapes Go.ChangeAt Go.RowKit
set_option maxRecDepth 100000
theorem pn_lifted (os : Os) (started : os.Started) (H : Type) (enc : TypeId × Value → H) :
    ReturnsInHanded {} Tryz.checked os 3 .any (fun w args => (Rows.pilotNilSpec.pre enc Tryz.prog Tryz.f3 [] false w args ∧ laidMetH Tryz.prog laid2 w) ∧ sizedMet enc Tryz.prog Tryz.f3 (OpenSpec.ofChange Rows.pilotNilSpec) false w args)
      (Rows.pilotNilSpec.post enc Tryz.prog Tryz.f3 false true false false) := by
  refine returnsInHanded_of_change_and (C := Tryz.checked) (X := fun w _ => laidMetH Tryz.prog laid2 w) (fun _ _ _ hh h => h.of_heap hh) pn_own started (by kernel_rfl) Tryz.func3
    (ChangeSpec.witness_shaped (enc := enc) (C := Tryz.checked) (os := os) (X := fun w _ => laidMetH Tryz.prog laid2 w) false (World.doorLaid Tryz.prog 400 os) #[.agg #[.string ⟨#[]⟩, .string ⟨#[]⟩, .string ⟨#[]⟩, .string ⟨#[]⟩, .string ⟨#[]⟩, .string ⟨#[]⟩, .string ⟨#[]⟩, .string ⟨#[]⟩, .string ⟨#[]⟩, .string ⟨#[]⟩, .string ⟨#[]⟩, .string ⟨#[]⟩]] 8 rfl (World.shaped_of_RefB (by kernel_rfl) (by kernel_rfl)) (by kernel_rfl) (by kernel_rfl) (by kernel_rfl) (pn_door os _)) ?_
  intro W base args ds gs before hval0 hW hcnd hsz0 u1 u2
  have hval : ∀ (j : Nat) t v, Tryz.f3.params[j]? = some t → args[j]? = some v → Value.okWide Tryz.prog W .any base t v := hval0
  have hW' := hW
  obtain ⟨p, q, hA0, hV, rfl, hfz, hnd⟩ := hW
  have hA : DataW.TrodAll enc Tryz.prog W 0 (fun _ => true) true Tryz.f3.params.toList args.toList ds p := hA0
  rw [Tryz.params3] at hA hval
  obtain ⟨v0, vs0, d0, ds0, p0, q0, hargs, rfl, rfl, h0, r0⟩ := trodAll_cons hA
  obtain ⟨rfl, rfl, rfl⟩ := trodAll_nil r0
  obtain rfl : args = #[v0] := by cases args; simp_all
  obtain ⟨rfl, rfl⟩ := trodVars_none hV
  have k0 := h0
  have lt0 : ∀ x ∈ p0, x.block < W.heap.size := by obtain ⟨m, hm⟩ := k0; exact DataW.trod_lt m _ _ _ hm
  obtain ⟨x0, x1, x2, x3, x4, x5, x6, x7, x8, x9, xa, xb, rfl⟩ := open_inputs (hval 0 24 v0 rfl rfl) h0
  clear hA0 hval0
  refine (pilotNil_walk x0 x1 x2 x3 x4 x5 x6 x7 x8 x9 xa xb W).mono fun e W' ⟨he, hg⟩ => ?_
  subst he
  exact ⟨_, rfl, _, _, _, [], _, [], hW', (trodAll_cons_mk (shut_bool Tryz.underlying4 _) trodAll_mk0), (trodAll_cons_mk (Below.trod pn_laid (by kernel_rfl) (of_decide_eq_true (by kernel_rfl)) k0 hg lt0) trodAll_mk0), rfl, hg.frame _, fun h => by cases h⟩
theorem band {a b : Bool} (h : a = true) (k : b = true) : (a && b) = true := by rw [h, k]; rfl
set_option maxHeartbeats 20000000 in
theorem pn_facts : joinedFacts Tryz.prog 3 Tryz.f3 Rows.pilotNilSpec Rows.pilotNilRow = true := by
  unfold joinedFacts
  refine band ?_ (by as_aux_lemma => kernel_rfl)
  refine band ?_ (by as_aux_lemma => kernel_rfl)
  refine band ?_ (by as_aux_lemma => kernel_rfl)
  refine band ?_ (by as_aux_lemma => kernel_rfl)
  refine band ?_ (by as_aux_lemma => kernel_rfl)
  refine band ?_ (by as_aux_lemma => kernel_rfl)
  refine band ?_ (by as_aux_lemma => kernel_rfl)
  refine band ?_ (by as_aux_lemma => kernel_rfl)
  refine band ?_ (by as_aux_lemma => kernel_rfl)
  refine band ?_ (by as_aux_lemma => kernel_rfl)
  refine band ?_ (by as_aux_lemma => kernel_rfl)
  refine band ?_ (by as_aux_lemma => kernel_rfl)
  refine band ?_ (by as_aux_lemma => kernel_rfl)
  refine band ?_ (by as_aux_lemma => kernel_rfl)
  refine band ?_ (by as_aux_lemma => kernel_rfl)
  refine band ?_ (by as_aux_lemma => kernel_rfl)
  refine band ?_ (by as_aux_lemma => kernel_rfl)
  refine band ?_ (by as_aux_lemma => kernel_rfl)
  refine band ?_ (by as_aux_lemma => kernel_rfl)
  refine band ?_ (by as_aux_lemma => kernel_rfl)
  refine band ?_ (by as_aux_lemma => kernel_rfl)
  refine band ?_ (by as_aux_lemma => kernel_rfl)
  refine band ?_ (by as_aux_lemma => kernel_rfl)
  refine band ?_ (by as_aux_lemma => kernel_rfl)
  refine band ?_ (by as_aux_lemma => kernel_rfl)
  refine band ?_ (by as_aux_lemma => kernel_rfl)
  refine band ?_ (by as_aux_lemma => kernel_rfl)
  refine band ?_ (by as_aux_lemma => kernel_rfl)
  refine band ?_ (by as_aux_lemma => kernel_rfl)
  refine band ?_ (by as_aux_lemma => kernel_rfl)
  refine band ?_ (by as_aux_lemma => kernel_rfl)
  as_aux_lemma => kernel_rfl
theorem pn_holds : Rows.PilotNilSaid :=
  OpenClaim.holds_of_wide 3 Tryz.f3 rfl rfl rfl rfl rfl rfl rfl ⟨rfl, rfl, rfl, rfl, rfl⟩ rfl rfl rfl rfl rfl (by kernel_rfl) Tryz.func3 pn_facts
    (of_decide_eq_true (by kernel_rfl)) (by unfold Func.isWrapper; first | (rw [if_pos (by decide +kernel)]; kernel_rfl) | (rw [if_neg (by decide +kernel)]; exact ⟨rfl, rfl⟩))
    (fun os started H enc _ => pn_lifted os started H enc)
theorem pn_card : Rows.PilotNilCardSaid :=
  Claim7.holds_tied_plain_at .later [] [.sentinel, .sentinel] true (true, "9c7a9aa8ea9639bf93a6be536994dbccf50cd98802316a543548ef889481ad32") true
    pn_holds (fun _ h => by cases h) (by kernel_rfl) (fun _ h => by cases h) pilotNil_row_tie rfl ⟨rfl, rfl⟩ (by kernel_rfl) rfl
    (fun f fn hf hfn => by
      obtain rfl : f = 3 := Option.some.inj ((show Tryz.prog.funcNamed "windhover/windhoverlaw24.PilotNil" = some 3 by kernel_rfl).symm.trans hf) |>.symm
      obtain rfl : fn = Tryz.f3 := (Option.some.inj (Tryz.func3.symm.trans hfn)).symm
      exact ⟨by kernel_rfl, fun j t ht => by
        rw [Tryz.params3] at ht
        have hm : t ∈ [24] := by simpa using Array.mem_of_getElem? ht
        have hall : ([24].all fun u => !Tryz.prog.wantsStandIn u) = true := by kernel_rfl
        exact (show Tryz.prog.wantsStandIn t = false by simpa using List.all_eq_true.1 hall t hm)⟩)
    (goes_all pn_goes _ _ rfl).symm
end Go.Proofs.YtapfaaaepnplcaaGreatDoor
