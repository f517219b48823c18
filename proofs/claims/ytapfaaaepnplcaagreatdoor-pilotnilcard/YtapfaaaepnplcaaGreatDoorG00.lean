/- PnF. -/
import Derived.Test.YtapfaaaepnplcaaGreatDoorRows
import Derived.WalkKit
import Derived.ProofKit
import Derived.OpenShut
import Derived.LaidMore
import Derived.Stop.Joined
import GoSem.ClaimGoes
namespace Go.Proofs.YtapfaaaepnplcaaGreatDoor
open Go.ChangeShapes Go.WideShapes Go.ChangeAt Go.RowKit
set_option linter.unusedVariables false
abbrev laid2 {H : Type} : List (String × DataW H) := [("windhover/pilot.errUnknown", Rows.laid_windhover_pilot_errUnknown), ("windhover/pilot.errDenied", Rows.laid_windhover_pilot_errDenied)]
theorem pn_own : ownKnob Tryz.prog.godebug = none := by kernel_rfl
theorem pn_door (os : Os) (args : Array Value) : laidMetH Tryz.prog laid2 ((World.doorLaid Tryz.prog 400 os).forCall (fun _ _ => 0) ⟨#[], args, []⟩).memory :=
  laidMetH_of_parts3 (fuel := 8) (laidMet_of_run' 8 (by kernel_rfl) (by kernel_rfl)) (by kernel_rfl) (by kernel_rfl)
/-- no body of the whole translation starts a goroutine -/
theorem goes_all {P : Program} (h : P.funcs.any Func.goes = false) (st : Start) (f : String) (hi : st = .entering) : P.goesAt st f = false := by
  subst hi
  have hf : ∀ g : FuncId, (P.funcs[g]?).any Func.goes = false := fun g => by
    cases hg : P.funcs[g]? with
    | none => rfl
    | some fn =>
      have hm := Array.any_eq_false'.1 h fn (Array.mem_of_getElem? hg)
      simpa using hm
  unfold Program.goesAt Program.goesFrom
  simp only [Bool.or_false]
  cases hq : P.funcNamed f with
  | none => rfl
  | some g =>
    show P.goes g = false
    unfold Program.goes
    rw [h, Bool.and_false, Bool.or_false, List.any_eq_false]
    intro x _
    simp [hf x]
theorem pn_goes : Tryz.prog.funcs.any Func.goes = false := by kernel_rfl
end Go.Proofs.YtapfaaaepnplcaaGreatDoor
