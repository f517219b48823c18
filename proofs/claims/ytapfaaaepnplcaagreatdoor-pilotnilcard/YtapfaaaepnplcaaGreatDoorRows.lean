/-
  NARROWER THAN 'FOR EVERY INPUT', by the rows' own cells (each row's printed sentence says how): PilotNil: laid.
  DERIVED. THE GIVEN ROWS OF THIS SEAT. 1 by the template 'for every input the law returns true; each argument reads behind the call as it read before'; 0 by the template 'total and deterministic' (their statements: YtapfaaaepnplcaaGreatDoorTotals.lean).
  GIVEN WITH THE SEED: the statements are not yours to turn. If you find one false, say at which input.
  Laid BY PROGRAM, IN A SANDBOX (cutbox-rows.mjs): the forced cells as the released guide's own fill.sh prints them over the translation 9709420092ee9506… (all of the seat's roots in one cut). By AI agents, Wed Nov 11 2026. No macro, syntax, notation, axiom, sorry.
-/
import Derived.Test.YtapfaaaepnplcaaGreatDoorChecked
import GoSem.Claim
import GoSem.ClaimJoined
import GoSem.ClaimMapViews
import Derived.JoinedTies
import Derived.KernelRfl
namespace Go.Proofs.YtapfaaaepnplcaaGreatDoor
/- THE CELL 'sum', in the pinned program and in every row, IS THE sha256 OF THE DUMP (.gsa) THAT YtapfaaaepnplcaaGreatDoorProg.lean LOADS. Nothing in Lean hashes anything: it is a label: what it is worth is what the hold of that sum in a sandbox is worth. -/
noncomputable def Tryz.pinned : Pinned := { name := "ytapfaaaepnplcaagreatdoor", sum := "9709420092ee9506f0459ac46acea0c070e97e2fb33b73abc6612062c20c0a56", checked := Tryz.checked }
namespace Rows
def none {H : Type} : Left H := { results := [], args := [] }

/- WHAT THE LISTED PACKAGE-LEVEL VARIABLES READ AS WHEN THE CALL BEGINS. Each datum BY PROGRAM (the guide's laid-datum.mjs) off the statement by which the dump's own 'gosem.cut.vars' lays the variable. In a bare row this is a premise. The card (YtapfaaaepnplcaaGreatDoorCards.lean) ties it to the program's text. -/
def laid_windhover_pilot_errUnknown {H : Type} : DataW H := .iface "*errors.errorString" (.ptr (.agg [.lit (.string [110, 111, 32, 115, 117, 99, 104, 32, 111, 114, 100, 101, 114])]))
def laid_windhover_pilot_errDenied {H : Type} : DataW H := .iface "*errors.errorString" (.ptr (.agg [.lit (.string [110, 111, 116, 32, 110, 111, 119])]))

/-- 'windhoverlaw24.PilotNil': WHATEVER THE INPUT: true; the input reads as it did. -/
def pilotNilSpec : ChangeSpec := { name := "pilotNil", fn := fun _ => fun
  | [d] => { results := [.lit (.bool true)], args := [d] }
  | _ => none }
def pilotNilRow : OpenClaim := { program := "ytapfaaaepnplcaagreatdoor", sum := "9709420092ee9506f0459ac46acea0c070e97e2fb33b73abc6612062c20c0a56", func := "windhover/windhoverlaw24.PilotNil", spec := "pilotNil", inPlace := ["internal/bytealg.IndexByteString", "internal/reflectlite.TypeOf", "maps.clone"], unfollowed := true, recurses := true, named := ["windhover/pilot.errDenied", "windhover/pilot.errUnknown", "math/bits.divideError", "math/bits.overflowError"], apart := false, laid := [("windhover/pilot.errUnknown", laid_windhover_pilot_errUnknown), ("windhover/pilot.errDenied", laid_windhover_pilot_errDenied)] }
def PilotNilSaid : Prop := pilotNilRow.holds Tryz.pinned (OpenSpec.ofChange pilotNilSpec)

/-- ITS FALSE NEIGHBOUR: 'it returns false'. Refute it at one input. -/
def pilotNilWrong : ChangeSpec := { name := "pilotNil", fn := fun _ => fun
  | [d] => { results := [.lit (.bool false)], args := [d] }
  | _ => none }
def PilotNilWrongFalsely : Prop := pilotNilRow.holds Tryz.pinned (OpenSpec.ofChange pilotNilWrong)

/- THE SECOND FORM. 'bulk': how many values and letters a reading holds, each counted each time it is reached (what is shared counts as often as it is met; a slice's spare places count too). A statement '..UptoSaid' is the law's where the arguments, and the package variables that the reading takes, are together of bulk at most 1048576: NARROWER than '..Said'. Prove '..Said' where nothing that the law and all that it calls make is longer than what came in: it says more and counts as full. Else prove '..UptoSaid'. A law counts once. -/
mutual
def uptoBulk {H : Type} : DataW H → Nat
  | .lit (.string bytes) => bytes.length + 1
  | .lit _ => 1
  | .nil => 1
  | .ptr d => uptoBulk d + 1
  | .slice elems spare => uptoBulkAll elems + uptoBulkAll spare + 1
  | .agg parts => uptoBulkAll parts + 1
  | .iface _ d => uptoBulk d + 1
  | .map entries => uptoBulkEntries entries + 1
  | .held _ => 1
def uptoBulkAll {H : Type} : List (DataW H) → Nat
  | [] => 0
  | d :: r => uptoBulk d + uptoBulkAll r
def uptoBulkEntries {H : Type} : List (Lit × DataW H) → Nat
  | [] => 0
  | x :: r => uptoBulkEntry x + uptoBulkEntries r
def uptoBulkEntry {H : Type} : Lit × DataW H → Nat
  | (.string bytes, d) => bytes.length + uptoBulk d + 1
  | (_, d) => uptoBulk d + 1
 end
def uptoSmall : (H : Type) → List (DataW H) → Bool := fun _ ds => decide (uptoBulkAll ds ≤ 1048576)
def OpenSpec.upto (s : _root_.Go.ChangeSpec) : _root_.Go.OpenSpec := { _root_.Go.OpenSpec.ofChange s with cond := some uptoSmall }

/-- 'windhoverlaw24.PilotNil', WHERE WHAT IT READS IS OF BULK AT MOST 1048576: true; the input reads as it did. -/
def pilotNilUptoRow : OpenClaim := { program := "ytapfaaaepnplcaagreatdoor", sum := "9709420092ee9506f0459ac46acea0c070e97e2fb33b73abc6612062c20c0a56", func := "windhover/windhoverlaw24.PilotNil", spec := "pilotNil", inPlace := ["internal/bytealg.IndexByteString", "internal/reflectlite.TypeOf", "maps.clone"], unfollowed := true, recurses := true, named := ["windhover/pilot.errDenied", "windhover/pilot.errUnknown", "math/bits.divideError", "math/bits.overflowError"], apart := false, laid := [("windhover/pilot.errUnknown", laid_windhover_pilot_errUnknown), ("windhover/pilot.errDenied", laid_windhover_pilot_errDenied)], narrowed := true }
def PilotNilUptoSaid : Prop := pilotNilUptoRow.holds Tryz.pinned (OpenSpec.upto pilotNilSpec)

end Rows
end Go.Proofs.YtapfaaaepnplcaaGreatDoor
