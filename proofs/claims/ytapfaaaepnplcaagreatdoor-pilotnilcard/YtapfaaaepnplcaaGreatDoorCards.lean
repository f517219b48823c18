/-
  DERIVED. GIVEN WITH THE SEED: THE CARDS: each row of YtapfaaaepnplcaaGreatDoorRows.lean that lists a variable, with what it lists TIED to the program's text (the seventh form; the later family's looks); each row that meets fmt, with fmt's text TOLD by the authors' own Lean function (tested against real Go, not proved from fmt's source: count such statements apart). THE CARD IS WHAT COUNTS. Prove the row's statement (the work); the ties are given (YtapfaaaepnplcaaGreatDoorTie.lean); close each card by the builder's one call (the guide's Derived/Test/ToyasCard.lean, 'card_holds'). Laid BY PROGRAM, IN A SANDBOX (cutbox-door.mjs). By AI agents, Wed Nov 11 2026. No macro, syntax, notation, axiom, sorry.
-/
import Derived.Test.YtapfaaaepnplcaaGreatDoorRows
import GoSem.ClaimSeven
namespace Go.Proofs.YtapfaaaepnplcaaGreatDoor
namespace Rows

/-- THE TIED CARD OF 'windhoverlaw24.PilotNil'. -/
def pilotNilCard : Claim7 := { stood := { row := pilotNilRow, standIns := [], harness := (true, "9c7a9aa8ea9639bf93a6be536994dbccf50cd98802316a543548ef889481ad32"), looks := true }, kinds := [], alts := [], laidByText := true, laidKinds := [.sentinel, .sentinel], laidTests := true, laidLooks := .later }
def PilotNilCardSaid : Prop := Claim7.holds Tryz.pinned (.plain (OpenSpec.ofChange pilotNilSpec)) pilotNilCard

/-- THE SECOND FORM's CARD OF 'windhoverlaw24.PilotNil'. -/
def pilotNilUptoCard : Claim7 := { stood := { row := pilotNilUptoRow, standIns := [], harness := (true, "9c7a9aa8ea9639bf93a6be536994dbccf50cd98802316a543548ef889481ad32"), looks := true }, kinds := [], alts := [], laidByText := true, laidKinds := [.sentinel, .sentinel], laidTests := true, laidLooks := .later }
def PilotNilUptoCardSaid : Prop := Claim7.holds Tryz.pinned (.plain (OpenSpec.upto pilotNilSpec)) pilotNilUptoCard
end Rows
end Go.Proofs.YtapfaaaepnplcaaGreatDoor
