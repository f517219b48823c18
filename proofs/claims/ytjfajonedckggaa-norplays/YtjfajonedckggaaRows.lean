/-
  No cell of these rows narrows 'for every input' (looked for: loops, veiled, ifaces, maps, wideKeys, modest, calm, conditions, laid).
  DERIVED. THE GIVEN ROWS OF THIS SEAT. 6 by the template 'for every input the law returns true; each argument reads behind the call as it read before'; 0 by the template 'total and deterministic' (their statements: YtjfajonedckggaaTotals.lean).
  GIVEN WITH THE SEED: the statements are not yours to turn. If you find one false, say at which input.
  Laid BY PROGRAM, IN A SANDBOX (cutbox-rows.mjs): the forced cells as the released guide's own fill.sh prints them over the translation 099ca2295eb714c5… (all of the seat's roots in one cut). By AI agents, Wed Nov 11 2026. No macro, syntax, notation, axiom, sorry.
-/
import Derived.Test.YtjfajonedckggaaChecked
import GoSem.Claim
import GoSem.ClaimJoined
import GoSem.ClaimMapViews
import Derived.JoinedTies
import Derived.KernelRfl
namespace Go.Proofs.Ytjfajonedckggaa
/- THE CELL 'sum', in the pinned program and in every row, IS THE sha256 OF THE DUMP (.gsa) THAT YtjfajonedckggaaProg.lean LOADS. Nothing in Lean hashes anything: it is a label: what it is worth is what the hold of that sum in a sandbox is worth. -/
noncomputable def Try.pinned : Pinned := { name := "ytjfajonedckggaa", sum := "099ca2295eb714c5c4fd9b77e0b343e950c71e489da295a4cdfbd0f010efc1dc", checked := Try.checked }
namespace Rows
def none {H : Type} : Left H := { results := [], args := [] }

/-- 'windhoverlaw06.NorPlays': WHATEVER THE INPUT: true; the input reads as it did. -/
def norPlaysSpec : ChangeSpec := { name := "norPlays", fn := fun _ => fun
  | [d1, d2] => { results := [.lit (.bool true)], args := [d1, d2] }
  | _ => none }
def norPlaysRow : OpenClaim := { program := "ytjfajonedckggaa", sum := "099ca2295eb714c5c4fd9b77e0b343e950c71e489da295a4cdfbd0f010efc1dc", func := "windhover/windhoverlaw06.NorPlays", spec := "norPlays", apart := false }
def NorPlaysSaid : Prop := norPlaysRow.holds Try.pinned (OpenSpec.ofChange norPlaysSpec)

/-- ITS FALSE NEIGHBOUR: 'it returns false'. Refute it at one input. -/
def norPlaysWrong : ChangeSpec := { name := "norPlays", fn := fun _ => fun
  | [d1, d2] => { results := [.lit (.bool false)], args := [d1, d2] }
  | _ => none }
def NorPlaysWrongFalsely : Prop := norPlaysRow.holds Try.pinned (OpenSpec.ofChange norPlaysWrong)

/-- 'windhoverlaw06.NorClears': WHATEVER THE INPUT: true; the input reads as it did. -/
def norClearsSpec : ChangeSpec := { name := "norClears", fn := fun _ => fun
  | [d1, d2, d3] => { results := [.lit (.bool true)], args := [d1, d2, d3] }
  | _ => none }
def norClearsRow : OpenClaim := { program := "ytjfajonedckggaa", sum := "099ca2295eb714c5c4fd9b77e0b343e950c71e489da295a4cdfbd0f010efc1dc", func := "windhover/windhoverlaw06.NorClears", spec := "norClears", apart := false }
def NorClearsSaid : Prop := norClearsRow.holds Try.pinned (OpenSpec.ofChange norClearsSpec)

/-- ITS FALSE NEIGHBOUR: 'it returns false'. Refute it at one input. -/
def norClearsWrong : ChangeSpec := { name := "norClears", fn := fun _ => fun
  | [d1, d2, d3] => { results := [.lit (.bool false)], args := [d1, d2, d3] }
  | _ => none }
def NorClearsWrongFalsely : Prop := norClearsRow.holds Try.pinned (OpenSpec.ofChange norClearsWrong)

/-- 'windhoverlaw06.NorCuts': WHATEVER THE INPUT: true; the input reads as it did. -/
def norCutsSpec : ChangeSpec := { name := "norCuts", fn := fun _ => fun
  | [d1, d2] => { results := [.lit (.bool true)], args := [d1, d2] }
  | _ => none }
def norCutsRow : OpenClaim := { program := "ytjfajonedckggaa", sum := "099ca2295eb714c5c4fd9b77e0b343e950c71e489da295a4cdfbd0f010efc1dc", func := "windhover/windhoverlaw06.NorCuts", spec := "norCuts", apart := false }
def NorCutsSaid : Prop := norCutsRow.holds Try.pinned (OpenSpec.ofChange norCutsSpec)

/-- ITS FALSE NEIGHBOUR: 'it returns false'. Refute it at one input. -/
def norCutsWrong : ChangeSpec := { name := "norCuts", fn := fun _ => fun
  | [d1, d2] => { results := [.lit (.bool false)], args := [d1, d2] }
  | _ => none }
def NorCutsWrongFalsely : Prop := norCutsRow.holds Try.pinned (OpenSpec.ofChange norCutsWrong)

/-- 'windhoverlaw06.NorErases': WHATEVER THE INPUT: true; the input reads as it did. -/
def norErasesSpec : ChangeSpec := { name := "norErases", fn := fun _ => fun
  | [d1, d2, d3] => { results := [.lit (.bool true)], args := [d1, d2, d3] }
  | _ => none }
def norErasesRow : OpenClaim := { program := "ytjfajonedckggaa", sum := "099ca2295eb714c5c4fd9b77e0b343e950c71e489da295a4cdfbd0f010efc1dc", func := "windhover/windhoverlaw06.NorErases", spec := "norErases", apart := false }
def NorErasesSaid : Prop := norErasesRow.holds Try.pinned (OpenSpec.ofChange norErasesSpec)

/-- ITS FALSE NEIGHBOUR: 'it returns false'. Refute it at one input. -/
def norErasesWrong : ChangeSpec := { name := "norErases", fn := fun _ => fun
  | [d1, d2, d3] => { results := [.lit (.bool false)], args := [d1, d2, d3] }
  | _ => none }
def NorErasesWrongFalsely : Prop := norErasesRow.holds Try.pinned (OpenSpec.ofChange norErasesWrong)

/-- 'windhoverlaw06.NorNil': WHATEVER THE INPUT: true; the input reads as it did. -/
def norNilSpec : ChangeSpec := { name := "norNil", fn := fun _ => fun
  | [d1, d2] => { results := [.lit (.bool true)], args := [d1, d2] }
  | _ => none }
def norNilRow : OpenClaim := { program := "ytjfajonedckggaa", sum := "099ca2295eb714c5c4fd9b77e0b343e950c71e489da295a4cdfbd0f010efc1dc", func := "windhover/windhoverlaw06.NorNil", spec := "norNil", apart := false }
def NorNilSaid : Prop := norNilRow.holds Try.pinned (OpenSpec.ofChange norNilSpec)

/-- ITS FALSE NEIGHBOUR: 'it returns false'. Refute it at one input. -/
def norNilWrong : ChangeSpec := { name := "norNil", fn := fun _ => fun
  | [d1, d2] => { results := [.lit (.bool false)], args := [d1, d2] }
  | _ => none }
def NorNilWrongFalsely : Prop := norNilRow.holds Try.pinned (OpenSpec.ofChange norNilWrong)

/-- 'windhoverlaw06.NorNames': WHATEVER THE INPUT: true; the input reads as it did. -/
def norNamesSpec : ChangeSpec := { name := "norNames", fn := fun _ => fun
  | [] => { results := [.lit (.bool true)], args := [] }
  | _ => none }
def norNamesRow : OpenClaim := { program := "ytjfajonedckggaa", sum := "099ca2295eb714c5c4fd9b77e0b343e950c71e489da295a4cdfbd0f010efc1dc", func := "windhover/windhoverlaw06.NorNames", spec := "norNames", apart := false }
def NorNamesSaid : Prop := norNamesRow.holds Try.pinned (OpenSpec.ofChange norNamesSpec)

/-- ITS FALSE NEIGHBOUR: 'it returns false'. Refute it at one input. -/
def norNamesWrong : ChangeSpec := { name := "norNames", fn := fun _ => fun
  | [] => { results := [.lit (.bool false)], args := [] }
  | _ => none }
def NorNamesWrongFalsely : Prop := norNamesRow.holds Try.pinned (OpenSpec.ofChange norNamesWrong)

/- THE SECOND FORM. 'bulk': how many values and letters a reading holds, each counted each time it is reached (what is shared counts as often as it is met; a slice's spare places count too). A statement '..UptoSaid' is the law's where the arguments, and the package variables that the reading takes, are together of bulk at most 1048576: NARROWER than '..Said'. Prove '..Said' where nothing that the law and all that it calls make is longer than what came in: it says more and counts as full. Else prove '..UptoSaid'. A law counts once. -/
mutual
def uptoBulk {H : Type} : DataW H → Nat
  | .lit (.string bytes) => bytes.length + 1
  | .lit _ => 1
  | .nil => 1
  | .ptr d => uptoBulk d + 1
  | .slice elems spare => uptoBulkAll elems + uptoBulkAll spare + 1
  | .agg parts => uptoBulkAll parts + 1
  | .iface _ d => uptoBulk d + 1
  | .map entries => uptoBulkEntries entries + 1
  | .held _ => 1
def uptoBulkAll {H : Type} : List (DataW H) → Nat
  | [] => 0
  | d :: r => uptoBulk d + uptoBulkAll r
def uptoBulkEntries {H : Type} : List (Lit × DataW H) → Nat
  | [] => 0
  | x :: r => uptoBulkEntry x + uptoBulkEntries r
def uptoBulkEntry {H : Type} : Lit × DataW H → Nat
  | (.string bytes, d) => bytes.length + uptoBulk d + 1
  | (_, d) => uptoBulk d + 1
 end
def uptoSmall : (H : Type) → List (DataW H) → Bool := fun _ ds => decide (uptoBulkAll ds ≤ 1048576)
def OpenSpec.upto (s : _root_.Go.ChangeSpec) : _root_.Go.OpenSpec := { _root_.Go.OpenSpec.ofChange s with cond := some uptoSmall }

/-- 'windhoverlaw06.NorPlays', WHERE WHAT IT READS IS OF BULK AT MOST 1048576: true; the input reads as it did. -/
def norPlaysUptoRow : OpenClaim := { program := "ytjfajonedckggaa", sum := "099ca2295eb714c5c4fd9b77e0b343e950c71e489da295a4cdfbd0f010efc1dc", func := "windhover/windhoverlaw06.NorPlays", spec := "norPlays", apart := false, narrowed := true }
def NorPlaysUptoSaid : Prop := norPlaysUptoRow.holds Try.pinned (OpenSpec.upto norPlaysSpec)

/-- 'windhoverlaw06.NorClears', WHERE WHAT IT READS IS OF BULK AT MOST 1048576: true; the input reads as it did. -/
def norClearsUptoRow : OpenClaim := { program := "ytjfajonedckggaa", sum := "099ca2295eb714c5c4fd9b77e0b343e950c71e489da295a4cdfbd0f010efc1dc", func := "windhover/windhoverlaw06.NorClears", spec := "norClears", apart := false, narrowed := true }
def NorClearsUptoSaid : Prop := norClearsUptoRow.holds Try.pinned (OpenSpec.upto norClearsSpec)

/-- 'windhoverlaw06.NorCuts', WHERE WHAT IT READS IS OF BULK AT MOST 1048576: true; the input reads as it did. -/
def norCutsUptoRow : OpenClaim := { program := "ytjfajonedckggaa", sum := "099ca2295eb714c5c4fd9b77e0b343e950c71e489da295a4cdfbd0f010efc1dc", func := "windhover/windhoverlaw06.NorCuts", spec := "norCuts", apart := false, narrowed := true }
def NorCutsUptoSaid : Prop := norCutsUptoRow.holds Try.pinned (OpenSpec.upto norCutsSpec)

/-- 'windhoverlaw06.NorErases', WHERE WHAT IT READS IS OF BULK AT MOST 1048576: true; the input reads as it did. -/
def norErasesUptoRow : OpenClaim := { program := "ytjfajonedckggaa", sum := "099ca2295eb714c5c4fd9b77e0b343e950c71e489da295a4cdfbd0f010efc1dc", func := "windhover/windhoverlaw06.NorErases", spec := "norErases", apart := false, narrowed := true }
def NorErasesUptoSaid : Prop := norErasesUptoRow.holds Try.pinned (OpenSpec.upto norErasesSpec)

/-- 'windhoverlaw06.NorNil', WHERE WHAT IT READS IS OF BULK AT MOST 1048576: true; the input reads as it did. -/
def norNilUptoRow : OpenClaim := { program := "ytjfajonedckggaa", sum := "099ca2295eb714c5c4fd9b77e0b343e950c71e489da295a4cdfbd0f010efc1dc", func := "windhover/windhoverlaw06.NorNil", spec := "norNil", apart := false, narrowed := true }
def NorNilUptoSaid : Prop := norNilUptoRow.holds Try.pinned (OpenSpec.upto norNilSpec)

/-- 'windhoverlaw06.NorNames', WHERE WHAT IT READS IS OF BULK AT MOST 1048576: true; the input reads as it did. -/
def norNamesUptoRow : OpenClaim := { program := "ytjfajonedckggaa", sum := "099ca2295eb714c5c4fd9b77e0b343e950c71e489da295a4cdfbd0f010efc1dc", func := "windhover/windhoverlaw06.NorNames", spec := "norNames", apart := false, narrowed := true }
def NorNamesUptoSaid : Prop := norNamesUptoRow.holds Try.pinned (OpenSpec.upto norNamesSpec)

end Rows
end Go.Proofs.Ytjfajonedckggaa
