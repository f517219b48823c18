/- PnL. -/
import Derived.Test.YtapfaaaepnplcaaGreatDoorProg
import Derived.Carry
namespace Go.Proofs.YtapfaaaepnplcaaGreatDoor
open Go.ChangeShapes Go.WideShapes Go.RowKit
set_option maxRecDepth 100000
theorem pn_laid : laidOutB Tryz.prog = true := by
  have a : (List.range Tryz.prog.types.size).all (rowFine Tryz.prog) = true := by kernel_rfl
  have b : Tryz.prog.globals.all (fun g => decide (g.type < Tryz.prog.types.size)) = true := by kernel_rfl
  have c : Tryz.prog.funcs.all (fun f => f.params.all fun t => decide (t < Tryz.prog.types.size)) = true := by kernel_rfl
  unfold laidOutB
  rw [a, b, c]
  rfl
end Go.Proofs.YtapfaaaepnplcaaGreatDoor
