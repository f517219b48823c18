/- The statements' own closed examples; ParamsChecks. -/
import Derived.Test.YthldohfjkjhdcaaPa6
import Derived.Test.YthldohfjkjhdcaaOp0
namespace Go.Proofs.Ythldohfjkjhdcaa
open Go.RowKit Go.Great

theorem deL_mar : marE deL = ⟨58, 12, 258, 16398, 701, 4⟩ := by kernel_rfl
theorem deL_land : landE deL 0 = (959, 0) := by decide +kernel
theorem chk_nil : chk [] = 3 := by decide +kernel
theorem chk_deL : chk deL = 0 := by decide +kernel
theorem IRow.slice {w : World} {base : Nat} {v : Value} {l : List Int} (h : IRow w base v l) : ∃ a cap, v = .slice a l.length cap := h.shape
end Go.Proofs.Ythldohfjkjhdcaa
