/- The document's Side; whether a polygon that was lent is as it was. -/
import Derived.Test.YtnenbbkkhnlgbaaGrF
import Derived.Test.YtnenbbkkhnlgbaaLwSt
namespace Go.Proofs.Ytnenbbkkhnlgbaa
open Go.RowKit Go.Great

theorem point_neq (a b a' b' : Int) (wx : World) : (binOp .neq 39 (.agg #[.int .i64 a, .int .i64 b]) (.agg #[.int .i64 a', .int .i64 b'])).run Try.prog wx = .ok (.bool (!(decide (a = a') && decide (b = b')))) wx := by
  by_cases h1 : a = a'
  · by_cases h2 : b = b' <;> simp [go_sem, h1, h2]
  · simp [go_sem, h1]
end Go.Proofs.Ytnenbbkkhnlgbaa
