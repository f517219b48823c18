/- What the reference finds wrong with parameters. -/
import Derived.Test.YthldohfjkjhdcaaPr1
namespace Go.Proofs.Ythldohfjkjhdcaa
open Go.RowKit Go.Great

end Go.Proofs.Ythldohfjkjhdcaa
