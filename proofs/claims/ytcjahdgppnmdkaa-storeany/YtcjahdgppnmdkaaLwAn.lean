/- StoreAny. -/
import Derived.Test.YtcjahdgppnmdkaaSoDe
set_option maxRecDepth 100000
namespace Go.Proofs.Ytcjahdgppnmdkaa
open Go.RowKit Go.Great

end Go.Proofs.Ytcjahdgppnmdkaa
