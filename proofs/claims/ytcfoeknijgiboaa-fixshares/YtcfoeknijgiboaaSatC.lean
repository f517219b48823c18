/- The three cases of a number that is kept within an int. -/
import Derived.Test.YtcfoeknijgiboaaFix
namespace Go.Proofs.Ytcfoeknijgiboaa
theorem sat_cases (x : Int) : (x < -9223372036854775808 ∧ sat x = -9223372036854775808) ∨ (9223372036854775807 < x ∧ sat x = 9223372036854775807) ∨ (-9223372036854775808 ≤ x ∧ x ≤ 9223372036854775807 ∧ sat x = x) := by
  unfold sat; split <;> (try split) <;> omega
end Go.Proofs.Ytcfoeknijgiboaa
