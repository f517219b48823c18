/- What FixSums answers: true, at every two numbers. -/
import Derived.Test.YtpefkflllpamjaaAwake
import Derived.Test.YtpefkflllpamjaaTimesAny
import Derived.Test.YtpefkflllpamjaaKept
namespace Go.Proofs.Ytpefkflllpamjaa
open Go.RowKit

set_option maxHeartbeats 1000000 in
theorem ref_mul_any (a b : Int) (w : World) (ha : I64 a) (hb : I64 b) : Calls Try.prog 14 #[.int .i64 a, .int .i64 b] w fun e w' => e = .returned (.int .i64 (sat (a * b))) ∧ Below w.heap.size w w' := by
  have HA := hide ha
  have HB := hide hb
  clear ha hb
  go_enter Try.func14, Try.ntmps14
  go_wp2_with fail
  refine (of_any a _ HA.out).mono ?_
  rintro e w1 ⟨v1, rfl, h1, k1⟩
  go_wp2_with fail
  refine (of_any b _ HB.out).mono ?_
  rintro e w2 ⟨v2, rfl, h2, k2⟩
  go_wp2_with fail
  refine (times_any _ _ a b 3 3 6 _ (k1.below h2) k2 (by omega) (by omega) (by omega)).mono ?_
  rintro e w3 ⟨v3, rfl, h3, k3⟩
  go_wp2_with fail
  refine (kept_any _ (a * b) 6 _ k3 (by omega)).mono ?_
  rintro e w4 ⟨rfl, h4⟩
  go_wp2_with fail
  go_ret
  exact ⟨rfl, below_step (below_step (below_step h1 (Nat.le_refl _) h2) (Nat.le_refl _) h3) (Nat.le_refl _) h4⟩
set_option maxHeartbeats 2000000 in
theorem FixSums_walk (a b : Int) (ha : I64 a) (hb : I64 b) (w : World) : Calls Try.prog 3 #[.int .i64 a, .int .i64 b] w fun e w' => e = .returned (.bool true) ∧ Below w.heap.size w w' := by
  have HA := hide ha
  have HB := hide hb
  clear ha hb
  go_enter Try.func3, Try.ntmps3
  go_wp2_with fail
  refine (add_any a b _ HA.out HB.out).mono ?_
  rintro e w0 ⟨rfl, rfl⟩
  go_wp2_with fail
  refine (ref_add_any a b _ HA.out HB.out).mono ?_
  rintro e w1 ⟨rfl, h1⟩
  have H1 := hide h1; clear h1
  generalize sat (a + b) = x
  have e1 : (x == x) = true := by simp
  go_wp2_with fail
  refine (sub_any a b _ HA.out HB.out).mono ?_
  rintro e w2 ⟨rfl, rfl⟩
  go_wp2_with fail
  refine (ref_sub_any a b _ HA.out HB.out).mono ?_
  rintro e w3 ⟨rfl, h3⟩
  have H3 := hide h3; clear h3
  generalize sat (a - b) = y
  have e2 : (y == y) = true := by simp
  go_wp2_with fail
  refine (mul_any a b _ HA.out HB.out).mono ?_
  rintro e w4 ⟨rfl, rfl⟩
  go_wp2_with fail
  refine (ref_mul_any a b _ HA.out HB.out).mono ?_
  rintro e w5 ⟨rfl, h5⟩
  have H5 := hide h5; clear h5
  generalize sat (a * b) = z
  have e3 : (z == z) = true := by simp
  go_wp2_with fail
  refine (awake_any _).mono ?_
  rintro e w6 ⟨rfl, n, rfl⟩
  go_wp2_with fail
  go_ret
  exact ⟨rfl, below_draw (below_step (below_step H1.out (Nat.le_refl _) H3.out) (Nat.le_refl _) H5.out) _⟩
end Go.Proofs.Ytpefkflllpamjaa
