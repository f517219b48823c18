/- What GuardNil answers: true, at every number. -/
import Derived.Test.YtjinfjibodoflaaGu5
namespace Go.Proofs.Ytjinfjibodoflaa
open Go.RowKit Go.Great

set_option maxHeartbeats 1000000 in
theorem GuardNil_walk (x : Int) (w : World) : Calls Try.prog 9 #[.int .i64 x] w fun e w' => e = .returned (.bool true) ∧ Below w.heap.size w w' := by
  have EQ := eql_arr 0 0 0 0 0 0
  have ST := hide (stepB_nil true x x x x)
  have FA := hide (fallNil x)
  have AW := hide awakeU
  go_enter Try.func9, Try.ntmps9
  go_wp2_with fail
  refine (ST.out _).mono ?_
  rintro e w1 ⟨rfl, hb1⟩
  have H1 := hide hb1
  clear hb1
  go_wp2_with fail
  refine (FA.out _).mono ?_
  rintro e w2 ⟨rfl, n, hw⟩
  have H2 : Hid (Below w.heap.size w w2) := by rw [hw]; exact hide (below_drewN H1.out n)
  clear hw H1
  go_wp2_with fail
  refine (AW.out _).mono ?_
  rintro e w4 ⟨rfl, hb4⟩
  go_wp2_with fail
  go_ret
  exact ⟨rfl, below_next H2.out (Nat.le_refl _) hb4⟩
end Go.Proofs.Ytjinfjibodoflaa
