/- What ControlNil answers: true, at every number. -/
import Derived.Test.YthldohfjkjhdcaaCo5
namespace Go.Proofs.Ythldohfjkjhdcaa
open Go.RowKit Go.Great

set_option maxHeartbeats 1000000 in
theorem ControlNil_walk (x : Int) (w : World) : Calls Try.prog 8 #[.int .i64 x] w fun e w' => e = .returned (.bool true) ∧ Below w.heap.size w w' := by
  have EQ := eql_arr 0 0 0 0 0 0
  have RE := hide (rest_nil x x x)
  have ST := hide (step_nil ⟨false, 0, x⟩ ⟨false, 0, 0⟩ ⟨false, 0, 0⟩ 0 0 0 0 0 0)
  have RF := hide refs_nil
  have AW := hide awakeC
  go_enter Try.func8, Try.ntmps8
  go_wp2_with fail
  refine (RE.out _).mono ?_
  rintro e w1 ⟨rfl, hb1⟩
  have H1 := hide hb1
  clear hb1
  go_wp2_with fail
  refine (ST.out _).mono ?_
  rintro e w2 ⟨rfl, hb2⟩
  have H2 := hide (below_next H1.out (Nat.le_refl _) hb2)
  clear hb2 H1
  go_wp2_with fail
  refine (RF.out _).mono ?_
  rintro e w3 ⟨rfl, hb3⟩
  have H3 := hide (below_next H2.out (Nat.le_refl _) hb3)
  clear hb3 H2
  go_wp2_with fail
  refine (AW.out _).mono ?_
  rintro e w4 ⟨rfl, hb4⟩
  go_wp2_with fail
  go_ret
  exact ⟨rfl, below_next H3.out (Nat.le_refl _) hb4⟩
end Go.Proofs.Ythldohfjkjhdcaa
