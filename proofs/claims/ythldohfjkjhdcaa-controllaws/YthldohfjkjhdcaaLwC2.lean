/- What ControlLaws answers: true, at every three numbers. -/
import Derived.Test.YthldohfjkjhdcaaCr2
import Derived.Test.YthldohfjkjhdcaaCo5
namespace Go.Proofs.Ythldohfjkjhdcaa
open Go.RowKit Go.Great

set_option maxHeartbeats 1000000 in
theorem ControlLaws_walk (f s a : Int) (hf : I64 f) (hs : I64 s) (ha : I64 a) (w : World) : Calls Try.prog 3 #[.int .i64 f, .int .i64 s, .int .i64 a] w fun e w' => e = .returned (.bool true) ∧ Below w.heap.size w w' := by
  have L1 := hide (fun W => law_any f s a W hf hs ha)
  have L2 := hide (fun W => rlaw_any f s a W hf hs ha)
  have T1 := hide (fun W => twist_any f s a W hs ha)
  have T2 := hide (fun W => rtwist_any f s a W hs ha)
  generalize lawS f s a = x at *
  generalize twG f s a = y at *
  have ex : (x == x) = true := by simp
  have ey : (y == y) = true := by simp
  clear hf hs ha
  go_enter Try.func3, Try.ntmps3
  go_wp2_with fail
  refine (L1.out _).mono ?_
  rintro e w1 ⟨rfl, hw⟩
  obtain rfl := hw.symm
  go_wp2_with fail
  refine (L2.out _).mono ?_
  rintro e w2 ⟨rfl, b2⟩
  have H2 := hide b2
  clear b2
  go_wp2_with fail
  refine (T1.out _).mono ?_
  rintro e w3 ⟨rfl, hw⟩
  obtain rfl := hw.symm
  go_wp2_with fail
  refine (T2.out _).mono ?_
  rintro e w4 ⟨rfl, b4⟩
  have H4 := hide (below_next H2.out (Nat.le_refl _) b4)
  clear b4 H2
  go_wp2_with fail
  refine (awakeC _).mono ?_
  rintro e w5 ⟨rfl, b5⟩
  go_wp2_with fail
  go_ret
  exact ⟨rfl, below_next H4.out (Nat.le_refl _) b5⟩
end Go.Proofs.Ythldohfjkjhdcaa
