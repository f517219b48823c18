/- FrameNil. -/
import Derived.Test.YtijdobhdjmmgmaaFr7
namespace Go.Proofs.Ytijdobhdjmmgmaa
open Go.RowKit Go.Great

theorem FrameNil_walk (d : ByteArray) (_ : d.size ≤ 140737488351232) (w : World) : Calls Try.prog 10 #[.string d] w fun e w' => e = .returned (.bool true) ∧ Below w.heap.size w w' := by
  go_enter Try.func10, Try.ntmps10
  go_wp2_with fail
  refine (awake_any _).mono ?_
  rintro e w1 ⟨rfl, h1⟩
  go_wp2_with fail
  refine (feed_nil _ _).mono ?_
  rintro e w2 ⟨rfl, hw2⟩
  obtain rfl : w1 = w2 := hw2.symm
  go_wp2_with fail
  refine (bad_nil _).mono ?_
  rintro e w2 ⟨rfl, hw2⟩
  obtain rfl : w1 = w2 := hw2.symm
  go_wp2_with fail
  refine (held_nil _).mono ?_
  rintro e w2 ⟨rfl, hw2⟩
  obtain rfl : w1 = w2 := hw2.symm
  go_wp2_with fail
  go_ret
  exact ⟨rfl, h1⟩
end Go.Proofs.Ytijdobhdjmmgmaa
