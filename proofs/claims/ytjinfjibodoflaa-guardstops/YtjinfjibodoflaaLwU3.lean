/- What GuardStops answers: true, at every velocity and braking. -/
import Derived.Test.YtjinfjibodoflaaGs1
namespace Go.Proofs.Ytjinfjibodoflaa
open Go.RowKit Go.Great

set_option maxHeartbeats 1000000 in
theorem GuardStops_walk (v b : Int) (hv : I64 v) (hb : I64 b) (w : World) : Calls Try.prog 3 #[.int .i64 v, .int .i64 b] w fun e w' => e = .returned (.bool true) ∧ Below w.heap.size w w' := by
  have SP := hide (fun W => stop_any v b W hv hb)
  have RS := hide (fun W => rstop_any v b W hv hb)
  generalize stp v b = s at *
  have es : (s == s) = true := by simp
  clear hv hb
  go_enter Try.func3, Try.ntmps3
  go_wp2_with fail
  refine (SP.out _).mono ?_
  rintro e w1 ⟨rfl, n, hw⟩
  have Hb : Hid (Below w.heap.size w w1) := by rw [hw]; exact hide (below_drewN (Below.refl _ _) n)
  clear hw
  go_wp2_with fail
  refine (RS.out _).mono ?_
  rintro e w2 ⟨rfl, hb⟩
  replace Hb := hide (below_next Hb.out (Nat.le_refl _) hb)
  clear hb
  go_wp2_with fail
  refine (awakeU _).mono ?_
  rintro e w3 ⟨rfl, hb⟩
  replace Hb := hide (below_next Hb.out (Nat.le_refl _) hb)
  clear hb
  go_wp2_with fail
  go_ret
  exact ⟨rfl, Hb.out⟩
end Go.Proofs.Ytjinfjibodoflaa
