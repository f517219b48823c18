/- The examples that each statement looks at beside its own words ('awake') come out true. -/
import Derived.Test.YtcfoeknijgiboaaFix
namespace Go.Proofs.Ytcfoeknijgiboaa
open Go.RowKit
theorem sqrt_15 : sqrtFrom 32 15 0 = 3 := by decide +kernel
theorem up_7 : -(-(-7 : Int) / 2) = -3 := by decide
theorem down_7 : (-7 : Int) / 2 = -4 := by decide
theorem sat_small (x : Int) (h : -1000 ≤ x) (h' : x ≤ 1000) : sat x = x := by unfold sat; split <;> (try split) <;> omega
set_option maxHeartbeats 1000000 in
theorem awake_any (w : World) : Calls Try.prog 14 #[] w fun e w' => e = .returned (.bool true) ∧ ∃ n, w' = w.drewN n := by
  have i (x : Int) (h : -1000 ≤ x) (h' : x ≤ 1000) : I64 x := by unfold I64; omega
  have II := hide i
  clear i
  go_enter Try.func14, Try.ntmps14
  go_wp2_with (first
    | (go_at_call 12; refine (muldiv_ex _).mono ?_; rintro e w' ⟨rfl, n, rfl⟩)
    | (go_at_call 33; refine (up_any _ _ _ (II.out _ (by decide) (by decide)) (by decide)).mono ?_; rintro e w' ⟨rfl, rfl⟩; rw [up_7])
    | (go_at_call 34; refine (down_any _ _ _ (II.out _ (by decide) (by decide)) (by decide)).mono ?_; rintro e w' ⟨rfl, rfl⟩; rw [down_7])
    | (go_at_call 35; refine (add_any _ _ _ (II.out _ (by decide) (by decide)) (II.out _ (by decide) (by decide))).mono ?_; rintro e w' ⟨rfl, rfl⟩; rw [sat_small _ (by decide) (by decide)])
    | (go_at_call 36; refine (sub_any _ _ _ (II.out _ (by decide) (by decide)) (II.out _ (by decide) (by decide))).mono ?_; rintro e w' ⟨rfl, rfl⟩; rw [sat_small _ (by decide) (by decide)])
    | (go_at_call 37; refine (mul_any _ _ _ (II.out _ (by decide) (by decide)) (II.out _ (by decide) (by decide))).mono ?_; rintro e w' ⟨rfl, rfl⟩; rw [sat_small _ (by decide) (by decide)])
    | (go_at_call 38; refine (clamp_any _ _ _ _).mono ?_; rintro e w' ⟨rfl, rfl⟩; rw [show clamp 5 1 3 = 3 by decide])
    | (go_at_call 39; refine (sqrt_any _ _ (II.out _ (by decide) (by decide))).mono ?_; rintro e w' ⟨rfl, rfl⟩; rw [sqrt_15])
    | (go_at_call 40; refine (slew_any _ _ _ _ (II.out _ (by decide) (by decide)) (II.out _ (by decide) (by decide)) (II.out _ (by decide) (by decide))).mono ?_; rintro e w' ⟨rfl, rfl⟩; rw [show slew 0 10 3 = 3 by decide])
    | (go_at_call 41; refine (middle_any _ _ _ (II.out _ (by decide) (by decide)) (II.out _ (by decide) (by decide))).mono ?_; rintro e w' ⟨rfl, rfl⟩))
  go_ret
  exact ⟨rfl, _, rfl⟩
end Go.Proofs.Ytcfoeknijgiboaa
