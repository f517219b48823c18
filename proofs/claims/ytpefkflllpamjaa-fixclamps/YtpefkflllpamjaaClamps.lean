/- What 'FixClamps' answers: true, at every three numbers. -/
import Derived.Test.YtpefkflllpamjaaAwake
namespace Go.Proofs.Ytpefkflllpamjaa
open Go.RowKit
theorem below_draws (w : World) (n : Nat) : Below w.heap.size w (w.drewN n) := ⟨rfl, rfl, rfl, Nat.le_refl _, fun _ _ => rfl⟩
set_option maxHeartbeats 400000 in
theorem ref_clamp_any (x lo hi : Int) (w : World) : Calls Try.prog 17 #[.int .i64 x, .int .i64 lo, .int .i64 hi] w fun e w' => e = .returned (.int .i64 (clamp x lo hi)) ∧ w' = w := by
  go_enter Try.func17, Try.ntmps17
  go_wp2
  all_goals (go_ret; refine ⟨ret_int ?_, rfl⟩; unfold clamp; split <;> (try split) <;> omega)
theorem clamp_in (x lo hi : Int) (h : ¬ hi < lo) : decide (lo ≤ clamp x lo hi) = true ∧ decide (clamp x lo hi ≤ hi) = true := by
  simp only [decide_eq_true_eq]; unfold clamp; split <;> (try split) <;> omega
theorem clamp_same (x lo hi : Int) (h : ¬ x < lo) (h' : ¬ hi < x) : (clamp x lo hi == x) = true := by
  rw [beq_iff_eq]; unfold clamp; split <;> (try split) <;> omega
set_option maxHeartbeats 1000000 in
theorem FixClamps_walk (x lo hi : Int) (_ : I64 x) (_ : I64 lo) (_ : I64 hi) (w : World) : Calls Try.prog 4 #[.int .i64 x, .int .i64 lo, .int .i64 hi] w fun e w' => e = .returned (.bool true) ∧ Below w.heap.size w w' := by
  have D1 := hide (clamp_in x lo hi)
  have D2 := hide (clamp_same x lo hi)
  cases h1 : decide (hi < lo) <;> cases h2 : decide (x < lo) <;> cases h3 : decide (hi < x)
  all_goals
    have g1 := h1
    have g2 := h2
    have g3 := h3
    simp only [decide_eq_true_eq, decide_eq_false_iff_not] at g1 g2 g3
    try have e12 := D1.out g1
    try have e3 := D2.out g2 g3
    clear g1 g2 g3
    go_enter Try.func4, Try.ntmps4
    go_wp2_with (first
      | (go_at_call 16; refine (clamp_any _ _ _ _).mono ?_; rintro e w' ⟨rfl, rfl⟩)
      | (go_at_call 17; refine (ref_clamp_any _ _ _ _).mono ?_; rintro e w' ⟨rfl, rfl⟩)
      | (go_at_call 15; refine (awake_any _).mono ?_; rintro e w' ⟨rfl, n, rfl⟩))
    all_goals
      go_ret
      exact ⟨rfl, below_draws _ _⟩
end Go.Proofs.Ytpefkflllpamjaa
