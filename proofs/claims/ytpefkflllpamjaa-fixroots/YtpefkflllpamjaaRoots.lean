/- What FixRoots answers: true, at every number. -/
import Derived.Test.YtpefkflllpamjaaAwake
import Derived.Test.YtpefkflllpamjaaTimesAny
import Derived.Test.YtpefkflllpamjaaIntAny
namespace Go.Proofs.Ytpefkflllpamjaa
open Go.RowKit

theorem sqrt_below (k : Nat) (n : Int) (h : n < 0) : sqrtFrom k n 0 = 0 := by
  induction k with
  | zero => rfl
  | succ k ih =>
    have hp : (0 : Int) < 2 ^ k := Int.pow_pos (by omega)
    have ht : n.tdiv (0 + 2 ^ k) ≤ 0 := by
      have := Int.tdiv_nonneg (a := -n) (b := 0 + 2 ^ k) (by omega) (by omega)
      rw [Int.neg_tdiv] at this
      omega
    unfold sqrtFrom
    rw [if_neg (by omega)]
    exact ih
theorem le_quot (n x : Int) (hn : 0 ≤ n) (hx : 0 < x) : x ≤ n.tdiv x ↔ x * x ≤ n := by
  rw [Int.tdiv_eq_ediv_of_nonneg hn]
  exact Int.le_ediv_iff_mul_le hx
theorem sqrt_from (k : Nat) (n r : Int) (hn : 0 ≤ n) (hr : 0 ≤ r) (h1 : r * r ≤ n) (h2 : n < (r + 2 ^ k) * (r + 2 ^ k)) :
    0 ≤ sqrtFrom k n r ∧ sqrtFrom k n r * sqrtFrom k n r ≤ n ∧ n < (sqrtFrom k n r + 1) * (sqrtFrom k n r + 1) := by
  induction k generalizing r with
  | zero => exact ⟨hr, h1, by show n < (r + 1) * (r + 1); simpa using h2⟩
  | succ k ih =>
    have hp : (0 : Int) < 2 ^ k := Int.pow_pos (by omega)
    unfold sqrtFrom
    have hq := le_quot n (r + 2 ^ k) hn (by omega)
    split
    · rename_i g
      refine ih (r + 2 ^ k) (by omega) (hq.1 g) ?_
      rw [Int.pow_succ] at h2
      rw [show r + 2 ^ k + 2 ^ k = r + 2 ^ k * 2 by omega]
      exact h2
    · rename_i g
      refine ih r hr h1 ?_
      have : ¬ (r + 2 ^ k) * (r + 2 ^ k) ≤ n := fun q => g (hq.2 q)
      omega
theorem root_facts (n : Int) (h : 0 ≤ n) (h' : n ≤ 9223372036854775807) : 0 ≤ sqrtFrom 32 n 0 ∧ sqrtFrom 32 n 0 ≤ 3037000499 ∧ sqrtFrom 32 n 0 * sqrtFrom 32 n 0 ≤ n ∧ 0 ≤ sqrtFrom 32 n 0 * sqrtFrom 32 n 0 ∧ n < (sqrtFrom 32 n 0 + 1) * (sqrtFrom 32 n 0 + 1) := by
  obtain ⟨h1, h2, h3⟩ := sqrt_from 32 n 0 h (by omega) (by omega) (by simp; omega)
  generalize sqrtFrom 32 n 0 = r at *
  refine ⟨h1, ?_, h2, Int.mul_nonneg h1 h1, h3⟩
  by_cases g : r ≤ 3037000499
  · exact g
  · have := Int.mul_le_mul (a := 3037000500) (b := 3037000500) (c := r) (d := r) (by omega) (by omega) (by omega) (by omega)
    omega
set_option maxHeartbeats 4000000 in
theorem FixRoots_walk (n : Int) (hn : I64 n) (w : World) : Calls Try.prog 5 #[.int .i64 n] w fun e w' => e = .returned (.bool true) ∧ Below w.heap.size w w' := by
  have HN := hide hn
  have S1 := hide (fun (W : World) => sqrt_any n W hn)
  have hn1 : -9223372036854775808 ≤ n ∧ n ≤ 9223372036854775807 := hn
  by_cases h : n < 0
  · have e0 := sqrt_below 32 n h
    rw [e0] at S1
    clear hn e0
    go_enter Try.func5, Try.ntmps5
    go_wp2_with (first
      | (go_at_call 18; refine (S1.out _).mono ?_; rintro e w' ⟨rfl, rfl⟩)
      | (go_at_call 15; refine (awake_any _).mono ?_; rintro e w' ⟨rfl, n, rfl⟩))
    go_ret
    exact ⟨rfl, below_draw (Below.refl _ _) _⟩
  · obtain ⟨f1, f2, f3, f4, f5⟩ := root_facts n (by omega) hn1.2
    obtain ⟨r, HR⟩ : ∃ z, Hid (sqrtFrom 32 n 0 = z) := ⟨_, rfl⟩
    rw [HR.out] at S1 f1 f2 f3 f4 f5
    have C1 := hide (cmpI_gt f5)
    have R1 : Hid (I64 (r + 1)) := by show I64 (r + 1); unfold I64; omega
    clear hn f5
    go_enter Try.func5, Try.ntmps5
    go_wp2_with fail
    refine (S1.out _).mono ?_
    rintro e w' ⟨rfl, rfl⟩
    go_wp2_with fail
    refine (of_any (r + 1) _ R1.out).mono ?_
    rintro e w1 ⟨v1, rfl, h1, k1⟩
    have H1 := hide h1; have K1 := hide k1; clear h1 k1
    go_wp2_with fail
    refine (of_any (r + 1) _ R1.out).mono ?_
    rintro e w2 ⟨v2, rfl, h2, k2⟩
    have H2 := hide h2; have K2 := hide k2; clear h2 k2
    go_wp2_with fail
    refine (times_any _ _ (r + 1) (r + 1) 3 3 6 _ (K1.out.below H2.out) K2.out (by omega) (by omega) (by omega)).mono ?_
    rintro e w3 ⟨v3, rfl, h3, k3⟩
    obtain ⟨s3, p3, l3, c3, rfl⟩ := whole_agg k3
    have H3 := hide h3; have K3 := hide k3; clear h3 k3
    go_wp2_with fail
    go_region_with (first
      | (go_at_call 20; refine (of_any n _ HN.out).mono ?_; rintro e w5 ⟨v5, rfl, h5, k5⟩; obtain ⟨hc5, hf5⟩ := kept_cells h5; obtain ⟨s5, p5, l5, c5, rfl⟩ := whole_agg k5; have H5 := hide (show Below _ (w3.alloc _) w5 from ⟨h5.os, h5.tape, h5.output, h5.size, h5.block⟩); have K5 := hide k5; clear h5 k5)
      | (go_at_call 21; refine (cmp_any _ _ ((r + 1) * (r + 1)) n 6 3 _ ((K3.out.below (below_alloc _ _)).below H5.out) K5.out (by omega)).mono ?_; rintro e w6 ⟨rfl, h6⟩; rw [C1.out]; have H6 := hide h6; clear h6)
      | (go_at_call 15; refine (awake_any _).mono ?_; rintro e w7 ⟨rfl, q, rfl⟩))
    all_goals
      go_wp2_with fail
      go_ret
      exact ⟨rfl, below_draw (below_step (below_step (below_step (below_step (below_step H1.out (Nat.le_refl _) H2.out) (Nat.le_refl _) H3.out) (Nat.le_refl _) (below_alloc _ _)) (Nat.le_refl _) H5.out) (Nat.le_refl _) H6.out) _⟩
end Go.Proofs.Ytpefkflllpamjaa
