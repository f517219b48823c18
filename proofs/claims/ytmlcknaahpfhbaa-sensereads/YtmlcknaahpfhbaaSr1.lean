/- The document's widths of sensors. -/
import Derived.Test.YtmlcknaahpfhbaaSe6
namespace Go.Proofs.Ytmlcknaahpfhbaa
open Go.RowKit Go.Great

theorem rbytes_any (w : Int) (h : Wid w) (W : World) : Calls Try.prog 24 #[.int .i64 w] W fun e w' => e = .returned (.int .i64 (szW w : Int)) ∧ w' = W := by
  rcases h with rfl | rfl | rfl | rfl | rfl
  all_goals
    go_enter Try.func24, Try.ntmps24
    go_wp2
    go_ret
    exact ⟨rfl, rfl⟩
theorem rall_any (w : Int) (h : Wid w) (W : World) : Calls Try.prog 31 #[.int .i64 w] W fun e w' => e = .returned (.int .i64 (256 ^ szW w)) ∧ w' = W := by
  have hz := wid_sz h
  have hs := fun W => rbytes_any w h W
  obtain ⟨m, hm⟩ : ∃ m, szW w = m := ⟨_, rfl⟩
  rw [hm] at hz hs
  rw [hm]
  clear hm h
  go_enter Try.func31, Try.ntmps31
  go_wp2_with fail
  go_loopw [3, 4] (fun n i wx => ∃ k : Nat, k ≤ m ∧ n = .int .i64 (256 ^ k) ∧ i = .int .i64 k ∧ wx = W) (fun _ i _ => m - (intOf i).toNat)
  case atStart => exact ⟨0, by omega, rfl, rfl, rfl⟩
  case round =>
    obtain ⟨k, hk, rfl, rfl, rfl⟩ := hrel
    by_cases hlt : k < m
    · obtain ⟨q, HQ⟩ : ∃ q : Int, Hid ((256 : Int) ^ k = q) := ⟨_, rfl⟩
      have hq : 0 < q ∧ q ≤ 16777216 := by
        rw [← HQ.out]
        have : k = 0 ∨ k = 1 ∨ k = 2 ∨ k = 3 := by omega
        rcases this with rfl | rfl | rfl | rfl <;> decide
      rw [HQ.out]
      go_wp2_with fail
      refine (hs _).mono ?_
      rintro e w1 ⟨rfl, rfl⟩
      go_wp2_with fail
      go_roundw
      case rel => exact ⟨k + 1, by omega, by rw [p256, HQ.out], by go_num, trivial⟩
      case measure => simp [intOf]; omega
    · obtain rfl : k = m := by omega
      obtain ⟨q, HQ⟩ : ∃ q : Int, Hid ((256 : Int) ^ k = q) := ⟨_, rfl⟩
      rw [HQ.out]
      go_wp2_with fail
      refine (hs _).mono ?_
      rintro e w1 ⟨rfl, rfl⟩
      go_wp2_with fail
      go_ret
      exact ⟨ret_int HQ.out.symm, rfl⟩
set_option maxHeartbeats 1000000 in
theorem rwidths_any (s : Nat) (hs : s < 256) (w : World) : Calls Try.prog 23 #[.int .u8 (s : Int)] w fun e w' => ∃ v, e = .returned v ∧ Ints w' v (wsS s) ∧ Below w.heap.size w w' := by
  rcases wsS_cases s with (h | h | h | h | h) | ⟨hk, h⟩
  · subst h
    go_enter Try.func23, Try.ntmps23
    go_wp2
    go_ret
    exact ⟨_, rfl, ints_row (l := wsS 1) (heap_alloc_new _ _) _ _ rfl, below_alloc _ _⟩
  · subst h
    go_enter Try.func23, Try.ntmps23
    go_wp2
    go_ret
    exact ⟨_, rfl, ints_row (l := wsS 2) (heap_alloc_new _ _) _ _ rfl, below_alloc _ _⟩
  · subst h
    go_enter Try.func23, Try.ntmps23
    go_wp2
    go_ret
    exact ⟨_, rfl, ints_row (l := wsS 3) (heap_alloc_new _ _) _ _ rfl, below_alloc _ _⟩
  · subst h
    go_enter Try.func23, Try.ntmps23
    go_wp2
    go_ret
    exact ⟨_, rfl, ints_row (l := wsS 4) (heap_alloc_new _ _) _ _ rfl, below_alloc _ _⟩
  · subst h
    go_enter Try.func23, Try.ntmps23
    go_wp2
    go_ret
    exact ⟨_, rfl, ints_row (l := wsS 5) (heap_alloc_new _ _) _ _ rfl, below_alloc _ _⟩
  · rw [h]
    have t1 : ((s : Int) == 1) = false := by rw [beq_eq_false_iff_ne]; omega
    have t2 : ((s : Int) == 2) = false := by rw [beq_eq_false_iff_ne]; omega
    have t3 : ((s : Int) == 3) = false := by rw [beq_eq_false_iff_ne]; omega
    have t4 : ((s : Int) == 4) = false := by rw [beq_eq_false_iff_ne]; omega
    have t5 : ((s : Int) == 5) = false := by rw [beq_eq_false_iff_ne]; omega
    clear h hk hs
    go_enter Try.func23, Try.ntmps23
    go_wp2
    go_ret
    exact ⟨_, rfl, Ints.nil _, Below.refl _ _⟩
end Go.Proofs.Ytmlcknaahpfhbaa
