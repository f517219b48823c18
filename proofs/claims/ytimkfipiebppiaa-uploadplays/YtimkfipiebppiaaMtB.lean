/- The table of package msgs (layer 5's text over In0). -/
import Derived.Test.YtimkfipiebppiaaMtA
namespace Go.Proofs.Ytimkfipiebppiaa
open Go.RowKit Go.Great

set_option maxRecDepth 100000 in
set_option maxHeartbeats 4000000 in
theorem widths_any (k : Int) (w : World) : Calls Try.prog 35 #[.int .i64 k] w fun e w' => ∃ v, e = .returned v ∧ Ints w' v (wpK k) ∧ Below w.heap.size w w' := by
  rcases wsK_cases k with (h | h | h | h | h | h | h | h | h | h | h) | ⟨hk, h⟩
  · subst h
    go_enter Try.func35, Try.ntmps35
    go_wp2
    go_ret
    refine ⟨_, rfl, ?_, ?_⟩
    · iterate 11 refine Ints.below ?_ (below_alloc _ _)
      exact ints_row (l := wpK 1) (heap_alloc_at _ _ _ (by first | rfl | simp only [size_alloc])) _ _ rfl
    · repeat (first | exact below_alloc _ _ | refine Below.alloc ?_ (by simp only [size_alloc]; omega) _)
  · subst h
    go_enter Try.func35, Try.ntmps35
    go_wp2
    go_ret
    refine ⟨_, rfl, ?_, ?_⟩
    · iterate 10 refine Ints.below ?_ (below_alloc _ _)
      exact ints_row (l := wpK 2) (heap_alloc_at _ _ _ (by first | rfl | simp only [size_alloc])) _ _ rfl
    · repeat (first | exact below_alloc _ _ | refine Below.alloc ?_ (by simp only [size_alloc]; omega) _)
  · subst h
    go_enter Try.func35, Try.ntmps35
    go_wp2
    go_ret
    refine ⟨_, rfl, ?_, ?_⟩
    · iterate 9 refine Ints.below ?_ (below_alloc _ _)
      exact ints_row (l := wpK 3) (heap_alloc_at _ _ _ (by first | rfl | simp only [size_alloc])) _ _ rfl
    · repeat (first | exact below_alloc _ _ | refine Below.alloc ?_ (by simp only [size_alloc]; omega) _)
  · subst h
    go_enter Try.func35, Try.ntmps35
    go_wp2
    go_ret
    refine ⟨_, rfl, ?_, ?_⟩
    · iterate 8 refine Ints.below ?_ (below_alloc _ _)
      exact ints_row (l := wpK 4) (heap_alloc_at _ _ _ (by first | rfl | simp only [size_alloc])) _ _ rfl
    · repeat (first | exact below_alloc _ _ | refine Below.alloc ?_ (by simp only [size_alloc]; omega) _)
  · subst h
    go_enter Try.func35, Try.ntmps35
    go_wp2
    go_ret
    refine ⟨_, rfl, ?_, ?_⟩
    · iterate 7 refine Ints.below ?_ (below_alloc _ _)
      exact ints_row (l := wpK 5) (heap_alloc_at _ _ _ (by first | rfl | simp only [size_alloc])) _ _ rfl
    · repeat (first | exact below_alloc _ _ | refine Below.alloc ?_ (by simp only [size_alloc]; omega) _)
  · subst h
    go_enter Try.func35, Try.ntmps35
    go_wp2
    go_ret
    refine ⟨_, rfl, ?_, ?_⟩
    · iterate 6 refine Ints.below ?_ (below_alloc _ _)
      exact ints_row (l := wpK 6) (heap_alloc_at _ _ _ (by first | rfl | simp only [size_alloc])) _ _ rfl
    · repeat (first | exact below_alloc _ _ | refine Below.alloc ?_ (by simp only [size_alloc]; omega) _)
  · subst h
    go_enter Try.func35, Try.ntmps35
    go_wp2
    go_ret
    refine ⟨_, rfl, ?_, ?_⟩
    · iterate 5 refine Ints.below ?_ (below_alloc _ _)
      exact ints_row (l := wpK 7) (heap_alloc_at _ _ _ (by first | rfl | simp only [size_alloc])) _ _ rfl
    · repeat (first | exact below_alloc _ _ | refine Below.alloc ?_ (by simp only [size_alloc]; omega) _)
  · subst h
    go_enter Try.func35, Try.ntmps35
    go_wp2
    go_ret
    refine ⟨_, rfl, ?_, ?_⟩
    · iterate 4 refine Ints.below ?_ (below_alloc _ _)
      exact ints_row (l := wpK 8) (heap_alloc_at _ _ _ (by first | rfl | simp only [size_alloc])) _ _ rfl
    · repeat (first | exact below_alloc _ _ | refine Below.alloc ?_ (by simp only [size_alloc]; omega) _)
  · subst h
    go_enter Try.func35, Try.ntmps35
    go_wp2
    go_ret
    refine ⟨_, rfl, ?_, ?_⟩
    · iterate 3 refine Ints.below ?_ (below_alloc _ _)
      exact ints_row (l := wpK 9) (heap_alloc_at _ _ _ (by first | rfl | simp only [size_alloc])) _ _ rfl
    · repeat (first | exact below_alloc _ _ | refine Below.alloc ?_ (by simp only [size_alloc]; omega) _)
  · subst h
    go_enter Try.func35, Try.ntmps35
    go_wp2
    go_ret
    refine ⟨_, rfl, ?_, ?_⟩
    · iterate 2 refine Ints.below ?_ (below_alloc _ _)
      exact ints_row (l := wpK 10) (heap_alloc_at _ _ _ (by first | rfl | simp only [size_alloc])) _ _ rfl
    · repeat (first | exact below_alloc _ _ | refine Below.alloc ?_ (by simp only [size_alloc]; omega) _)
  · subst h
    go_enter Try.func35, Try.ntmps35
    go_wp2
    go_ret
    refine ⟨_, rfl, ?_, ?_⟩
    · iterate 1 refine Ints.below ?_ (below_alloc _ _)
      exact ints_row (l := wpK 11) (heap_alloc_at _ _ _ (by first | rfl | simp only [size_alloc])) _ _ rfl
    · repeat (first | exact below_alloc _ _ | refine Below.alloc ?_ (by simp only [size_alloc]; omega) _)
  · have hn : wpK k = [] := by unfold wpK; rw [h]; rfl
    rw [hn]
    clear hn h
    have h3 : k < 0 ∨ k = 0 ∨ (0 ≤ k ∧ 12 ≤ k) := by omega
    clear hk
    rcases h3 with h3 | h3 | ⟨h4, h3⟩
    · go_enter Try.func35, Try.ntmps35
      go_wp2
      go_ret
      refine ⟨_, rfl, Ints.nil _, ?_⟩
      repeat (first | exact below_alloc _ _ | refine Below.alloc ?_ (by simp only [size_alloc]; omega) _)
    · subst h3
      go_enter Try.func35, Try.ntmps35
      go_wp2
      go_ret
      refine ⟨_, rfl, Ints.nil _, ?_⟩
      repeat (first | exact below_alloc _ _ | refine Below.alloc ?_ (by simp only [size_alloc]; omega) _)
    · go_enter Try.func35, Try.ntmps35
      go_wp2
      go_ret
      refine ⟨_, rfl, Ints.nil _, ?_⟩
      repeat (first | exact below_alloc _ _ | refine Below.alloc ?_ (by simp only [size_alloc]; omega) _)
end Go.Proofs.Ytimkfipiebppiaa
