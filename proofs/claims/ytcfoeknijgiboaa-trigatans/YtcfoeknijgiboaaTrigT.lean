/- The reference's Atan2; TrigAtans: at every input. -/
import Derived.Test.YtcfoeknijgiboaaTrigQ
namespace Go.Proofs.Ytcfoeknijgiboaa
open Go.RowKit

theorem refatan_none (w : World) : Calls Try.prog 25 #[.int .i64 0, .int .i64 0] w fun e w' => e = .returned (.tuple #[.int .i64 0, .bool false]) ∧ w' = w := by
  go_enter Try.func25, Try.ntmps25
  go_wp2
  go_ret2
  exact ⟨rfl, rfl⟩
theorem refangles_from (W : World) : Calls Try.prog 55 #[] W fun e w' => e = .returned (.slice (some ⟨W.heap.size, 0, none⟩) 65 65) ∧ Below W.heap.size W w' ∧ W.heap.size < w'.heap.size ∧ w'.heap[W.heap.size]? = some (.cells (cellsZ aZ) 3) := by
  refine (refangles_any W).mono ?_
  rintro e w' ⟨rfl, rfl⟩
  exact ⟨rfl, below_alloc _ _, by simp, heap_alloc_last _ _⟩
theorem part_iff (A B : Int) (hB : 0 < B) (m : Int) : m * B ≤ A * 16384 ↔ m ≤ A * 16384 / B := (Int.le_ediv_iff_mul_le hB).symm
end Go.Proofs.Ytcfoeknijgiboaa
