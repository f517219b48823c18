/- What the reference's small functions for parameters answer. -/
import Derived.Test.YthldohfjkjhdcaaPa3
namespace Go.Proofs.Ythldohfjkjhdcaa
open Go.RowKit Go.Great

theorem rowI_at {w : World} {l : List Int} {t : TypeId} (i : Nat) (h : i < l.length) : (w.alloc (.cells (rowI l) t)).cell? ⟨w.heap.size, i, none⟩ = some (.int .i64 (l.getD i 0)) := by
  rw [cell_of_row _ _ i (rowI l) t (0, 0) (heap_alloc_new _ _)]
  unfold rowI
  rw [List.getElem?_toArray, List.getElem?_map, List.getElem?_eq_getElem h, List.getD, List.getElem?_eq_getElem h]
  rfl
/-- one braking: the loop's sum -/
theorem way_step (v b : Int) (b0 : 1 ≤ b) : wayI v b = wayI (v - b) b + (v - b) := by
  unfold wayI
  have e : (v - b) / b = v / b - 1 := by
    have := Int.add_mul_ediv_right v (-1) (show b ≠ 0 by omega)
    rw [show v + -1 * b = v - b by omega] at this
    rw [this]; rfl
  rw [e]
  generalize v / b = n
  have e2 : b * n * (n + 1) = b * (n - 1) * (n - 1 + 1) + 2 * (b * n) := by
    rw [show n - 1 + 1 = n by omega, Int.mul_add, Int.mul_one, Int.mul_sub, Int.mul_one, Int.sub_mul]; omega
  rw [e2, Int.add_mul_ediv_left _ _ (by omega : (2 : Int) ≠ 0)]
  have e3 : (n - 1) * (v - b) = n * v - n * b - v + b := by rw [Int.sub_mul, Int.mul_sub, Int.one_mul]; omega
  rw [e3, Int.mul_comm b n]
  omega
theorem way_end (v b : Int) (h0 : v ≤ b) (v0 : 0 ≤ v) (b0 : 1 ≤ b) : wayI v b = 0 := by
  unfold wayI
  by_cases e : v = b
  · subst e; rw [Int.ediv_self (by omega)]; omega
  · rw [Int.ediv_eq_zero_of_lt v0 (by omega)]; omega
theorem way_in (v b : Int) (h0 : 0 ≤ v) (h1 : v ≤ 100000) (b0 : 1 ≤ b) (b1 : b ≤ 64) : 0 ≤ wayI v b ∧ wayI v b ≤ 10000000000 := by
  have h := way_bounds v b h0 h1 b0 b1
  have h2 : b * (v / b) * (v / b + 1) ≤ 2 * (v / b * v) := by
    have e1 : b * (v / b) ≤ v := h.2.2.2.2.2.1
    by_cases z : v / b = 0
    · rw [z]; omega
    · have := Int.mul_le_mul (a := b * (v / b)) (b := v / b + 1) (c := v) (d := 2 * (v / b)) e1 (by omega) (by omega) h0
      rw [show v * (2 * (v / b)) = 2 * (v / b * v) by rw [Int.mul_left_comm, Int.mul_comm v]] at this
      exact this
  unfold wayI
  omega
end Go.Proofs.Ythldohfjkjhdcaa
