/- The chapter's examples: awake. -/
import Derived.Test.YtgdjphiicgiegaaFr6
import Derived.Laws.StructEq
namespace Go.Proofs.Ytgdjphiicgiegaa
open Go.RowKit Go.Great

theorem frame_eq (a b a' b' : Int) (p p' : ByteArray) (wx : World) : (binOp .eql 28 (.agg #[.int .i64 a, .int .i64 b, .string p]) (.agg #[.int .i64 a', .int .i64 b', .string p'])).run Try.prog wx = .ok (.bool (decide ((a, b, p) = (a', b', p')))) wx := by
  have e : p.toList = p'.toList ↔ p = p' := ⟨fun h => bs_ext (by rw [ByteArray.toList_eq, ByteArray.toList_eq] at h; exact h), fun h => by rw [h]⟩
  by_cases h1 : a = a'
  · by_cases h2 : b = b'
    · by_cases h3 : p = p' <;> simp [go_sem, h1, h2, h3, e]
    · simp [go_sem, h1, h2]
  · simp [go_sem, h1]
theorem frame_neq (a b a' b' : Int) (p p' : ByteArray) (wx : World) : (binOp .neq 28 (.agg #[.int .i64 a, .int .i64 b, .string p]) (.agg #[.int .i64 a', .int .i64 b', .string p'])).run Try.prog wx = .ok (.bool (!decide ((a, b, p) = (a', b', p')))) wx := by
  have e : p.toList = p'.toList ↔ p = p' := ⟨fun h => bs_ext (by rw [ByteArray.toList_eq, ByteArray.toList_eq] at h; exact h), fun h => by rw [h]⟩
  by_cases h1 : a = a'
  · by_cases h2 : b = b'
    · by_cases h3 : p = p' <;> simp [go_sem, h1, h2, h3, e]
    · simp [go_sem, h1, h2]
  · simp [go_sem, h1]
theorem own_shape {w : World} {base n : Nat} {v : Value} {fs : List Fr} (h : w.ownsRow base 28 3 v n (cellsF fs)) : ∃ a cap, v = .slice a n cap := by
  rcases h.2 with ⟨rfl, rfl⟩ | ⟨g, cap, cur, rfl, _⟩
  · exact ⟨none, 0, rfl⟩
  · exact ⟨_, cap, rfl⟩
theorem own_row {w : World} {base n : Nat} {v : Value} {xs : List Value} (h : w.ownsRow base 28 3 v n xs) (hn : 0 < n) : ∃ g cap, v = .slice (some ⟨g, 0, none⟩) n cap ∧ base ≤ g ∧ g < w.heap.size ∧ (∀ j, j < n * 3 → w.cell? ⟨g, j, none⟩ = xs[j]?) ∧ ∀ j, w.frozen? ⟨g, j, none⟩ = false := by
  have h0 := h
  rcases h.2 with ⟨rfl, rfl⟩ | ⟨g, cap, cur, rfl, hb, hh, _⟩
  · omega
  · exact ⟨g, cap, rfl, hb, lt_of_block hh, fun j hj => h0.cellAt j hj, fun j => h0.frozenAt j⟩
theorem Frm.kept {w w' : World} {R g : Nat} {x y z : Value} (h : Frm w g x y z) (hk : Kept R w w') (hne : g ≠ R) : Frm w' g x y z :=
  (World.grownBy.block hk g (lt_of_block h) (fun e => hne (by injection e))).trans h
theorem Rdr.drewN {w : World} {R : Nat} {s : ByteArray} {n : Int} (h : Rdr w R s n) (k : Nat) : Rdr (w.drewN k) R s n := by
  induction k with
  | zero => exact h
  | succ k ih => exact ih
theorem aw_enc : encV (1, 2, ⟨#[97, 98]⟩) = (bs [253, 2, 1, 2, 97, 98, 135, 193], 0) := by
  rw [encV_right (by refine ⟨?_, ?_, ?_, ?_, ?_⟩ <;> decide)]
  rw [show encF (1, 2, ⟨#[97, 98]⟩) = [253, 2, 1, 2, 97, 98, 135, 193] by decide +kernel]
theorem aw_1 : rd [253, 65, 0, 253, 2, 1, 2, 97] = ([], 1, [253, 2, 1, 2, 97]) := by kernel_rfl
theorem aw_2 : rd [253, 2, 1, 2, 97, 98, 135, 193] = ([(1, 2, ⟨#[97, 98]⟩)], 0, []) := by kernel_rfl
theorem to_run (s : ByteArray) (b : Nat) (h2 : b ≤ s.size) (wx : World) : (Instr.slice 9 (.string s) none (some (.int .i64 b)) none).run Try.prog wx = .ok (.string (s.extract 0 b)) wx := by
  rw [run_slice_string_to_if wx 9 s .i64 b Try.underlying9]
  rw [if_pos (by omega)]
  simp
theorem from_run (s : ByteArray) (a : Nat) (h2 : a ≤ s.size) (wx : World) : (Instr.slice 9 (.string s) (some (.int .i64 a)) none none).run Try.prog wx = .ok (.string (s.extract a s.size)) wx := by
  rw [run_slice_string_from_if wx 9 s .i64 a Try.underlying9]
  rw [if_pos (by omega)]
  simp
end Go.Proofs.Ytgdjphiicgiegaa
