/- Cells that are turned in a row of places: plain lists. -/
import Derived.Test.YtcjahdgppnmdkaaNo2
set_option maxRecDepth 100000
namespace Go.Proofs.Ytcjahdgppnmdkaa

theorem getD_at {α : Type} (l : List α) (d : α) {k : Nat} (h : k < l.length) : l.getD k d = l[k] := by rw [List.getD_eq_getElem?_getD, List.getElem?_eq_getElem h]; rfl
/-- the n cells from o on, each turned -/
def onL (C : List UInt8) (o n : Nat) (g : Nat → UInt8 → UInt8) : List UInt8 := C.mapIdx fun k c => if o ≤ k ∧ k < o + n then g (k - o) c else c
theorem onL_length (C : List UInt8) (o n : Nat) (g : Nat → UInt8 → UInt8) : (onL C o n g).length = C.length := by simp [onL]
theorem onL_at (C : List UInt8) (o n : Nat) (g : Nat → UInt8 → UInt8) (k : Nat) (h : k < (onL C o n g).length) : (onL C o n g)[k] = if o ≤ k ∧ k < o + n then g (k - o) (C[k]'(by simpa [onL] using h)) else C[k]'(by simpa [onL] using h) := by
  simp [onL]
theorem onL_getD (C : List UInt8) (o n : Nat) (g : Nat → UInt8 → UInt8) (k : Nat) (h : k < C.length) : (onL C o n g).getD k 0 = if o ≤ k ∧ k < o + n then g (k - o) (C.getD k 0) else C.getD k 0 := by
  have h2 : k < (onL C o n g).length := by rw [onL_length]; exact h
  rw [getD_at _ _ h2, onL_at, getD_at _ _ h]
theorem onL_zero (C : List UInt8) (o : Nat) (g : Nat → UInt8 → UInt8) : onL C o 0 g = C := by
  apply List.ext_getElem
  · simp [onL]
  · intro k h1 h2
    rw [onL_at, if_neg (by omega)]
theorem onL_succ (C : List UInt8) (o n : Nat) (g : Nat → UInt8 → UInt8) (h : o + n < C.length) : (onL C o n g).set (o + n) (g n (C.getD (o + n) 0)) = onL C o (n + 1) g := by
  apply List.ext_getElem
  · simp [onL]
  · intro k h1 h2
    have hk : k < C.length := by simpa [onL] using h2
    rw [onL_at, List.getElem_set]
    by_cases e : o + n = k
    · subst e
      rw [if_pos rfl, if_pos (by omega), Nat.add_sub_cancel_left, getD_at _ _ h]
    · rw [if_neg e, onL_at]
      by_cases c : o ≤ k ∧ k < o + n
      · rw [if_pos c, if_pos (by omega)]
      · rw [if_neg c, if_neg (by omega)]
theorem onL_next (C : List UInt8) (o n : Nat) (g : Nat → UInt8 → UInt8) (h : o + n < C.length) : (onL C o n g).getD (o + n) 0 = C.getD (o + n) 0 := by
  rw [onL_getD C o n g _ h, if_neg (by omega)]
theorem onL_congr (C : List UInt8) (o n : Nat) (g g' : Nat → UInt8 → UInt8) (h : ∀ i c, i < n → g i c = g' i c) : onL C o n g = onL C o n g' := by
  apply List.ext_getElem
  · simp [onL]
  · intro k h1 h2
    rw [onL_at, onL_at]
    by_cases c : o ≤ k ∧ k < o + n
    · rw [if_pos c, if_pos c, h _ _ (by omega)]
    · rw [if_neg c, if_neg c]
end Go.Proofs.Ytcjahdgppnmdkaa
