/- Margins of package params. -/
import Derived.Test.YthldohfjkjhdcaaPr2
namespace Go.Proofs.Ythldohfjkjhdcaa
open Go.RowKit Go.Great

/-- a struct of margins -/
def marV (m : Mar) : Value := .agg #[.int .i64 m.brake, .int .i64 m.drift, .int .i64 m.jolt, .int .i64 m.fast, .int .i64 m.lane, .int .i64 m.drain]
def marZ : Mar := ⟨0, 0, 0, 0, 0, 0⟩
/-- what Margins answers -/
def marE (l : List Int) : Mar := if chk l = 0 then marL l else marZ
/-- what sound parameters are bounded by -/
theorem Sound.facts {l : List Int} (h : Sound l) : (48 ≤ (marL l).brake ∧ (marL l).brake ≤ 64) ∧ (2 ≤ (marL l).drift ∧ (marL l).drift ≤ 34) ∧ (86 ≤ (marL l).jolt ∧ (marL l).jolt ≤ 430) ∧ (2000 ≤ (marL l).fast ∧ (marL l).fast ≤ 65000) := by
  have b := h.inr.bounds
  have e := h.inr.errs
  unfold marL
  simp only
  omega
theorem upI_in (a b : Int) (h : 1 ≤ b) (h0 : 0 ≤ a) : 0 ≤ upI a b ∧ upI a b ≤ a := by
  have := ediv_in (-a) b h
  unfold upI
  by_cases z : a = 0
  · subst z; simp
  · have := this.2 (by omega); omega
theorem heap_setP {w : World} {g : Nat} {cs : Array Value} {t : TypeId} {fr : Nat × Nat} (h : w.heap[g]? = some (.cells cs t fr)) (i : Nat) (u : Value) : (w.setCell ⟨g, i, none⟩ u).heap[g]? = some (.cells (cs.setIfInBounds i u) t fr) := by
  have hlt := lt_of_block h
  have h' : w.heap[g] = .cells cs t fr := by simpa [Array.getElem?_eq_getElem hlt] using h
  show (w.heap.modify g _)[g]? = _
  rw [Array.getElem?_eq_getElem (by simpa using hlt), Array.getElem_modify_self, h']
  rfl
def arr6 (a b c d e f : Value) : Array Value := #[a, b, c, d, e, f]
theorem below_set6 {B : Nat} {w w1 : World} {g : Nat} (h : Below B w w1) (hg : B ≤ g) (u0 u1 u2 u3 u4 u5 : Value) : Below B w ((((((w1.setCell ⟨g, 0, none⟩ u0).setCell ⟨g, 1, none⟩ u1).setCell ⟨g, 2, none⟩ u2).setCell ⟨g, 3, none⟩ u3).setCell ⟨g, 4, none⟩ u4).setCell ⟨g, 5, none⟩ u5) :=
  (((((h.setCell (p := ⟨g, 0, none⟩) hg u0).setCell (p := ⟨g, 1, none⟩) hg u1).setCell (p := ⟨g, 2, none⟩) hg u2).setCell (p := ⟨g, 3, none⟩) hg u3).setCell (p := ⟨g, 4, none⟩) hg u4).setCell (p := ⟨g, 5, none⟩) hg u5
def zero6 : Array Value := arr6 (.int .i64 0) (.int .i64 0) (.int .i64 0) (.int .i64 0) (.int .i64 0) (.int .i64 0)
theorem drewN_heap (w : World) (n : Nat) : (w.drewN n).heap = w.heap := by
  induction n with
  | zero => rfl
  | succ n ih => exact ih
theorem run_max3 (x y z : Int) (ts : Array TypeId) (t : TypeId) (w : World) : (Builtin.max_ ts t #[.int .i64 x, .int .i64 y, .int .i64 z]).run Try.prog w = .ok (.int .i64 (max (max x y) z)) w := by
  have h : (if z > (if y > x then y else x) then z else if y > x then y else x) = max (max x y) z := by split <;> split <;> omega
  rw [← h]
  simp [Builtin.max_, Builtin.max2]
end Go.Proofs.Ythldohfjkjhdcaa
