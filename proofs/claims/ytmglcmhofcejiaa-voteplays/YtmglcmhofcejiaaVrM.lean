/- The document's vote, as plain mathematics. -/
import Derived.Test.YtmglcmhofcejiaaVoH
namespace Go.Proofs.Ytmglcmhofcejiaa
open Go.RowKit Go.Great

theorem hr1_other (u : Un) (t : Vt) (i j : Nat) (h : j ≠ i) : (hr1 u t i).v j = t.v j ∧ (hr1 u t i).a j = t.a j := by
  unfold hr1
  split
  · exact ⟨if_neg h, if_neg h⟩
  · exact ⟨rfl, if_neg h⟩
/-- what a unit has said last is as it was heard -/
theorem hr_at (u : Un) (t : Vt) (j : Nat) (hj : j < 3) : (hr u t (j + 1)).v j = (hr u t 3).v j ∧ (hr u t (j + 1)).a j = (hr u t 3).a j := by
  match j, hj with
  | 0, _ =>
    have h1 := hr1_other u (hr u t 1) 1 0 (by decide)
    have h2 := hr1_other u (hr u t 2) 2 0 (by decide)
    exact ⟨(h2.1.trans h1.1).symm, (h2.2.trans h1.2).symm⟩
  | 1, _ =>
    have h2 := hr1_other u (hr u t 2) 2 1 (by decide)
    exact ⟨h2.1.symm, h2.2.symm⟩
  | 2, _ => exact ⟨rfl, rfl⟩
/-- are two of a list more than sp apart? -/
def prB (f : Nat → Int) (sp : Int) (i k : Nat) : Bool := decide (sp < max (f i) (f k) - min (f i) (f k))
def spI (f : Nat → Int) (sp : Int) (i : Nat) : Nat → Bool
  | 0 => false
  | k + 1 => spI f sp i k || prB f sp i k
def spO (f : Nat → Int) (sp : Int) : Nat → Bool
  | 0 => false
  | i + 1 => spO f sp i || spI f sp i i
theorem sp_far (l : List Int) (h : l.length ≤ 3) (sp : Int) (h0 : 0 ≤ sp) : spO (fun k => l.getD k 0) sp l.length = decide (sp < farL l) := by
  rcases vl_cases l h with rfl | ⟨a, rfl⟩ | ⟨a, b, rfl⟩ | ⟨a, b, c, rfl⟩
  · show false = decide (sp < 0); rw [decide_eq_false (by omega)]
  · show (false || false) = decide (sp < 0); rw [decide_eq_false (by omega)]; rfl
  · show ((false || false) || (false || decide (sp < max b a - min b a))) = decide (sp < max a b - min a b)
    rw [Bool.eq_iff_iff]
    simp only [Bool.or_eq_true, decide_eq_true_eq, Bool.false_eq_true, false_or]
    omega
  · show (((false || false) || (false || decide (sp < max b a - min b a))) || ((false || decide (sp < max c a - min c a)) || decide (sp < max c b - min c b))) = decide (sp < max (max a b) c - min (min a b) c)
    rw [Bool.eq_iff_iff]
    simp only [Bool.or_eq_true, decide_eq_true_eq, Bool.false_eq_true, false_or]
    omega
theorem half_step (a b lo hi m : Int) (h : lo < hi) (hm : m = lo + ((hi - lo) / 2 + (hi - lo) % 2)) : (lo < m ∧ m ≤ hi) ∧ (2 * m ≤ a + b → m ≤ hlf a b) ∧ (¬ 2 * m ≤ a + b → hlf a b ≤ m - 1) := by
  unfold hlf at *; omega
theorem half_in (a b : Int) : min a b ≤ hlf a b ∧ hlf a b ≤ max a b := by unfold hlf; omega
theorem NRow.below {w w' : World} {g cap n : Nat} {f : Nat → Int} (h : NRow w g cap n f) (hb : Below w.heap.size w w') : NRow w' g cap n f := by
  obtain ⟨cur, hc, r⟩ := h.blk
  exact ⟨⟨cur, hc.after hb, r⟩, h.le⟩
end Go.Proofs.Ytmglcmhofcejiaa
