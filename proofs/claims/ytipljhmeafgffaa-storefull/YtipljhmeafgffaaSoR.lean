/- A sector that is read: chains of records, plain lists. -/
import Derived.Test.YtipljhmeafgffaaSoP
namespace Go.Proofs.Ytipljhmeafgffaa
open Go.RowKit Go.Great

/-- whole records from a to b -/
inductive Recs (l : List UInt8) : Nat → Kp → Nat → Kp → Prop
  | nil (a : Nat) (k : Kp) : Recs l a k a k
  | cons {a : Nat} {k : Kp} {b : Nat} {k' : Kp} (h : wholeB l a = true) (t : Recs l (a + 4 + lenAt l a) (upd k (idAt l a) (sgAt l a)) b k') : Recs l a k b k'
theorem Recs.le {l : List UInt8} {a b : Nat} {k k' : Kp} (h : Recs l a k b k') : a ≤ b := by
  induction h with
  | nil => exact Nat.le_refl _
  | cons _ _ ih => omega
theorem Recs.trans {l : List UInt8} {a b c : Nat} {k k1 k2 : Kp} (h : Recs l a k b k1) (g : Recs l b k1 c k2) : Recs l a k c k2 := by
  induction h with
  | nil => exact g
  | cons h _ ih => exact .cons h (ih g)
theorem Recs.len {l : List UInt8} {a b : Nat} {k k' : Kp} (h : Recs l a k b k') (ha : a ≤ l.length) : b ≤ l.length := by
  induction h with
  | nil => exact ha
  | cons h _ ih => exact ih (wholeB_true h).2.2.2.1
theorem wholeB_of {l : List UInt8} {a : Nat} (h1 : idAt l a < 3) (h2 : lenAt l a ≤ 2000) (h3 : a + 4 + lenAt l a ≤ l.length) (h4 : l.getD (a + 3 + lenAt l a) 0 = 0) : wholeB l a = true := by
  unfold wholeB
  simp only [Bool.and_eq_true, decide_eq_true_eq, beq_iff_eq]
  exact ⟨⟨⟨⟨by omega, h1⟩, h2⟩, h3⟩, h4⟩
/-- a record hangs on its own bytes alone -/
theorem whole_same {l m : List UInt8} {a b : Nat} (hl : l.length = m.length) (hs : ∀ j, j < b → l.getD j 0 = m.getD j 0) (h : wholeB l a = true) (hb : a + 4 + lenAt l a ≤ b) : wholeB m a = true ∧ lenAt m a = lenAt l a ∧ idAt m a = idAt l a := by
  obtain ⟨c1, c2, c3, c4, c5⟩ := wholeB_true h
  have e1 : lenAt m a = lenAt l a := by unfold lenAt; rw [hs (a + 1) (by omega), hs (a + 2) (by omega)]
  have e2 : idAt m a = idAt l a := by unfold idAt; rw [hs a (by omega)]
  refine ⟨wholeB_of (by rw [e2]; exact c2) (by rw [e1]; exact c3) (by rw [e1, ← hl]; exact c4) ?_, e1, e2⟩
  rw [e1, ← hs _ (by omega)]
  exact c5
theorem Recs.same {l m : List UInt8} {a b : Nat} {k k' : Kp} (h : Recs l a k b k') (hl : l.length = m.length) (hs : ∀ j, j < b → l.getD j 0 = m.getD j 0) : Recs m a k b k' := by
  induction h with
  | nil => exact .nil _ _
  | cons h t ih =>
    obtain ⟨g1, g2, g3⟩ := whole_same hl hs h t.le
    refine .cons g1 ?_
    rw [g2, g3, sgAt, g2]
    exact ih hs
theorem whole_open {l : List UInt8} {a : Nat} (h : wholeB l a = true) : blankB l a = false := by
  obtain ⟨c1, c2, _, _, _⟩ := wholeB_true h
  cases hb : blankB l a
  · rfl
  · have := (blankB_iff l a).1 hb a (Nat.le_refl _) (by omega)
    unfold idAt at c2
    rw [this] at c2
    exact absurd c2 (by decide)
/-- where and how reading ends -/
def Ends (l : List UInt8) (a : Nat) (k : Kp) (b : Nat) (k' : Kp) (cl : Bool) : Prop := Recs l a k b k' ∧ blankB l b = cl ∧ (cl = false → wholeB l b = false)
theorem Ends.rd {l : List UInt8} {a b : Nat} {k k' : Kp} {cl : Bool} (h : Ends l a k b k' cl) : ∀ f, l.length < a + f → a ≤ l.length → rd l f a k = (k', b, cl) := by
  obtain ⟨h1, h2, h3⟩ := h
  induction h1 with
  | nil a k =>
    intro f hf ha
    obtain ⟨g, rfl⟩ : ∃ g, f = g + 1 := ⟨f - 1, by omega⟩
    rw [Go.Proofs.Ytipljhmeafgffaa.rd, h2]
    cases cl
    · rw [h3 rfl]; rfl
    · rfl
  | cons h _ ih =>
    intro f hf ha
    obtain ⟨g, rfl⟩ : ∃ g, f = g + 1 := ⟨f - 1, by omega⟩
    rw [Go.Proofs.Ytipljhmeafgffaa.rd, whole_open h, h]
    exact ih h2 h3 g (by omega) (wholeB_true h).2.2.2.1
theorem rd_ends (l : List UInt8) : ∀ (f a : Nat) (k : Kp), l.length < a + f → a ≤ l.length → Ends l a k (rd l f a k).2.1 (rd l f a k).1 (rd l f a k).2.2 := by
  intro f
  induction f with
  | zero => intro a k h1 h2; omega
  | succ f ih =>
    intro a k h1 h2
    rw [rd]
    cases hb : blankB l a
    · cases hw : wholeB l a
      · exact ⟨.nil _ _, hb, fun _ => hw⟩
      · obtain ⟨g1, g2, g3⟩ := ih (a + 4 + lenAt l a) (upd k (idAt l a) (sgAt l a)) (by omega) (wholeB_true hw).2.2.2.1
        exact ⟨.cons hw g1, g2, g3⟩
    · exact ⟨.nil _ _, hb, fun e => by cases e⟩
/-- a record that stands whole behind a chain -/
theorem Ends.add {l m : List UInt8} {b i n : Nat} {k k' : Kp} (h : Recs l 1 k b k') (hl : l.length = m.length) (hs : ∀ j, j < b → l.getD j 0 = m.getD j 0) (hw : wholeB m b = true) (hi : idAt m b = i) (hn : lenAt m b = n) (hb : blankB m (b + 4 + n) = true) : Ends m 1 k (b + 4 + n) (upd k' i ⟨true, b + 3, n⟩) true := by
  subst hi hn
  exact ⟨(h.same hl hs).trans (.cons hw (.nil _ _)), hb, fun e => by cases e⟩
/-- none that stands whole behind it -/
theorem Ends.not {l m : List UInt8} {b : Nat} {k k' : Kp} (h : Recs l 1 k b k') (hl : l.length = m.length) (hs : ∀ j, j < b → l.getD j 0 = m.getD j 0) (hw : wholeB m b = false) : ∃ cl, Ends m 1 k b k' cl :=
  ⟨blankB m b, h.same hl hs, rfl, fun _ => hw⟩
end Go.Proofs.Ytipljhmeafgffaa
