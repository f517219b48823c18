/- Pure: a way that meets no side stays on its side. -/
import Derived.Test.YtohepelnbmojiaaGeP
namespace Go.Proofs.Ytohepelnbmojiaa

theorem pos_of_mul' {x y : Int} (hy : y < 0) (h : x * y < 0) : 0 < x := by
  rcases mul_neg_iff.1 h with e | e <;> omega
theorem nonneg_of_mul' {x y : Int} (hy : y < 0) (h : x * y ≤ 0) : 0 ≤ x := by
  rcases Int.lt_or_le x 0 with k | k
  · have := Int.mul_pos_of_neg_of_neg k hy; omega
  · exact k
section
variable {P1 P2 A B a b p q : Int}
theorem lin1 (hD : P2 - P1 = A - B) (k : P2 * p - P1 * q = A * b - B * a) : P2 * (p - b) = P1 * (q - b) + B * (b - a) := by
  have hE : (P2 - P1) * b = (A - B) * b := by rw [hD]
  grind
theorem lin2 (hD : P2 - P1 = A - B) (k : P2 * p - P1 * q = A * b - B * a) : A * (p - b) = B * (p - a) + P1 * (q - p) := by
  have hE : (P2 - P1) * p = (A - B) * p := by rw [hD]
  grind
theorem lin3 (hD : P2 - P1 = A - B) (k : P2 * p - P1 * q = A * b - B * a) : P1 * (q - a) = - (P2 * (a - p)) - A * (b - a) := by
  have hE : (P2 - P1) * a = (A - B) * a := by rw [hD]
  grind
theorem lin4 (hD : P2 - P1 = A - B) (k : P2 * p - P1 * q = A * b - B * a) : B * (q - a) = - (P2 * (q - p)) - A * (b - q) := by
  have hE : (P2 - P1) * q = (A - B) * q := by rw [hD]
  grind
theorem lin5 (hD : P2 - P1 = A - B) (k : P2 * p - P1 * q = A * b - B * a) : A * (a - b) = - (P2 * (p - a)) + P1 * (q - a) := by
  have hE : (P2 - P1) * a = (A - B) * a := by rw [hD]
  grind
theorem lin6 (hD : P2 - P1 = A - B) (k : P2 * p - P1 * q = A * b - B * a) : B * (a - b) = P2 * (b - p) - P1 * (b - q) := by
  have hE : (P2 - P1) * b = (A - B) * b := by rw [hD]
  grind
end
/-- both pass where they part -/
theorem meet_of {a b c d : Pt} (hA : cross a b c ≤ 0) (hA' : 0 ≤ cross a b d) (hB : 0 ≤ cross c d a) (hB' : cross c d b ≤ 0) (hp : 0 < cross a b d - cross a b c) : MeetP a b c d := by
  have hD := cross_diff a b c d
  have k1 : cross a b d * c.1 - cross a b c * d.1 = cross c d a * b.1 - cross c d b * a.1 := by unfold cross; grind
  have k2 : cross a b d * c.2 - cross a b c * d.2 = cross c d a * b.2 - cross c d b * a.2 := by unfold cross; grind
  refine ⟨⟨lo_of k1 hD hA hA' hB hB' hp, hi_of k1 hD hA hA' hB hB' hp⟩, ⟨lo_of k2 hD hA hA' hB hB' hp, hi_of k2 hD hA hA' hB hB' hp⟩, mul_nonpos hA hA', ?_⟩
  rw [Int.mul_comm]
  exact mul_nonpos hB' hB
/-- c and d between the levels of a and b, on both sides of their line -/
theorem meet_strip {a b c d : Pt} (hab : a.2 < b.2) (h1 : a.2 ≤ c.2) (h2 : a.2 ≤ d.2) (h3 : c.2 ≤ b.2) (h4 : d.2 ≤ b.2) (h : cross a b c * cross a b d ≤ 0) : MeetP a b c d := by
  have hD := cross_diff a b c d
  have k2 : cross a b d * c.2 - cross a b c * d.2 = cross c d a * b.2 - cross c d b * a.2 := by unfold cross; grind
  have key : ∀ {c d : Pt}, a.2 ≤ c.2 → a.2 ≤ d.2 → c.2 ≤ b.2 → d.2 ≤ b.2 → cross a b c ≤ 0 → 0 ≤ cross a b d → 0 < cross a b d - cross a b c → MeetP a b c d := by
    intro c d h1 h2 h3 h4 e1 e2 hp
    have hD := cross_diff a b c d
    have k2 : cross a b d * c.2 - cross a b c * d.2 = cross c d a * b.2 - cross c d b * a.2 := by unfold cross; grind
    have p1 := Int.mul_nonneg e2 (Int.sub_nonneg_of_le h1)
    have p2 := Int.mul_nonneg (Int.neg_nonneg_of_nonpos e1) (Int.sub_nonneg_of_le h2)
    have p3 := Int.mul_nonneg e2 (Int.sub_nonneg_of_le h3)
    have p4 := Int.mul_nonneg (Int.neg_nonneg_of_nonpos e1) (Int.sub_nonneg_of_le h4)
    have hab' : a.2 - b.2 < 0 := by omega
    have l5 := lin5 hD k2
    have l6 := lin6 hD k2
    simp only [Int.neg_mul] at p1 p2 p3 p4
    have q1 : 0 ≤ cross c d a := nonneg_of_mul' hab' (by omega)
    have q2 : 0 ≤ - cross c d b := nonneg_of_mul' hab' (by rw [Int.neg_mul]; omega)
    exact meet_of e1 e2 q1 (by omega) hp
  have flat : ∀ {c : Pt}, a.2 ≤ c.2 → c.2 ≤ b.2 → cross a b c = 0 → onB a b c = true := by
    intro c h1 h3 h0
    apply on_liney h0
    · rw [btw_iff]; omega
    · intro e1 e2; omega
  rcases Int.lt_trichotomy (cross a b c) 0 with e | e | e
  · have e2 : 0 ≤ cross a b d := by
      rcases Int.lt_or_le (cross a b d) 0 with k | k
      · have := Int.mul_pos_of_neg_of_neg e k; omega
      · exact k
    exact key h1 h2 h3 h4 (by omega) e2 (by omega)
  · exact on_meet d (flat h1 h3 e)
  · have e2 : cross a b d ≤ 0 := by
      rcases Int.lt_or_le 0 (cross a b d) with k | k
      · have := Int.mul_pos e k; omega
      · exact k
    exact (key h2 h1 h4 h3 e2 (by omega) (by omega)).flip
/-- in the strip between two levels, to the right of the way -/
def inS (p q v : Pt) : Bool := decide (p.2 < v.2) && decide (v.2 ≤ q.2) && decide (cross p q v < 0)
/-- one end below, one end in the strip -/
theorem edge_LM {a b p q : Pt} (hpq : p.2 < q.2) (ha : a.2 ≤ p.2) (hb : p.2 < b.2) (hb' : b.2 ≤ q.2) (hn : ¬ MeetP a b p q) : (0 < cross a b p ↔ cross p q b < 0) := by
  have hD := cross_diff a b p q
  have k2 : cross a b q * p.2 - cross a b p * q.2 = cross p q a * b.2 - cross p q b * a.2 := by unfold cross; grind
  have hpb : p.2 - b.2 < 0 := by omega
  have l1 := lin1 hD k2
  have l2 := lin2 hD k2
  constructor
  · intro h
    rcases Int.lt_trichotomy (cross p q b) 0 with e | e | e
    · exact e
    · exfalso; apply hn
      have : onB p q b = true := on_liney e (by rw [btw_iff]; omega) (fun e1 e2 => by omega)
      exact (on_meet a this).flip.swap
    · exfalso; apply hn
      have p1 := Int.mul_nonneg (Int.le_of_lt h) (Int.sub_nonneg_of_le hb')
      have p2 := Int.mul_pos e (show 0 < b.2 - a.2 by omega)
      have p3 := Int.mul_nonneg (Int.le_of_lt e) (Int.sub_nonneg_of_le ha)
      have p4 := Int.mul_pos h (show 0 < q.2 - p.2 by omega)
      have q1 : 0 < - cross a b q := pos_of_mul' hpb (by rw [Int.neg_mul]; omega)
      have q2 : 0 ≤ - cross p q a := nonneg_of_mul' hpb (by rw [Int.neg_mul]; omega)
      have f1 : cross q p a = - cross p q a := cross_flip _ _ _
      have f2 : cross q p b = - cross p q b := cross_flip _ _ _
      exact (meet_of (a := a) (b := b) (c := q) (d := p) (by omega) (by omega) (by omega) (by omega) (by omega)).flip
  · intro e
    rcases Int.lt_or_le 0 (cross a b p) with h | h
    · exact h
    · exfalso; apply hn
      have p1 := Int.mul_nonneg (Int.neg_nonneg_of_nonpos h) (Int.sub_nonneg_of_le hb')
      have p2 := Int.mul_pos (Int.neg_pos_of_neg e) (show 0 < b.2 - a.2 by omega)
      have p3 := Int.mul_nonneg (Int.le_of_lt (Int.neg_pos_of_neg e)) (Int.sub_nonneg_of_le ha)
      have p4 := Int.mul_nonneg (Int.neg_nonneg_of_nonpos h) (show 0 ≤ q.2 - p.2 by omega)
      simp only [Int.neg_mul] at p1 p2 p3 p4
      have q1 : 0 < cross a b q := pos_of_mul' hpb (by omega)
      have q2 : 0 ≤ cross p q a := nonneg_of_mul' hpb (by omega)
      exact meet_of h (by omega) q2 (by omega) (by omega)
/-- one end in the strip, one above -/
theorem edge_MH {a b p q : Pt} (hpq : p.2 < q.2) (ha : p.2 < a.2) (ha' : a.2 ≤ q.2) (hb : q.2 < b.2) (hn : ¬ MeetP a b p q) : (0 < cross a b q ↔ cross p q a < 0) := by
  have hD := cross_diff a b p q
  have k2 : cross a b q * p.2 - cross a b p * q.2 = cross p q a * b.2 - cross p q b * a.2 := by unfold cross; grind
  have nq : ∀ {x : Int}, 0 < x * (q.2 - a.2) → 0 < x := fun {x} h => by
    rcases mul_pos_iff.1 h with e | e <;> omega
  have l3 := lin3 hD k2
  have l4 := lin4 hD k2
  constructor
  · intro h
    rcases Int.lt_trichotomy (cross p q a) 0 with e | e | e
    · exact e
    · exfalso; apply hn
      have : onB p q a = true := on_liney e (by rw [btw_iff]; omega) (fun e1 e2 => by omega)
      exact (on_meet b this).swap
    · exfalso; apply hn
      have p1 := Int.mul_pos h (show 0 < a.2 - p.2 by omega)
      have p2 := Int.mul_pos e (show 0 < b.2 - a.2 by omega)
      have p3 := Int.mul_pos h (show 0 < q.2 - p.2 by omega)
      have p4 := Int.mul_pos e (show 0 < b.2 - q.2 by omega)
      have q1 : 0 < - cross a b p := nq (by rw [Int.neg_mul]; omega)
      have q2 : 0 < - cross p q b := nq (by rw [Int.neg_mul]; omega)
      exact meet_of (by omega) (by omega) (by omega) (by omega) (by omega)
  · intro e
    rcases Int.lt_or_le 0 (cross a b q) with h | h
    · exact h
    · exfalso; apply hn
      have p1 := Int.mul_nonneg (Int.neg_nonneg_of_nonpos h) (show 0 ≤ a.2 - p.2 by omega)
      have p2 := Int.mul_pos (Int.neg_pos_of_neg e) (show 0 < b.2 - a.2 by omega)
      have p3 := Int.mul_nonneg (Int.neg_nonneg_of_nonpos h) (show 0 ≤ q.2 - p.2 by omega)
      have p4 := Int.mul_pos (Int.neg_pos_of_neg e) (show 0 < b.2 - q.2 by omega)
      simp only [Int.neg_mul] at p1 p2 p3 p4
      have q1 : 0 < cross a b p := nq (by omega)
      have q2 : 0 < cross p q b := nq (by omega)
      have f1 : cross q p a = - cross p q a := cross_flip _ _ _
      have f2 : cross q p b = - cross p q b := cross_flip _ _ _
      exact (meet_of (a := a) (b := b) (c := q) (d := p) (by omega) (by omega) (by omega) (by omega) (by omega)).flip
theorem upB_iff (a b p : Pt) : upB a b p = true ↔ a.2 ≤ p.2 ∧ p.2 < b.2 ∧ 0 < cross a b p := by
  simp [upB, and_assoc]
theorem inS_iff (p q v : Pt) : inS p q v = true ↔ p.2 < v.2 ∧ v.2 ≤ q.2 ∧ cross p q v < 0 := by
  simp [inS, and_assoc]
theorem beq_of {x y : Bool} (h : x = true ↔ y = true) : x = y := Bool.eq_iff_iff.2 h
/-- an edge that goes up -/
theorem edge_up {a b p q : Pt} (hab : a.2 ≤ b.2) (hpq : p.2 < q.2) (hn : ¬ MeetP a b p q) : (upB a b p != upB a b q) = (inS p q a != inS p q b) := by
  have same : ∀ {x y : Int}, ¬ x * y ≤ 0 → (0 < x ↔ 0 < y) := fun {x y} h => by
    have := mul_pos_iff.1 (show 0 < x * y by omega)
    omega
  by_cases a1 : a.2 ≤ p.2
  · have sa : inS p q a = false := Bool.eq_false_iff.2 (fun h => by have := (inS_iff p q a).1 h; omega)
    by_cases b1 : b.2 ≤ p.2
    · have sb : inS p q b = false := Bool.eq_false_iff.2 (fun h => by have := (inS_iff p q b).1 h; omega)
      have u1 : upB a b p = false := Bool.eq_false_iff.2 (fun h => by have := (upB_iff a b p).1 h; omega)
      have u2 : upB a b q = false := Bool.eq_false_iff.2 (fun h => by have := (upB_iff a b q).1 h; omega)
      rw [sa, sb, u1, u2]
    · by_cases b2 : b.2 ≤ q.2
      · have u2 : upB a b q = false := Bool.eq_false_iff.2 (fun h => by have := (upB_iff a b q).1 h; omega)
        have e := edge_LM hpq a1 (by omega) b2 hn
        have : upB a b p = inS p q b := beq_of (by rw [upB_iff, inS_iff]; omega)
        rw [sa, u2, this]; cases inS p q b <;> rfl
      · have sb : inS p q b = false := Bool.eq_false_iff.2 (fun h => by have := (inS_iff p q b).1 h; omega)
        have e := same (fun h => hn (meet_strip (by omega) (by omega) (by omega) (by omega) (by omega) h))
        have : upB a b p = upB a b q := beq_of (by rw [upB_iff, upB_iff]; omega)
        rw [sa, sb, this]; cases upB a b q <;> rfl
  · have u1 : upB a b p = false := Bool.eq_false_iff.2 (fun h => by have := (upB_iff a b p).1 h; omega)
    by_cases a2 : a.2 ≤ q.2
    · by_cases b2 : b.2 ≤ q.2
      · have u2 : upB a b q = false := Bool.eq_false_iff.2 (fun h => by have := (upB_iff a b q).1 h; omega)
        have e : ¬ cross p q a * cross p q b ≤ 0 := fun h => hn (meet_strip hpq (by omega) (by omega) a2 b2 h).swap
        have := mul_pos_iff.1 (show 0 < cross p q a * cross p q b by omega)
        have : inS p q a = inS p q b := beq_of (by rw [inS_iff, inS_iff]; omega)
        rw [u1, u2, this]; cases inS p q b <;> rfl
      · have sb : inS p q b = false := Bool.eq_false_iff.2 (fun h => by have := (inS_iff p q b).1 h; omega)
        have e := edge_MH hpq (by omega) a2 (by omega) hn
        have : upB a b q = inS p q a := beq_of (by rw [upB_iff, inS_iff]; omega)
        rw [sb, u1, this]; cases inS p q a <;> rfl
    · have sa : inS p q a = false := Bool.eq_false_iff.2 (fun h => by have := (inS_iff p q a).1 h; omega)
      have sb : inS p q b = false := Bool.eq_false_iff.2 (fun h => by have := (inS_iff p q b).1 h; omega)
      have u2 : upB a b q = false := Bool.eq_false_iff.2 (fun h => by have := (upB_iff a b q).1 h; omega)
      rw [sa, sb, u1, u2]
theorem edge_lt {a b p q : Pt} (hpq : p.2 < q.2) (hn : ¬ MeetP a b p q) : (rightB a b p != rightB a b q) = (inS p q a != inS p q b) := by
  unfold rightB
  by_cases h : b.2 < a.2
  · rw [if_pos h, if_pos h, edge_up (by omega) hpq (fun h => hn h.swap.flip.swap)]
    cases inS p q a <;> cases inS p q b <;> rfl
  · rw [if_neg h, if_neg h, edge_up (by omega) hpq hn]
theorem edge_eq {a b p q : Pt} (hpq : p.2 = q.2) (hn : ¬ MeetP a b p q) : rightB a b p = rightB a b q := by
  have key : ∀ {a b : Pt}, ¬ MeetP a b p q → upB a b p = upB a b q := fun {a b} hn => beq_of (by
    rw [upB_iff, upB_iff]
    by_cases h : a.2 ≤ p.2 ∧ p.2 < b.2
    · have := mul_pos_iff.1 (show 0 < cross a b p * cross a b q by
        have : ¬ cross a b p * cross a b q ≤ 0 := fun h' => hn (meet_strip (by omega) (by omega) (by omega) (by omega) (by omega) h')
        omega)
      omega
    · omega)
  unfold rightB
  by_cases h : b.2 < a.2
  · rw [if_pos h, if_pos h]; exact key (fun h => hn h.swap.flip.swap)
  · rw [if_neg h, if_neg h]; exact key hn
end Go.Proofs.Ytohepelnbmojiaa
