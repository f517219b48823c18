/- Pure: segments that meet. -/
import Derived.Test.YtohepelnbmojiaaGeA
namespace Go.Proofs.Ytohepelnbmojiaa

theorem nonpos_of_sq {x y : Int} (hy : y ≠ 0) (h : x * (y * y) ≤ 0) : x ≤ 0 := by
  have hy2 : 0 < y * y := by
    rcases Int.lt_trichotomy y 0 with h1 | h1 | h1
    · exact Int.mul_pos_of_neg_of_neg h1 h1
    · exact absurd h1 hy
    · exact Int.mul_pos h1 h1
  rcases Int.lt_or_le 0 x with h1 | h1
  · have := Int.mul_pos h1 hy2; omega
  · exact h1
theorem sq_nonneg (x : Int) : 0 ≤ x * x := by
  rcases Int.lt_or_le x 0 with h | h
  · exact Int.le_of_lt (Int.mul_pos_of_neg_of_neg h h)
  · exact Int.mul_nonneg h h
theorem mul_nonpos {x y : Int} (h : x ≤ 0) (k : 0 ≤ y) : x * y ≤ 0 := by
  have := Int.mul_nonneg (Int.neg_nonneg_of_nonpos h) k
  rw [Int.neg_mul] at this
  omega
theorem mul_eq0 {x y : Int} (h : x * y = 0) (k : x ≠ 0) : y = 0 := (Int.mul_eq_zero.1 h).resolve_left k
theorem sg_zero {n : Int} : sg n = 0 ↔ n = 0 := by unfold sg; split <;> (try split) <;> omega
theorem sg_lt {n : Int} : sg n < 0 ↔ n < 0 := by unfold sg; split <;> (try split) <;> omega
theorem sg_gt {n : Int} : 0 < sg n ↔ 0 < n := by unfold sg; split <;> (try split) <;> omega
theorem mul_neg_iff {x y : Int} : x * y < 0 ↔ (x < 0 ∧ 0 < y) ∨ (0 < x ∧ y < 0) := by
  rcases Int.lt_trichotomy x 0 with h | h | h
  · rcases Int.lt_trichotomy y 0 with k | k | k
    · have := Int.mul_pos_of_neg_of_neg h k; omega
    · subst k; simp
    · have := Int.mul_neg_of_neg_of_pos h k; omega
  · subst h; simp
  · rcases Int.lt_trichotomy y 0 with k | k | k
    · have := Int.mul_neg_of_pos_of_neg h k; omega
    · subst k; simp
    · have := Int.mul_pos h k; omega
theorem mul_pos_iff {x y : Int} : 0 < x * y ↔ (x < 0 ∧ y < 0) ∨ (0 < x ∧ 0 < y) := by
  rcases Int.lt_trichotomy x 0 with h | h | h
  · rcases Int.lt_trichotomy y 0 with k | k | k
    · have := Int.mul_pos_of_neg_of_neg h k; omega
    · subst k; simp
    · have := Int.mul_neg_of_neg_of_pos h k; omega
  · subst h; simp
  · rcases Int.lt_trichotomy y 0 with k | k | k
    · have := Int.mul_neg_of_pos_of_neg h k; omega
    · subst k; simp
    · have := Int.mul_pos h k; omega
theorem sg_mul_neg (n m : Int) : sg n * sg m < 0 ↔ n * m < 0 := by
  rw [mul_neg_iff, mul_neg_iff, sg_lt, sg_lt, sg_gt, sg_gt]
theorem sg_mul_le (n m : Int) : sg n * sg m ≤ 0 ↔ n * m ≤ 0 := by
  rw [← Int.not_lt, ← Int.not_lt, mul_pos_iff, mul_pos_iff, sg_lt, sg_lt, sg_gt, sg_gt]
/-- between: (a - c)(b - c) is not above 0 -/
theorem btw_iff (a b c : Int) : (a - c) * (b - c) ≤ 0 ↔ min a b ≤ c ∧ c ≤ max a b := by
  rw [← Int.not_lt, mul_pos_iff]
  omega
def onB (a b p : Pt) : Bool := decide (cross a b p = 0) && decide (min a.1 b.1 ≤ p.1) && decide (p.1 ≤ max a.1 b.1) && decide (min a.2 b.2 ≤ p.2) && decide (p.2 ≤ max a.2 b.2)
theorem onB_iff (a b p : Pt) : onB a b p = true ↔ cross a b p = 0 ∧ (a.1 - p.1) * (b.1 - p.1) ≤ 0 ∧ (a.2 - p.2) * (b.2 - p.2) ≤ 0 := by
  rw [btw_iff, btw_iff]
  simp [onB]
  omega
def comB (a b c d : Pt) : Bool := (onB a b c || onB a b d || onB c d a || onB c d b) || (decide (sg (cross a b c) * sg (cross a b d) < 0) && decide (sg (cross c d a) * sg (cross c d b) < 0))
theorem ovl_iff (a b c d : Int) : ovl a b c d = true ↔ min c d ≤ max a b ∧ min a b ≤ max c d := by simp [ovl]
/-- what Meet asks, as numbers -/
def MeetP (a b c d : Pt) : Prop := (min c.1 d.1 ≤ max a.1 b.1 ∧ min a.1 b.1 ≤ max c.1 d.1) ∧ (min c.2 d.2 ≤ max a.2 b.2 ∧ min a.2 b.2 ≤ max c.2 d.2) ∧ cross a b c * cross a b d ≤ 0 ∧ cross c d a * cross c d b ≤ 0
theorem meetB_iff (a b c d : Pt) : meetB a b c d = true ↔ MeetP a b c d := by
  simp only [meetB, MeetP, Bool.and_eq_true, ovl_iff, decide_eq_true_eq, sg_mul_le]
  grind
theorem MeetP.swap {a b c d : Pt} (h : MeetP a b c d) : MeetP c d a b := by
  obtain ⟨h1, h2, h3, h4⟩ := h
  exact ⟨⟨h1.2, h1.1⟩, ⟨h2.2, h2.1⟩, h4, h3⟩
theorem cross_flip (a b p : Pt) : cross b a p = - cross a b p := by unfold cross; grind
theorem MeetP.flip {a b c d : Pt} (h : MeetP a b c d) : MeetP a b d c := by
  obtain ⟨h1, h2, h3, h4⟩ := h
  refine ⟨by omega, by omega, by rw [Int.mul_comm]; exact h3, ?_⟩
  rw [cross_flip c d a, cross_flip c d b, Int.neg_mul_neg]
  exact h4
/-- one end on the other's line, the lines not parallel -/
theorem on_of {a b c d : Pt} (h0 : cross a b c = 0) (h4 : cross c d a * cross c d b ≤ 0) (hD : cross c d a ≠ cross c d b) : onB a b c = true := by
  rw [onB_iff]
  refine ⟨h0, ?_, ?_⟩
  · have k1 : cross c d a * (b.1 - c.1) = cross c d b * (a.1 - c.1) := by unfold cross at *; grind
    by_cases hz : cross c d a = 0
    · have hb : cross c d b ≠ 0 := fun e => hD (by rw [hz, e])
      rw [hz, Int.zero_mul] at k1
      have := mul_eq0 k1.symm hb
      rw [this]; simp
    · apply nonpos_of_sq hz
      have e : (a.1 - c.1) * (b.1 - c.1) * (cross c d a * cross c d a) = (cross c d a * cross c d b) * ((a.1 - c.1) * (a.1 - c.1)) := by
        have : (a.1 - c.1) * (b.1 - c.1) * (cross c d a * cross c d a) = (a.1 - c.1) * cross c d a * (cross c d a * (b.1 - c.1)) := by grind
        rw [this, k1]; grind
      rw [e]
      exact mul_nonpos h4 (sq_nonneg _)
  · have k1 : cross c d a * (b.2 - c.2) = cross c d b * (a.2 - c.2) := by unfold cross at *; grind
    by_cases hz : cross c d a = 0
    · have hb : cross c d b ≠ 0 := fun e => hD (by rw [hz, e])
      rw [hz, Int.zero_mul] at k1
      have := mul_eq0 k1.symm hb
      rw [this]; simp
    · apply nonpos_of_sq hz
      have e : (a.2 - c.2) * (b.2 - c.2) * (cross c d a * cross c d a) = (cross c d a * cross c d b) * ((a.2 - c.2) * (a.2 - c.2)) := by
        have : (a.2 - c.2) * (b.2 - c.2) * (cross c d a * cross c d a) = (a.2 - c.2) * cross c d a * (cross c d a * (b.2 - c.2)) := by grind
        rw [this, k1]; grind
      rw [e]
      exact mul_nonpos h4 (sq_nonneg _)
/-- intervals that overlap: one holds an end of the other -/
theorem ovl_end {a b c d : Int} (h1 : min c d ≤ max a b) (h2 : min a b ≤ max c d) : ((a - c) * (b - c) ≤ 0) ∨ ((a - d) * (b - d) ≤ 0) ∨ ((c - a) * (d - a) ≤ 0) ∨ ((c - b) * (d - b) ≤ 0) := by
  rw [btw_iff, btw_iff, btw_iff, btw_iff]
  omega
/-- on a line that is not upright, what is between in one way is so in the other -/
theorem btw_line {u1 u2 v1 v2 : Int} (h : u1 * v2 = u2 * v1) (hb : u1 * v1 ≤ 0) (hu : u1 = 0 → v1 = 0 → u2 * v2 ≤ 0) : u2 * v2 ≤ 0 := by
  by_cases h1 : u1 = 0
  · by_cases h2 : v1 = 0
    · exact hu h1 h2
    · subst h1
      rw [Int.zero_mul] at h
      rcases Int.mul_eq_zero.1 h.symm with e | e
      · rw [e]; simp
      · exact absurd e h2
  · apply nonpos_of_sq h1
    have : u2 * v2 * (u1 * u1) = (u1 * v1) * (u2 * u2) := by
      have e : u2 * v2 * (u1 * u1) = u2 * u1 * (u1 * v2) := by grind
      rw [e, h]; grind
    rw [this]
    exact mul_nonpos hb (sq_nonneg _)
theorem on_line {a b c : Pt} (h0 : cross a b c = 0) (hx : (a.1 - c.1) * (b.1 - c.1) ≤ 0) (hv : a.1 - c.1 = 0 → b.1 - c.1 = 0 → (a.2 - c.2) * (b.2 - c.2) ≤ 0) : onB a b c = true := by
  rw [onB_iff]
  exact ⟨h0, hx, btw_line (by unfold cross at h0; grind) hx hv⟩
theorem on_liney {a b c : Pt} (h0 : cross a b c = 0) (hx : (a.2 - c.2) * (b.2 - c.2) ≤ 0) (hv : a.2 - c.2 = 0 → b.2 - c.2 = 0 → (a.1 - c.1) * (b.1 - c.1) ≤ 0) : onB a b c = true := by
  rw [onB_iff]
  exact ⟨h0, btw_line (by unfold cross at h0; grind) hx hv, hx⟩
/-- all four on one line -/
theorem com_flat {a b c d : Pt} (h1 : cross a b c = 0) (h2 : cross a b d = 0) (h3 : cross c d a = 0) (h4 : cross c d b = 0) (hx : min c.1 d.1 ≤ max a.1 b.1 ∧ min a.1 b.1 ≤ max c.1 d.1) (hy : min c.2 d.2 ≤ max a.2 b.2 ∧ min a.2 b.2 ≤ max c.2 d.2) : (onB a b c = true ∨ onB a b d = true) ∨ onB c d a = true ∨ onB c d b = true := by
  by_cases hv : a.1 = b.1 ∧ c.1 = d.1
  · -- both upright
    obtain ⟨e1, e2⟩ := hv
    have e3 : a.1 = c.1 := by omega
    rcases ovl_end hy.1 hy.2 with h | h | h | h
    · exact .inl (.inl (on_liney h1 h (fun _ _ => by rw [e3, ← e1, e3]; simp)))
    · exact .inl (.inr (on_liney h2 h (fun _ _ => by rw [e3, e2]; simp)))
    · exact .inr (.inl (on_liney h3 h (fun _ _ => by rw [e3]; simp)))
    · exact .inr (.inr (on_liney h4 h (fun _ _ => by rw [← e1, e3]; simp)))
  · -- a level end is at one point
    have key : ∀ {p q r : Pt}, cross p q r = 0 → (p.1 - r.1) * (q.1 - r.1) ≤ 0 → (p.1 ≠ q.1) → onB p q r = true := fun h0 hx hne => on_line h0 hx (fun e1 e2 => absurd (by omega) hne)
    by_cases hab : a.1 = b.1
    · have hcd : c.1 ≠ d.1 := fun e => hv ⟨hab, e⟩
      have : (c.1 - a.1) * (d.1 - a.1) ≤ 0 := by rw [btw_iff]; omega
      exact .inr (.inl (key h3 this hcd))
    · by_cases hcd : c.1 = d.1
      · have : (a.1 - c.1) * (b.1 - c.1) ≤ 0 := by rw [btw_iff]; omega
        exact .inl (.inl (key h1 this hab))
      · rcases ovl_end hx.1 hx.2 with h | h | h | h
        · exact .inl (.inl (key h1 h hab))
        · exact .inl (.inr (key h2 h hab))
        · exact .inr (.inl (key h3 h hcd))
        · exact .inr (.inr (key h4 h hcd))
theorem cross_diff (a b c d : Pt) : cross a b d - cross a b c = cross c d a - cross c d b := by unfold cross; grind
/-- one end on the other's line -/
theorem com_end {a b c d : Pt} (h : MeetP a b c d) (h0 : cross a b c = 0) : onB a b c = true ∨ (onB a b c = true ∨ onB a b d = true) ∨ onB c d a = true ∨ onB c d b = true := by
  obtain ⟨hx, hy, h3, h4⟩ := h
  by_cases hD : cross c d a = cross c d b
  · right
    have e := cross_diff a b c d
    rw [h0, hD] at e
    have h2 : cross a b d = 0 := by omega
    rw [hD] at h4
    have hz : cross c d b = 0 := by
      rcases Int.mul_eq_zero.1 (Int.le_antisymm h4 (sq_nonneg _)) with e | e <;> exact e
    exact com_flat h0 h2 (hD.trans hz) hz hx hy
  · exact .inl (on_of h0 h4 hD)
theorem meet_com {a b c d : Pt} (h : MeetP a b c d) : comB a b c d = true := by
  simp only [comB, Bool.or_eq_true, Bool.and_eq_true, decide_eq_true_eq, sg_mul_neg]
  by_cases h1 : cross a b c = 0
  · have := com_end h h1; grind
  by_cases h2 : cross a b d = 0
  · have := com_end h.flip h2
    have e : ∀ p q r : Pt, onB p q r = onB q p r := fun p q r => by
      rw [Bool.eq_iff_iff, onB_iff, onB_iff, cross_flip, Int.mul_comm (q.1 - r.1), Int.mul_comm (q.2 - r.2), Int.neg_eq_zero]
    rw [e d c a, e d c b] at this
    grind
  by_cases h3 : cross c d a = 0
  · have := com_end h.swap h3; grind
  by_cases h4 : cross c d b = 0
  · have := com_end h.swap.flip h4
    have e : ∀ p q r : Pt, onB p q r = onB q p r := fun p q r => by
      rw [Bool.eq_iff_iff, onB_iff, onB_iff, cross_flip, Int.mul_comm (q.1 - r.1), Int.mul_comm (q.2 - r.2), Int.neg_eq_zero]
    rw [e b a c, e b a d] at this
    grind
  right
  obtain ⟨hx, hy, h5, h6⟩ := h
  have n1 : cross a b c * cross a b d ≠ 0 := fun e => by rcases Int.mul_eq_zero.1 e with e | e <;> contradiction
  have n2 : cross c d a * cross c d b ≠ 0 := fun e => by rcases Int.mul_eq_zero.1 e with e | e <;> contradiction
  omega
theorem on_meet {a b c : Pt} (d : Pt) (h : onB a b c = true) : MeetP a b c d := by
  obtain ⟨h0, hx, hy⟩ := (onB_iff a b c).1 h
  have hx' := (btw_iff _ _ _).1 hx
  have hy' := (btw_iff _ _ _).1 hy
  refine ⟨by omega, by omega, by rw [h0]; simp, ?_⟩
  have k1 : cross c d a * (b.1 - c.1) = cross c d b * (a.1 - c.1) := by unfold cross at *; grind
  have k2 : cross c d a * (b.2 - c.2) = cross c d b * (a.2 - c.2) := by unfold cross at *; grind
  by_cases e1 : b.1 - c.1 = 0
  · by_cases e2 : b.2 - c.2 = 0
    · have : cross c d b = 0 := by unfold cross; grind
      rw [this]; simp
    · apply nonpos_of_sq e2
      have : cross c d a * cross c d b * ((b.2 - c.2) * (b.2 - c.2)) = ((a.2 - c.2) * (b.2 - c.2)) * (cross c d b * cross c d b) := by
        have e : cross c d a * cross c d b * ((b.2 - c.2) * (b.2 - c.2)) = cross c d a * (b.2 - c.2) * (cross c d b * (b.2 - c.2)) := by grind
        rw [e, k2]; grind
      rw [this]
      exact mul_nonpos hy (sq_nonneg _)
  · apply nonpos_of_sq e1
    have : cross c d a * cross c d b * ((b.1 - c.1) * (b.1 - c.1)) = ((a.1 - c.1) * (b.1 - c.1)) * (cross c d b * cross c d b) := by
      have e : cross c d a * cross c d b * ((b.1 - c.1) * (b.1 - c.1)) = cross c d a * (b.1 - c.1) * (cross c d b * (b.1 - c.1)) := by grind
      rw [e, k1]; grind
    rw [this]
    exact mul_nonpos hx (sq_nonneg _)
theorem strict_lo {a b c d : Int} {A1 A2 B1 B2 : Int} (hk : A2 * c - A1 * d = B1 * b - B2 * a) (hD : A2 - A1 = B1 - B2) (hA : A1 < 0) (hA' : 0 < A2) (hB : 0 < B1) (hB' : B2 < 0) : min c d ≤ max a b := by
  rcases Int.lt_or_le (max a b) (min c d) with hlt | hle
  · exfalso
    have c1 : max a b + 1 ≤ c := by omega
    have c2 : max a b + 1 ≤ d := by omega
    have c3 : a ≤ max a b := by omega
    have c4 : b ≤ max a b := by omega
    generalize max a b = m at *
    have p1 := Int.mul_nonneg (Int.le_of_lt hA') (Int.sub_nonneg_of_le c1)
    have p2 := Int.mul_nonneg (Int.le_of_lt (Int.neg_pos_of_neg hA)) (Int.sub_nonneg_of_le c2)
    have p3 := Int.mul_nonneg (Int.le_of_lt hB) (Int.sub_nonneg_of_le c4)
    have p4 := Int.mul_nonneg (Int.le_of_lt (Int.neg_pos_of_neg hB')) (Int.sub_nonneg_of_le c3)
    have hE : (A2 - A1) * m = (B1 - B2) * m := by rw [hD]
    grind
  · exact hle
theorem strict_hi {a b c d : Int} {A1 A2 B1 B2 : Int} (hk : A2 * c - A1 * d = B1 * b - B2 * a) (hD : A2 - A1 = B1 - B2) (hA : A1 < 0) (hA' : 0 < A2) (hB : 0 < B1) (hB' : B2 < 0) : min a b ≤ max c d := by
  rcases Int.lt_or_le (max c d) (min a b) with hlt | hle
  · exfalso
    have c1 : max c d + 1 ≤ a := by omega
    have c2 : max c d + 1 ≤ b := by omega
    have c3 : c ≤ max c d := by omega
    have c4 : d ≤ max c d := by omega
    generalize max c d = m at *
    have p1 := Int.mul_nonneg (Int.le_of_lt hA') (Int.sub_nonneg_of_le c3)
    have p2 := Int.mul_nonneg (Int.le_of_lt (Int.neg_pos_of_neg hA)) (Int.sub_nonneg_of_le c4)
    have p3 := Int.mul_nonneg (Int.le_of_lt hB) (Int.sub_nonneg_of_le c2)
    have p4 := Int.mul_nonneg (Int.le_of_lt (Int.neg_pos_of_neg hB')) (Int.sub_nonneg_of_le c1)
    have hE : (A2 - A1) * m = (B1 - B2) * m := by rw [hD]
    grind
  · exact hle
theorem strict_up {a b c d : Pt} (hA : cross a b c < 0) (hA' : 0 < cross a b d) (hB : 0 < cross c d a) (hB' : cross c d b < 0) : MeetP a b c d := by
  have hD := cross_diff a b c d
  have k1 : cross a b d * c.1 - cross a b c * d.1 = cross c d a * b.1 - cross c d b * a.1 := by unfold cross; grind
  have k2 : cross a b d * c.2 - cross a b c * d.2 = cross c d a * b.2 - cross c d b * a.2 := by unfold cross; grind
  refine ⟨⟨strict_lo k1 hD hA hA' hB hB', strict_hi k1 hD hA hA' hB hB'⟩, ⟨strict_lo k2 hD hA hA' hB hB', strict_hi k2 hD hA hA' hB hB'⟩, ?_, ?_⟩
  · exact Int.le_of_lt (Int.mul_neg_of_neg_of_pos hA hA')
  · exact Int.le_of_lt (Int.mul_neg_of_pos_of_neg hB hB')
theorem strict_meet {a b c d : Pt} (h1 : cross a b c * cross a b d < 0) (h2 : cross c d a * cross c d b < 0) : MeetP a b c d := by
  have hD := cross_diff a b c d
  rcases mul_neg_iff.1 h1 with ⟨e1, e2⟩ | ⟨e1, e2⟩ <;> rcases mul_neg_iff.1 h2 with ⟨e3, e4⟩ | ⟨e3, e4⟩
  · omega
  · exact strict_up e1 e2 e3 e4
  · have f1 : cross d c a = - cross c d a := cross_flip _ _ _
    have f2 : cross d c b = - cross c d b := cross_flip _ _ _
    exact (strict_up (a := a) (b := b) (c := d) (d := c) e2 e1 (by omega) (by omega)).flip
  · omega
theorem com_meet {a b c d : Pt} (h : comB a b c d = true) : MeetP a b c d := by
  simp only [comB, Bool.or_eq_true, Bool.and_eq_true, decide_eq_true_eq, sg_mul_neg] at h
  rcases h with (((h | h) | h) | h) | ⟨h1, h2⟩
  · exact on_meet d h
  · exact (on_meet c h).flip
  · exact (on_meet b h).swap
  · exact (on_meet a h).flip.swap
  · exact strict_meet h1 h2
theorem meet_eq (a b c d : Pt) : meetB a b c d = comB a b c d := by
  rw [Bool.eq_iff_iff, meetB_iff]
  exact ⟨meet_com, com_meet⟩
theorem on_flat (a b p : Pt) : meetB a b p p = onB a b p := by
  rw [Bool.eq_iff_iff, meetB_iff]
  constructor
  · rintro ⟨hx, hy, h3, h4⟩
    rw [onB_iff, btw_iff, btw_iff]
    have h0 : cross a b p = 0 := by
      rcases Int.mul_eq_zero.1 (Int.le_antisymm h3 (sq_nonneg _)) with e | e <;> exact e
    exact ⟨h0, by omega, by omega⟩
  · exact on_meet p
end Go.Proofs.Ytohepelnbmojiaa
