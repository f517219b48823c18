/- Pure: a segment and a rectangle: by its sides, or by its diagonals. -/
import Derived.Test.YtohepelnbmojiaaGrC
namespace Go.Proofs.Ytohepelnbmojiaa

/-- a measure along a way -/
def gau (u v : Int) (p : Pt) : Int := u * p.1 + v * p.2
theorem gau_id (u v : Int) (a b c d : Pt) : cross a b d * gau u v c - cross a b c * gau u v d = cross c d a * gau u v b - cross c d b * gau u v a := by
  unfold cross gau; grind
theorem pos_of_mul {x y : Int} (hy : 0 < y) (h : 0 < x * y) : 0 < x := by
  rcases mul_pos_iff.1 h with e | e <;> omega
/-- both weights point the right way -/
theorem weights {A1 A2 B1 B2 ga gb gc gd ha hb hc hd : Int} (hD : A2 - A1 = B1 - B2) (hA : A1 ≤ 0) (hA' : 0 ≤ A2) (hp : 0 < A2 - A1)
    (e1 : A2 * gc - A1 * gd = B1 * gb - B2 * ga) (g1 : ga < gc) (g2 : ga < gd) (g3 : ga < gb)
    (e2 : A2 * hc - A1 * hd = B1 * hb - B2 * ha) (h1 : hc < hb) (h2 : hd < hb) (h3 : ha < hb) : 0 < B1 ∧ B2 < 0 := by
  constructor
  · apply pos_of_mul (Int.sub_pos_of_lt g3)
    have p1 := Int.mul_nonneg hA' (Int.sub_nonneg_of_le (Int.add_one_le_iff.2 g1))
    have p2 := Int.mul_nonneg (Int.neg_nonneg_of_nonpos hA) (Int.sub_nonneg_of_le (Int.add_one_le_iff.2 g2))
    have hE : (A2 - A1) * ga = (B1 - B2) * ga := by rw [hD]
    grind
  · have : 0 < -B2 := by
      apply pos_of_mul (Int.sub_pos_of_lt h3)
      have p1 := Int.mul_nonneg hA' (Int.sub_nonneg_of_le (Int.add_one_le_iff.2 h1))
      have p2 := Int.mul_nonneg (Int.neg_nonneg_of_nonpos hA) (Int.sub_nonneg_of_le (Int.add_one_le_iff.2 h2))
      have hE : (A2 - A1) * hb = (B1 - B2) * hb := by rw [hD]
      grind
    omega
theorem lo_of {a b c d A1 A2 B1 B2 : Int} (hk : A2 * c - A1 * d = B1 * b - B2 * a) (hD : A2 - A1 = B1 - B2) (hA : A1 ≤ 0) (hA' : 0 ≤ A2) (hB : 0 ≤ B1) (hB' : B2 ≤ 0) (hp : 0 < A2 - A1) : min c d ≤ max a b := by
  rcases Int.lt_or_le (max a b) (min c d) with hlt | hle
  · exfalso
    have c1 : max a b + 1 ≤ c := by omega
    have c2 : max a b + 1 ≤ d := by omega
    have c3 : a ≤ max a b := by omega
    have c4 : b ≤ max a b := by omega
    generalize max a b = m at *
    have p1 := Int.mul_nonneg hA' (Int.sub_nonneg_of_le c1)
    have p2 := Int.mul_nonneg (Int.neg_nonneg_of_nonpos hA) (Int.sub_nonneg_of_le c2)
    have p3 := Int.mul_nonneg hB (Int.sub_nonneg_of_le c4)
    have p4 := Int.mul_nonneg (Int.neg_nonneg_of_nonpos hB') (Int.sub_nonneg_of_le c3)
    have hE : (A2 - A1) * m = (B1 - B2) * m := by rw [hD]
    grind
  · exact hle
theorem hi_of {a b c d A1 A2 B1 B2 : Int} (hk : A2 * c - A1 * d = B1 * b - B2 * a) (hD : A2 - A1 = B1 - B2) (hA : A1 ≤ 0) (hA' : 0 ≤ A2) (hB : 0 ≤ B1) (hB' : B2 ≤ 0) (hp : 0 < A2 - A1) : min a b ≤ max c d := by
  rcases Int.lt_or_le (max c d) (min a b) with hlt | hle
  · exfalso
    have c1 : max c d + 1 ≤ a := by omega
    have c2 : max c d + 1 ≤ b := by omega
    have c3 : c ≤ max c d := by omega
    have c4 : d ≤ max c d := by omega
    generalize max c d = m at *
    have p1 := Int.mul_nonneg hA' (Int.sub_nonneg_of_le c3)
    have p2 := Int.mul_nonneg (Int.neg_nonneg_of_nonpos hA) (Int.sub_nonneg_of_le c4)
    have p3 := Int.mul_nonneg hB (Int.sub_nonneg_of_le c2)
    have p4 := Int.mul_nonneg (Int.neg_nonneg_of_nonpos hB') (Int.sub_nonneg_of_le c1)
    have hE : (A2 - A1) * m = (B1 - B2) * m := by rw [hD]
    grind
  · exact hle
/-- a is ahead of c and d one way, b behind them another way -/
structure Around (a b c d : Pt) where
  u : Int
  v : Int
  u' : Int
  v' : Int
  g1 : gau u v a < gau u v c
  g2 : gau u v a < gau u v d
  g3 : gau u v a < gau u v b
  h1 : gau u' v' c < gau u' v' b
  h2 : gau u' v' d < gau u' v' b
  h3 : gau u' v' a < gau u' v' b
theorem Around.up {a b c d : Pt} (R : Around a b c d) (hA : cross a b c ≤ 0) (hA' : 0 ≤ cross a b d) (hp : 0 < cross a b d - cross a b c) : MeetP a b c d := by
  have hD := cross_diff a b c d
  obtain ⟨hB, hB'⟩ := weights hD hA hA' hp (gau_id R.u R.v a b c d) R.g1 R.g2 R.g3 (gau_id R.u' R.v' a b c d) R.h1 R.h2 R.h3
  have k1 : cross a b d * c.1 - cross a b c * d.1 = cross c d a * b.1 - cross c d b * a.1 := by unfold cross; grind
  have k2 : cross a b d * c.2 - cross a b c * d.2 = cross c d a * b.2 - cross c d b * a.2 := by unfold cross; grind
  have hb := Int.le_of_lt hB
  have hb' := Int.le_of_lt hB'
  refine ⟨⟨lo_of k1 hD hA hA' hb hb' hp, hi_of k1 hD hA hA' hb hb' hp⟩, ⟨lo_of k2 hD hA hA' hb hb' hp, hi_of k2 hD hA hA' hb hb' hp⟩, mul_nonpos hA hA', ?_⟩
  exact Int.le_of_lt (Int.mul_neg_of_pos_of_neg hB hB')
def Around.flip {a b c d : Pt} (R : Around a b c d) : Around a b d c := ⟨R.u, R.v, R.u', R.v', R.g2, R.g1, R.g3, R.h2, R.h1, R.h3⟩
/-- on the line of a and b, ahead of the one and behind the other -/
theorem Around.flat {a b c d : Pt} (R : Around a b c d) (h0 : cross a b c = 0) : onB a b c = true := by
  rw [onB_iff]
  have e1 : gau R.u R.v c = R.u * c.1 + R.v * c.2 := rfl
  have hg1 := Int.sub_pos_of_lt R.g1
  have hg3 := Int.sub_pos_of_lt R.g3
  have hh1 := Int.sub_pos_of_lt R.h1
  have hh3 := Int.sub_pos_of_lt R.h3
  obtain ⟨U, V, U', V', _, _, _, _, _, _⟩ := R
  simp only at *
  -- c - a = s (b - a): (gc - ga) (b - a) = (gb - ga) (c - a); (hb - hc) (b - a) = (hb - ha) (b - c)
  have key : ∀ t : Bool, (if t then (a.1 - c.1) * (b.1 - c.1) else (a.2 - c.2) * (b.2 - c.2)) * (((gau U V b - gau U V a) * (gau U' V' b - gau U' V' a)) ) = - (((gau U V c - gau U V a) * (gau U' V' b - gau U' V' c)) * (if t then (b.1 - a.1) * (b.1 - a.1) else (b.2 - a.2) * (b.2 - a.2))) := by
    intro t
    unfold cross at h0
    unfold gau
    have h0' : (b.1 - a.1) * (c.2 - a.2) = (b.2 - a.2) * (c.1 - a.1) := by omega
    cases t
    · simp only [Bool.false_eq_true, if_false]; grind
    · simp only [if_true]; grind
  have hP := Int.mul_pos hg3 hh3
  have hQ := Int.mul_pos hg1 hh1
  refine ⟨h0, ?_, ?_⟩
  · have := key true
    simp only [if_true] at this
    have h2 := Int.mul_nonneg (Int.le_of_lt hQ) (sq_nonneg (b.1 - a.1))
    rcases Int.lt_or_le 0 ((a.1 - c.1) * (b.1 - c.1)) with h | h
    · have := Int.mul_pos h hP; omega
    · exact h
  · have := key false
    simp only [Bool.false_eq_true, if_false] at this
    have h2 := Int.mul_nonneg (Int.le_of_lt hQ) (sq_nonneg (b.2 - a.2))
    rcases Int.lt_or_le 0 ((a.2 - c.2) * (b.2 - c.2)) with h | h
    · have := Int.mul_pos h hP; omega
    · exact h
theorem Around.meet {a b c d : Pt} (R : Around a b c d) (h : cross a b c * cross a b d ≤ 0) : MeetP a b c d := by
  rcases Int.lt_trichotomy (cross a b c) 0 with h1 | h1 | h1
  · have : 0 ≤ cross a b d := by
      rcases Int.lt_or_le (cross a b d) 0 with k | k
      · have := Int.mul_pos_of_neg_of_neg h1 k; omega
      · exact k
    exact R.up (by omega) this (by omega)
  · exact on_meet d (R.flat h1)
  · have : cross a b d ≤ 0 := by
      rcases Int.lt_or_le 0 (cross a b d) with k | k
      · have := Int.mul_pos h1 k; omega
      · exact k
    exact (R.flip.up this (by omega) (by omega)).flip
/-- c and d in the rectangle, a and b out of it, each beyond another edge -/
theorem around_of {a b c d x y : Pt} (ha : inB x y a = false) (hb : inB x y b = false) (hc : inB x y c = true) (hd : inB x y d = true) (ox : min a.1 b.1 ≤ x.2 ∧ x.1 ≤ max a.1 b.1) (oy : min a.2 b.2 ≤ y.2 ∧ y.1 ≤ max a.2 b.2) : Nonempty (Around a b c d) := by
  simp only [inB, Bool.and_eq_true, decide_eq_true_eq, Bool.and_eq_false_iff, decide_eq_false_iff_not] at *
  obtain ⟨U, V, hU⟩ : ∃ U V : Int, gau U V a < gau U V c ∧ gau U V a < gau U V d ∧ gau U V a < gau U V b := by
    by_cases e1 : a.1 < x.1
    · exact ⟨1, 0, by unfold gau; omega⟩
    by_cases e2 : x.2 < a.1
    · exact ⟨-1, 0, by unfold gau; omega⟩
    by_cases e3 : a.2 < y.1
    · exact ⟨0, 1, by unfold gau; omega⟩
    · exact ⟨0, -1, by unfold gau; omega⟩
  obtain ⟨U', V', hV⟩ : ∃ U V : Int, gau U V c < gau U V b ∧ gau U V d < gau U V b ∧ gau U V a < gau U V b := by
    by_cases e1 : b.1 < x.1
    · exact ⟨-1, 0, by unfold gau; omega⟩
    by_cases e2 : x.2 < b.1
    · exact ⟨1, 0, by unfold gau; omega⟩
    by_cases e3 : b.2 < y.1
    · exact ⟨0, -1, by unfold gau; omega⟩
    · exact ⟨0, 1, by unfold gau; omega⟩
  exact ⟨⟨U, V, U', V', hU.1, hU.2.1, hU.2.2, hV.1, hV.2.1, hV.2.2⟩⟩
theorem strad {p q r s : Int} (h : p + r = q + s) : ((p * q ≤ 0 ∨ q * r ≤ 0) ∨ r * s ≤ 0) ∨ s * p ≤ 0 ↔ p * r ≤ 0 ∨ s * q ≤ 0 := by
  simp only [← Int.not_lt, mul_pos_iff]
  omega
theorem touch_eq (a b x y : Pt) (hx : x.1 ≤ x.2) (hy : y.1 ≤ y.2) : touchB a b x y = (inB x y a || inB x y b || meetB a b (x.1, y.1) (x.2, y.2) || meetB a b (x.1, y.2) (x.2, y.1)) := by
  unfold touchB
  cases ha : inB x y a with
  | true => simp
  | false =>
  cases hb : inB x y b with
  | true => simp
  | false =>
  simp only [Bool.false_or]
  rw [← meet_eq, ← meet_eq, ← meet_eq, ← meet_eq, Bool.eq_iff_iff]
  simp only [Bool.or_eq_true, meetB_iff]
  have in1 : inB x y (x.1, y.1) = true := by simp [inB]; omega
  have in2 : inB x y (x.2, y.1) = true := by simp [inB]; omega
  have in3 : inB x y (x.2, y.2) = true := by simp [inB]; omega
  have in4 : inB x y (x.1, y.2) = true := by simp [inB]; omega
  by_cases ov : (min a.1 b.1 ≤ x.2 ∧ x.1 ≤ max a.1 b.1) ∧ (min a.2 b.2 ≤ y.2 ∧ y.1 ≤ max a.2 b.2)
  · have key : ∀ c d : Pt, inB x y c = true → inB x y d = true → (MeetP a b c d ↔ cross a b c * cross a b d ≤ 0) := fun c d hc hd =>
      ⟨fun h => h.2.2.1, fun h => by obtain ⟨R⟩ := around_of ha hb hc hd ov.1 ov.2; exact R.meet h⟩
    rw [key _ _ in1 in2, key _ _ in2 in3, key _ _ in3 in4, key _ _ in4 in1, key _ _ in1 in3, key _ _ in4 in2]
    apply strad
    unfold cross
    grind
  · have no : ∀ c d : Pt, inB x y c = true → inB x y d = true → ¬ MeetP a b c d := fun c d hc hd h => by
      obtain ⟨⟨h1, h2⟩, ⟨h3, h4⟩, _⟩ := h
      simp only [inB, Bool.and_eq_true, decide_eq_true_eq] at hc hd
      exact ov ⟨by omega, by omega⟩
    have n1 := no _ _ in1 in2
    have n2 := no _ _ in2 in3
    have n3 := no _ _ in3 in4
    have n4 := no _ _ in4 in1
    have n5 := no _ _ in1 in3
    have n6 := no _ _ in4 in2
    simp only [n1, n2, n3, n4, n5, n6, or_self]
end Go.Proofs.Ytohepelnbmojiaa
