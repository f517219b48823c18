/- Rectangles within polygons: what follows, in plain words. -/
import Derived.Test.YtnenbbkkhnlgbaaFeN
namespace Go.Proofs.Ytnenbbkkhnlgbaa
open Go.RowKit Go.Great

theorem mul_between {α u lo hi : Int} (h1 : lo ≤ u) (h2 : u ≤ hi) : (α * lo ≤ α * u ∧ α * u ≤ α * hi) ∨ (α * hi ≤ α * u ∧ α * u ≤ α * lo) := by
  rcases Int.le_total 0 α with h | h
  · left
    exact ⟨Int.mul_le_mul_of_nonneg_left h1 h, Int.mul_le_mul_of_nonneg_left h2 h⟩
  · right
    have := Int.mul_le_mul_of_nonpos_left h h1
    have := Int.mul_le_mul_of_nonpos_left h h2
    constructor <;> assumption
theorem cross_lin (a b p : Pt) : cross a b p = (a.2 - b.2) * p.1 + (b.1 - a.1) * p.2 + ((b.2 - a.2) * a.1 - (b.1 - a.1) * a.2) := by unfold cross; grind
theorem in_iff (x y p : Pt) : inB x y p = true ↔ x.1 ≤ p.1 ∧ p.1 ≤ x.2 ∧ y.1 ≤ p.2 ∧ p.2 ≤ y.2 := by
  unfold inB
  simp only [Bool.and_eq_true, decide_eq_true_eq]
  constructor
  · rintro ⟨⟨⟨h1, h2⟩, h3⟩, h4⟩; exact ⟨h1, h2, h3, h4⟩
  · rintro ⟨h1, h2, h3, h4⟩; exact ⟨⟨⟨h1, h2⟩, h3⟩, h4⟩
/-- a line that parts two points of a rectangle parts two opposite corners -/
theorem parts {a b c d x y : Pt} (hc : inB x y c = true) (hd : inB x y d = true) (h : cross a b c * cross a b d ≤ 0) : cross a b (x.1, y.1) * cross a b (x.2, y.2) ≤ 0 ∨ cross a b (x.1, y.2) * cross a b (x.2, y.1) ≤ 0 := by
  obtain ⟨c1, c2, c3, c4⟩ := (in_iff _ _ _).1 hc
  obtain ⟨d1, d2, d3, d4⟩ := (in_iff _ _ _).1 hd
  have u1 := mul_between (α := a.2 - b.2) c1 c2
  have u2 := mul_between (α := b.1 - a.1) c3 c4
  have u3 := mul_between (α := a.2 - b.2) d1 d2
  have u4 := mul_between (α := b.1 - a.1) d3 d4
  have e1 := cross_lin a b c
  have e2 := cross_lin a b d
  have e3 := cross_lin a b (x.1, y.1)
  have e4 := cross_lin a b (x.2, y.2)
  have e5 := cross_lin a b (x.1, y.2)
  have e6 := cross_lin a b (x.2, y.1)
  simp only at e3 e4 e5 e6
  generalize (a.2 - b.2) * c.1 = p1 at *
  generalize (b.1 - a.1) * c.2 = p2 at *
  generalize (a.2 - b.2) * d.1 = p3 at *
  generalize (b.1 - a.1) * d.2 = p4 at *
  generalize (a.2 - b.2) * x.1 = q1 at *
  generalize (a.2 - b.2) * x.2 = q2 at *
  generalize (b.1 - a.1) * y.1 = q3 at *
  generalize (b.1 - a.1) * y.2 = q4 at *
  generalize (b.2 - a.2) * a.1 - (b.1 - a.1) * a.2 = k at *
  generalize cross a b c = C at *
  generalize cross a b d = D at *
  generalize cross a b (x.1, y.1) = z1 at *
  generalize cross a b (x.2, y.2) = z2 at *
  generalize cross a b (x.1, y.2) = z3 at *
  generalize cross a b (x.2, y.1) = z4 at *
  refine Decidable.byContradiction fun hn => ?_
  have n1 : 0 < z1 * z2 := by
    refine Int.not_le.1 fun h => hn (Or.inl h)
  have n2 : 0 < z3 * z4 := by
    refine Int.not_le.1 fun h => hn (Or.inr h)
  have s1 := mul_pos_iff.1 n1
  have s2 := mul_pos_iff.1 n2
  have hCD : (C ≤ 0 ∧ 0 ≤ D) ∨ (0 ≤ C ∧ D ≤ 0) := by
    rcases Int.lt_trichotomy C 0 with hC | hC | hC
    · left
      refine ⟨by omega, Int.not_lt.1 fun hD => ?_⟩
      have := mul_pos_iff.2 (Or.inl ⟨hC, hD⟩)
      omega
    · by_cases hD : 0 ≤ D
      · left; omega
      · right; omega
    · right
      refine ⟨by omega, Int.not_lt.1 fun hD => ?_⟩
      have := mul_pos_iff.2 (Or.inr ⟨hC, hD⟩)
      omega
  omega
/-- a segment that meets one within a rectangle touches the rectangle -/
theorem touch_of {a b c d x y : Pt} (hc : inB x y c = true) (hd : inB x y d = true) (h : MeetP a b c d) : touchB a b x y = true := by
  obtain ⟨c1, c2, c3, c4⟩ := (in_iff _ _ _).1 hc
  obtain ⟨d1, d2, d3, d4⟩ := (in_iff _ _ _).1 hd
  rw [touch_eq a b x y (by omega) (by omega)]
  cases ha : inB x y a with
  | true => rfl
  | false =>
    cases hb : inB x y b with
    | true => simp
    | false =>
      obtain ⟨⟨ox1, ox2⟩, ⟨oy1, oy2⟩, k1, k2⟩ := h
      have o1 : min a.1 b.1 ≤ x.2 ∧ x.1 ≤ max a.1 b.1 := by omega
      have o2 : min a.2 b.2 ≤ y.2 ∧ y.1 ≤ max a.2 b.2 := by omega
      have in1 : inB x y (x.1, y.1) = true := (in_iff _ _ _).2 ⟨by simp only; omega, by simp only; omega, by simp only; omega, by simp only; omega⟩
      have in2 : inB x y (x.2, y.2) = true := (in_iff _ _ _).2 ⟨by simp only; omega, by simp only; omega, by simp only; omega, by simp only; omega⟩
      have in3 : inB x y (x.1, y.2) = true := (in_iff _ _ _).2 ⟨by simp only; omega, by simp only; omega, by simp only; omega, by simp only; omega⟩
      have in4 : inB x y (x.2, y.1) = true := (in_iff _ _ _).2 ⟨by simp only; omega, by simp only; omega, by simp only; omega, by simp only; omega⟩
      rcases parts hc hd k1 with k | k
      · obtain ⟨R⟩ := around_of ha hb in1 in2 o1 o2
        rw [(meetB_iff _ _ _ _).2 (R.meet k)]
        rfl
      · obtain ⟨R⟩ := around_of ha hb in3 in4 o1 o2
        rw [(meetB_iff _ _ _ _).2 (R.meet k)]
        simp
theorem in_sub {x y x' y' p : Pt} (h : inB x' y' p = true) (h1 : x.1 ≤ x'.1) (h2 : x'.2 ≤ x.2) (h3 : y.1 ≤ y'.1) (h4 : y'.2 ≤ y.2) : inB x y p = true := by
  obtain ⟨a, b, c, d⟩ := (in_iff _ _ _).1 h
  exact (in_iff _ _ _).2 ⟨by omega, by omega, by omega, by omega⟩
theorem touch_mono {a b x y x' y' : Pt} (hx : x'.1 ≤ x'.2) (hy : y'.1 ≤ y'.2) (h1 : x.1 ≤ x'.1) (h2 : x'.2 ≤ x.2) (h3 : y.1 ≤ y'.1) (h4 : y'.2 ≤ y.2) (h : touchB a b x' y' = true) : touchB a b x y = true := by
  rw [touch_eq a b x' y' hx hy] at h
  simp only [Bool.or_eq_true] at h
  rcases h with ((h | h) | h) | h
  · unfold touchB; rw [in_sub h h1 h2 h3 h4]; rfl
  · unfold touchB; rw [in_sub h h1 h2 h3 h4]; simp
  · exact touch_of ((in_iff _ _ _).2 ⟨by simp only; omega, by simp only; omega, by simp only; omega, by simp only; omega⟩) ((in_iff _ _ _).2 ⟨by simp only; omega, by simp only; omega, by simp only; omega, by simp only; omega⟩) ((meetB_iff _ _ _ _).1 h)
  · exact touch_of ((in_iff _ _ _).2 ⟨by simp only; omega, by simp only; omega, by simp only; omega, by simp only; omega⟩) ((in_iff _ _ _).2 ⟨by simp only; omega, by simp only; omega, by simp only; omega, by simp only; omega⟩) ((meetB_iff _ _ _ _).1 h)
theorem wi_parts {P : List Pt} {x y : Pt} (h : wiB P x y = true) : (mayB x.1 = true ∧ mayB x.2 = true ∧ mayB y.1 = true ∧ mayB y.2 = true) ∧ (∀ k, k < P.length → touchB (pt P k) (pt P (nxt P.length k)) x y = false) ∧ sidI P P.length (x.1, y.1) = 1 := by
  unfold wiB at h
  simp only [Bool.and_eq_true, decide_eq_true_eq, List.all_eq_true] at h
  obtain ⟨⟨⟨⟨⟨h1, h2⟩, h3⟩, h4⟩, h5⟩, h6⟩ := h
  refine ⟨⟨h1, h2, h3, h4⟩, fun k hk => ?_, h6⟩
  have := h5 k (List.mem_range.2 hk)
  simpa using this
theorem may_mid {a b n : Int} (ha : mayB a = true) (hb : mayB b = true) (h1 : a ≤ n) (h2 : n ≤ b) : mayB n = true := by
  rw [mayB_iff] at *
  omega
/-- each point of a rectangle that is inside is inside -/
theorem wi_point {P : List Pt} {x y q : Pt} (hs : simE P = 0) (h : wiB P x y = true) (hq : inB x y q = true) : sdI P q = 1 ∧ sdE P q = 0 := by
  obtain ⟨⟨m1, m2, m3, m4⟩, ht, hsd⟩ := wi_parts h
  obtain ⟨q1, q2, q3, q4⟩ := (in_iff _ _ _).1 hq
  have f0 : fitB (x.1, y.1) = true := by rw [fit_may]; simp only [m1, m3]; rfl
  have f1 : fitB q = true := by rw [fit_may, may_mid m1 m2 q1 q2, may_mid m3 m4 q3 q4]; rfl
  have e0 : sdI P (x.1, y.1) = 1 := by unfold sdI; rw [if_pos hs, if_pos f0]; exact hsd
  have st := stays hs f0 f1 (fun k hk => by
    cases e : meetB (pt P k) (pt P (nxt P.length k)) (x.1, y.1) q with
    | false => rfl
    | true =>
      have := touch_of (x := x) (y := y) ((in_iff _ _ _).2 ⟨by simp only; omega, by simp only; omega, by simp only; omega, by simp only; omega⟩) hq ((meetB_iff _ _ _ _).1 e)
      rw [ht k hk] at this
      exact this.symm)
  refine ⟨by rw [← st.1]; exact e0, ?_⟩
  unfold sdE
  rw [if_pos hs, if_pos f1]
theorem wi_sub {P : List Pt} {x y x' y' : Pt} (hs : simE P = 0) (hx : x'.1 ≤ x'.2) (hy : y'.1 ≤ y'.2) (h1 : x.1 ≤ x'.1) (h2 : x'.2 ≤ x.2) (h3 : y.1 ≤ y'.1) (h4 : y'.2 ≤ y.2) (h : wiB P x y = true) : wiB P x' y' = true := by
  obtain ⟨⟨m1, m2, m3, m4⟩, ht, hsd⟩ := wi_parts h
  have hp := (wi_point hs h (q := (x'.1, y'.1)) ((in_iff _ _ _).2 ⟨by simp only; omega, by simp only; omega, by simp only; omega, by simp only; omega⟩)).1
  have n1 := may_mid m1 m2 (n := x'.1) (by omega) (by omega)
  have n2 := may_mid m1 m2 (n := x'.2) (by omega) (by omega)
  have n3 := may_mid m3 m4 (n := y'.1) (by omega) (by omega)
  have n4 := may_mid m3 m4 (n := y'.2) (by omega) (by omega)
  have f0 : fitB (x'.1, y'.1) = true := by rw [fit_may]; simp only [n1, n3]; rfl
  have hq : sidI P P.length (x'.1, y'.1) = 1 := by
    unfold sdI at hp
    rw [if_pos hs, if_pos f0] at hp
    exact hp
  unfold wiB
  simp only [Bool.and_eq_true, decide_eq_true_eq, List.all_eq_true]
  refine ⟨⟨⟨⟨⟨n1, n2⟩, n3⟩, n4⟩, fun k hk => ?_⟩, hq⟩
  have hk' := List.mem_range.1 hk
  cases e : touchB (pt P k) (pt P (nxt P.length k)) x' y' with
  | false => rfl
  | true =>
    have := touch_mono hx hy h1 h2 h3 h4 e
    rw [ht k hk'] at this
    cases this
theorem wi_corner {P : List Pt} {x y : Pt} {k : Nat} (hk : k < P.length) (h : wiB P x y = true) : inB x y (pt P k) = false := by
  obtain ⟨_, ht, _⟩ := wi_parts h
  cases e : inB x y (pt P k) with
  | false => rfl
  | true =>
    have := ht k hk
    unfold touchB at this
    rw [e] at this
    cases this
theorem la_less {P : List Pt} {a b : Pt} {r r' : Int} (hs : simE P = 0) (h0 : 0 ≤ r') (h1 : r' ≤ r) (h : laB P a b r = true) : laB P a b r' = true := by
  have hl := ln_le a b h0
  unfold laB at *
  refine wi_sub hs hl.1 hl.2 ?_ ?_ ?_ ?_ h
  all_goals (simp only [lnX, lnY]; omega)
theorem la_swap (P : List Pt) (a b : Pt) (r : Int) : laB P a b r = laB P b a r := by
  unfold laB
  rw [(ln_swap a b r).1, (ln_swap a b r).2]
theorem la_may {P : List Pt} {a b : Pt} {r : Int} (h : laB P a b r = true) : mayB (min a.1 b.1 - r) = true ∧ mayB (max a.1 b.1 + r) = true ∧ mayB (min a.2 b.2 - r) = true ∧ mayB (max a.2 b.2 + r) = true := by
  obtain ⟨⟨m1, m2, m3, m4⟩, _⟩ := wi_parts h
  exact ⟨m1, m2, m3, m4⟩
theorem hol_none {P : List Pt} {fl ce : Int} {R : List Pt} {x y z : Pt} (h : holE P fl ce R x y z ≠ 0) : holI P fl ce R x y z = false := by
  unfold holE at h
  unfold holI
  split at h
  · split at h
    · rename_i h1 h2
      rw [h2]
      simp
    · exact absurd rfl h
  · rename_i h1
    simp [h1]
theorem hol_yes {P : List Pt} {fl ce : Int} {R : List Pt} {x y z : Pt} (h : holI P fl ce R x y z = true) : chk P fl ce R = 0 ∧ x.1 ≤ x.2 ∧ y.1 ≤ y.2 ∧ z.1 ≤ z.2 ∧ fl ≤ z.1 ∧ z.2 ≤ ce ∧ wiB P x y = true := by
  unfold holI at h
  simp only [Bool.and_eq_true, decide_eq_true_eq, Bool.not_eq_true', Bool.or_eq_false_iff, decide_eq_false_iff_not] at h
  obtain ⟨⟨h1, ⟨h2, h3⟩, h4⟩, ⟨h5, h6⟩, h7⟩ := h
  exact ⟨h1, by omega, by omega, by omega, h5, h6, h7⟩
theorem hol_of {P : List Pt} {fl ce : Int} {R : List Pt} {x y z : Pt} (h1 : chk P fl ce R = 0) (h2 : x.1 ≤ x.2) (h3 : y.1 ≤ y.2) (h4 : z.1 ≤ z.2) (h5 : fl ≤ z.1) (h6 : z.2 ≤ ce) (h7 : wiB P x y = true) : holI P fl ce R x y z = true := by
  unfold holI
  simp only [Bool.and_eq_true, decide_eq_true_eq, Bool.not_eq_true', Bool.or_eq_false_iff, decide_eq_false_iff_not]
  exact ⟨⟨h1, ⟨by omega, by omega⟩, by omega⟩, ⟨h5, h6⟩, h7⟩
/-- each point of a box that is held is inside, between floor and ceiling -/
theorem hol_means {P : List Pt} {fl ce : Int} {R : List Pt} {x y z : Pt} {q : Pt} {n : Int} (h : holI P fl ce R x y z = true) (hq : inB x y q = true) (h1 : z.1 ≤ n) (h2 : n ≤ z.2) : sdI P q = 1 ∧ sdE P q = 0 ∧ fl ≤ n ∧ n ≤ ce := by
  obtain ⟨a, _, _, _, b, c, d⟩ := hol_yes h
  have := wi_point (chk_ok a).1 d hq
  exact ⟨this.1, this.2, by omega, by omega⟩
theorem hol_within {P : List Pt} {fl ce : Int} {R : List Pt} {x y z x' y' z' : Pt} (h : holI P fl ce R x y z = true) (he : holE P fl ce R x' y' z' = 0) (h1 : x.1 ≤ x'.1) (h2 : x'.2 ≤ x.2) (h3 : y.1 ≤ y'.1) (h4 : y'.2 ≤ y.2) (h5 : z.1 ≤ z'.1) (h6 : z'.2 ≤ z.2) : holI P fl ce R x' y' z' = true := by
  obtain ⟨a, _, _, _, b, c, d⟩ := hol_yes h
  unfold holE at he
  rw [if_pos a] at he
  split at he
  · omega
  · rename_i hb
    simp only [Bool.or_eq_true, decide_eq_true_eq, not_or] at hb
    exact hol_of a (by omega) (by omega) (by omega) (by omega) (by omega) (wi_sub (chk_ok a).1 (by omega) (by omega) h1 h2 h3 h4 d)
end Go.Proofs.Ytnenbbkkhnlgbaa
