/- Fences: lanes, rally points, in plain words. -/
import Derived.Test.YtnenbbkkhnlgbaaFeM
namespace Go.Proofs.Ytnenbbkkhnlgbaa
open Go.RowKit Go.Great

theorem drop_pt {l : List Pt} {k : Nat} (h : k < l.length) : l.drop k = l.getD k (0, 0) :: l.drop (k + 1) := by
  rw [List.drop_eq_getElem_cons h, List.getD, List.getElem?_eq_getElem h]
  rfl
theorem ralE_at (P : List Pt) {R : List Pt} {k : Nat} (h : k < R.length) : ralE P (R.drop k) = if fitB (R.getD k (0, 0)) then (if sidI P P.length (R.getD k (0, 0)) = 1 then ralE P (R.drop (k + 1)) else 101) else 5 := by
  rw [drop_pt h, ralE]
theorem ralE_end (P : List Pt) {R : List Pt} {k : Nat} (h : R.length ≤ k) : ralE P (R.drop k) = 0 := by rw [List.drop_of_length_le h, ralE]
theorem ralE_ok {P : List Pt} : ∀ {R : List Pt}, ralE P R = 0 → ∀ q ∈ R, fitB q = true ∧ sidI P P.length q = 1
  | [], _, q, hq => by cases hq
  | p :: R, h, q, hq => by
    rw [ralE] at h
    split at h
    · split at h
      · rcases List.mem_cons.1 hq with e | e
        · rw [e]; exact ⟨by assumption, by assumption⟩
        · exact ralE_ok h q e
      · omega
    · omega
theorem chk_ok {P : List Pt} {fl ce : Int} {R : List Pt} (h : chk P fl ce R = 0) : simE P = 0 ∧ mayB fl = true ∧ mayB ce = true ∧ fl ≤ 0 ∧ 0 < ce ∧ R.length ≤ 8 ∧ ralE P R = 0 := by
  unfold chk at h
  split at h
  · split at h
    · split at h
      · omega
      · split at h
        · omega
        · rename_i h1 h2 h3 h4
          rw [Bool.and_eq_true] at h2
          exact ⟨h1, h2.1, h2.2, by omega, by omega, by omega, h⟩
    · omega
  · contradiction
theorem chk_fit {P : List Pt} {fl ce : Int} {R : List Pt} (h : chk P fl ce R = 0) : R.all fitB = true := by
  rw [List.all_eq_true]
  exact fun q hq => (ralE_ok (chk_ok h).2.2.2.2.2.2 q hq).1
/-- the lane of two points with the room r: its X, its Y -/
def lnX (a b : Pt) (r : Int) : Pt := (min a.1 b.1 - r, max a.1 b.1 + r)
def lnY (a b : Pt) (r : Int) : Pt := (min a.2 b.2 - r, max a.2 b.2 + r)
def laB (P : List Pt) (a b : Pt) (r : Int) : Bool := wiB P (lnX a b r) (lnY a b r)
theorem wi_no {P : List Pt} {x y : Pt} (h : mayB x.1 = false ∨ mayB x.2 = false ∨ mayB y.1 = false ∨ mayB y.2 = false) : wiB P x y = false := by
  unfold wiB
  rcases h with h | h | h | h <;> simp [h]
theorem ln_far (P : List Pt) (a b : Pt) {r : Int} (h : 536870913 ≤ r) : laB P a b r = false := by
  apply wi_no
  unfold lnX lnY mayB
  by_cases h1 : min a.1 b.1 - r < -536870912
  · left; simp; omega
  · right; left; simp; omega
theorem ln_min (P : List Pt) (a b : Pt) (r : Int) : laB P a b (min r 536870913) = laB P a b r := by
  by_cases h : r ≤ 536870913
  · rw [Int.min_eq_left h]
  · rw [Int.min_eq_right (by omega), ln_far P a b (by omega), ln_far P a b (by omega)]
theorem ln_le (a b : Pt) {r : Int} (h : 0 ≤ r) : (lnX a b r).1 ≤ (lnX a b r).2 ∧ (lnY a b r).1 ≤ (lnY a b r).2 := by
  unfold lnX lnY
  constructor <;> (simp only; omega)
theorem ln_swap (a b : Pt) (r : Int) : lnX a b r = lnX b a r ∧ lnY a b r = lnY b a r := by
  unfold lnX lnY
  rw [Int.min_comm a.1, Int.max_comm a.1, Int.min_comm a.2, Int.max_comm a.2]
  exact ⟨rfl, rfl⟩
/-- what is wrong with a way -/
def wayE (P : List Pt) (fl ce : Int) (R ps : List Pt) (r : Int) : Int := if chk P fl ce R = 0 then (if ps.all fitB then (if r < 0 then 1 else 0) else 5) else chk P fl ce R
theorem way_ok {P : List Pt} {fl ce : Int} {R ps : List Pt} {r : Int} (h : wayE P fl ce R ps r = 0) : chk P fl ce R = 0 ∧ ps.all fitB = true ∧ 0 ≤ r := by
  unfold wayE at h
  split at h
  · split at h
    · split at h
      · omega
      · exact ⟨by assumption, by assumption, by omega⟩
    · omega
  · contradiction
/-- the nearest rally point -/
def ralR (P : List Pt) (p : Pt) (r : Int) : List Pt → Nat → Int × Int → Int × Int
  | [], _, s => s
  | q :: R, i, s => ralR P p r R (i + 1) (if ((decide (s.1 < 0) || decide (farI p q < s.2)) && laB P p q r) = true then ((i : Int), farI p q) else s)
theorem ralR_at (P : List Pt) (p : Pt) (r : Int) {R : List Pt} {k : Nat} (h : k < R.length) (i : Nat) (s : Int × Int) : ralR P p r (R.drop k) i s = ralR P p r (R.drop (k + 1)) (i + 1) (if ((decide (s.1 < 0) || decide (farI p (R.getD k (0, 0)) < s.2)) && laB P p (R.getD k (0, 0)) r) = true then ((i : Int), farI p (R.getD k (0, 0))) else s) := by
  rw [drop_pt h, ralR]
theorem ralR_end (P : List Pt) (p : Pt) (r : Int) {R : List Pt} {k : Nat} (h : R.length ≤ k) (i : Nat) (s : Int × Int) : ralR P p r (R.drop k) i s = s := by rw [List.drop_of_length_le h, ralR]
def holI (P : List Pt) (fl ce : Int) (R : List Pt) (x y z : Pt) : Bool := decide (chk P fl ce R = 0) && !(decide (x.2 < x.1) || decide (y.2 < y.1) || decide (z.2 < z.1)) && ((decide (fl ≤ z.1) && decide (z.2 ≤ ce)) && wiB P x y)
def holE (P : List Pt) (fl ce : Int) (R : List Pt) (x y z : Pt) : Int := if chk P fl ce R = 0 then (if (decide (x.2 < x.1) || decide (y.2 < y.1) || decide (z.2 < z.1)) = true then 1 else 0) else chk P fl ce R
def lanI (P : List Pt) (fl ce : Int) (R : List Pt) (a b : Pt) (r : Int) : Bool := decide (wayE P fl ce R [a, b] r = 0) && laB P a b r
def ralI (P : List Pt) (fl ce : Int) (R : List Pt) (p : Pt) (r : Int) : Int := if wayE P fl ce R [p] r = 0 then (ralR P p r R 0 (-1, 0)).1 else 0
end Go.Proofs.Ytnenbbkkhnlgbaa
