/- Fences: what package fence answers, in plain words. -/
import Derived.Test.YtnenbbkkhnlgbaaLwSt
import Derived.Test.YtnenbbkkhnlgbaaGrC
import Derived.Test.YtnenbbkkhnlgbaaGeN
namespace Go.Proofs.Ytnenbbkkhnlgbaa
open Go.RowKit Go.Great

/-- a number that may be a coordinate -/
def mayB (n : Int) : Bool := decide (-536870912 ≤ n) && decide (n ≤ 536870912)
theorem mayB_iff (n : Int) : mayB n = true ↔ -536870912 ≤ n ∧ n ≤ 536870912 := by simp [mayB]
theorem fit_may (p : Pt) : fitB p = (mayB p.1 && mayB p.2) := by
  rw [Bool.eq_iff_iff]
  simp [fitB, inB, mayB]
  omega
/-- what is wrong with rally points -/
def ralE (P : List Pt) : List Pt → Int
  | [] => 0
  | p :: R => if fitB p then (if sidI P P.length p = 1 then ralE P R else 101) else 5
/-- what is wrong with a fence -/
def chk (P : List Pt) (fl ce : Int) (R : List Pt) : Int :=
  if simE P = 0 then (if (mayB fl && mayB ce) = true then (if 0 < fl ∨ ce ≤ 0 then 100 else if 8 < R.length then 4 else ralE P R) else 5) else simE P
/-- what a side is asked -/
def askB (a b x y : Pt) : Bool := toI a b x y || decide (toE a b x y ≠ 0)
def hasB (P : List Pt) (x y : Pt) : Bool := (List.range P.length).any fun k => askB (pt P k) (pt P (nxt P.length k)) x y
/-- is a rectangle inside? -/
def wiB (P : List Pt) (x y : Pt) : Bool := (mayB x.1 && mayB x.2 && mayB y.1 && mayB y.2) && ((List.range P.length).all fun k => !touchB (pt P k) (pt P (nxt P.length k)) x y) && decide (sidI P P.length (x.1, y.1) = 1)
theorem corners_all (x y a b : Pt) (ha : fitB a = true) (hb : fitB b = true) : [a, b, (x.1, y.1), (x.2, y.2)].all fitB = (mayB x.1 && mayB x.2 && mayB y.1 && mayB y.2) := by
  simp only [List.all_cons, List.all_nil, ha, hb, Bool.true_and, Bool.and_true, fit_may]
  cases mayB x.1 <;> cases mayB x.2 <;> cases mayB y.1 <;> cases mayB y.2 <;> rfl
theorem ask_eq (x y a b : Pt) (ha : fitB a = true) (hb : fitB b = true) (hx : x.1 ≤ x.2) (hy : y.1 ≤ y.2) : askB a b x y = (!(mayB x.1 && mayB x.2 && mayB y.1 && mayB y.2) || touchB a b x y) := by
  have e : (decide (x.2 < x.1) || decide (y.2 < y.1)) = false := by simp; omega
  unfold askB toI toE
  rw [corners_all x y a b ha hb, e]
  cases (mayB x.1 && mayB x.2 && mayB y.1 && mayB y.2) <;> simp
theorem sim_at {P : List Pt} (h : simE P = 0) {k : Nat} (hk : k < P.length) : fitB (pt P k) = true := at_all (sim_len h).2.2 hk
theorem inside_eq {P : List Pt} {x y : Pt} (h : simE P = 0) (hx : x.1 ≤ x.2) (hy : y.1 ≤ y.2) : wiB P x y = (!hasB P x y && decide (sdI P (x.1, y.1) = 1)) := by
  have hl := (sim_len h).1
  have e : hasB P x y = (List.range P.length).any fun k => (!(mayB x.1 && mayB x.2 && mayB y.1 && mayB y.2) || touchB (pt P k) (pt P (nxt P.length k)) x y) := by
    unfold hasB
    rw [Bool.eq_iff_iff, List.any_eq_true, List.any_eq_true]
    constructor
    · rintro ⟨k, hk, hq⟩
      rw [List.mem_range] at hk
      exact ⟨k, List.mem_range.2 hk, by rw [← ask_eq x y _ _ (sim_at h hk) (sim_at h (nxt_lt (by omega))) hx hy]; exact hq⟩
    · rintro ⟨k, hk, hq⟩
      rw [List.mem_range] at hk
      exact ⟨k, List.mem_range.2 hk, by rw [ask_eq x y _ _ (sim_at h hk) (sim_at h (nxt_lt (by omega))) hx hy]; exact hq⟩
  rw [e]
  unfold wiB
  cases hm : (mayB x.1 && mayB x.2 && mayB y.1 && mayB y.2) with
  | false =>
    have : ((List.range P.length).any fun k => (!false || touchB (pt P k) (pt P (nxt P.length k)) x y)) = true := by
      rw [List.any_eq_true]
      exact ⟨0, List.mem_range.2 (by omega), by simp⟩
    rw [this]
    rfl
  | true =>
    have hf : fitB (x.1, y.1) = true := by
      rw [fit_may]
      simp only [Bool.and_eq_true] at hm ⊢
      exact ⟨hm.1.1.1, hm.1.2⟩
    unfold sdI
    rw [if_pos h, if_pos hf, Bool.true_and]
    congr 1
    rw [← List.not_any_eq_all_not]
    simp
end Go.Proofs.Ytnenbbkkhnlgbaa
