/- Rows of ints in memory, and whole numbers by digits of 2^30, as plain mathematics. -/
import Derived.Test.YtpoodmfhcoaleaaFix
import Derived.Laws.MakeOwn
namespace Go.Proofs.Ytpoodmfhcoaleaa
open Go.RowKit

theorem Try.inf3 : (Try.prog.info? 3).map (fun i => (i.zero, i.size, i.bytes)) = some (some (.int .i64 0), 1, 8) := by kernel_rfl

/-- the slice v, as it lies in w, holds just the numbers ds -/
def Row (w : World) (v : Value) (ds : List Int) : Prop :=
  ∃ a cap, v = .slice a ds.length cap ∧ ds.length ≤ cap ∧ cap ≤ maxLen ∧
    ((a = none ∧ cap = 0 ∧ ds = []) ∨ ∃ b off, a = some ⟨b, off, none⟩ ∧ b < w.heap.size ∧ ∀ i, i < ds.length → w.cell? ⟨b, off + i, none⟩ = some (.int .i64 (ds.getD i 0)))

theorem Row.below {w w' : World} {v : Value} {ds : List Int} (h : Row w v ds) (hb : Below w.heap.size w w') : Row w' v ds := by
  obtain ⟨a, cap, hv, h1, h2, h3⟩ := h
  refine ⟨a, cap, hv, h1, h2, ?_⟩
  rcases h3 with h3 | ⟨b, off, ha, hlt, hc⟩
  · exact .inl h3
  · exact .inr ⟨b, off, ha, Nat.lt_of_lt_of_le hlt hb.size, fun i hi => (hb.cell (p := ⟨b, off + i, none⟩) hlt).trans (hc i hi)⟩

theorem Row.nil (w : World) : Row w (.slice none 0 0) [] := ⟨none, 0, rfl, Nat.le_refl _, Nat.zero_le _, .inl ⟨rfl, rfl, rfl⟩⟩

theorem Row.take {w : World} {b off cap : Nat} {ds : List Int} (n : Nat) (hn : n ≤ ds.length) (hc : ds.length ≤ cap) (hm : cap ≤ maxLen) (hb : b < w.heap.size)
    (h : ∀ i, i < ds.length → w.cell? ⟨b, off + i, none⟩ = some (.int .i64 (ds.getD i 0))) : Row w (.slice (some ⟨b, off, none⟩) n cap) (ds.take n) := by
  have hl : (ds.take n).length = n := by simp; omega
  refine ⟨some ⟨b, off, none⟩, cap, by rw [hl], by omega, hm, .inr ⟨b, off, rfl, hb, fun i hi => ?_⟩⟩
  rw [hl] at hi
  rw [h i (by omega)]
  simp [List.getD_eq_getElem?_getD, hi]

theorem Row.of_owns {w : World} {base : Nat} {e : TypeId} {v : Value} {n : Nat} {ds : List Int} (h : w.ownsRow base e 1 v n (ds.map (Value.int .i64))) (hn : n = ds.length) : Row w v ds := by
  subst hn
  obtain ⟨h1, h2⟩ := h
  rcases h2 with ⟨hv, h0⟩ | ⟨g, cap, cur, hv, hg, hh, hc, hm, hs, ht⟩
  · have : ds = [] := List.eq_nil_of_length_eq_zero h0
    subst this
    exact hv ▸ Row.nil w
  · refine ⟨some ⟨g, 0, none⟩, cap, hv, hc, hm, .inr ⟨g, 0, rfl, ?_, fun i hi => ?_⟩⟩
    · obtain ⟨hlt, _⟩ := Array.getElem?_eq_some_iff.1 hh
      exact hlt
    · have : cur[i]? = some (.int .i64 (ds.getD i 0)) := by
        have e : (cur.toList.take (ds.length * 1))[i]? = (ds.map (Value.int .i64))[i]? := by rw [ht]
        rw [List.getElem?_take, if_pos (by omega)] at e
        simp at e
        rw [e]
        simp [List.getElem?_eq_getElem hi]
      simp [World.cell?, hh, this]

/-- what digits come to -/
def val : List Int → Int
  | [] => 0
  | d :: r => d + 1073741824 * val r
/-- each is a digit -/
def Dig (ds : List Int) : Prop := ∀ i, i < ds.length → 0 ≤ ds.getD i 0 ∧ ds.getD i 0 ≤ 1073741823
/-- the highest one is not 0 -/
def Top (ds : List Int) : Prop := ds = [] ∨ ds.getD (ds.length - 1) 0 ≠ 0
/-- just the digits of n -/
def Digs (ds : List Int) (n : Int) : Prop := Dig ds ∧ Top ds ∧ val ds = n

theorem val_append (a b : List Int) : val (a ++ b) = val a + 1073741824 ^ a.length * val b := by
  induction a with
  | nil => simp [val]
  | cons d r ih =>
    simp only [List.cons_append, val, ih, List.length_cons]
    rw [Int.pow_succ, Int.mul_add]
    have : 1073741824 * (1073741824 ^ r.length * val b) = 1073741824 ^ r.length * 1073741824 * val b := by
      rw [← Int.mul_assoc, Int.mul_comm 1073741824 (1073741824 ^ r.length)]
    omega
theorem val_snoc (a : List Int) (d : Int) : val (a ++ [d]) = val a + 1073741824 ^ a.length * d := by
  rw [val_append]; simp [val]
theorem Dig.cons {d : Int} {r : List Int} (h : Dig (d :: r)) : (0 ≤ d ∧ d ≤ 1073741823) ∧ Dig r :=
  ⟨by simpa using h 0 (by simp), fun i hi => by simpa using h (i + 1) (by simpa using hi)⟩
theorem Dig.snoc {a : List Int} {d : Int} (h : Dig a) (h0 : 0 ≤ d) (h1 : d ≤ 1073741823) : Dig (a ++ [d]) := by
  intro i hi
  by_cases g : i < a.length
  · have := h i g
    simp [List.getD_eq_getElem?_getD, List.getElem?_append, g] at this ⊢
    exact this
  · have e : i = a.length := by simp at hi; omega
    subst e
    simp; omega
theorem val_nonneg {ds : List Int} (h : Dig ds) : 0 ≤ val ds ∧ val ds < 1073741824 ^ ds.length := by
  induction ds with
  | nil => simp [val]
  | cons d r ih =>
    obtain ⟨h1, h2⟩ := h.cons
    have := ih h2
    simp only [val, List.length_cons, Int.pow_succ]
    omega
theorem Dig.take {ds : List Int} (h : Dig ds) (n : Nat) : Dig (ds.take n) := by
  intro i hi
  simp at hi
  have := h i (by omega)
  simpa [List.getD_eq_getElem?_getD, List.getElem?_take, show i < n by omega] using this
/-- the highest digits that are 0 say nothing -/
theorem val_take {ds : List Int} (n : Nat) (h : ∀ i, n ≤ i → i < ds.length → ds.getD i 0 = 0) : val (ds.take n) = val ds := by
  induction ds generalizing n with
  | nil => simp
  | cons d r ih =>
    cases n with
    | zero =>
      have hd : d = 0 := by simpa using h 0 (by omega) (by simp)
      have hr : val (r.take 0) = val r := ih 0 (fun i _ hi => by simpa using h (i + 1) (by omega) (by simpa using hi))
      simp only [List.take_zero, val] at hr ⊢
      omega
    | succ n =>
      have hr : val (r.take n) = val r := ih n (fun i hi hl => by simpa using h (i + 1) (by omega) (by simpa using hl))
      simp only [List.take_succ_cons, val, hr]
/-- more digits, more -/
theorem val_ge {ds : List Int} (h : Dig ds) (ht : Top ds) (hn : ds ≠ []) : 1073741824 ^ (ds.length - 1) ≤ val ds := by
  have hl : ds.length ≠ 0 := fun e => hn (List.eq_nil_of_length_eq_zero e)
  have ht : ds.getD (ds.length - 1) 0 ≠ 0 := by rcases ht with e | e; exact absurd e hn; exact e
  have e : ds = ds.take (ds.length - 1) ++ [ds.getD (ds.length - 1) 0] := by
    apply List.ext_getElem?
    intro i
    by_cases g : i < ds.length - 1
    · simp [List.getElem?_append, g, show i < ds.length by omega]
    · by_cases g2 : i = ds.length - 1
      · subst g2; simp [List.getD_eq_getElem?_getD, show ds.length - 1 < ds.length by omega]
      · have e1 : ds[i]? = none := List.getElem?_eq_none (by omega)
        rw [e1]
        symm
        apply List.getElem?_eq_none
        simp; omega
  have hd := h (ds.length - 1) (by omega)
  have hv := val_nonneg (h.take (ds.length - 1))
  have l : (ds.take (ds.length - 1)).length = ds.length - 1 := by simp
  have hval : val ds = val (ds.take (ds.length - 1)) + 1073741824 ^ (ds.length - 1) * ds.getD (ds.length - 1) 0 := by
    conv => lhs; rw [e, val_snoc, l]
  rw [hval]
  have hp : (0 : Int) < 1073741824 ^ (ds.length - 1) := Int.pow_pos (by omega)
  generalize (1073741824 : Int) ^ (ds.length - 1) = P at *
  have : P * 1 ≤ P * ds.getD (ds.length - 1) 0 := Int.mul_le_mul_of_nonneg_left (by omega) (by omega)
  omega
end Go.Proofs.Ytpoodmfhcoaleaa
