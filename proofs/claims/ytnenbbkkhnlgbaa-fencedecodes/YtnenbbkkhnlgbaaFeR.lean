/- A fence's bytes by their places, as the document reads them. -/
import Derived.Test.YtnenbbkkhnlgbaaFeQ
namespace Go.Proofs.Ytnenbbkkhnlgbaa
open Go.RowKit Go.Great

/-- the number at a place -/
def nAt (l : List UInt8) (i : Nat) : Int := num (l.getD i 0) (l.getD (i + 1) 0) (l.getD (i + 2) 0) (l.getD (i + 3) 0)
/-- the points from a place on -/
def lAt (l : List UInt8) (o : Nat) : Nat → List Pt
  | 0 => []
  | n + 1 => lAt l o n ++ [(nAt l (o + 8 * n), nAt l (o + 8 * n + 4))]
theorem lAt_len (l : List UInt8) (o : Nat) : ∀ n, (lAt l o n).length = n
  | 0 => rfl
  | n + 1 => by rw [lAt, List.length_append, lAt_len l o n]; rfl
theorem nAt_in (l : List UInt8) (i : Nat) : In32 (nAt l i) := num_in _ _ _ _
theorem lAt_in (l : List UInt8) (o : Nat) : ∀ n, ∀ p ∈ lAt l o n, In32 p.1 ∧ In32 p.2
  | 0, p, h => by cases h
  | n + 1, p, h => by
    rw [lAt] at h
    rcases List.mem_append.1 h with h | h
    · exact lAt_in l o n p h
    · rw [List.mem_singleton] at h
      subst h
      exact ⟨nAt_in _ _, nAt_in _ _⟩
theorem drop_at (l : List UInt8) (i k : Nat) : (l.drop i).getD k 0 = l.getD (i + k) 0 := by simp only [List.getD, List.getElem?_drop]
theorem cutL (l : List UInt8) (i k : Nat) : l.drop i = (l.drop i).take k ++ l.drop (i + k) := by rw [← List.drop_drop, List.take_append_drop]
theorem take_num (l : List UInt8) (i : Nat) (h : i + 4 ≤ l.length) : (l.drop i).take 4 = n4 (nAt l i) := by
  obtain ⟨a, b, c, d, r, e⟩ := four_of (l := l.drop i) (by rw [List.length_drop]; omega)
  have h0 := drop_at l i 0
  have h1 := drop_at l i 1
  have h2 := drop_at l i 2
  have h3 := drop_at l i 3
  rw [Nat.add_zero] at h0
  rw [e] at h0 h1 h2 h3
  unfold nAt
  rw [← h0, ← h1, ← h2, ← h3, e]
  exact (n4_num a b c d).symm
theorem take_lAt (l : List UInt8) (o : Nat) : ∀ n, o + 8 * n ≤ l.length → (l.drop o).take (8 * n) = ptB (lAt l o n)
  | 0, _ => rfl
  | n + 1, h => by
    have ih := take_lAt l o n (by omega)
    have e : 8 * (n + 1) = 8 * n + 8 := by omega
    rw [lAt, ptB_snoc, ← ih, e, List.take_add, List.drop_drop]
    congr 1
    have e2 : (l.drop (o + 8 * n)).take 8 = (l.drop (o + 8 * n)).take 4 ++ (l.drop (o + 8 * n + 4)).take 4 := by
      rw [← List.drop_drop (i := 4), ← List.take_add]
    rw [e2, take_num l _ (by omega), take_num l _ (by omega)]
/-- the document's places -/
def rN (l : List UInt8) : Nat := (l.getD 0 0).toNat
def rM (l : List UInt8) : Nat := (l.getD (1 + 8 * rN l + 8) 0).toNat
theorem one_of {l : List UInt8} {i : Nat} (h : i < l.length) : (l.drop i).take 1 = [l.getD i 0] := by
  rw [List.getD, List.getElem?_eq_getElem h, Option.getD_some]
  rw [List.drop_eq_getElem_cons h]
  rfl
theorem enc_at {l : List UInt8} (h : l.length = 1 + 8 * rN l + 9 + 8 * rM l) : l = encF (lAt l 1 (rN l)) (nAt l (1 + 8 * rN l)) (nAt l (1 + 8 * rN l + 4)) (lAt l (1 + 8 * rN l + 9) (rM l)) := by
  have c0 := cutL l 0 1
  have c1 := cutL l 1 (8 * rN l)
  have c2 := cutL l (1 + 8 * rN l) 4
  have c3 := cutL l (1 + 8 * rN l + 4) 4
  have c4 := cutL l (1 + 8 * rN l + 4 + 4) 1
  have c5 : l.drop (1 + 8 * rN l + 4 + 4 + 1) = (l.drop (1 + 8 * rN l + 9)).take (8 * rM l) := by
    rw [List.take_of_length_le (by rw [List.length_drop]; omega)]
  rw [one_of (by omega)] at c0 c4
  rw [take_lAt l 1 _ (by omega)] at c1
  rw [take_num l _ (by omega)] at c2 c3
  rw [take_lAt l _ _ (by omega)] at c5
  rw [List.drop_zero, Nat.zero_add] at c0
  unfold encF ptsB
  rw [lAt_len, lAt_len]
  have u1 : u8 ((rN l : Nat) : Int) = l.getD 0 0 := u8_nat_self _
  have u2 : u8 ((rM l : Nat) : Int) = l.getD (1 + 8 * rN l + 8) 0 := u8_nat_self _
  rw [u1, u2]
  have e4 : 1 + 8 * rN l + 4 + 4 = 1 + 8 * rN l + 8 := by omega
  rw [e4] at c3 c4 c5
  refine c0.trans ?_
  rw [c1, c2, c3, c4, c5]
  simp
/-- what the document reads -/
theorem dec_at {l : List UInt8} (h : l.length = 1 + 8 * rN l + 9 + 8 * rM l) : decE l = chk (lAt l 1 (rN l)) (nAt l (1 + 8 * rN l)) (nAt l (1 + 8 * rN l + 4)) (lAt l (1 + 8 * rN l + 9) (rM l)) ∧ (decE l = 0 → decA l = ⟨lAt l 1 (rN l), nAt l (1 + 8 * rN l), nAt l (1 + 8 * rN l + 4), lAt l (1 + 8 * rN l + 9) (rM l)⟩) := by
  have hb1 : rN l ≤ 255 := by unfold rN; have := (l.getD 0 0).toNat_lt; omega
  have hb2 : rM l ≤ 255 := by unfold rM; have := (l.getD (1 + 8 * rN l + 8) 0).toNat_lt; omega
  have := dec_of (lAt_in l 1 (rN l)) (lAt_in l (1 + 8 * rN l + 9) (rM l)) (nAt_in l (1 + 8 * rN l)) (nAt_in l (1 + 8 * rN l + 4)) (by rw [lAt_len]; exact hb1) (by rw [lAt_len]; exact hb2)
  rw [← enc_at h] at this
  exact ⟨this.1, fun h0 => this.2 (this.1 ▸ h0)⟩
theorem u8_len {n : Nat} (h : n ≤ 255) : (u8 (n : Int)).toNat = n := by have := u8_back (n : Int); omega
theorem dec_no {l : List UInt8} (h : ¬ (l.length = 1 + 8 * rN l + 9 + 8 * rM l)) : decE l = 3 := by
  unfold decE
  rw [if_neg]
  rintro ⟨h1, h2⟩
  apply h
  have e := dec_ok h1
  rw [h2, List.append_nil] at e
  have l1 : (decD l).1.P.length ≤ 255 := (rd1_len _).1
  have l2 : (decD l).1.R.length ≤ 255 := (rd1_len _).1
  generalize (decD l).1.P = P at *
  generalize (decD l).1.R = R at *
  generalize (decD l).1.fl = fl at *
  generalize (decD l).1.ce = ce at *
  have eN : rN l = P.length := by
    unfold rN
    rw [e]
    exact u8_len l1
  have eM : rM l = R.length := by
    unfold rM
    rw [eN, e]
    have hl : (ptsB P ++ (n4 fl ++ n4 ce)).length = 1 + 8 * P.length + 8 := by
      rw [List.length_append, List.length_append, ptsB_len, n4_len, n4_len]; omega
    unfold encF
    rw [List.getD, List.getElem?_append_right (by omega), hl, Nat.sub_self]
    exact u8_len l2
  have := congrArg List.length e
  rw [encF_len] at this
  omega
end Go.Proofs.Ytnenbbkkhnlgbaa
