/- Parameters as bytes: the pure part, and a number's four bytes. -/
import Derived.Test.YtfhcfngogfefjaaPa7
namespace Go.Proofs.Ytfhcfngogfefjaa
open Go.RowKit Go.Great

def by8 (x : Int) (k : Nat) : UInt8 := UInt8.ofNat (x / 256 ^ k % 256).toNat
def encB (x : Int) : List UInt8 := [by8 x 3, by8 x 2, by8 x 1, by8 x 0]
/-- four bytes as a number without a sign, with one -/
def natB (a b c d : UInt8) : Int := (a.toNat : Int) * 16777216 + (b.toNat : Int) * 65536 + (c.toNat : Int) * 256 + (d.toNat : Int)
def sgn (n : Int) : Int := if 2147483648 ≤ n then n - 4294967296 else n
def numB (a b c d : UInt8) : Int := sgn (natB a b c d)
def at8 (s : List UInt8) (i : Nat) : UInt8 := s.getD i 0
def numAt (s : List UInt8) (i : Nat) : Int := numB (at8 s (4 * i)) (at8 s (4 * i + 1)) (at8 s (4 * i + 2)) (at8 s (4 * i + 3))
/-- the first k numbers of bytes -/
def decK (s : List UInt8) : Nat → List Int
  | 0 => []
  | k + 1 => decK s k ++ [numAt s k]
def encK (l : List Int) : Nat → List UInt8
  | 0 => []
  | k + 1 => encK l k ++ encB (l.getD k 0)
theorem decK_len (s : List UInt8) (k : Nat) : (decK s k).length = k := by
  induction k with
  | zero => rfl
  | succ k ih => rw [decK, List.length_append, ih]; rfl
theorem encK_len (l : List Int) (k : Nat) : (encK l k).length = 4 * k := by
  induction k with
  | zero => rfl
  | succ k ih => rw [encK, List.length_append, ih]; show 4 * k + 4 = _; omega
theorem decK_at (s : List UInt8) (k i : Nat) (h : i < k) : (decK s k).getD i 0 = numAt s i := by
  induction k with
  | zero => omega
  | succ k ih =>
    rw [decK, List.getD]
    by_cases e : i < k
    · rw [List.getElem?_append_left (by rw [decK_len]; exact e)]; exact ih e
    · obtain rfl : i = k := by omega
      rw [List.getElem?_append_right (by rw [decK_len]; omega), decK_len, Nat.sub_self, List.getElem?_cons_zero, Option.getD_some]
theorem encK_at (l : List Int) (k i j : Nat) (h : i < k) (hj : j < 4) : at8 (encK l k) (4 * i + j) = at8 (encB (l.getD i 0)) j := by
  induction k with
  | zero => omega
  | succ k ih =>
    unfold at8 at ih ⊢
    rw [encK]
    by_cases e : i < k
    · rw [List.getD, List.getElem?_append_left (by rw [encK_len]; omega)]; exact ih e
    · obtain rfl : i = k := by omega
      rw [List.getD, List.getElem?_append_right (by rw [encK_len]; omega), encK_len, Nat.add_sub_cancel_left]
      simp only [List.getD]
theorem by8_nat (x : Int) (k : Nat) : ((by8 x k).toNat : Int) = x / 256 ^ k % 256 := by
  unfold by8
  rw [UInt8.toNat_ofNat']
  omega
theorem num_enc (x : Int) (h0 : 0 ≤ x) (h1 : x < 2147483648) : numB (by8 x 3) (by8 x 2) (by8 x 1) (by8 x 0) = x := by
  unfold numB natB
  rw [by8_nat, by8_nat, by8_nat, by8_nat]
  unfold sgn
  simp only [Int.reducePow, Int.pow_zero, Int.ediv_one]
  split <;> omega
theorem numAt_enc (l : List Int) (k i : Nat) (h : i < k) (h0 : 0 ≤ l.getD i 0) (h1 : l.getD i 0 < 2147483648) : numAt (encK l k) i = l.getD i 0 := by
  unfold numAt
  rw [show 4 * i = 4 * i + 0 from rfl, encK_at l k i 0 h (by omega), encK_at l k i 1 h (by omega), encK_at l k i 2 h (by omega), encK_at l k i 3 h (by omega)]
  exact num_enc _ h0 h1
theorem dec_enc (l : List Int) (hl : l.length = 24) (h : ∀ i, i < 24 → 0 ≤ l.getD i 0 ∧ l.getD i 0 < 2147483648) : decK (encK l 24) 24 = l := by
  refine list_ext0 (by rw [decK_len, hl]) fun i hi => ?_
  rw [decK_len] at hi
  rw [decK_at _ _ _ hi, numAt_enc l 24 i hi (h i hi).1 (h i hi).2]
theorem InR.small {l : List Int} (h : InR l 24) (i : Nat) (hi : i < 24) : 0 ≤ l.getD i 0 ∧ l.getD i 0 < 2147483648 := by
  have h1 := h i hi
  have h2 : 0 ≤ loL.getD i 0 ∧ hiL.getD i 0 ≤ 1000000000 := by
    have : ∀ j : Fin 24, 0 ≤ loL.getD j.val 0 ∧ hiL.getD j.val 0 ≤ 1000000000 := by decide
    exact this ⟨i, hi⟩
  omega
theorem enc_num (a b c d : UInt8) : encB (numB a b c d) = [a, b, c, d] := by
  have ha := a.toNat_lt
  have hb := b.toNat_lt
  have hc := c.toNat_lt
  have hd := d.toNat_lt
  have key : ∀ (k : Nat) (y : UInt8), numB a b c d / 256 ^ k % 256 = (y.toNat : Int) → by8 (numB a b c d) k = y := by
    intro k y e
    unfold by8
    rw [e]
    simp
  unfold encB
  rw [key 3 a, key 2 b, key 1 c, key 0 d]
  all_goals (unfold numB natB sgn; simp only [Int.reducePow, Int.pow_zero, Int.ediv_one]; split <;> omega)
theorem enc_dec (s : List UInt8) (hs : s.length = 96) (k : Nat) (hk : k ≤ 24) : encK (decK s 24) k = s.take (4 * k) := by
  induction k with
  | zero => rfl
  | succ k ih =>
    rw [encK, ih (by omega), decK_at _ _ _ (by omega)]
    unfold numAt
    rw [enc_num]
    unfold at8
    have e : ∀ j, j < 96 → s.take (j + 1) = s.take j ++ [s.getD j 0] := by
      intro j hj
      have hl : j < s.length := by omega
      rw [List.take_add_one, List.getElem?_eq_getElem hl, List.getD, List.getElem?_eq_getElem hl]; rfl
    rw [show 4 * (k + 1) = 4 * k + 3 + 1 by omega, e _ (by omega), e (4 * k + 2) (by omega), e (4 * k + 1) (by omega), e (4 * k) (by omega)]
    simp
end Go.Proofs.Ytfhcfngogfefjaa
