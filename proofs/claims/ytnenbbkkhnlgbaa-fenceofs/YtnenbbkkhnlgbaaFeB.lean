/- A fence's bytes, in plain words: written, and read. -/
import Derived.Test.YtnenbbkkhnlgbaaFeN
namespace Go.Proofs.Ytnenbbkkhnlgbaa
open Go.RowKit Go.Great

def u8 (x : Int) : UInt8 := UInt8.ofNat (x % 256).toNat
theorem u8_back (c : Int) : ((u8 c).toNat : Int) = c % 256 := by unfold u8; rw [UInt8.toNat_ofNat']; omega
/-- the low bytes of a number -/
def byN (n : Int) : Nat → List UInt8
  | 0 => []
  | j + 1 => byN n j ++ [u8 (n / 256 ^ j)]
theorem byN_len (n : Int) (j : Nat) : (byN n j).length = j := by
  induction j with
  | zero => rfl
  | succ j ih => rw [byN, List.length_append, ih]; rfl
def n4 (n : Int) : List UInt8 := byN n 4
theorem n4_len (n : Int) : (n4 n).length = 4 := byN_len n 4
theorem n4_eq (n : Int) : n4 n = [u8 n, u8 (n / 256), u8 (n / 65536), u8 (n / 16777216)] := by
  unfold n4
  simp [byN]
/-- the number of four bytes -/
def num (a b c d : UInt8) : Int := if 2147483648 ≤ (a.toNat : Int) + 256 * b.toNat + 65536 * c.toNat + 16777216 * d.toNat then (a.toNat : Int) + 256 * b.toNat + 65536 * c.toNat + 16777216 * d.toNat - 4294967296 else (a.toNat : Int) + 256 * b.toNat + 65536 * c.toNat + 16777216 * d.toNat
theorem num_n4 {n : Int} (h1 : -2147483648 ≤ n) (h2 : n < 2147483648) : num (u8 n) (u8 (n / 256)) (u8 (n / 65536)) (u8 (n / 16777216)) = n := by
  unfold num
  rw [u8_back, u8_back, u8_back, u8_back]
  split <;> omega
theorem u8_nat (a : UInt8) (x : Int) (h : x % 256 = (a.toNat : Int)) : u8 x = a := by
  unfold u8
  rw [h]
  simp
theorem n4_num (a b c d : UInt8) : n4 (num a b c d) = [a, b, c, d] := by
  have ha := a.toNat_lt
  have hb := b.toNat_lt
  have hc := c.toNat_lt
  have hd := d.toNat_lt
  rw [n4_eq]
  unfold num
  split
  · rw [u8_nat a _ (by omega), u8_nat b _ (by omega), u8_nat c _ (by omega), u8_nat d _ (by omega)]
  · rw [u8_nat a _ (by omega), u8_nat b _ (by omega), u8_nat c _ (by omega), u8_nat d _ (by omega)]
/-- points' bytes -/
def ptB (l : List Pt) : List UInt8 := l.flatMap fun p => n4 p.1 ++ n4 p.2
theorem ptB_len (l : List Pt) : (ptB l).length = 8 * l.length := by
  induction l with
  | nil => rfl
  | cons p l ih =>
    unfold ptB at *
    rw [List.flatMap_cons, List.length_append, List.length_append, n4_len, n4_len, ih, List.length_cons]
    omega
theorem ptB_snoc (l : List Pt) (p : Pt) : ptB (l ++ [p]) = ptB l ++ (n4 p.1 ++ n4 p.2) := by simp [ptB]
def ptsB (l : List Pt) : List UInt8 := u8 (l.length : Int) :: ptB l
theorem ptsB_len (l : List Pt) : (ptsB l).length = 8 * l.length + 1 := by unfold ptsB; rw [List.length_cons, ptB_len]
def encF (P : List Pt) (fl ce : Int) (R : List Pt) : List UInt8 := ptsB P ++ (n4 fl ++ n4 ce) ++ ptsB R
theorem encF_len (P : List Pt) (fl ce : Int) (R : List Pt) : (encF P fl ce R).length = 8 * P.length + 8 * R.length + 10 := by
  unfold encF
  rw [List.length_append, List.length_append, List.length_append, ptsB_len, ptsB_len, n4_len, n4_len]
  omega
def encI (P : List Pt) (fl ce : Int) (R : List Pt) : List UInt8 := if chk P fl ce R = 0 then encF P fl ce R else []
theorem take_pt {l : List Pt} {k : Nat} (h : k < l.length) : l.take (k + 1) = l.take k ++ [l.getD k (0, 0)] := by
  rw [List.take_add_one, List.getD, List.getElem?_eq_getElem h]
  rfl
end Go.Proofs.Ytnenbbkkhnlgbaa
