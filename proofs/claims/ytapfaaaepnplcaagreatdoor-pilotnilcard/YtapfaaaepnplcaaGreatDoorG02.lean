/- CrcM, MsM, PaM. -/
import Derived.WalkKit
set_option maxRecDepth 100000
namespace Go.Proofs.YtapfaaaepnplcaaGreatDoor
/-- one of the eight steps -/
def st (c : BitVec 16) : BitVec 16 := (c >>> 1) ^^^ (if c.getLsbD 0 then 33800#16 else 0#16)
theorem st_xor (a b : BitVec 16) : st (a ^^^ b) = st a ^^^ st b := by
  unfold st
  rw [BitVec.getLsbD_xor, BitVec.ushiftRight_xor_distrib]
  generalize a >>> 1 = x, b >>> 1 = y
  apply BitVec.eq_of_getLsbD_eq
  intro i _
  cases a.getLsbD 0 <;> cases b.getLsbD 0 <;> simp <;> cases x.getLsbD i <;> cases y.getLsbD i <;> cases BitVec.getLsbD 33800#16 i <;> rfl
theorem st_zero (c : BitVec 16) (h : st c = 0#16) : c = 0#16 := by
  unfold st at h
  have hl := c.isLt
  have e : c.getLsbD 0 = decide (c.toNat % 2 = 1) := by
    rw [BitVec.getLsbD, Nat.testBit_zero]
  rw [e] at h
  by_cases g : c.toNat % 2 = 1
  · simp only [g, decide_true, if_true] at h
    have h2 := BitVec.xor_eq_zero_iff.1 h
    have h3 := congrArg BitVec.toNat h2
    simp [Nat.shiftRight_eq_div_pow] at h3
    omega
  · simp only [g, decide_false] at h
    simp at h
    have h3 := congrArg BitVec.toNat h
    simp [Nat.shiftRight_eq_div_pow] at h3
    apply BitVec.eq_of_toNat_eq
    simp
    omega
theorem st_inj (a b : BitVec 16) (h : st a = st b) : a = b := by
  have := st_zero (a ^^^ b) (by rw [st_xor, h, BitVec.xor_self])
  exact BitVec.xor_eq_zero_iff.1 this
def st4 (c : BitVec 16) : BitVec 16 := st (st (st (st c)))
theorem st4_xor (a b : BitVec 16) : st4 (a ^^^ b) = st4 a ^^^ st4 b := by simp only [st4, st_xor]
theorem st4_inj (a b : BitVec 16) (h : st4 a = st4 b) : a = b := st_inj _ _ (st_inj _ _ (st_inj _ _ (st_inj _ _ h)))
def tabN : List Nat := [0, 4225, 8450, 12675, 16900, 21125, 25350, 29575, 33800, 38025, 42250, 46475, 50700, 54925, 59150, 63375]
def tab (l : Nat) : BitVec 16 := BitVec.ofNat 16 (tabN.getD l 0)
def nib (c : BitVec 16) : BitVec 16 := (c >>> 4) ^^^ tab (c.toNat % 16)
theorem st4_low : ∀ l : Fin 16, st4 (BitVec.ofNat 16 l.val) = tab l.val := by decide +kernel
theorem st_even (c : BitVec 16) (h : c.toNat % 2 = 0) : (st c).toNat = c.toNat / 2 := by
  have e : c.getLsbD 0 = false := by
    rw [BitVec.getLsbD, Nat.testBit_zero]; simp; omega
  unfold st
  rw [e]
  simp [Nat.shiftRight_eq_div_pow]
theorem st4_high (h : Nat) (hh : h < 4096) : st4 (BitVec.ofNat 16 (16 * h)) = BitVec.ofNat 16 h := by
  apply BitVec.eq_of_toNat_eq
  have e0 : (BitVec.ofNat 16 (16 * h)).toNat = 16 * h := by rw [BitVec.toNat_ofNat]; omega
  have e1 := st_even (BitVec.ofNat 16 (16 * h)) (by omega)
  have e2 := st_even (st (BitVec.ofNat 16 (16 * h))) (by omega)
  have e3 := st_even (st (st (BitVec.ofNat 16 (16 * h)))) (by omega)
  have e4 := st_even (st (st (st (BitVec.ofNat 16 (16 * h))))) (by omega)
  rw [BitVec.toNat_ofNat]
  unfold st4
  omega
theorem split16 (c : BitVec 16) : c = BitVec.ofNat 16 (16 * (c.toNat / 16)) ^^^ BitVec.ofNat 16 (c.toNat % 16) := by
  apply BitVec.eq_of_toNat_eq
  have hl := c.isLt
  rw [BitVec.toNat_xor, BitVec.toNat_ofNat, BitVec.toNat_ofNat, Nat.mod_eq_of_lt (by omega : 16 * (c.toNat / 16) < 2 ^ 16), Nat.mod_eq_of_lt (by omega : c.toNat % 16 < 2 ^ 16)]
  apply Nat.eq_of_testBit_eq
  intro i
  generalize c.toNat = n
  rw [Nat.testBit_xor, show 16 = 2 ^ 4 from rfl, Nat.testBit_two_pow_mul, Nat.testBit_mod_two_pow, Nat.testBit_div_two_pow]
  by_cases g : i < 4
  · simp [g, Nat.not_le.2 g]
  · simp [g, Nat.not_lt.1 g]
theorem nib_st4 (c : BitVec 16) : nib c = st4 c := by
  have h4 := split16 c
  have hl := c.isLt
  have h5 := congrArg st4 h4
  rw [st4_xor, st4_high _ (by omega), st4_low ⟨c.toNat % 16, by omega⟩] at h5
  rw [h5]
  unfold nib
  congr 1
  apply BitVec.eq_of_toNat_eq
  rw [BitVec.toNat_ofNat, BitVec.toNat_ushiftRight, Nat.shiftRight_eq_div_pow]
  omega
/-- a byte's eight steps -/
def by8 (c : BitVec 16) : BitVec 16 := st4 (st4 c)
theorem by8_xor (a b : BitVec 16) : by8 (a ^^^ b) = by8 a ^^^ by8 b := by simp only [by8, st4_xor]
theorem by8_inj (a b : BitVec 16) (h : by8 a = by8 b) : a = b := st4_inj _ _ (st4_inj _ _ h)
theorem by8_high (h : Nat) (hh : h < 256) : by8 (BitVec.ofNat 16 (256 * h)) = BitVec.ofNat 16 h := by
  unfold by8
  rw [show 256 * h = 16 * (16 * h) by omega, st4_high _ (by omega), st4_high _ (by omega)]
/-- a byte as a number of sixteen bits -/
def wide (b : UInt8) : BitVec 16 := BitVec.ofNat 16 b.toNat
theorem wide_nat (b : UInt8) : (wide b).toNat = b.toNat := by
  have := b.toNat_lt
  rw [wide, BitVec.toNat_ofNat]; omega
theorem wide_xor (a b : UInt8) : wide (a ^^^ b) = wide a ^^^ wide b := by
  apply BitVec.eq_of_toNat_eq
  rw [BitVec.toNat_xor, wide_nat, wide_nat, wide_nat, UInt8.toNat_xor]
theorem wide_inj (a b : UInt8) (h : wide a = wide b) : a = b := by
  apply UInt8.toNat_inj.1
  rw [← wide_nat, ← wide_nat, h]
/-- crc.Add -/
def cadd (c : BitVec 16) (b : UInt8) : BitVec 16 := by8 (c ^^^ wide b)
/-- crc.Add of a row of bytes -/
def cadds (c : BitVec 16) (l : List UInt8) : BitVec 16 := l.foldl cadd c
theorem xor_cancel (a b c : BitVec 16) (h : a ^^^ b = a ^^^ c) : b = c := by
  have := congrArg (a ^^^ ·) h
  simpa [← BitVec.xor_assoc] using this
theorem cadd_bytes (c : BitVec 16) (a b : UInt8) (h : cadd c a = cadd c b) : a = b := wide_inj _ _ (xor_cancel _ _ _ (by8_inj _ _ h))
theorem cadd_nums (c d : BitVec 16) (a : UInt8) (h : cadd c a = cadd d a) : c = d := by
  have := by8_inj _ _ h
  rw [BitVec.xor_comm c, BitVec.xor_comm d] at this
  exact xor_cancel _ _ _ this
theorem cadds_nums (l : List UInt8) : ∀ (c d : BitVec 16), cadds c l = cadds d l → c = d := by
  induction l with
  | nil => intro c d h; exact h
  | cons b l ih => intro c d h; exact cadd_nums _ _ _ (ih _ _ h)
theorem xor_turn (p q r s : BitVec 16) (h : p ^^^ q = r ^^^ s) : p ^^^ r = q ^^^ s := by
  apply BitVec.eq_of_getLsbD_eq
  intro i _
  have := congrArg (fun z => BitVec.getLsbD z i) h
  simp only [BitVec.getLsbD_xor] at this ⊢
  revert this
  cases p.getLsbD i <;> cases q.getLsbD i <;> cases r.getLsbD i <;> cases s.getLsbD i <;> simp
theorem cadd_two (c : BitVec 16) (a b x y : UInt8) (h : cadd (cadd c a) b = cadd (cadd c x) y) : a = x ∧ b = y := by
  have h1 := by8_inj _ _ h
  unfold cadd at h1
  rw [by8_xor, by8_xor, BitVec.xor_assoc, BitVec.xor_assoc] at h1
  have h2 := xor_turn _ _ _ _ (xor_cancel _ _ _ h1)
  rw [← by8_xor, ← wide_xor, ← wide_xor] at h2
  have l1 := (a ^^^ x).toNat_lt
  have l2 := (b ^^^ y).toNat_lt
  have h3 : by8 (wide (a ^^^ x)) = by8 (BitVec.ofNat 16 (256 * (b ^^^ y).toNat)) := by rw [h2, by8_high _ (by omega)]; rfl
  have h4 := congrArg BitVec.toNat (by8_inj _ _ h3)
  rw [wide_nat, BitVec.toNat_ofNat] at h4
  have ha : (a ^^^ x).toNat = 0 := by omega
  have hb : (b ^^^ y).toNat = 0 := by omega
  have ea : a ^^^ x = 0 := UInt8.toNat_inj.1 ha
  have eb : b ^^^ y = 0 := UInt8.toNat_inj.1 hb
  exact ⟨UInt8.xor_eq_zero_iff.1 ea, UInt8.xor_eq_zero_iff.1 eb⟩
theorem cadd_own (c : BitVec 16) (a b : UInt8) (ha : a.toNat = c.toNat % 256) (hb : b.toNat = c.toNat / 256) : cadd (cadd c a) b = 0#16 := by
  have hl := c.isLt
  have e : c = BitVec.ofNat 16 (256 * b.toNat) ^^^ wide a := by
    apply BitVec.eq_of_toNat_eq
    rw [BitVec.toNat_xor, wide_nat, BitVec.toNat_ofNat, ha, hb, Nat.mod_eq_of_lt (by omega : 256 * (c.toNat / 256) < 2 ^ 16)]
    apply Nat.eq_of_testBit_eq
    intro i
    generalize c.toNat = n
    rw [Nat.testBit_xor, show 256 = 2 ^ 8 from rfl, Nat.testBit_two_pow_mul, Nat.testBit_mod_two_pow, Nat.testBit_div_two_pow]
    by_cases g : i < 8
    · simp [g, Nat.not_le.2 g]
    · simp [g, Nat.not_lt.1 g]
  have f : cadd c a = wide b := by
    unfold cadd
    rw [e, BitVec.xor_assoc, BitVec.xor_self, BitVec.xor_zero, by8_high _ b.toNat_lt]
    rfl
  rw [f]
  unfold cadd
  rw [BitVec.xor_self]
  rfl
end Go.Proofs.YtapfaaaepnplcaaGreatDoor
set_option maxRecDepth 100000
namespace Go.Proofs.YtapfaaaepnplcaaGreatDoor
/-- a width, in bytes, below 0 where a number may be so -/
def Wid (w : Int) : Prop := w = 1 ∨ w = 2 ∨ w = 4 ∨ w = -2 ∨ w = -4
def szW (w : Int) : Nat := w.natAbs
def leW (w : Int) : Int := if w < 0 then -(256 ^ szW w / 2) else 0
def grW (w : Int) : Int := leW w + 256 ^ szW w - 1
def fitB (w n : Int) : Bool := decide (leW w ≤ n) && decide (n ≤ grW w)
theorem fitB_iff (w n : Int) : fitB w n = true ↔ leW w ≤ n ∧ n ≤ grW w := by unfold fitB; simp
/-- the fields of a kind -/
def wsK (k : Int) : List Int :=
  if k = 1 then [1, 1, 4, -2, 2] else if k = 2 then [-4, -4, -4, -4, -4, -4, -4] else if k = 3 then [1, -4, -4, -4] else if k = 4 then [1, 2] else if k = 5 then [1, -4] else if k = 6 then [1, -4] else if k = 7 then [1, 2] else if k = 8 then [1, 2] else if k = 9 then [1, 2, 1, -4, -4, -4, -4] else if k = 10 then [1, 2] else if k = 11 then [1] else []
theorem wsK_cases (k : Int) : (k = 1 ∨ k = 2 ∨ k = 3 ∨ k = 4 ∨ k = 5 ∨ k = 6 ∨ k = 7 ∨ k = 8 ∨ k = 9 ∨ k = 10 ∨ k = 11) ∨ ((k < 1 ∨ 11 < k) ∧ wsK k = []) := by
  by_cases h : 1 ≤ k ∧ k ≤ 11
  · left; omega
  · right
    refine ⟨by omega, ?_⟩
    unfold wsK
    repeat rw [if_neg (by omega)]
theorem wsK_wid (k : Int) : ∀ w ∈ wsK k, Wid w := by
  rcases wsK_cases k with (h | h | h | h | h | h | h | h | h | h | h) | ⟨_, h⟩ <;> (first | (rw [h]; simp) | (subst h; unfold Wid; decide))
theorem wsK_len (k : Int) : (wsK k).length ≤ 7 := by
  rcases wsK_cases k with (h | h | h | h | h | h | h | h | h | h | h) | ⟨_, h⟩ <;> (first | (rw [h]; decide) | (subst h; decide))
theorem wsK_some {k : Int} (h : (wsK k).length ≠ 0) : 1 ≤ k ∧ k ≤ 11 := by
  rcases wsK_cases k with h1 | ⟨_, h1⟩
  · omega
  · rw [h1] at h; simp at h
theorem wsK_none {k : Int} (h : (wsK k).length = 0) : k < 1 ∨ 11 < k := by
  rcases wsK_cases k with (h1 | h1 | h1 | h1 | h1 | h1 | h1 | h1 | h1 | h1 | h1) | ⟨h1, _⟩
  all_goals (first | exact h1 | (subst h1; simp [wsK] at h))
theorem wid_cases {w : Int} (h : Wid w) : (szW w = 1 ∧ leW w = 0 ∧ grW w = 255) ∨ (szW w = 2 ∧ leW w = 0 ∧ grW w = 65535) ∨ (szW w = 4 ∧ leW w = 0 ∧ grW w = 4294967295) ∨ (szW w = 2 ∧ leW w = -32768 ∧ grW w = 32767) ∨ (szW w = 4 ∧ leW w = -2147483648 ∧ grW w = 2147483647) := by
  rcases h with h | h | h | h | h <;> subst h <;> decide
theorem wid_sz {w : Int} (h : Wid w) : 1 ≤ szW w ∧ szW w ≤ 4 := by rcases wid_cases h with h | h | h | h | h <;> omega
/-- the first bytes of a number -/
def byK (n : Int) : Nat → List UInt8
  | 0 => []
  | k + 1 => byK n k ++ [UInt8.ofNat (n / 256 ^ k % 256).toNat]
theorem byK_len (n : Int) (k : Nat) : (byK n k).length = k := by
  induction k with
  | zero => rfl
  | succ k ih => simp [byK, ih]
theorem byK_at (n : Int) (k i : Nat) (h : i < k) : (byK n k).getD i 0 = UInt8.ofNat (n / 256 ^ i % 256).toNat := by
  induction k with
  | zero => omega
  | succ k ih =>
    have hl := byK_len n k
    simp only [List.getD] at ih ⊢
    rw [byK]
    by_cases hk : i < k
    · rw [List.getElem?_append_left (by omega)]; exact ih hk
    · obtain rfl : i = k := by omega
      rw [List.getElem?_append_right (by omega), hl, Nat.sub_self]; rfl
def byW (w n : Int) : List UInt8 := byK n (szW w)
/-- the number of the first bytes -/
def nuK (l : List UInt8) : Nat → Int
  | 0 => 0
  | k + 1 => nuK l k + (l.getD k 0).toNat * 256 ^ k
def nuW (w : Int) (l : List UInt8) : Int := if grW w < nuK l (szW w) then nuK l (szW w) - 256 ^ szW w else nuK l (szW w)
theorem p256 (k : Nat) : (256 : Int) ^ (k + 1) = 256 ^ k * 256 := Int.pow_succ _ _
theorem p256_pos (k : Nat) : (0 : Int) < 256 ^ k := Int.pow_pos (by decide)
theorem nuK_bound (l : List UInt8) (k : Nat) : 0 ≤ nuK l k ∧ nuK l k < 256 ^ k := by
  induction k with
  | zero => exact ⟨by simp [nuK], by simp [nuK]⟩
  | succ k ih =>
    have hb := (l.getD k 0).toNat_lt
    have hp := p256_pos k
    rw [nuK, p256]
    have h1 : (0 : Int) ≤ ((l.getD k 0).toNat : Int) * 256 ^ k := Int.mul_nonneg (by omega) (by omega)
    have h2 : ((l.getD k 0).toNat : Int) * 256 ^ k ≤ 255 * 256 ^ k := Int.mul_le_mul_of_nonneg_right (by omega) (by omega)
    omega
theorem emod_next (n : Int) (k : Nat) : n % 256 ^ (k + 1) = n % 256 ^ k + n / 256 ^ k % 256 * 256 ^ k := by
  have hp := p256_pos k
  rw [p256]
  generalize (256 : Int) ^ k = a at hp
  have e1 := Int.mul_ediv_add_emod n a
  have e2 := Int.mul_ediv_add_emod (n / a) 256
  have l1 := Int.emod_nonneg n (show a ≠ 0 by omega)
  have l2 := Int.emod_lt_of_pos n hp
  have l3 := Int.emod_nonneg (n / a) (show (256 : Int) ≠ 0 by decide)
  have l4 := Int.emod_lt_of_pos (n / a) (show (0 : Int) < 256 by decide)
  generalize n / a % 256 = r at e2 l3 l4
  generalize n / a / 256 = q at e2
  generalize n / a = m at e1 e2
  generalize n % a = s at e1 l1 l2
  have h1 : 0 ≤ r * a := Int.mul_nonneg l3 (by omega)
  have h2 : r * a ≤ 255 * a := Int.mul_le_mul_of_nonneg_right (by omega) (by omega)
  refine ((Int.ediv_emod_unique (a := n) (b := a * 256) (q := q) (r := s + r * a) (by omega)).2 ⟨?_, by omega, by omega⟩).2
  rw [← e1, ← e2, Int.mul_add, Int.mul_assoc, Int.mul_comm a r]
  omega
theorem nuK_split (l : List UInt8) (j : Nat) : ∀ m, j < m → ∃ r : Int, nuK l m = nuK l j + 256 ^ j * ((l.getD j 0).toNat + 256 * r)
  | 0, h => absurd h (by omega)
  | m + 1, h => by
    by_cases hj : j = m
    · subst hj
      refine ⟨0, ?_⟩
      rw [nuK, Int.mul_zero, Int.add_zero, Int.mul_comm]
    · obtain ⟨r, hr⟩ := nuK_split l j m (by omega)
      refine ⟨r + (l.getD m 0).toNat * 256 ^ (m - j - 1), ?_⟩
      have e : (256 : Int) ^ m = 256 ^ j * (256 * 256 ^ (m - j - 1)) := by
        rw [Int.mul_comm 256, ← Int.pow_succ, ← Int.pow_add]; congr 1; omega
      rw [nuK, hr, e]
      generalize (256 : Int) ^ (m - j - 1) = Q
      generalize ((l.getD m 0).toNat : Int) = x
      generalize ((l.getD j 0).toNat : Int) = d
      have e2 : x * (256 ^ j * (256 * Q)) = 256 ^ j * (256 * (x * Q)) := by rw [Int.mul_left_comm, Int.mul_left_comm x]
      rw [e2, Int.mul_add, Int.mul_add, Int.mul_add, Int.mul_add]
      omega
theorem nuK_digit (l : List UInt8) (j m : Nat) (h : j < m) : nuK l m / 256 ^ j % 256 = ((l.getD j 0).toNat : Int) := by
  obtain ⟨r, hr⟩ := nuK_split l j m h
  have hb := nuK_bound l j
  have hp := p256_pos j
  have hl := (l.getD j 0).toNat_lt
  rw [hr, Int.add_mul_ediv_left _ _ (by omega), Int.ediv_eq_zero_of_lt hb.1 hb.2]
  omega
theorem nuK_byK (n : Int) (m k : Nat) (h : k ≤ m) : nuK (byK n m) k = n % 256 ^ k := by
  induction k with
  | zero => simp [nuK]
  | succ k ih =>
    rw [nuK, ih (by omega), byK_at n m k (by omega), emod_next]
    congr 2
    rw [UInt8.toNat_ofNat']
    omega
theorem byK_nuK (l : List UInt8) (k m : Nat) (h : k ≤ m) (hl : m ≤ l.length) : byK (nuK l m) k = l.take k := by
  induction k with
  | zero => rfl
  | succ k ih =>
    have hk : k < l.length := by omega
    rw [byK, ih (by omega), nuK_digit l k m (by omega), List.take_succ_eq_append_getElem hk]
    congr 2
    rw [List.getD, List.getElem?_eq_getElem hk]
    simp
theorem nuW_byW {w n : Int} (hw : Wid w) (h : fitB w n = true) : nuW w (byW w n) = n := by
  rw [fitB_iff] at h
  unfold nuW byW
  rw [nuK_byK _ _ _ (Nat.le_refl _)]
  rcases wid_cases hw with h1 | h1 | h1 | h1 | h1
  all_goals
    rw [h1.1, h1.2.2]
    rw [h1.2.1, h1.2.2] at h
    simp only [show (256 : Int) ^ 1 = 256 from rfl, show (256 : Int) ^ 2 = 65536 from rfl, show (256 : Int) ^ 4 = 4294967296 from rfl]
    split <;> omega
theorem nuW_fit {w : Int} (hw : Wid w) (l : List UInt8) : fitB w (nuW w l) = true := by
  rw [fitB_iff]
  unfold nuW
  have hb := nuK_bound l (szW w)
  rcases wid_cases hw with h1 | h1 | h1 | h1 | h1
  all_goals
    rw [h1.1] at hb ⊢
    rw [h1.2.1, h1.2.2]
    simp only [show (256 : Int) ^ 1 = 256 from rfl, show (256 : Int) ^ 2 = 65536 from rfl, show (256 : Int) ^ 4 = 4294967296 from rfl] at hb ⊢
    split <;> omega
theorem byK_mod (a b : Int) (k : Nat) (h : a % 256 ^ k = b % 256 ^ k) : byK a k = byK b k := by
  rw [← List.take_of_length_le (Nat.le_of_eq (byK_len a k)), ← List.take_of_length_le (Nat.le_of_eq (byK_len b k))]
  rw [← byK_nuK (byK a k) k k (Nat.le_refl _) (by rw [byK_len]; exact Nat.le_refl _), ← byK_nuK (byK b k) k k (Nat.le_refl _) (by rw [byK_len]; exact Nat.le_refl _)]
  rw [nuK_byK _ _ _ (Nat.le_refl _), nuK_byK _ _ _ (Nat.le_refl _), h]
theorem byW_nuW {w : Int} (l : List UInt8) (hl : l.length = szW w) : byW w (nuW w l) = l := by
  have h1 : byK (nuK l (szW w)) (szW w) = l := by
    rw [byK_nuK l _ _ (Nat.le_refl _) (by omega), List.take_of_length_le (by omega)]
  unfold byW nuW
  split
  · rw [byK_mod _ (nuK l (szW w)) _ (by rw [Int.sub_emod_right]), h1]
  · exact h1
/-- the bytes of the first fields -/
def payK (ws ns : List Int) : Nat → List UInt8
  | 0 => []
  | k + 1 => payK ws ns k ++ byW (ws.getD k 0) (ns.getD k 0)
/-- how many bytes the first fields have -/
def totK (ws : List Int) : Nat → Nat
  | 0 => 0
  | k + 1 => totK ws k + szW (ws.getD k 0)
/-- the first fields of bytes -/
def fieK (ws : List Int) (l : List UInt8) : Nat → List Int
  | 0 => []
  | k + 1 => fieK ws l k ++ [nuW (ws.getD k 0) ((l.drop (totK ws k)).take (szW (ws.getD k 0)))]
theorem byW_len (w n : Int) : (byW w n).length = szW w := byK_len _ _
theorem payK_len (ws ns : List Int) (k : Nat) : (payK ws ns k).length = totK ws k := by
  induction k with
  | zero => rfl
  | succ k ih => rw [payK, totK, List.length_append, ih, byW_len]
theorem totK_mono (ws : List Int) (i k : Nat) (h : i ≤ k) : totK ws i ≤ totK ws k := by
  induction k with
  | zero => obtain rfl : i = 0 := by omega
            exact Nat.le_refl _
  | succ k ih =>
    by_cases hk : i = k + 1
    · rw [hk]; exact Nat.le_refl _
    · have := ih (by omega)
      rw [totK]; omega
theorem fieK_len (ws : List Int) (l : List UInt8) (k : Nat) : (fieK ws l k).length = k := by
  induction k with
  | zero => rfl
  | succ k ih => simp [fieK, ih]
theorem fieK_at (ws : List Int) (l : List UInt8) (k i : Nat) (h : i < k) : (fieK ws l k).getD i 0 = nuW (ws.getD i 0) ((l.drop (totK ws i)).take (szW (ws.getD i 0))) := by
  induction k with
  | zero => omega
  | succ k ih =>
    have hl := fieK_len ws l k
    simp only [List.getD] at ih ⊢
    rw [fieK]
    by_cases hk : i < k
    · rw [List.getElem?_append_left (by omega)]; exact ih hk
    · obtain rfl : i = k := by omega
      rw [List.getElem?_append_right (by omega), hl, Nat.sub_self]; rfl
theorem payK_part (ws ns : List Int) (k i : Nat) (h : i < k) : ((payK ws ns k).drop (totK ws i)).take (szW (ws.getD i 0)) = byW (ws.getD i 0) (ns.getD i 0) := by
  induction k with
  | zero => omega
  | succ k ih =>
    have hl := payK_len ws ns k
    rw [payK]
    by_cases hk : i < k
    · have hm := totK_mono ws (i + 1) k (by omega)
      rw [totK] at hm
      rw [List.drop_append_of_le_length (by omega), List.take_append_of_le_length (by rw [List.length_drop]; omega)]
      exact ih hk
    · obtain rfl : i = k := by omega
      rw [← hl, List.drop_left, List.take_of_length_le (by rw [byW_len]; exact Nat.le_refl _)]
/-- each number is one that its width may be -/
def fitsK (ws ns : List Int) : Nat → Bool
  | 0 => true
  | k + 1 => fitsK ws ns k && fitB (ws.getD k 0) (ns.getD k 0)
theorem fitsK_at {ws ns : List Int} {k i : Nat} (h : fitsK ws ns k = true) (hi : i < k) : fitB (ws.getD i 0) (ns.getD i 0) = true := by
  induction k with
  | zero => omega
  | succ k ih =>
    rw [fitsK, Bool.and_eq_true] at h
    by_cases hk : i < k
    · exact ih h.1 hk
    · obtain rfl : i = k := by omega
      exact h.2
theorem fitsK_not {ws ns : List Int} {k i : Nat} (hi : i < k) (h : fitB (ws.getD i 0) (ns.getD i 0) = false) : fitsK ws ns k = false := by
  cases hh : fitsK ws ns k with
  | false => rfl
  | true => rw [fitsK_at hh hi] at h; cases h
theorem widD {ws : List Int} (hw : ∀ w ∈ ws, Wid w) (k : Nat) (h : k < ws.length) : Wid (ws.getD k 0) := by
  rw [List.getD, List.getElem?_eq_getElem h]
  exact hw _ (List.getElem_mem h)
theorem list_extM {a b : List Int} (hl : a.length = b.length) (h : ∀ i, i < a.length → a.getD i 0 = b.getD i 0) : a = b := by
  refine List.ext_getElem hl fun i h1 h2 => ?_
  have := h i h1
  rw [List.getD, List.getD, List.getElem?_eq_getElem h1, List.getElem?_eq_getElem h2] at this
  exact this
theorem fie_pay (ws ns : List Int) (hw : ∀ w ∈ ws, Wid w) (hl : ns.length = ws.length) (h : fitsK ws ns ws.length = true) : fieK ws (payK ws ns ws.length) ws.length = ns := by
  refine list_extM (by rw [fieK_len, hl]) fun i hi => ?_
  rw [fieK_len] at hi
  rw [fieK_at _ _ _ _ hi, payK_part _ _ _ _ hi, nuW_byW (widD hw i hi) (fitsK_at h hi)]
theorem pay_fie (ws : List Int) (l : List UInt8) (n : Nat) (hl : totK ws n ≤ l.length) (k : Nat) (hk : k ≤ n) : payK ws (fieK ws l n) k = l.take (totK ws k) := by
  induction k with
  | zero => simp [payK, totK]
  | succ k ih =>
    have hm := totK_mono ws (k + 1) n hk
    rw [totK] at hm
    rw [payK, ih (by omega), fieK_at _ _ _ _ (by omega), byW_nuW _ (by rw [List.length_take, List.length_drop]; omega), totK, List.take_add]
theorem fits_fie (ws : List Int) (hw : ∀ w ∈ ws, Wid w) (l : List UInt8) (n : Nat) (hn : n ≤ ws.length) (k : Nat) (hk : k ≤ n) : fitsK ws (fieK ws l n) k = true := by
  induction k with
  | zero => rfl
  | succ k ih => rw [fitsK, ih (by omega), fieK_at _ _ _ _ (by omega), nuW_fit (widD hw k (by omega))]; rfl
theorem tot_le (k : Int) : totK (wsK k) (wsK k).length ≤ 28 := by
  rcases wsK_cases k with (h | h | h | h | h | h | h | h | h | h | h) | ⟨_, h⟩ <;> (first | (rw [h]; decide) | (subst h; decide))
/-- what Encode answers -/
def encM (seq k : Int) (ns : List Int) : (Int × Int × ByteArray) × Int :=
  if (wsK k).length = 0 then ((0, 0, ⟨#[]⟩), 6) else if ns.length ≠ (wsK k).length then ((0, 0, ⟨#[]⟩), 50) else if 0 ≤ seq ∧ seq ≤ 255 ∧ fitsK (wsK k) ns (wsK k).length = true then ((seq, k, ⟨(payK (wsK k) ns (wsK k).length).toArray⟩), 0) else ((0, 0, ⟨#[]⟩), 5)
/-- what Decode answers -/
def decM (id : Int) (p : ByteArray) : (Int × List Int) × Int :=
  if (wsK id).length = 0 then ((0, []), 6) else if p.size ≠ totK (wsK id) (wsK id).length then ((0, []), 3) else ((id, fieK (wsK id) p.data.toList (wsK id).length), 0)
theorem dec_enc (seq k : Int) (ns : List Int) (h : (encM seq k ns).2 = 0) : (encM seq k ns).1.1 = seq ∧ (encM seq k ns).1.2.1 = k ∧ (encM seq k ns).1.2.2.size ≤ 28 ∧ decM k (encM seq k ns).1.2.2 = ((k, ns), 0) := by
  unfold encM at h ⊢
  by_cases h1 : (wsK k).length = 0
  · rw [if_pos h1] at h; cases h
  · rw [if_neg h1] at h ⊢
    by_cases h2 : ns.length ≠ (wsK k).length
    · rw [if_pos h2] at h; cases h
    · rw [if_neg h2] at h ⊢
      by_cases h3 : 0 ≤ seq ∧ seq ≤ 255 ∧ fitsK (wsK k) ns (wsK k).length = true
      · rw [if_pos h3]
        have hs : (⟨(payK (wsK k) ns (wsK k).length).toArray⟩ : ByteArray).size = totK (wsK k) (wsK k).length := by
          show (payK (wsK k) ns (wsK k).length).toArray.size = _
          rw [List.size_toArray, payK_len]
        refine ⟨rfl, rfl, by rw [hs]; exact tot_le k, ?_⟩
        unfold decM
        rw [if_neg h1, if_neg (by rw [hs]; simp)]
        show ((k, fieK (wsK k) (payK (wsK k) ns (wsK k).length) (wsK k).length), (0 : Int)) = _
        rw [fie_pay _ _ (wsK_wid k) (by omega) h3.2.2]
      · rw [if_neg h3] at h; cases h
theorem enc_dec (seq id : Int) (p : ByteArray) (h : (decM id p).2 = 0) : (decM id p).1.1 = id ∧ encM seq id (decM id p).1.2 = if 0 ≤ seq ∧ seq ≤ 255 then ((seq, id, p), 0) else ((0, 0, ⟨#[]⟩), 5) := by
  unfold decM at h ⊢
  by_cases h1 : (wsK id).length = 0
  · rw [if_pos h1] at h; cases h
  · rw [if_neg h1] at h ⊢
    by_cases h2 : p.size ≠ totK (wsK id) (wsK id).length
    · rw [if_pos h2] at h; cases h
    · rw [if_neg h2]
      refine ⟨rfl, ?_⟩
      have hz : p.data.toList.length = totK (wsK id) (wsK id).length := by
        have : p.data.toList.length = p.size := by simp
        omega
      unfold encM
      rw [if_neg h1, if_neg (by rw [fieK_len]; simp)]
      simp only [fits_fie _ (wsK_wid id) _ _ (Nat.le_refl _) _ (Nat.le_refl _), and_true]
      by_cases h3 : 0 ≤ seq ∧ seq ≤ 255
      · rw [if_pos h3, if_pos h3, pay_fie _ _ _ (by omega) _ (Nat.le_refl _), List.take_of_length_le (by omega)]
      · rw [if_neg h3, if_neg h3]
theorem enc_err {seq k : Int} {ns : List Int} (h : (encM seq k ns).2 ≠ 0) : (encM seq k ns).1 = (0, 0, ⟨#[]⟩) := by
  unfold encM at h ⊢
  split
  · rfl
  · split
    · rfl
    · split
      · rename_i h1 h2 h3
        rw [if_neg h1, if_neg h2, if_pos h3] at h
        exact absurd rfl h
      · rfl
theorem dec_err {id : Int} {p : ByteArray} (h : (decM id p).2 ≠ 0) : (decM id p).1 = (0, []) := by
  unfold decM at h ⊢
  split
  · rfl
  · split
    · rfl
    · rename_i h1 h2
      rw [if_neg h1, if_neg h2] at h
      exact absurd rfl h
end Go.Proofs.YtapfaaaepnplcaaGreatDoor
set_option maxRecDepth 100000
namespace Go.Proofs.YtapfaaaepnplcaaGreatDoor
def loL : List Int := [0, 1, 0, 1, 0, 0, 4, 1600, 1600, 2000, 1000, 500, 200, 100, 40, 40, 1, 0, 0, 0, 0, 1, 0, 16]
def hiL : List Int := [16, 200, 16, 200, 16, 4, 32, 64000, 32000, 16000, 120000, 120000, 10000, 10000, 40000, 40000, 40, 1000000000, 1000000, 1000, 1000, 10000, 16384, 3200]
def deL : List Int := [6, 20, 4, 20, 4, 2, 12, 16000, 8000, 8000, 5000, 2000, 1000, 500, 4000, 400, 8, 1000, 100, 1, 2, 500, 4000, 800]
/-- the first k numbers are in their ranges -/
def InR (l : List Int) (k : Nat) : Prop := ∀ i, i < k → loL.getD i 0 ≤ l.getD i 0 ∧ l.getD i 0 ≤ hiL.getD i 0
def inRB (l : List Int) : Bool := (List.range 24).all fun i => decide (loL.getD i 0 ≤ l.getD i 0) && decide (l.getD i 0 ≤ hiL.getD i 0)
theorem inRB_iff (l : List Int) : inRB l = true ↔ InR l 24 := by
  unfold inRB InR
  simp [List.all_eq_true]
def speE (l : List Int) : Int := max (l.getD 2 0) (l.getD 4 0)
def plaE (l : List Int) : Int := max (l.getD 1 0) (l.getD 3 0)
/-- the three rules -/
def Rul (l : List Int) : Prop := l.getD 0 0 + l.getD 6 0 + 2 * speE l + 4 ≤ 64 ∧ 8 * plaE l + 100 ≤ l.getD 12 0 ∧ l.getD 11 0 ≤ l.getD 10 0
def rulB (l : List Int) : Bool := decide (l.getD 0 0 + l.getD 6 0 + 2 * speE l + 4 ≤ 64) && (decide (8 * plaE l + 100 ≤ l.getD 12 0) && decide (l.getD 11 0 ≤ l.getD 10 0))
theorem rulB_iff (l : List Int) : rulB l = true ↔ Rul l := by
  unfold rulB Rul
  simp
/-- what Check answers -/
def chk (l : List Int) : Int := if l.length = 24 then (if inRB l = true then (if rulB l = true then 0 else 80) else 5) else 3
/-- sound parameters -/
structure Sound (l : List Int) : Prop where
  len : l.length = 24
  inr : InR l 24
  rul : Rul l
theorem chk_cases (l : List Int) : (chk l = 3 ∧ l.length ≠ 24) ∨ (chk l = 5 ∧ l.length = 24 ∧ ¬ InR l 24) ∨ (chk l = 80 ∧ l.length = 24 ∧ InR l 24 ∧ ¬ Rul l) ∨ (chk l = 0 ∧ Sound l) := by
  unfold chk
  by_cases h1 : l.length = 24
  · rw [if_pos h1]
    by_cases h2 : inRB l = true
    · rw [if_pos h2]
      by_cases h3 : rulB l = true
      · rw [if_pos h3]; exact .inr (.inr (.inr ⟨rfl, h1, (inRB_iff l).1 h2, (rulB_iff l).1 h3⟩))
      · rw [if_neg h3]; exact .inr (.inr (.inl ⟨rfl, h1, (inRB_iff l).1 h2, fun h => h3 ((rulB_iff l).2 h)⟩))
    · rw [if_neg h2]; exact .inr (.inl ⟨rfl, h1, fun h => h2 ((inRB_iff l).2 h)⟩)
  · rw [if_neg h1]; exact .inl ⟨rfl, h1⟩
theorem sound_of {l : List Int} (h : chk l = 0) : Sound l := by
  rcases chk_cases l with ⟨e, _⟩ | ⟨e, _⟩ | ⟨e, _⟩ | ⟨_, hs⟩
  · omega
  · omega
  · omega
  · exact hs
theorem Sound.chk {l : List Int} (h : Sound l) : chk l = 0 := by
  rcases chk_cases l with ⟨_, e⟩ | ⟨_, _, e⟩ | ⟨_, _, _, e⟩ | ⟨e, _⟩
  · exact absurd h.len e
  · exact absurd h.inr e
  · exact absurd h.rul e
  · exact e
/-- the way of a velocity at a braking -/
def wayI (v b : Int) : Int := v / b * v - b * (v / b) * (v / b + 1) / 2
/-- rounded up -/
def upI (a b : Int) : Int := -((-a) / b)
structure Mar where
  brake : Int
  drift : Int
  jolt : Int
  fast : Int
  lane : Int
  drain : Int
def marL (l : List Int) : Mar :=
  let brake := 64 - l.getD 0 0
  let drift := l.getD 0 0 + speE l + 2
  let jolt := 86 * (l.getD 5 0 + 1)
  let fast := max (max (l.getD 7 0) (l.getD 8 0)) (l.getD 9 0) + 128 + jolt + drift
  ⟨brake, drift, jolt, fast, upI (wayI fast brake) 6400 + 12 * plaE l + 100, l.getD 19 0 + 1824 * l.getD 20 0 / 1024⟩
def landI (m : Mar) (fall h : Int) : Int := m.fast / m.brake + fall / 32 + upI (h * 6400 + wayI m.fast m.brake + 16 * m.fast) (fall - m.drift) + 104
def legI (d v a : Int) : Int := 8 * (v / a) + upI (19200 * d) v + 800
def retI (l : List Int) (h d : Int) : Int :=
  let top := max h (l.getD 10 0) + 1000
  legI top (l.getD 8 0) (l.getD 6 0) + legI d (l.getD 7 0) (l.getD 6 0) + 8 * ((l.getD 8 0 + l.getD 9 0) / l.getD 6 0) + upI (12800 * top) (l.getD 9 0) + 104
def slackI (l : List Int) (c : Int) : Int := upI ((marL l).drift * landI (marL l) (l.getD 9 0) c + (marL l).jolt * 64) 6400 + 2
end Go.Proofs.YtapfaaaepnplcaaGreatDoor
