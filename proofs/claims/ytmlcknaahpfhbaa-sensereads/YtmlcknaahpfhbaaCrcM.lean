/- The sum of sixteen bits: its steps are linear over XOR; what follows. -/
import Derived.WalkKit
namespace Go.Proofs.Ytmlcknaahpfhbaa
/-- one of the eight steps -/
def st (c : BitVec 16) : BitVec 16 := (c >>> 1) ^^^ (if c.getLsbD 0 then 33800#16 else 0#16)
theorem st_xor (a b : BitVec 16) : st (a ^^^ b) = st a ^^^ st b := by
  unfold st
  rw [BitVec.getLsbD_xor, BitVec.ushiftRight_xor_distrib]
  generalize a >>> 1 = x, b >>> 1 = y
  apply BitVec.eq_of_getLsbD_eq
  intro i _
  cases a.getLsbD 0 <;> cases b.getLsbD 0 <;> simp <;> cases x.getLsbD i <;> cases y.getLsbD i <;> cases BitVec.getLsbD 33800#16 i <;> rfl
theorem st_zero (c : BitVec 16) (h : st c = 0#16) : c = 0#16 := by
  unfold st at h
  have hl := c.isLt
  have e : c.getLsbD 0 = decide (c.toNat % 2 = 1) := by
    rw [BitVec.getLsbD, Nat.testBit_zero]
  rw [e] at h
  by_cases g : c.toNat % 2 = 1
  · simp only [g, decide_true, if_true] at h
    have h2 := BitVec.xor_eq_zero_iff.1 h
    have h3 := congrArg BitVec.toNat h2
    simp [Nat.shiftRight_eq_div_pow] at h3
    omega
  · simp only [g, decide_false] at h
    simp at h
    have h3 := congrArg BitVec.toNat h
    simp [Nat.shiftRight_eq_div_pow] at h3
    apply BitVec.eq_of_toNat_eq
    simp
    omega
theorem st_inj (a b : BitVec 16) (h : st a = st b) : a = b := by
  have := st_zero (a ^^^ b) (by rw [st_xor, h, BitVec.xor_self])
  exact BitVec.xor_eq_zero_iff.1 this
def st4 (c : BitVec 16) : BitVec 16 := st (st (st (st c)))
theorem st4_xor (a b : BitVec 16) : st4 (a ^^^ b) = st4 a ^^^ st4 b := by simp only [st4, st_xor]
theorem st4_inj (a b : BitVec 16) (h : st4 a = st4 b) : a = b := st_inj _ _ (st_inj _ _ (st_inj _ _ (st_inj _ _ h)))
def tabN : List Nat := [0, 4225, 8450, 12675, 16900, 21125, 25350, 29575, 33800, 38025, 42250, 46475, 50700, 54925, 59150, 63375]
def tab (l : Nat) : BitVec 16 := BitVec.ofNat 16 (tabN.getD l 0)
def nib (c : BitVec 16) : BitVec 16 := (c >>> 4) ^^^ tab (c.toNat % 16)
theorem st4_low : ∀ l : Fin 16, st4 (BitVec.ofNat 16 l.val) = tab l.val := by decide +kernel
theorem st_even (c : BitVec 16) (h : c.toNat % 2 = 0) : (st c).toNat = c.toNat / 2 := by
  have e : c.getLsbD 0 = false := by
    rw [BitVec.getLsbD, Nat.testBit_zero]; simp; omega
  unfold st
  rw [e]
  simp [Nat.shiftRight_eq_div_pow]
theorem st4_high (h : Nat) (hh : h < 4096) : st4 (BitVec.ofNat 16 (16 * h)) = BitVec.ofNat 16 h := by
  apply BitVec.eq_of_toNat_eq
  have e0 : (BitVec.ofNat 16 (16 * h)).toNat = 16 * h := by rw [BitVec.toNat_ofNat]; omega
  have e1 := st_even (BitVec.ofNat 16 (16 * h)) (by omega)
  have e2 := st_even (st (BitVec.ofNat 16 (16 * h))) (by omega)
  have e3 := st_even (st (st (BitVec.ofNat 16 (16 * h)))) (by omega)
  have e4 := st_even (st (st (st (BitVec.ofNat 16 (16 * h))))) (by omega)
  rw [BitVec.toNat_ofNat]
  unfold st4
  omega
theorem split16 (c : BitVec 16) : c = BitVec.ofNat 16 (16 * (c.toNat / 16)) ^^^ BitVec.ofNat 16 (c.toNat % 16) := by
  apply BitVec.eq_of_toNat_eq
  have hl := c.isLt
  rw [BitVec.toNat_xor, BitVec.toNat_ofNat, BitVec.toNat_ofNat, Nat.mod_eq_of_lt (by omega : 16 * (c.toNat / 16) < 2 ^ 16), Nat.mod_eq_of_lt (by omega : c.toNat % 16 < 2 ^ 16)]
  apply Nat.eq_of_testBit_eq
  intro i
  generalize c.toNat = n
  rw [Nat.testBit_xor, show 16 = 2 ^ 4 from rfl, Nat.testBit_two_pow_mul, Nat.testBit_mod_two_pow, Nat.testBit_div_two_pow]
  by_cases g : i < 4
  · simp [g, Nat.not_le.2 g]
  · simp [g, Nat.not_lt.1 g]
theorem nib_st4 (c : BitVec 16) : nib c = st4 c := by
  have h4 := split16 c
  have hl := c.isLt
  have h5 := congrArg st4 h4
  rw [st4_xor, st4_high _ (by omega), st4_low ⟨c.toNat % 16, by omega⟩] at h5
  rw [h5]
  unfold nib
  congr 1
  apply BitVec.eq_of_toNat_eq
  rw [BitVec.toNat_ofNat, BitVec.toNat_ushiftRight, Nat.shiftRight_eq_div_pow]
  omega
/-- a byte's eight steps -/
def by8 (c : BitVec 16) : BitVec 16 := st4 (st4 c)
theorem by8_xor (a b : BitVec 16) : by8 (a ^^^ b) = by8 a ^^^ by8 b := by simp only [by8, st4_xor]
theorem by8_inj (a b : BitVec 16) (h : by8 a = by8 b) : a = b := st4_inj _ _ (st4_inj _ _ h)
theorem by8_high (h : Nat) (hh : h < 256) : by8 (BitVec.ofNat 16 (256 * h)) = BitVec.ofNat 16 h := by
  unfold by8
  rw [show 256 * h = 16 * (16 * h) by omega, st4_high _ (by omega), st4_high _ (by omega)]
/-- a byte as a number of sixteen bits -/
def wide (b : UInt8) : BitVec 16 := BitVec.ofNat 16 b.toNat
theorem wide_nat (b : UInt8) : (wide b).toNat = b.toNat := by
  have := b.toNat_lt
  rw [wide, BitVec.toNat_ofNat]; omega
theorem wide_xor (a b : UInt8) : wide (a ^^^ b) = wide a ^^^ wide b := by
  apply BitVec.eq_of_toNat_eq
  rw [BitVec.toNat_xor, wide_nat, wide_nat, wide_nat, UInt8.toNat_xor]
theorem wide_inj (a b : UInt8) (h : wide a = wide b) : a = b := by
  apply UInt8.toNat_inj.1
  rw [← wide_nat, ← wide_nat, h]
/-- crc.Add -/
def cadd (c : BitVec 16) (b : UInt8) : BitVec 16 := by8 (c ^^^ wide b)
/-- crc.Add of a row of bytes -/
def cadds (c : BitVec 16) (l : List UInt8) : BitVec 16 := l.foldl cadd c
theorem xor_cancel (a b c : BitVec 16) (h : a ^^^ b = a ^^^ c) : b = c := by
  have := congrArg (a ^^^ ·) h
  simpa [← BitVec.xor_assoc] using this
theorem cadd_bytes (c : BitVec 16) (a b : UInt8) (h : cadd c a = cadd c b) : a = b := wide_inj _ _ (xor_cancel _ _ _ (by8_inj _ _ h))
theorem cadd_nums (c d : BitVec 16) (a : UInt8) (h : cadd c a = cadd d a) : c = d := by
  have := by8_inj _ _ h
  rw [BitVec.xor_comm c, BitVec.xor_comm d] at this
  exact xor_cancel _ _ _ this
theorem cadds_nums (l : List UInt8) : ∀ (c d : BitVec 16), cadds c l = cadds d l → c = d := by
  induction l with
  | nil => intro c d h; exact h
  | cons b l ih => intro c d h; exact cadd_nums _ _ _ (ih _ _ h)
theorem xor_turn (p q r s : BitVec 16) (h : p ^^^ q = r ^^^ s) : p ^^^ r = q ^^^ s := by
  apply BitVec.eq_of_getLsbD_eq
  intro i _
  have := congrArg (fun z => BitVec.getLsbD z i) h
  simp only [BitVec.getLsbD_xor] at this ⊢
  revert this
  cases p.getLsbD i <;> cases q.getLsbD i <;> cases r.getLsbD i <;> cases s.getLsbD i <;> simp
theorem cadd_two (c : BitVec 16) (a b x y : UInt8) (h : cadd (cadd c a) b = cadd (cadd c x) y) : a = x ∧ b = y := by
  have h1 := by8_inj _ _ h
  unfold cadd at h1
  rw [by8_xor, by8_xor, BitVec.xor_assoc, BitVec.xor_assoc] at h1
  have h2 := xor_turn _ _ _ _ (xor_cancel _ _ _ h1)
  rw [← by8_xor, ← wide_xor, ← wide_xor] at h2
  have l1 := (a ^^^ x).toNat_lt
  have l2 := (b ^^^ y).toNat_lt
  have h3 : by8 (wide (a ^^^ x)) = by8 (BitVec.ofNat 16 (256 * (b ^^^ y).toNat)) := by rw [h2, by8_high _ (by omega)]; rfl
  have h4 := congrArg BitVec.toNat (by8_inj _ _ h3)
  rw [wide_nat, BitVec.toNat_ofNat] at h4
  have ha : (a ^^^ x).toNat = 0 := by omega
  have hb : (b ^^^ y).toNat = 0 := by omega
  have ea : a ^^^ x = 0 := UInt8.toNat_inj.1 ha
  have eb : b ^^^ y = 0 := UInt8.toNat_inj.1 hb
  exact ⟨UInt8.xor_eq_zero_iff.1 ea, UInt8.xor_eq_zero_iff.1 eb⟩
theorem cadd_own (c : BitVec 16) (a b : UInt8) (ha : a.toNat = c.toNat % 256) (hb : b.toNat = c.toNat / 256) : cadd (cadd c a) b = 0#16 := by
  have hl := c.isLt
  have e : c = BitVec.ofNat 16 (256 * b.toNat) ^^^ wide a := by
    apply BitVec.eq_of_toNat_eq
    rw [BitVec.toNat_xor, wide_nat, BitVec.toNat_ofNat, ha, hb, Nat.mod_eq_of_lt (by omega : 256 * (c.toNat / 256) < 2 ^ 16)]
    apply Nat.eq_of_testBit_eq
    intro i
    generalize c.toNat = n
    rw [Nat.testBit_xor, show 256 = 2 ^ 8 from rfl, Nat.testBit_two_pow_mul, Nat.testBit_mod_two_pow, Nat.testBit_div_two_pow]
    by_cases g : i < 8
    · simp [g, Nat.not_le.2 g]
    · simp [g, Nat.not_lt.1 g]
  have f : cadd c a = wide b := by
    unfold cadd
    rw [e, BitVec.xor_assoc, BitVec.xor_self, BitVec.xor_zero, by8_high _ b.toNat_lt]
    rfl
  rw [f]
  unfold cadd
  rw [BitVec.xor_self]
  rfl
end Go.Proofs.Ytmlcknaahpfhbaa
