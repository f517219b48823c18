/- A number's four bytes: package params. -/
import Derived.Test.YtfhcfngogfefjaaPaE
namespace Go.Proofs.Ytfhcfngogfefjaa
open Go.RowKit Go.Great

theorem or32 (x y : Nat) (k : Nat) (hy : y < 2 ^ k) (hx : x * 2 ^ k + y < 4294967296) : bits .or .u32 ((x * 2 ^ k : Nat) : Int) (y : Int) = ((x * 2 ^ k + y : Nat) : Int) := by
  have e1 : BitVec.ofInt 32 ((x * 2 ^ k : Nat) : Int) = BitVec.ofNat 32 (x * 2 ^ k) := by
    apply BitVec.eq_of_toNat_eq; rw [BitVec.toNat_ofInt, BitVec.toNat_ofNat]; omega
  have e2 : BitVec.ofInt 32 (y : Int) = BitVec.ofNat 32 y := by
    apply BitVec.eq_of_toNat_eq; rw [BitVec.toNat_ofInt, BitVec.toNat_ofNat]; omega
  show IntKind.u32.wrap ((BitVec.ofInt 32 ((x * 2 ^ k : Nat) : Int) ||| BitVec.ofInt 32 (y : Int)).toNat : Int) = _
  rw [e1, e2, BitVec.toNat_or, BitVec.toNat_ofNat, BitVec.toNat_ofNat, Nat.mod_eq_of_lt (by omega : x * 2 ^ k < 2 ^ 32), Nat.mod_eq_of_lt (by omega : y < 2 ^ 32)]
  have e3 : x * 2 ^ k ||| y = x * 2 ^ k + y := by
    rw [Nat.mul_comm]; exact (Nat.two_pow_add_eq_or_of_lt hy x).symm
  rw [e3]
  show IntKind.u32.wrap _ = _
  rw [IntKind.wrap_u32]
  omega
theorem or_all (a b c d : UInt8) : bits .or .u32 (bits .or .u32 (bits .or .u32 ((a.toNat : Int) % 4294967296 * 16777216 % 4294967296) ((b.toNat : Int) % 4294967296 * 65536 % 4294967296)) ((c.toNat : Int) % 4294967296 * 256 % 4294967296)) ((d.toNat : Int) % 4294967296) = natB a b c d := by
  have ha := a.toNat_lt
  have hb := b.toNat_lt
  have hc := c.toNat_lt
  have hd := d.toNat_lt
  have e1 : (a.toNat : Int) % 4294967296 * 16777216 % 4294967296 = ((a.toNat * 2 ^ 24 : Nat) : Int) := by omega
  have e2 : (b.toNat : Int) % 4294967296 * 65536 % 4294967296 = ((b.toNat * 65536 : Nat) : Int) := by omega
  have e3 : (c.toNat : Int) % 4294967296 * 256 % 4294967296 = ((c.toNat * 256 : Nat) : Int) := by omega
  have e4 : (d.toNat : Int) % 4294967296 = (d.toNat : Int) := by omega
  rw [e1, e2, e3, e4, or32 a.toNat (b.toNat * 65536) 24 (by omega) (by omega), show a.toNat * 2 ^ 24 + b.toNat * 65536 = (a.toNat * 256 + b.toNat) * 2 ^ 16 by omega, or32 (a.toNat * 256 + b.toNat) (c.toNat * 256) 16 (by omega) (by omega), show (a.toNat * 256 + b.toNat) * 2 ^ 16 + c.toNat * 256 = (a.toNat * 65536 + b.toNat * 256 + c.toNat) * 2 ^ 8 by omega, or32 _ d.toNat 8 (by omega) (by omega)]
  unfold natB
  omega
theorem natB_in (a b c d : UInt8) : 0 ≤ natB a b c d ∧ natB a b c d < 4294967296 := by
  have ha := a.toNat_lt
  have hb := b.toNat_lt
  have hc := c.toNat_lt
  have hd := d.toNat_lt
  unfold natB
  omega
theorem at8_get (s : ByteArray) (i : Nat) (h : i < s.size) : s[i] = at8 s.data.toList i := by
  unfold at8
  have h1 : i < s.data.toList.length := by rw [list_size]; exact h
  rw [List.getD, List.getElem?_eq_getElem h1]
  rfl
set_option maxHeartbeats 2000000 in
theorem number_any (s : ByteArray) (hs : s.size = 4) (w : World) : Calls Try.prog 57 #[.string s] w fun e w' => e = .returned (.int .i64 (numAt s.data.toList 0)) ∧ ∃ n, w' = w.drewN n := by
  have HE : Hid (∀ (h0 : 0 < s.size) (h1 : 1 < s.size) (h2 : 2 < s.size) (h3 : 3 < s.size), natB s[0] s[1] s[2] s[3] = natB (at8 s.data.toList 0) (at8 s.data.toList 1) (at8 s.data.toList 2) (at8 s.data.toList 3)) := by
    intro h0 h1 h2 h3
    rw [at8_get, at8_get, at8_get, at8_get]
  have hb := natB_in (at8 s.data.toList 0) (at8 s.data.toList 1) (at8 s.data.toList 2) (at8 s.data.toList 3)
  have HG : Hid (numAt s.data.toList 0 = sgn (natB (at8 s.data.toList 0) (at8 s.data.toList 1) (at8 s.data.toList 2) (at8 s.data.toList 3))) := rfl
  rw [HG.out]
  generalize natB (at8 s.data.toList 0) (at8 s.data.toList 1) (at8 s.data.toList 2) (at8 s.data.toList 3) = n at HE hb ⊢
  clear HG
  go_enter Try.func57, Try.ntmps57
  go_wp2_with fail
  go_quiet (fail)
  rw [or_all, HE.out]
  go_wp2_with fail
  go_ret
  refine ⟨ret_int ?_, _, rfl⟩
  unfold sgn wrap64 wrap32
  split <;> omega
end Go.Proofs.Ytfhcfngogfefjaa
