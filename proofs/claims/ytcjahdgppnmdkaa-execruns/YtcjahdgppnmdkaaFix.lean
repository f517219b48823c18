/- What the small functions of package fix answer, each by its own walk: at every input. -/
import Derived.Test.YtcjahdgppnmdkaaProg
import Derived.WalkKit
import Derived.Deep.QuietTactic
import Derived.BigQuiet
import Derived.Laws.BitsLemmas
import Derived.Laws.Bits64b
set_option maxRecDepth 100000
namespace Go.Proofs.Ytcjahdgppnmdkaa
open Go.RowKit

theorem hide {p : Prop} (h : p) : Hid p := h
theorem ret_int {k : IntKind} {a b : Int} (h : a = b) : Ending.returned (.int k a) = .returned (.int k b) := by rw [h]
theorem ret_two {k l : IntKind} {a b c d : Int} (h : a = b) (g : c = d) : Ending.returned (.tuple #[.int k a, .int l c]) = .returned (.tuple #[.int k b, .int l d]) := by rw [h, g]
theorem ret_bool {a b : Bool} (h : a = b) : Ending.returned (.bool a) = .returned (.bool b) := by rw [h]

/-- a whole number, kept within an int -/
def sat (x : Int) : Int := if x < -9223372036854775808 then -9223372036854775808 else if 9223372036854775807 < x then 9223372036854775807 else x
/-- an int -/
def I64 (x : Int) : Prop := -9223372036854775808 ≤ x ∧ x ≤ 9223372036854775807
theorem wf_i64 {x : Int} (h : (Lit.int .i64 x).wf = true) : I64 x := by
  simp [Lit.wf, IntKind.min, IntKind.max, IntKind.bits, IntKind.signed] at h
  unfold I64; omega


theorem fl (a b : Int) (h : 1 ≤ b) : (a.tmod b < 0 → a.tdiv b - 1 = a / b) ∧ (0 ≤ a.tmod b → a.tdiv b = a / b) := by
  have e := Int.mul_tdiv_add_tmod a b
  have l1 := Int.tmod_lt_of_pos a (by omega : 0 < b)
  have l2 := Int.tmod_lt_of_pos (-a) (by omega : 0 < b)
  rw [Int.neg_tmod] at l2
  refine ⟨fun g => ?_, fun g => ?_⟩
  · have := ((Int.ediv_emod_unique (a := a) (b := b) (q := a.tdiv b - 1) (r := a.tmod b + b) (by omega)).2 ⟨by rw [Int.mul_sub]; omega, by omega, by omega⟩).1
    exact this.symm
  · have := ((Int.ediv_emod_unique (a := a) (b := b) (q := a.tdiv b) (r := a.tmod b) (by omega)).2 ⟨by omega, by omega, by omega⟩).1
    exact this.symm
theorem and1 (a b : Int) : bits .and .i64 (bits .and .i64 a b) 1 = if a % 2 = 1 ∧ b % 2 = 1 then 1 else 0 := by
  have h1 : ∀ x : BitVec 64, (x &&& 1#64).toNat = x.toNat % 2 := by
    intro x; rw [BitVec.toNat_and]; exact Nat.and_one_is_mod _
  have h2 : ∀ x : Int, (BitVec.ofInt 64 x).toNat % 2 = (x % 2).toNat := by
    intro x; rw [BitVec.toNat_ofInt]; omega
  have h3 : ∀ x : BitVec 64, BitVec.ofInt 64 (IntKind.i64.wrap (x.toNat : Int)) = x := by
    intro x
    apply BitVec.eq_of_toNat_eq
    rw [BitVec.toNat_ofInt, IntKind.wrap_i64]
    have := x.isLt
    omega
  have h4 : (BitVec.ofInt 64 a &&& BitVec.ofInt 64 b).toNat % 2 = if a % 2 = 1 ∧ b % 2 = 1 then 1 else 0 := by
    rw [BitVec.toNat_and, ← Nat.and_one_is_mod, Nat.and_assoc, Nat.and_one_is_mod]
    have hb := h2 b
    have ha := h2 a
    rw [hb]
    rcases Int.emod_two_eq b with e | e
    · rw [e]; simp
    · rw [e]
      show _ &&& 1 = _
      rw [Nat.and_one_is_mod, ha]
      rcases Int.emod_two_eq a with e' | e' <;> rw [e'] <;> simp
  show IntKind.i64.wrap (((BitVec.ofInt 64 (IntKind.i64.wrap ((BitVec.ofInt 64 a &&& BitVec.ofInt 64 b).toNat : Int))) &&& BitVec.ofInt 64 1).toNat : Int) = _
  rw [h3, show BitVec.ofInt 64 1 = 1#64 from rfl, h1, h4, IntKind.wrap_i64]
  split <;> simp

/-- 'fix.Clamp' -/
def clamp (x lo hi : Int) : Int := if x < lo then lo else if hi < x then hi else x
theorem ediv_in (a b : Int) (h : 1 ≤ b) : (0 ≤ a → 0 ≤ a / b ∧ a / b ≤ a) ∧ (a < 0 → a ≤ a / b ∧ a / b ≤ 0) := by
  refine ⟨fun g => ⟨Int.ediv_nonneg g (by omega), Int.ediv_le_self _ g⟩, fun g => ⟨Int.le_ediv_of_mul_le (by omega) ?_, ?_⟩⟩
  · have := Int.mul_le_mul_of_nonpos_left (a := a) (b := b) (c := 1) (by omega) h
    omega
  · have := Int.ediv_neg_of_neg_of_pos g (by omega : 0 < b)
    omega
theorem ce (a b : Int) (h : 1 ≤ b) : (0 < a.tmod b → a.tdiv b + 1 = -((-a) / b)) ∧ (a.tmod b ≤ 0 → a.tdiv b = -((-a) / b)) := by
  have f := fl (-a) b h
  rw [Int.neg_tmod, Int.neg_tdiv] at f
  refine ⟨fun g => ?_, fun g => ?_⟩
  · have := f.1 (by omega); omega
  · have := f.2 (by omega); omega
/-- 'fix.Slew' -/
def slew (a b s : Int) : Int := if s < 1 then a else if ((a - b).natAbs : Int) ≤ s then b else if a < b then a + s else a - s
theorem mask_in (x : Int) (h : 0 ≤ x) (h' : x ≤ 18446744073709551615) : bits .and .u64 x 4294967295 = x % 4294967296 := by
  have := bits_mask .u64 64 (by decide) (fun n g g' => by rw [IntKind.wrap_u64]; omega) 32 (by decide) x h (by omega)
  simpa using this
theorem mask_mod (n : Int) : bits .and .u64 (n % 18446744073709551616) 4294967295 = n % 18446744073709551616 % 4294967296 := mask_in _ (by omega) (by omega)
/-- the parts of a product of two numbers that are given by halves -/
theorem halves (x y : Int) : ∃ p q r s : Int, p = x / 4294967296 * (y / 4294967296) ∧ q = x / 4294967296 * (y % 4294967296) ∧ r = x % 4294967296 * (y / 4294967296) ∧ s = x % 4294967296 * (y % 4294967296) ∧ x * y = p * 18446744073709551616 + (q + r) * 4294967296 + s := by
  refine ⟨_, _, _, _, rfl, rfl, rfl, rfl, ?_⟩
  have ex : x = 4294967296 * (x / 4294967296) + x % 4294967296 := by omega
  have ey : y = 4294967296 * (y / 4294967296) + y % 4294967296 := by omega
  generalize x / 4294967296 = a at *
  generalize x % 4294967296 = b at *
  generalize y / 4294967296 = c at *
  generalize y % 4294967296 = d at *
  subst ex ey
  have e : (4294967296 * a + b) * (4294967296 * c + d) = 4294967296 * (4294967296 * (a * c)) + 4294967296 * (a * d) + (4294967296 * (b * c) + b * d) := by
    rw [Int.add_mul, Int.mul_add, Int.mul_add, Int.mul_assoc, Int.mul_assoc, ← Int.mul_assoc a, Int.mul_comm a 4294967296, Int.mul_assoc 4294967296 a c, ← Int.mul_assoc b, Int.mul_comm b 4294967296, Int.mul_assoc 4294967296 b c]
  omega
theorem part_in (a b : Int) (h : 0 ≤ a) (h' : a ≤ 4294967295) (g : 0 ≤ b) (g' : b ≤ 4294967295) : 0 ≤ a * b ∧ a * b ≤ 18446744065119617025 :=
  ⟨Int.mul_nonneg h g, Int.mul_le_mul h' g' g (by omega)⟩
theorem natAbs_mul (a b : Int) : (a.natAbs : Int) * (b.natAbs : Int) = a * b ∧ (a < 0 ∧ b < 0 ∨ 0 ≤ a ∧ 0 ≤ b) ∨ (a.natAbs : Int) * (b.natAbs : Int) = -(a * b) ∧ (a < 0 ∧ 0 ≤ b ∨ 0 ≤ a ∧ b < 0) := by
  by_cases h : a < 0
  · by_cases g : b < 0
    · refine .inl ⟨?_, by omega⟩
      rw [show (a.natAbs : Int) = -a by omega, show (b.natAbs : Int) = -b by omega, Int.neg_mul_neg]
    · refine .inr ⟨?_, by omega⟩
      rw [show (a.natAbs : Int) = -a by omega, show (b.natAbs : Int) = b by omega, Int.neg_mul]
  · by_cases g : b < 0
    · refine .inr ⟨?_, by omega⟩
      rw [show (a.natAbs : Int) = a by omega, show (b.natAbs : Int) = -b by omega, Int.mul_neg]
    · refine .inl ⟨?_, by omega⟩
      rw [show (a.natAbs : Int) = a by omega, show (b.natAbs : Int) = b by omega]
/-- what 'fix.Sqrt' comes to with k bits left -/
def sqrtFrom : Nat → Int → Int → Int
  | 0, _, r => r
  | k + 1, n, r => if r + 2 ^ k ≤ n.tdiv (r + 2 ^ k) then sqrtFrom k n (r + 2 ^ k) else sqrtFrom k n r
/-- the bit that comes next -/
def bitOf (k : Nat) : Int := 2 ^ k / 2
theorem bitOf_zero : bitOf 0 = 0 := by decide
theorem bitOf_succ (k : Nat) : bitOf (k + 1) = 2 ^ k := by unfold bitOf; rw [Int.pow_succ]; omega
theorem bitOf_half (k : Nat) : bitOf (k + 1) / 2 = bitOf k := by rw [bitOf_succ]; rfl
theorem pow_in (k : Nat) (h : k < 32) : (1 : Int) ≤ 2 ^ k ∧ (2 : Int) ^ k ≤ 2147483648 := by
  have h1 : (2 : Nat) ^ k ≤ 2 ^ 31 := Nat.pow_le_pow_right (by decide) (by omega)
  have h2 : 0 < (2 : Nat) ^ k := Nat.two_pow_pos k
  have e : ((2 ^ k : Nat) : Int) = (2 : Int) ^ k := by simp
  omega
end Go.Proofs.Ytcjahdgppnmdkaa
