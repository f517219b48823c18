/- Fix. -/
import Derived.Test.YtapfaaaepnplcaaGreatDoorProg
import Derived.WalkKit
import Derived.Deep.QuietTactic
import Derived.BigQuiet
import Derived.Laws.BitsLemmas
import Derived.Laws.Bits64b
set_option maxRecDepth 100000
set_option maxHeartbeats 1000000
namespace Go.Proofs.YtapfaaaepnplcaaGreatDoor
open Go.RowKit
theorem hide {p : Prop} (h : p) : Hid p := h
theorem ret_int {k : IntKind} {a b : Int} (h : a = b) : Ending.returned (.int k a) = .returned (.int k b) := by rw [h]
theorem ret_two {k l : IntKind} {a b c d : Int} (h : a = b) (g : c = d) : Ending.returned (.tuple #[.int k a, .int l c]) = .returned (.tuple #[.int k b, .int l d]) := by rw [h, g]
theorem ret_bool {a b : Bool} (h : a = b) : Ending.returned (.bool a) = .returned (.bool b) := by rw [h]
/-- a whole number, kept within an int -/
def sat (x : Int) : Int := if x < -9223372036854775808 then -9223372036854775808 else if 9223372036854775807 < x then 9223372036854775807 else x
/-- an int -/
def I64 (x : Int) : Prop := -9223372036854775808 ≤ x ∧ x ≤ 9223372036854775807
theorem wf_i64 {x : Int} (h : (Lit.int .i64 x).wf = true) : I64 x := by
  simp [Lit.wf, IntKind.min, IntKind.max, IntKind.bits, IntKind.signed] at h
  unfold I64; omega
theorem fl (a b : Int) (h : 1 ≤ b) : (a.tmod b < 0 → a.tdiv b - 1 = a / b) ∧ (0 ≤ a.tmod b → a.tdiv b = a / b) := by
  have e := Int.mul_tdiv_add_tmod a b
  have l1 := Int.tmod_lt_of_pos a (by omega : 0 < b)
  have l2 := Int.tmod_lt_of_pos (-a) (by omega : 0 < b)
  rw [Int.neg_tmod] at l2
  refine ⟨fun g => ?_, fun g => ?_⟩
  · have := ((Int.ediv_emod_unique (a := a) (b := b) (q := a.tdiv b - 1) (r := a.tmod b + b) (by omega)).2 ⟨by rw [Int.mul_sub]; omega, by omega, by omega⟩).1
    exact this.symm
  · have := ((Int.ediv_emod_unique (a := a) (b := b) (q := a.tdiv b) (r := a.tmod b) (by omega)).2 ⟨by omega, by omega, by omega⟩).1
    exact this.symm
theorem and1 (a b : Int) : bits .and .i64 (bits .and .i64 a b) 1 = if a % 2 = 1 ∧ b % 2 = 1 then 1 else 0 := by
  have h1 : ∀ x : BitVec 64, (x &&& 1#64).toNat = x.toNat % 2 := by
    intro x; rw [BitVec.toNat_and]; exact Nat.and_one_is_mod _
  have h2 : ∀ x : Int, (BitVec.ofInt 64 x).toNat % 2 = (x % 2).toNat := by
    intro x; rw [BitVec.toNat_ofInt]; omega
  have h3 : ∀ x : BitVec 64, BitVec.ofInt 64 (IntKind.i64.wrap (x.toNat : Int)) = x := by
    intro x
    apply BitVec.eq_of_toNat_eq
    rw [BitVec.toNat_ofInt, IntKind.wrap_i64]
    have := x.isLt
    omega
  have h4 : (BitVec.ofInt 64 a &&& BitVec.ofInt 64 b).toNat % 2 = if a % 2 = 1 ∧ b % 2 = 1 then 1 else 0 := by
    rw [BitVec.toNat_and, ← Nat.and_one_is_mod, Nat.and_assoc, Nat.and_one_is_mod]
    have hb := h2 b
    have ha := h2 a
    rw [hb]
    rcases Int.emod_two_eq b with e | e
    · rw [e]; simp
    · rw [e]
      show _ &&& 1 = _
      rw [Nat.and_one_is_mod, ha]
      rcases Int.emod_two_eq a with e' | e' <;> rw [e'] <;> simp
  show IntKind.i64.wrap (((BitVec.ofInt 64 (IntKind.i64.wrap ((BitVec.ofInt 64 a &&& BitVec.ofInt 64 b).toNat : Int))) &&& BitVec.ofInt 64 1).toNat : Int) = _
  rw [h3, show BitVec.ofInt 64 1 = 1#64 from rfl, h1, h4, IntKind.wrap_i64]
  split <;> simp
theorem add_any (a b : Int) (w : World) (ha : I64 a) (hb : I64 b) : Calls Tryz.prog 199 #[.int .i64 a, .int .i64 b] w fun e w' => e = .returned (.int .i64 (sat (a + b))) ∧ w' = w := by
  unfold I64 at ha hb
  go_enter Tryz.func199, Tryz.ntmps199
  go_wp2
  all_goals (go_ret; refine ⟨ret_int ?_, rfl⟩; unfold sat; split <;> (try split) <;> omega)
theorem sub_any (a b : Int) (w : World) (ha : I64 a) (hb : I64 b) : Calls Tryz.prog 172 #[.int .i64 a, .int .i64 b] w fun e w' => e = .returned (.int .i64 (sat (a - b))) ∧ w' = w := by
  unfold I64 at ha hb
  go_enter Tryz.func172, Tryz.ntmps172
  go_wp2
  all_goals (go_ret; refine ⟨ret_int ?_, rfl⟩; unfold sat; split <;> (try split) <;> omega)
/-- 'fix.Clamp' -/
def clamp (x lo hi : Int) : Int := if x < lo then lo else if hi < x then hi else x
theorem clamp_any (x lo hi : Int) (w : World) : Calls Tryz.prog 143 #[.int .i64 x, .int .i64 lo, .int .i64 hi] w fun e w' => e = .returned (.int .i64 (clamp x lo hi)) ∧ w' = w := by
  go_enter Tryz.func143, Tryz.ntmps143
  go_wp2
  all_goals (go_ret; refine ⟨ret_int ?_, rfl⟩; unfold clamp; split <;> (try split) <;> omega)
theorem down_no (a b : Int) (w : World) (h : b < 1) : Calls Tryz.prog 240 #[.int .i64 a, .int .i64 b] w fun e w' => e = .returned (.tuple #[.int .i64 0, .int .i64 1]) ∧ w' = w := by
  go_enter Tryz.func240, Tryz.ntmps240
  go_wp2
  all_goals (go_ret2; exact ⟨rfl, rfl⟩)
theorem up_no (a b : Int) (w : World) (h : b < 1) : Calls Tryz.prog 249 #[.int .i64 a, .int .i64 b] w fun e w' => e = .returned (.tuple #[.int .i64 0, .int .i64 1]) ∧ w' = w := by
  go_enter Tryz.func249, Tryz.ntmps249
  go_wp2
  all_goals (go_ret2; exact ⟨rfl, rfl⟩)
theorem ediv_in (a b : Int) (h : 1 ≤ b) : (0 ≤ a → 0 ≤ a / b ∧ a / b ≤ a) ∧ (a < 0 → a ≤ a / b ∧ a / b ≤ 0) := by
  refine ⟨fun g => ⟨Int.ediv_nonneg g (by omega), Int.ediv_le_self _ g⟩, fun g => ⟨Int.le_ediv_of_mul_le (by omega) ?_, ?_⟩⟩
  · have := Int.mul_le_mul_of_nonpos_left (a := a) (b := b) (c := 1) (by omega) h
    omega
  · have := Int.ediv_neg_of_neg_of_pos g (by omega : 0 < b)
    omega
theorem down_any (a b : Int) (w : World) (ha : I64 a) (h : 1 ≤ b) : Calls Tryz.prog 240 #[.int .i64 a, .int .i64 b] w fun e w' => e = .returned (.tuple #[.int .i64 (a / b), .int .i64 0]) ∧ w' = w := by
  unfold I64 at ha
  have hi := ediv_in a b h
  by_cases g : a.tmod b < 0
  · have f := (fl a b h).1 g
    have hn : a < 0 := by
      by_cases hn : a < 0
      · exact hn
      · have := Int.tmod_nonneg b (show 0 ≤ a by omega); omega
    have hd : -9223372036854775807 ≤ a.tdiv b ∧ a.tdiv b ≤ 9223372036854775807 := by omega
    have F : Hid (a.tdiv b - 1 = a / b) := f
    clear f hi
    go_enter Tryz.func240, Tryz.ntmps240
    go_wp2
    go_ret2
    exact ⟨ret_two F.out rfl, rfl⟩
  · have f := (fl a b h).2 (by omega)
    have F : Hid (a.tdiv b = a / b) := f
    clear f hi
    go_enter Tryz.func240, Tryz.ntmps240
    go_wp2
    go_ret2
    exact ⟨ret_two F.out rfl, rfl⟩
theorem ce (a b : Int) (h : 1 ≤ b) : (0 < a.tmod b → a.tdiv b + 1 = -((-a) / b)) ∧ (a.tmod b ≤ 0 → a.tdiv b = -((-a) / b)) := by
  have f := fl (-a) b h
  rw [Int.neg_tmod, Int.neg_tdiv] at f
  refine ⟨fun g => ?_, fun g => ?_⟩
  · have := f.1 (by omega); omega
  · have := f.2 (by omega); omega
theorem up_any (a b : Int) (w : World) (ha : I64 a) (h : 1 ≤ b) : Calls Tryz.prog 249 #[.int .i64 a, .int .i64 b] w fun e w' => e = .returned (.tuple #[.int .i64 (-((-a) / b)), .int .i64 0]) ∧ w' = w := by
  unfold I64 at ha
  have hi := ediv_in (-a) b h
  by_cases g : 0 < a.tmod b
  · have f := (ce a b h).1 g
    have hd : -9223372036854775807 ≤ a.tdiv b ∧ a.tdiv b ≤ 9223372036854775806 := by
      have hp : 0 < a := by
        by_cases hp : 0 < a
        · exact hp
        · have e := Int.neg_tmod (a := a) (b := b); have := Int.tmod_nonneg b (show 0 ≤ -a by omega); omega
      omega
    have F : Hid (a.tdiv b + 1 = -((-a) / b)) := f
    clear f hi
    go_enter Tryz.func249, Tryz.ntmps249
    go_wp2
    go_ret2
    exact ⟨ret_two F.out rfl, rfl⟩
  · have f := (ce a b h).2 (by omega)
    have F : Hid (a.tdiv b = -((-a) / b)) := f
    clear f hi
    go_enter Tryz.func249, Tryz.ntmps249
    go_wp2
    go_ret2
    exact ⟨ret_two F.out rfl, rfl⟩
theorem size_any (a : Int) (w : World) (ha : I64 a) : Calls Tryz.prog 293 #[.int .i64 a] w fun e w' => e = .returned (.int .u64 (a.natAbs : Int)) ∧ w' = w := by
  unfold I64 at ha
  go_enter Tryz.func293, Tryz.ntmps293
  go_wp2
  all_goals (go_ret; refine ⟨ret_int ?_, rfl⟩)
  · rw [IntKind.wrap_u64, IntKind.wrap_u64]; omega
  · omega
theorem gap_any (a b : Int) (w : World) (ha : I64 a) (hb : I64 b) : Calls Tryz.prog 315 #[.int .i64 a, .int .i64 b] w fun e w' => e = .returned (.int .u64 ((a - b).natAbs : Int)) ∧ w' = w := by
  unfold I64 at ha hb
  go_enter Tryz.func315, Tryz.ntmps315
  go_wp2
  all_goals (go_ret; refine ⟨ret_int ?_, rfl⟩)
  all_goals (simp only [IntKind.wrap_u64]; omega)
theorem middle_any (a b : Int) (w : World) (ha : I64 a) (hb : I64 b) : Calls Tryz.prog 298 #[.int .i64 a, .int .i64 b] w fun e w' => e = .returned (.int .i64 ((a + b) / 2)) ∧ w' = w := by
  unfold I64 at ha hb
  have h1 := and1 a b
  have H1 : Hid (bits .and .i64 (bits .and .i64 a b) 1 = if a % 2 = 1 ∧ b % 2 = 1 then 1 else 0) := h1
  clear h1
  go_enter Tryz.func298, Tryz.ntmps298
  go_wp2
  go_ret
  refine ⟨ret_int ?_, rfl⟩
  rw [H1.out]
  unfold wrap64
  split <;> omega
/-- 'fix.Slew' -/
def slew (a b s : Int) : Int := if s < 1 then a else if ((a - b).natAbs : Int) ≤ s then b else if a < b then a + s else a - s
theorem slew_any (a b s : Int) (w : World) (ha : I64 a) (hb : I64 b) (hs : I64 s) : Calls Tryz.prog 226 #[.int .i64 a, .int .i64 b, .int .i64 s] w fun e w' => e = .returned (.int .i64 (slew a b s)) ∧ w' = w := by
  have ha1 := ha; have hb1 := hb; have hs1 := hs
  unfold I64 at ha1 hb1 hs1
  go_enter Tryz.func226, Tryz.ntmps226
  go_wp2_with (go_at_call 315; refine (gap_any _ _ _ ha hb).mono ?_; rintro e w' ⟨rfl, rfl⟩)
  all_goals (go_ret; refine ⟨ret_int ?_, rfl⟩; unfold slew; repeat (split))
  all_goals (first | omega | (try unfold wrap64); omega)
theorem mask_in (x : Int) (h : 0 ≤ x) (h' : x ≤ 18446744073709551615) : bits .and .u64 x 4294967295 = x % 4294967296 := by
  have := bits_mask .u64 64 (by decide) (fun n g g' => by rw [IntKind.wrap_u64]; omega) 32 (by decide) x h (by omega)
  simpa using this
theorem mask_mod (n : Int) : bits .and .u64 (n % 18446744073709551616) 4294967295 = n % 18446744073709551616 % 4294967296 := mask_in _ (by omega) (by omega)
/-- the parts of a product of two numbers that are given by halves -/
theorem halves (x y : Int) : ∃ p q r s : Int, p = x / 4294967296 * (y / 4294967296) ∧ q = x / 4294967296 * (y % 4294967296) ∧ r = x % 4294967296 * (y / 4294967296) ∧ s = x % 4294967296 * (y % 4294967296) ∧ x * y = p * 18446744073709551616 + (q + r) * 4294967296 + s := by
  refine ⟨_, _, _, _, rfl, rfl, rfl, rfl, ?_⟩
  have ex : x = 4294967296 * (x / 4294967296) + x % 4294967296 := by omega
  have ey : y = 4294967296 * (y / 4294967296) + y % 4294967296 := by omega
  generalize x / 4294967296 = a at *
  generalize x % 4294967296 = b at *
  generalize y / 4294967296 = c at *
  generalize y % 4294967296 = d at *
  subst ex ey
  have e : (4294967296 * a + b) * (4294967296 * c + d) = 4294967296 * (4294967296 * (a * c)) + 4294967296 * (a * d) + (4294967296 * (b * c) + b * d) := by
    rw [Int.add_mul, Int.mul_add, Int.mul_add, Int.mul_assoc, Int.mul_assoc, ← Int.mul_assoc a, Int.mul_comm a 4294967296, Int.mul_assoc 4294967296 a c, ← Int.mul_assoc b, Int.mul_comm b 4294967296, Int.mul_assoc 4294967296 b c]
  omega
theorem part_in (a b : Int) (h : 0 ≤ a) (h' : a ≤ 4294967295) (g : 0 ≤ b) (g' : b ≤ 4294967295) : 0 ≤ a * b ∧ a * b ≤ 18446744065119617025 :=
  ⟨Int.mul_nonneg h g, Int.mul_le_mul h' g' g (by omega)⟩
/-- 'math/bits.Mul64': the product, by its high and its low word -/
theorem mul64_any (x y : Int) (hx : 0 ≤ x) (hx' : x ≤ 18446744073709551615) (hy : 0 ≤ y) (hy' : y ≤ 18446744073709551615) (w : World) :
    Calls Tryz.prog 292 #[.int .u64 x, .int .u64 y] w fun e w' => e = .returned (.tuple #[.int .u64 (x * y / 18446744073709551616), .int .u64 (x * y % 18446744073709551616)]) ∧ w' = w := by
  go_enter Tryz.func292, Tryz.ntmps292
  go_wp2
  go_ret2
  refine ⟨ret_two ?_ ?_, rfl⟩
  · obtain ⟨p, q, r, s, hp, hq, hr, hs, e⟩ := halves x y
    have bp := part_in (x / 4294967296) (y / 4294967296) (by omega) (by omega) (by omega) (by omega)
    have bq := part_in (x / 4294967296) (y % 4294967296) (by omega) (by omega) (by omega) (by omega)
    have br := part_in (x % 4294967296) (y / 4294967296) (by omega) (by omega) (by omega) (by omega)
    have bs := part_in (x % 4294967296) (y % 4294967296) (by omega) (by omega) (by omega) (by omega)
    simp only [IntKind.wrap_u64, mask_mod, mask_in x hx hx', mask_in y hy hy']
    rw [← hp, ← hq, ← hr, ← hs, e]
    rw [← hp] at bp; rw [← hq] at bq; rw [← hr] at br; rw [← hs] at bs
    clear hp hq hr hs e
    omega
  · rw [IntKind.wrap_u64]
theorem end_any (b : Bool) (w : World) : Calls Tryz.prog 294 #[.bool b] w fun e w' => e = .returned (.int .i64 (if b then -9223372036854775808 else 9223372036854775807)) ∧ w' = w := by
  cases b
  all_goals
    go_enter Tryz.func294, Tryz.ntmps294
    go_wp2
    go_ret
    exact ⟨rfl, rfl⟩
theorem natAbs_mul (a b : Int) : (a.natAbs : Int) * (b.natAbs : Int) = a * b ∧ (a < 0 ∧ b < 0 ∨ 0 ≤ a ∧ 0 ≤ b) ∨ (a.natAbs : Int) * (b.natAbs : Int) = -(a * b) ∧ (a < 0 ∧ 0 ≤ b ∨ 0 ≤ a ∧ b < 0) := by
  by_cases h : a < 0
  · by_cases g : b < 0
    · refine .inl ⟨?_, by omega⟩
      rw [show (a.natAbs : Int) = -a by omega, show (b.natAbs : Int) = -b by omega, Int.neg_mul_neg]
    · refine .inr ⟨?_, by omega⟩
      rw [show (a.natAbs : Int) = -a by omega, show (b.natAbs : Int) = b by omega, Int.neg_mul]
  · by_cases g : b < 0
    · refine .inr ⟨?_, by omega⟩
      rw [show (a.natAbs : Int) = a by omega, show (b.natAbs : Int) = -b by omega, Int.mul_neg]
    · refine .inl ⟨?_, by omega⟩
      rw [show (a.natAbs : Int) = a by omega, show (b.natAbs : Int) = b by omega]
theorem mul_any (a b : Int) (w : World) (ha : I64 a) (hb : I64 b) : Calls Tryz.prog 200 #[.int .i64 a, .int .i64 b] w fun e w' => e = .returned (.int .i64 (sat (a * b))) ∧ w' = w := by
  have ha1 := ha; have hb1 := hb
  unfold I64 at ha1 hb1
  have h0 : 0 ≤ (a.natAbs : Int) * (b.natAbs : Int) := Int.mul_nonneg (by omega) (by omega)
  have HN := hide (natAbs_mul a b)
  cases hda : decide (a < 0) <;> cases hdb : decide (b < 0)
  all_goals
    have c1 := hda
    have c2 := hdb
    simp only [decide_eq_true_eq, decide_eq_false_iff_not] at c1 c2
    go_enter Tryz.func200, Tryz.ntmps200
    go_wp2_with (first
      | (go_at_call 293; refine (size_any _ _ (by assumption)).mono ?_; rintro e w' ⟨rfl, rfl⟩)
      | (go_at_call 292; refine (mul64_any _ _ (by omega) (by omega) (by omega) (by omega) _).mono ?_; rintro e w' ⟨rfl, rfl⟩)
      | (go_at_call 294; refine (end_any _ _).mono ?_; rintro e w' ⟨rfl, rfl⟩))
    all_goals
      go_ret
      refine ⟨ret_int ?_, rfl⟩
      have hn := HN.out
      unfold sat
      split <;> (try split) <;> omega
/-- what 'fix.Sqrt' comes to with k bits left -/
def sqrtFrom : Nat → Int → Int → Int
  | 0, _, r => r
  | k + 1, n, r => if r + 2 ^ k ≤ n.tdiv (r + 2 ^ k) then sqrtFrom k n (r + 2 ^ k) else sqrtFrom k n r
/-- the bit that comes next -/
def bitOf (k : Nat) : Int := 2 ^ k / 2
theorem bitOf_zero : bitOf 0 = 0 := by decide
theorem bitOf_succ (k : Nat) : bitOf (k + 1) = 2 ^ k := by unfold bitOf; rw [Int.pow_succ]; omega
theorem bitOf_half (k : Nat) : bitOf (k + 1) / 2 = bitOf k := by rw [bitOf_succ]; rfl
theorem pow_in (k : Nat) (h : k < 32) : (1 : Int) ≤ 2 ^ k ∧ (2 : Int) ^ k ≤ 2147483648 := by
  have h1 : (2 : Nat) ^ k ≤ 2 ^ 31 := Nat.pow_le_pow_right (by decide) (by omega)
  have h2 : 0 < (2 : Nat) ^ k := Nat.two_pow_pos k
  have e : ((2 ^ k : Nat) : Int) = (2 : Int) ^ k := by simp
  omega
theorem sqrt_any (n : Int) (w : World) (hn : I64 n) : Calls Tryz.prog 362 #[.int .i64 n] w fun e w' => e = .returned (.int .i64 (sqrtFrom 32 n 0)) ∧ w' = w := by
  unfold I64 at hn
  go_enter Tryz.func362, Tryz.ntmps362
  go_wp2
  go_loop [3, 4] (fun r b => ∃ (k : Nat) (x : Int), k ≤ 32 ∧ r = .int .i64 x ∧ b = .int .i64 (bitOf k) ∧ 0 ≤ x ∧ x + 2 * bitOf k ≤ 4294967296 ∧ Hid (sqrtFrom k n x = sqrtFrom 32 n 0)) (fun _ b => (intOf b).toNat)
  case atStart => exact ⟨32, 0, by omega, rfl, rfl, by omega, by decide, rfl⟩
  case round =>
    obtain ⟨k, x, hk, rfl, rfl, hx, hb, HS⟩ := hrel
    cases k with
    | zero =>
      rw [bitOf_zero] at hb
      rw [bitOf_zero]
      go_wp2
      go_ret
      exact ⟨ret_int HS.out, rfl⟩
    | succ k =>
      have hp := pow_in k (by omega)
      have e1 := bitOf_succ k
      have e2 := bitOf_half k
      have h3 : bitOf k * 2 ≤ 2 ^ k := by unfold bitOf; omega
      have h4 : 0 ≤ bitOf k := by unfold bitOf; omega
      have e5 : (2 : Int) ^ k / 2 = bitOf k := rfl
      rw [e1] at hb e2
      rw [e1]
      have HE := hide e5
      clear e1 e2 e5
      have HS' : Hid ((if x + 2 ^ k ≤ n.tdiv (x + 2 ^ k) then sqrtFrom k n (x + 2 ^ k) else sqrtFrom k n x) = sqrtFrom 32 n 0) := HS.out
      clear HS
      generalize (2 : Int) ^ k = b at *
      by_cases hc : x + b ≤ n.tdiv (x + b)
      · have HS2 : Hid (sqrtFrom k n (x + b) = sqrtFrom 32 n 0) := by have := HS'.out; rw [if_pos hc] at this; exact this
        clear HS'
        go_wp2
        go_round
        case rel => exact ⟨k, x + b, by omega, rfl, by rw [← HE.out], by omega, by omega, HS2⟩
        case measure => simp [intOf]; omega
      · have HS2 : Hid (sqrtFrom k n x = sqrtFrom 32 n 0) := by have := HS'.out; rw [if_neg hc] at this; exact this
        clear HS'
        go_wp2
        go_round
        case rel => exact ⟨k, x, by omega, rfl, by rw [← HE.out], by omega, by omega, HS2⟩
        case measure => simp [intOf]; omega
theorem div64_small (x y : Int) (hx : 0 ≤ x) (hx' : x ≤ 18446744073709551615) (hy : 1 ≤ y) (hy' : y ≤ 18446744073709551615) (w : World) :
    Calls Tryz.prog 410 #[.int .u64 0, .int .u64 x, .int .u64 y] w fun e w' => e = .returned (.tuple #[.int .u64 (x / y), .int .u64 (x % y)]) ∧ ∃ n, w' = w.drewN n := by
  go_enter Tryz.func410, Tryz.ntmps410
  go_wp2
  go_quiet (fail)
  go_wp2
  go_ret2
  exact ⟨rfl, _, rfl⟩
theorem muldiv_ex (w : World) : Calls Tryz.prog 392 #[.int .i64 7, .int .i64 3, .int .i64 (-2)] w fun e w' => e = .returned (.tuple #[.int .i64 (-11), .int .i64 0]) ∧ ∃ n, w' = w.drewN n := by
  go_enter Tryz.func392, Tryz.ntmps392
  go_wp2_with (first
    | (go_at_call 293; refine (size_any _ _ (by unfold I64; omega)).mono ?_; rintro e w' ⟨rfl, rfl⟩)
    | (go_at_call 292; refine (mul64_any _ _ (by omega) (by omega) (by omega) (by omega) _).mono ?_; rintro e w' ⟨rfl, rfl⟩)
    | (go_at_call 410; refine (div64_small _ _ (by omega) (by omega) (by omega) (by omega) _).mono ?_; rintro e w' ⟨rfl, n, rfl⟩))
  go_ret2
  exact ⟨rfl, n, rfl⟩
end Go.Proofs.YtapfaaaepnplcaaGreatDoor
