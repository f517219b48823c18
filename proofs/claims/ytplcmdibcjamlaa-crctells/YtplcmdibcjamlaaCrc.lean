/- What package crc, and the reference for it, answer: at every input. -/
import Derived.Test.YtplcmdibcjamlaaProg
import Derived.Test.YtplcmdibcjamlaaCrcM
import Derived.WalkKit
import Derived.Deep.QuietTactic
import Derived.BigQuiet
import Derived.Great.BuildSlice
import Derived.Deep.WholeRow
import Derived.Below
namespace Go.Proofs.Ytplcmdibcjamlaa
open Go.RowKit Go.Great

theorem hide {p : Prop} (h : p) : Hid p := h
theorem ret_int {k : IntKind} {a b : Int} (h : a = b) : Ending.returned (.int k a) = .returned (.int k b) := by rw [h]
theorem ret_bool {a b : Bool} (h : a = b) : Ending.returned (.bool a) = .returned (.bool b) := by rw [h]
theorem below_next {B : Nat} {w w1 w2 : World} (h : Below B w w1) (hB : B ≤ w.heap.size) (h2 : Below w1.heap.size w1 w2) : Below B w w2 := h.trans (h2.mono (by have := h.size; omega))
theorem below_alloc (w : World) (o : Obj) : Below w.heap.size w (w.alloc o) := (Below.refl _ _).alloc (Nat.le_refl _) _
theorem below_over {w w' : World} {o : Obj} (h : Below (w.alloc o).heap.size (w.alloc o) w') : Below w.heap.size w w' :=
  below_next (below_alloc w o) (Nat.le_refl _) h
theorem of16 (x : BitVec 16) : BitVec.ofInt 16 (x.toNat : Int) = x := by
  apply BitVec.eq_of_toNat_eq
  rw [BitVec.toNat_ofInt]
  have := x.isLt
  omega
theorem wrap16 (x : BitVec 16) : IntKind.u16.wrap (x.toNat : Int) = x.toNat := by
  have := x.isLt
  rw [IntKind.wrap_u16]; omega
theorem xor16 (a b : BitVec 16) : bits .xor .u16 (a.toNat : Int) (b.toNat : Int) = ((a ^^^ b).toNat : Int) := by
  show IntKind.u16.wrap ((BitVec.ofInt 16 (a.toNat : Int) ^^^ BitVec.ofInt 16 (b.toNat : Int)).toNat : Int) = _
  rw [of16, of16, wrap16]
theorem and15 (a : BitVec 16) : bits .and .u16 (a.toNat : Int) 15 = ((a.toNat % 16 : Nat) : Int) := by
  show IntKind.u16.wrap ((BitVec.ofInt 16 (a.toNat : Int) &&& BitVec.ofInt 16 15).toNat : Int) = _
  rw [of16, wrap16, BitVec.toNat_and, show (BitVec.ofInt 16 15).toNat = 2 ^ 4 - 1 from rfl, Nat.and_two_pow_sub_one_eq_mod]
def tabV : List Value := [.int .u16 0, .int .u16 4225, .int .u16 8450, .int .u16 12675, .int .u16 16900, .int .u16 21125, .int .u16 25350, .int .u16 29575, .int .u16 33800, .int .u16 38025, .int .u16 42250, .int .u16 46475, .int .u16 50700, .int .u16 54925, .int .u16 59150, .int .u16 63375]
theorem tabV_at : ∀ i : Nat, i < 16 → tabV[i]? = some (.int .u16 ((tab i).toNat : Int))
  | 0, _ | 1, _ | 2, _ | 3, _ | 4, _ | 5, _ | 6, _ | 7, _ | 8, _ | 9, _ | 10, _ | 11, _ | 12, _ | 13, _ | 14, _ | 15, _ => rfl
  | n + 16, h => absurd h (by omega)
set_option maxHeartbeats 1000000 in
theorem nibble_any (c : BitVec 16) (w : World) : Calls Try.prog 13 #[.int .u16 (c.toNat : Int)] w fun e w' => e = .returned (.int .u16 ((nib c).toNat : Int)) ∧ Below w.heap.size w w' := by
  have ha := and15 c
  have hl := c.isLt
  have hx : bits .xor .u16 ((c.toNat : Int) / 16) ((tab (c.toNat % 16)).toNat : Int) = ((nib c).toNat : Int) := by
    have e : (c.toNat : Int) / (16 : Int) = (((c >>> 4).toNat : Nat) : Int) := by
      rw [BitVec.toNat_ushiftRight, Nat.shiftRight_eq_div_pow]; omega
    rw [e, xor16]
    rfl
  have hc := tabV_at (c.toNat % 16) (by omega)
  have hi : c.toNat % 16 < 16 := by omega
  generalize c.toNat % 16 = i at ha hx hc hi
  generalize nib c = n at hx ⊢
  generalize tab i = t at hx hc
  have hd : ∀ h : i < tabV.length, tabV[i]'h = .int .u16 (t.toNat : Int) := by
    intro h
    rw [List.getElem?_eq_getElem h] at hc
    exact Option.some.inj hc
  clear hc
  unfold tabV at hd
  go_enter Try.func13, Try.ntmps13
  go_wp2
  go_ret
  exact ⟨rfl, below_alloc _ _⟩
theorem conv8 (b : UInt8) : IntKind.u16.wrap (b.toNat : Int) = ((wide b).toNat : Int) := by
  have := b.toNat_lt
  rw [IntKind.wrap_u16, wide_nat]; omega
theorem wide_int (b : UInt8) : (b.toNat : Int) = ((wide b).toNat : Int) := by rw [wide_nat]
set_option maxHeartbeats 1000000 in
theorem add_any (c : BitVec 16) (b : UInt8) (w : World) : Calls Try.prog 9 #[.int .u16 (c.toNat : Int), .int .u8 (b.toNat : Int)] w fun e w' => e = .returned (.int .u16 ((cadd c b).toNat : Int)) ∧ Below w.heap.size w w' := by
  have hc := conv8 b
  have hb := wide_int b
  have hx := xor16 c (wide b)
  have HN : Hid (nib (nib (c ^^^ wide b)) = cadd c b) := by show _ = _; rw [nib_st4, nib_st4]; rfl
  have hlt := b.toNat_lt
  generalize wide b = v at hc hb hx HN
  generalize c ^^^ v = x at hx HN
  go_enter Try.func9, Try.ntmps9
  go_wp2_with fail
  refine (nibble_any _ _).mono ?_
  rintro e w1 ⟨rfl, hB⟩
  go_wp2_with fail
  refine (nibble_any _ _).mono ?_
  rintro e w2 ⟨rfl, hC⟩
  go_wp2_with fail
  go_ret
  exact ⟨ret_int (by rw [HN.out]), below_next hB (Nat.le_refl _) hC⟩
theorem take_snoc (s : ByteArray) (k : Nat) (h : k < s.size) : s.data.toList.take (k + 1) = s.data.toList.take k ++ [s[k]] := by
  rw [List.take_succ_eq_append_getElem (by simpa using h)]; rfl
theorem cadds_snoc (c : BitVec 16) (l : List UInt8) (b : UInt8) : cadds c (l ++ [b]) = cadd (cadds c l) b := by
  unfold cadds; rw [List.foldl_append]; rfl
/-- crc.Sum -/
def csum (s : ByteArray) : BitVec 16 := cadds 65535#16 s.data.toList
set_option maxHeartbeats 1000000 in
theorem sum_any (s : ByteArray) (w : World) (hs : s.size ≤ 9223372036854775807) : Calls Try.prog 11 #[.string s] w fun e w' => e = .returned (.int .u16 ((csum s).toNat : Int)) ∧ Below w.heap.size w w' := by
  go_enter Try.func11, Try.ntmps11
  go_wp2
  go_loopw [3, 7] (fun c i wx => Below w.heap.size w wx ∧ ∃ k : Nat, k ≤ s.size ∧ i = .int .i64 k ∧ c = .int .u16 ((cadds 65535#16 (s.data.toList.take k)).toNat : Int)) (fun _ i _ => s.size - (intOf i).toNat)
  case atStart => exact ⟨Below.refl _ _, 0, Nat.zero_le _, rfl, rfl⟩
  case round =>
    obtain ⟨hB, k, hk, rfl, rfl⟩ := hrel
    by_cases hlt : k < s.size
    · have HT : Hid (cadds 65535#16 (s.data.toList.take (k + 1)) = cadd (cadds 65535#16 (s.data.toList.take k)) s[k]) := by
        show _ = _
        rw [take_snoc s k hlt, cadds_snoc]
      generalize cadds 65535#16 (s.data.toList.take k) = c at HT
      go_wp2_with fail
      refine (add_any _ _ _).mono ?_
      rintro e w1 ⟨rfl, hC⟩
      go_wp2_with fail
      go_roundw
      case rel => exact ⟨below_next hB (Nat.le_refl _) hC, k + 1, by omega, by go_num, by rw [HT.out]⟩
      case measure => simp [intOf]; omega
    · have HE : Hid (cadds 65535#16 (s.data.toList.take k) = csum s) := by
        show _ = _
        rw [List.take_of_length_le (by simp; omega)]; rfl
      go_wp2_with fail
      go_ret
      exact ⟨ret_int (by rw [HE.out]), hB⟩
/-- the steps one behind the other -/
def stN : Nat → BitVec 16 → BitVec 16
  | 0, c => c
  | n + 1, c => st (stN n c)
theorem st_odd (c : BitVec 16) (h : c.toNat % 2 = 1) : bits .xor .u16 ((c.toNat : Int) / 2) 33800 = ((st c).toNat : Int) := by
  have e : c.getLsbD 0 = true := by
    rw [BitVec.getLsbD, Nat.testBit_zero]; simp; omega
  have e2 : (c.toNat : Int) / (2 : Int) = (((c >>> 1).toNat : Nat) : Int) := by
    rw [BitVec.toNat_ushiftRight, Nat.shiftRight_eq_div_pow]; omega
  have := xor16 (c >>> 1) 33800#16
  rw [e2]
  unfold st
  rw [e, if_pos rfl]
  exact this
set_option maxHeartbeats 1000000 in
theorem ref_add (c : BitVec 16) (b : UInt8) (w : World) : Calls Try.prog 10 #[.int .u16 (c.toNat : Int), .int .u8 (b.toNat : Int)] w fun e w' => e = .returned (.int .u16 ((cadd c b).toNat : Int)) ∧ w' = w := by
  have hc := conv8 b
  have hb := wide_int b
  have hx := xor16 c (wide b)
  have HN : Hid (stN 8 (c ^^^ wide b) = cadd c b) := rfl
  have hlt := b.toNat_lt
  generalize wide b = v at hc hb hx HN
  generalize c ^^^ v = x at hx HN
  go_enter Try.func10, Try.ntmps10
  go_wp2
  clear hx hc hb
  go_loop [0, 5] (fun c i => ∃ k : Nat, k ≤ 8 ∧ i = .int .i64 k ∧ c = .int .u16 ((stN k x).toNat : Int)) (fun _ i => 8 - (intOf i).toNat)
  case atStart => exact ⟨0, Nat.zero_le _, rfl, rfl⟩
  case round =>
    obtain ⟨k, hk, rfl, rfl⟩ := hrel
    by_cases hlt : k < 8
    · have HT : Hid (stN (k + 1) x = st (stN k x)) := rfl
      generalize stN k x = y at HT
      have hy := y.isLt
      by_cases ho : y.toNat % 2 = 1
      · have hx := st_odd y ho
        generalize st y = z at hx HT
        go_wp2
        go_round
        case rel => exact ⟨k + 1, by omega, by go_num, by rw [HT.out]⟩
        case measure => simp [intOf]; omega
      · have HE : Hid (((st y).toNat : Int) = (y.toNat : Int) / 2) := by
          have := st_even y (by omega)
          show _ = _
          omega
        go_wp2
        go_round
        case rel => exact ⟨k + 1, by omega, by go_num, by rw [HT.out, HE.out]⟩
        case measure => simp [intOf]; omega
    · have e : k = 8 := by omega
      subst e
      go_wp2
      go_ret
      exact ⟨ret_int (by rw [HN.out]), rfl⟩
set_option maxHeartbeats 1000000 in
theorem ref_sum (s : ByteArray) (w : World) (hs : s.size ≤ 9223372036854775807) : Calls Try.prog 12 #[.string s] w fun e w' => e = .returned (.int .u16 ((csum s).toNat : Int)) ∧ w' = w := by
  go_enter Try.func12, Try.ntmps12
  go_wp2
  go_loop [3, 4] (fun c i => ∃ k : Nat, k ≤ s.size ∧ i = .int .i64 k ∧ c = .int .u16 ((cadds 65535#16 (s.data.toList.take k)).toNat : Int)) (fun _ i => s.size - (intOf i).toNat)
  case atStart => exact ⟨0, Nat.zero_le _, rfl, rfl⟩
  case round =>
    obtain ⟨k, hk, rfl, rfl⟩ := hrel
    by_cases hlt : k < s.size
    · have HT : Hid (cadds 65535#16 (s.data.toList.take (k + 1)) = cadd (cadds 65535#16 (s.data.toList.take k)) s[k]) := by
        show _ = _
        rw [take_snoc s k hlt, cadds_snoc]
      generalize cadds 65535#16 (s.data.toList.take k) = c at HT
      go_wp2_with fail
      refine (ref_add _ _ _).mono ?_
      rintro e w1 ⟨rfl, rfl⟩
      go_wp2_with fail
      go_round
      case rel => exact ⟨k + 1, by omega, by go_num, by rw [HT.out]⟩
      case measure => simp [intOf]; omega
    · have HE : Hid (cadds 65535#16 (s.data.toList.take k) = csum s) := by
        show _ = _
        rw [List.take_of_length_le (by simp; omega)]; rfl
      go_wp2_with fail
      go_ret
      exact ⟨ret_int (by rw [HE.out]), rfl⟩
theorem nine_sum : csum ⟨#[49, 50, 51, 52, 53, 54, 55, 56, 57]⟩ = 28561#16 := by decide +kernel
theorem sum_none (w : World) : Calls Try.prog 11 #[.string ⟨#[]⟩] w fun e w' => e = .returned (.int .u16 65535) ∧ Below w.heap.size w w' := by
  exact sum_any ⟨#[]⟩ w (by decide)
theorem sum_nine (w : World) : Calls Try.prog 11 #[.string ⟨#[49, 50, 51, 52, 53, 54, 55, 56, 57]⟩] w fun e w' => e = .returned (.int .u16 28561) ∧ Below w.heap.size w w' := by
  have := sum_any ⟨#[49, 50, 51, 52, 53, 54, 55, 56, 57]⟩ w (by decide)
  rw [nine_sum] at this
  exact this
theorem one_add : cadd 0#16 1 = 4489#16 := by decide +kernel
theorem add_one (w : World) : Calls Try.prog 9 #[.int .u16 0, .int .u8 1] w fun e w' => e = .returned (.int .u16 4489) ∧ Below w.heap.size w w' := by
  have := add_any 0#16 1 w
  rw [one_add] at this
  exact this
set_option maxHeartbeats 1000000 in
theorem awake_any (w : World) : Calls Try.prog 8 #[] w fun e w' => e = .returned (.bool true) ∧ Below w.heap.size w w' := by
  go_enter Try.func8, Try.ntmps8
  go_wp2_with fail
  refine (sum_none _).mono ?_
  rintro e w1 ⟨rfl, h1⟩
  go_wp2_with fail
  refine (add_one _).mono ?_
  rintro e w2 ⟨rfl, h2⟩
  go_wp2_with fail
  refine (sum_nine _).mono ?_
  rintro e w3 ⟨rfl, h3⟩
  go_wp2_with fail
  go_ret
  exact ⟨rfl, below_next (below_next h1 (Nat.le_refl _) h2) (Nat.le_refl _) h3⟩
theorem wf_u16 {x : Int} (h : (Lit.int .u16 x).wf = true) : ∃ c : BitVec 16, x = (c.toNat : Int) := by
  simp [Lit.wf, IntKind.min, IntKind.max, IntKind.bits, IntKind.signed] at h
  exact ⟨BitVec.ofNat 16 x.toNat, by rw [BitVec.toNat_ofNat]; omega⟩
theorem wf_u8 {x : Int} (h : (Lit.int .u8 x).wf = true) : ∃ c : UInt8, x = (c.toNat : Int) := by
  simp [Lit.wf, IntKind.min, IntKind.max, IntKind.bits, IntKind.signed] at h
  exact ⟨UInt8.ofNat x.toNat, by rw [UInt8.toNat_ofNat']; omega⟩
set_option maxHeartbeats 1000000 in
theorem CrcAdds_walk (a b : Int) (ha : (Lit.int .u16 a).wf = true) (hb : (Lit.int .u8 b).wf = true) (w : World) : Calls Try.prog 3 #[.int .u16 a, .int .u8 b] w fun e w' => e = .returned (.bool true) ∧ Below w.heap.size w w' := by
  obtain ⟨c, rfl⟩ := wf_u16 ha
  obtain ⟨b, rfl⟩ := wf_u8 hb
  clear ha hb
  go_enter Try.func3, Try.ntmps3
  go_wp2_with fail
  refine (awake_any _).mono ?_
  rintro e w1 ⟨rfl, h1⟩
  go_wp2_with fail
  refine (add_any _ _ _).mono ?_
  rintro e w2 ⟨rfl, h2⟩
  go_wp2_with fail
  refine (ref_add _ _ _).mono ?_
  rintro e w3 ⟨rfl, rfl⟩
  go_wp2_with fail
  go_ret
  exact ⟨rfl, below_next h1 (Nat.le_refl _) h2⟩
set_option maxHeartbeats 1000000 in
theorem CrcSums_walk (s : ByteArray) (hs : s.size ≤ 140737488351232) (w : World) : Calls Try.prog 4 #[.string s] w fun e w' => e = .returned (.bool true) ∧ Below w.heap.size w w' := by
  have hs' : s.size ≤ 9223372036854775807 := by omega
  go_enter Try.func4, Try.ntmps4
  go_wp2_with fail
  refine (awake_any _).mono ?_
  rintro e w1 ⟨rfl, h1⟩
  go_wp2_with fail
  refine (sum_any _ _ hs').mono ?_
  rintro e w2 ⟨rfl, h2⟩
  go_wp2_with fail
  refine (ref_sum _ _ hs').mono ?_
  rintro e w3 ⟨rfl, rfl⟩
  go_wp2_with fail
  go_ret
  exact ⟨rfl, below_next h1 (Nat.le_refl _) h2⟩
end Go.Proofs.Ytplcmdibcjamlaa
