/- How many noughts stand ahead of a number's bits: the walks of math/bits.Len64 and LeadingZeros64. -/
import Derived.Test.YtjinfjibodoflaaFix
import Derived.Lib.BitFns
namespace Go.Proofs.Ytjinfjibodoflaa
open Go.RowKit

theorem len_all : ∀ n : Fin 256, Lib.bitLen n.val ≤ 8 ∧ n.val < 2 ^ Lib.bitLen n.val ∧ (0 < n.val → 2 ^ Lib.bitLen n.val ≤ 2 * n.val) := by decide +kernel
/-- l bits, and no less -/
def Bits (x : Int) (l : Nat) : Prop := l ≤ 64 ∧ x < 2 ^ l ∧ (0 < x → (2 : Int) ^ l ≤ 2 * x)
theorem pow_cast (n : Nat) : ((2 ^ n : Nat) : Int) = (2 : Int) ^ n := by simp
theorem tab_bits (y : Int) (h0 : 0 ≤ y) (h1 : y ≤ 255) : ∃ t : Nat, Lib.len8 y = (t : Int) ∧ t ≤ 8 ∧ y < 2 ^ t ∧ (0 < y → (2 : Int) ^ t ≤ 2 * y) := by
  obtain ⟨g1, g2, g3⟩ := len_all ⟨y.toNat, by omega⟩
  refine ⟨_, Lib.len8_of y h0 h1, g1, ?_, fun q => ?_⟩
  · rw [← pow_cast]
    have e : (y : Int) = (y.toNat : Int) := by omega
    rw [e]
    exact Int.ofNat_lt.2 g2
  · have := g3 (by show 0 < y.toNat; omega)
    rw [← pow_cast]
    have e : (2 * y : Int) = ((2 * y.toNat : Nat) : Int) := by omega
    rw [e]
    exact Int.ofNat_le.2 this
theorem wrap_sum (K t : Nat) (g1 : t ≤ 8) (hK : K ≤ 56) : wrap64 ((K : Int) + wrap64 (t : Int)) = ((K + t : Nat) : Int) := by
  unfold wrap64; omega
theorem way_up (x y P Q : Int) (e2 : y < Q) (hP0 : 1 ≤ P) (hx' : x < (y + 1) * P) : x < P * Q := by
  have h := Int.mul_le_mul_of_nonneg_right (show y + 1 ≤ Q by omega) (show 0 ≤ P by omega)
  rw [Int.mul_comm P]
  omega
theorem way_down (x y P Q : Int) (hP0 : 1 ≤ P) (e3 : Q ≤ 2 * y) (hx : y * P ≤ x) : P * Q ≤ 2 * x := by
  have h4 := Int.mul_le_mul_of_nonneg_left e3 (show 0 ≤ P by omega)
  have e5 : P * (2 * y) = 2 * (y * P) := by rw [Int.mul_comm P, Int.mul_assoc]
  omega
theorem bits_way (K t : Nat) (x y P : Int) (g1 : t ≤ 8) (e2 : y < 2 ^ t) (e3 : 0 < y → (2 : Int) ^ t ≤ 2 * y) (hP : (2 : Int) ^ K = P) (hP0 : 1 ≤ P) (hK : K ≤ 56) (hy : 1 ≤ y) (hx : y * P ≤ x) (hx' : x < (y + 1) * P) : Bits x (K + t) := by
  refine ⟨Nat.le_trans (Nat.add_le_add hK g1) (by decide), ?_, fun _ => ?_⟩
  · rw [Int.pow_add, hP]
    exact way_up x y P _ e2 hP0 hx'
  · rw [Int.pow_add, hP]
    exact way_down x y P _ hP0 (e3 (by omega)) hx
/-- one way through Len64 -/
theorem len_way (K : Nat) (x y P : Int) (hP : (2 : Int) ^ K = P) (hP0 : 1 ≤ P) (hK : K ≤ 56) (h0 : 1 ≤ y) (h1 : y ≤ 255) (hx : y * P ≤ x) (hx' : x < (y + 1) * P) :
    ∃ l : Nat, wrap64 ((K : Int) + wrap64 (Lib.len8 y)) = (l : Int) ∧ Bits x l := by
  obtain ⟨t, e, g1, g2, g3⟩ := tab_bits y (by omega) h1
  exact ⟨K + t, by rw [e]; exact wrap_sum K t g1 hK, bits_way K t x y P g1 g2 g3 hP hP0 hK h0 hx hx'⟩
theorem len_low (x : Int) (h0 : 0 ≤ x) (h1 : x ≤ 255) : ∃ l : Nat, wrap64 (wrap64 (Lib.len8 x)) = (l : Int) ∧ Bits x l := by
  obtain ⟨t, e, g1, g2, g3⟩ := tab_bits x h0 h1
  refine ⟨t, ?_, by omega, g2, g3⟩
  rw [e]
  have := wrap_sum 0 t g1 (by decide)
  unfold wrap64 at *
  omega
set_option maxHeartbeats 4000000 in
set_option maxRecDepth 1000000 in
theorem len_56 (x : Int) (h0 : 0 ≤ x) (h1 : x ≤ 18446744073709551615) (ga : 4294967296 ≤ x) (gb : 65536 ≤ x / 4294967296) (gc : 256 ≤ x / 4294967296 / 65536) (w : World) : Calls Try.prog 57 #[.int .u64 x] w fun e w' => ∃ l : Nat, e = .returned (.int .i64 l) ∧ Bits x l ∧ w' = w := by
  have hy0 : 0 ≤ x / 4294967296 / 65536 / 256 := by have := h0; have := h1; omega
  have hy1 : x / 4294967296 / 65536 / 256 ≤ 255 := by omega
  obtain ⟨l, e1, e2⟩ := len_way 56 x (x / 4294967296 / 65536 / 256) 72057594037927936 (by decide) (by decide) (by decide) (by omega) hy1 (by omega) (by omega)
  have E1 := hide e1
  have E2 := hide e2
  clear e1 e2
  go_enter Try.func57, Try.ntmps57
  go_wp2
  go_ret
  refine ⟨l, ret_int ?_, E2.out, rfl⟩
  exact E1.out
set_option maxHeartbeats 4000000 in
set_option maxRecDepth 1000000 in
theorem len_48 (x : Int) (h0 : 0 ≤ x) (h1 : x ≤ 18446744073709551615) (ga : 4294967296 ≤ x) (gb : 65536 ≤ x / 4294967296) (gc : ¬ 256 ≤ x / 4294967296 / 65536) (w : World) : Calls Try.prog 57 #[.int .u64 x] w fun e w' => ∃ l : Nat, e = .returned (.int .i64 l) ∧ Bits x l ∧ w' = w := by
  have hy0 : 0 ≤ x / 4294967296 / 65536 := by have := h0; have := h1; omega
  have hy1 : x / 4294967296 / 65536 ≤ 255 := by omega
  obtain ⟨l, e1, e2⟩ := len_way 48 x (x / 4294967296 / 65536) 281474976710656 (by decide) (by decide) (by decide) (by omega) hy1 (by omega) (by omega)
  have E1 := hide e1
  have E2 := hide e2
  clear e1 e2
  go_enter Try.func57, Try.ntmps57
  go_wp2
  go_ret
  refine ⟨l, ret_int ?_, E2.out, rfl⟩
  exact E1.out
set_option maxHeartbeats 4000000 in
set_option maxRecDepth 1000000 in
theorem len_40 (x : Int) (h0 : 0 ≤ x) (h1 : x ≤ 18446744073709551615) (ga : 4294967296 ≤ x) (gb : ¬ 65536 ≤ x / 4294967296) (gc : 256 ≤ x / 4294967296) (w : World) : Calls Try.prog 57 #[.int .u64 x] w fun e w' => ∃ l : Nat, e = .returned (.int .i64 l) ∧ Bits x l ∧ w' = w := by
  have hy0 : 0 ≤ x / 4294967296 / 256 := by have := h0; have := h1; omega
  have hy1 : x / 4294967296 / 256 ≤ 255 := by omega
  obtain ⟨l, e1, e2⟩ := len_way 40 x (x / 4294967296 / 256) 1099511627776 (by decide) (by decide) (by decide) (by omega) hy1 (by omega) (by omega)
  have E1 := hide e1
  have E2 := hide e2
  clear e1 e2
  go_enter Try.func57, Try.ntmps57
  go_wp2
  go_ret
  refine ⟨l, ret_int ?_, E2.out, rfl⟩
  exact E1.out
set_option maxHeartbeats 4000000 in
set_option maxRecDepth 1000000 in
theorem len_32 (x : Int) (h0 : 0 ≤ x) (h1 : x ≤ 18446744073709551615) (ga : 4294967296 ≤ x) (gb : ¬ 65536 ≤ x / 4294967296) (gc : ¬ 256 ≤ x / 4294967296) (w : World) : Calls Try.prog 57 #[.int .u64 x] w fun e w' => ∃ l : Nat, e = .returned (.int .i64 l) ∧ Bits x l ∧ w' = w := by
  have hy0 : 0 ≤ x / 4294967296 := by have := h0; have := h1; omega
  have hy1 : x / 4294967296 ≤ 255 := by omega
  obtain ⟨l, e1, e2⟩ := len_way 32 x (x / 4294967296) 4294967296 (by decide) (by decide) (by decide) (by omega) hy1 (by omega) (by omega)
  have E1 := hide e1
  have E2 := hide e2
  clear e1 e2
  go_enter Try.func57, Try.ntmps57
  go_wp2
  go_ret
  refine ⟨l, ret_int ?_, E2.out, rfl⟩
  exact E1.out
set_option maxHeartbeats 4000000 in
set_option maxRecDepth 1000000 in
theorem len_24 (x : Int) (h0 : 0 ≤ x) (h1 : x ≤ 18446744073709551615) (ga : ¬ 4294967296 ≤ x) (gb : 65536 ≤ x) (gc : 256 ≤ x / 65536) (w : World) : Calls Try.prog 57 #[.int .u64 x] w fun e w' => ∃ l : Nat, e = .returned (.int .i64 l) ∧ Bits x l ∧ w' = w := by
  have hy0 : 0 ≤ x / 65536 / 256 := by have := h0; have := h1; omega
  have hy1 : x / 65536 / 256 ≤ 255 := by omega
  obtain ⟨l, e1, e2⟩ := len_way 24 x (x / 65536 / 256) 16777216 (by decide) (by decide) (by decide) (by omega) hy1 (by omega) (by omega)
  have E1 := hide e1
  have E2 := hide e2
  clear e1 e2
  go_enter Try.func57, Try.ntmps57
  go_wp2
  go_ret
  refine ⟨l, ret_int ?_, E2.out, rfl⟩
  exact E1.out
set_option maxHeartbeats 4000000 in
set_option maxRecDepth 1000000 in
theorem len_16 (x : Int) (h0 : 0 ≤ x) (h1 : x ≤ 18446744073709551615) (ga : ¬ 4294967296 ≤ x) (gb : 65536 ≤ x) (gc : ¬ 256 ≤ x / 65536) (w : World) : Calls Try.prog 57 #[.int .u64 x] w fun e w' => ∃ l : Nat, e = .returned (.int .i64 l) ∧ Bits x l ∧ w' = w := by
  have hy0 : 0 ≤ x / 65536 := by have := h0; have := h1; omega
  have hy1 : x / 65536 ≤ 255 := by omega
  obtain ⟨l, e1, e2⟩ := len_way 16 x (x / 65536) 65536 (by decide) (by decide) (by decide) (by omega) hy1 (by omega) (by omega)
  have E1 := hide e1
  have E2 := hide e2
  clear e1 e2
  go_enter Try.func57, Try.ntmps57
  go_wp2
  go_ret
  refine ⟨l, ret_int ?_, E2.out, rfl⟩
  exact E1.out
set_option maxHeartbeats 4000000 in
set_option maxRecDepth 1000000 in
theorem len_8 (x : Int) (h0 : 0 ≤ x) (h1 : x ≤ 18446744073709551615) (ga : ¬ 4294967296 ≤ x) (gb : ¬ 65536 ≤ x) (gc : 256 ≤ x) (w : World) : Calls Try.prog 57 #[.int .u64 x] w fun e w' => ∃ l : Nat, e = .returned (.int .i64 l) ∧ Bits x l ∧ w' = w := by
  have hy0 : 0 ≤ x / 256 := by have := h0; have := h1; omega
  have hy1 : x / 256 ≤ 255 := by omega
  obtain ⟨l, e1, e2⟩ := len_way 8 x (x / 256) 256 (by decide) (by decide) (by decide) (by omega) hy1 (by omega) (by omega)
  have E1 := hide e1
  have E2 := hide e2
  clear e1 e2
  go_enter Try.func57, Try.ntmps57
  go_wp2
  go_ret
  refine ⟨l, ret_int ?_, E2.out, rfl⟩
  exact E1.out
set_option maxHeartbeats 4000000 in
set_option maxRecDepth 1000000 in
theorem len_0 (x : Int) (h0 : 0 ≤ x) (h1 : x ≤ 18446744073709551615) (ga : ¬ 4294967296 ≤ x) (gb : ¬ 65536 ≤ x) (gc : ¬ 256 ≤ x) (w : World) : Calls Try.prog 57 #[.int .u64 x] w fun e w' => ∃ l : Nat, e = .returned (.int .i64 l) ∧ Bits x l ∧ w' = w := by
  have hy0 : 0 ≤ x := by have := h0; have := h1; omega
  have hy1 : x ≤ 255 := by omega
  obtain ⟨l, e1, e2⟩ := len_low x h0 hy1
  have E1 := hide e1
  have E2 := hide e2
  clear e1 e2
  go_enter Try.func57, Try.ntmps57
  go_wp2
  go_ret
  refine ⟨l, ret_int ?_, E2.out, rfl⟩
  exact E1.out
theorem len64_any (x : Int) (h0 : 0 ≤ x) (h1 : x ≤ 18446744073709551615) (w : World) : Calls Try.prog 57 #[.int .u64 x] w fun e w' => ∃ l : Nat, e = .returned (.int .i64 l) ∧ Bits x l ∧ w' = w := by
  by_cases ga : 4294967296 ≤ x
  · by_cases gb : 65536 ≤ x / 4294967296
    · by_cases gc : 256 ≤ x / 4294967296 / 65536
      · exact len_56 x h0 h1 ga gb gc w
      · exact len_48 x h0 h1 ga gb gc w
    · by_cases gc : 256 ≤ x / 4294967296
      · exact len_40 x h0 h1 ga gb gc w
      · exact len_32 x h0 h1 ga gb gc w
  · by_cases gb : 65536 ≤ x
    · by_cases gc : 256 ≤ x / 65536
      · exact len_24 x h0 h1 ga gb gc w
      · exact len_16 x h0 h1 ga gb gc w
    · by_cases gc : 256 ≤ x
      · exact len_8 x h0 h1 ga gb gc w
      · exact len_0 x h0 h1 ga gb gc w
theorem lead_math (y : Int) (l : Nat) (h : 1 ≤ y) (hb : Bits y l) : 1 ≤ l ∧ 9223372036854775808 ≤ y * 2 ^ (64 - l) ∧ y * 2 ^ (64 - l) ≤ 18446744073709551615 := by
  obtain ⟨h1, h2, h3⟩ := hb
  have h3 := h3 (by omega)
  have hl : 1 ≤ l := by
    cases l with
    | zero => simp at h2; omega
    | succ l => omega
  refine ⟨hl, ?_⟩
  have e : (2 : Int) ^ l * 2 ^ (64 - l) = 18446744073709551616 := by
    rw [← Int.pow_add, show l + (64 - l) = 64 by omega]; rfl
  have hp : (0 : Int) < 2 ^ (64 - l) := Int.pow_pos (by omega)
  generalize (2 : Int) ^ (64 - l) = S at *
  generalize (2 : Int) ^ l = T at *
  have g1 := Int.mul_le_mul_of_nonneg_right h3 (show 0 ≤ S by omega)
  have g2 := Int.mul_lt_mul_of_pos_right h2 hp
  rw [Int.mul_assoc] at g1
  omega
set_option maxHeartbeats 1000000 in
theorem lead_any (y : Int) (h : 1 ≤ y) (h' : y ≤ 18446744073709551615) (w : World) : Calls Try.prog 53 #[.int .u64 y] w fun e w' => ∃ s : Nat, e = .returned (.int .i64 s) ∧ s ≤ 63 ∧ 9223372036854775808 ≤ y * 2 ^ s ∧ y * 2 ^ s ≤ 18446744073709551615 ∧ w' = w := by
  have L := hide (len64_any y (by omega) h' w)
  go_enter Try.func53, Try.ntmps53
  go_wp2_with fail
  refine L.out.mono ?_
  rintro e w1 ⟨l, rfl, hb, rfl⟩
  obtain ⟨g1, g2, g3⟩ := lead_math y l h hb
  have hl := hb.1
  have G2 := hide g2
  have G3 := hide g3
  clear hb g2 g3
  go_wp2_with fail
  go_ret
  exact ⟨64 - l, ret_int (by omega), by omega, G2.out, G3.out, rfl⟩
end Go.Proofs.Ytjinfjibodoflaa
