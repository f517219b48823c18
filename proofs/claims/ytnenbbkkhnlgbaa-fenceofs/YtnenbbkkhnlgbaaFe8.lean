/- Package fence: the reader. -/
import Derived.Test.YtnenbbkkhnlgbaaFe7
namespace Go.Proofs.Ytnenbbkkhnlgbaa
open Go.RowKit Go.Great

/-- a reader's block -/
def Rd (w : World) (B : Nat) (l : List UInt8) (sh : Bool) : Prop := Blk w B #[.string (bs l), .bool sh] 86
theorem Rd.set0 {w : World} {B : Nat} {l : List UInt8} {sh : Bool} (h : Rd w B l sh) (m : List UInt8) : Rd (w.setCell ⟨B, 0, none⟩ (.string (bs m))) B m sh := heap_set h 0 _
theorem Rd.set1 {w : World} {B : Nat} {l : List UInt8} {sh : Bool} (h : Rd w B l sh) (s : Bool) : Rd (w.setCell ⟨B, 1, none⟩ (.bool s)) B l s := heap_set h 1 _
theorem ext_take (l : List UInt8) (n : Nat) : (bs l).extract 0 n = bs (l.take n) := bs_ext (by rw [extract_list, bs_list, bs_list, List.drop_zero, Nat.sub_zero])
theorem ext_drop (l : List UInt8) (n : Nat) : (bs l).extract n (bs l).size = bs (l.drop n) := by rw [extract_from, bs_list]
/-- what is left of bytes, and whether they did not suffice -/
def tkT (l : List UInt8) (sh : Bool) (n : Nat) : List UInt8 := if sh = false ∧ n ≤ l.length then l.take n else []
def tkL (l : List UInt8) (sh : Bool) (n : Nat) : List UInt8 := if sh = false ∧ n ≤ l.length then l.drop n else l
def tkS (l : List UInt8) (sh : Bool) (n : Nat) : Bool := if sh = false ∧ n ≤ l.length then false else true
set_option maxRecDepth 100000 in
set_option maxHeartbeats 2000000 in
theorem take_any (l : List UInt8) (sh : Bool) (n : Nat) (hl : l.length ≤ 4611686018427387904) (B : Nat) (w : World) (hR : Rd w B l sh) : Calls Try.prog 83 #[.pointer (some ⟨B, 0, none⟩), .int .i64 (n : Int)] w fun e w' => e = .returned (.string (bs (tkT l sh n))) ∧ Rd w' B (tkL l sh n) (tkS l sh n) ∧ w.grownBy w' (some B) := by
  have hsz := bs_size l
  have e1 := ext_take l n
  have e2 := ext_drop l n
  have lB := hR.lt
  have c0 := hR.cell 0 rfl
  have c1 := hR.cell 1 rfl
  have fz := hR.frozen
  have HR := hide hR
  unfold tkT tkL tkS
  by_cases hc : sh = false ∧ n ≤ l.length
  · rw [if_pos hc, if_pos hc, if_pos hc]
    obtain ⟨rfl, hnl⟩ := hc
    have HE1 := hide e1
    have HE2 := hide e2
    have hnl2 : ((n : Int) ≤ ((bs l).size : Int)) := by rw [hsz]; omega
    have hsz2 : ((bs l).size : Int) ≤ 4611686018427387904 := by rw [hsz]; omega
    generalize bs l = s at *
    clear e1 e2 hsz
    go_enter Try.func83, Try.ntmps83
    go_wp2_with fail
    go_ret
    rw [HE2.out]
    exact ⟨by rw [← HE1.out]; rfl, HR.out.set0 _, grown_set _ _ _ _⟩
  · rw [if_neg hc, if_neg hc, if_neg hc]
    clear e1 e2
    cases sh
    · have hnl2 : (((bs l).size : Int) < (n : Int)) := by rw [hsz]; have : ¬ n ≤ l.length := fun h => hc ⟨rfl, h⟩; omega
      clear hsz hc
      generalize bs l = s at *
      go_enter Try.func83, Try.ntmps83
      go_wp2_with fail
      go_ret
      exact ⟨rfl, HR.out.set1 _, grown_set _ _ _ _⟩
    · clear hsz hc
      generalize bs l = s at *
      go_enter Try.func83, Try.ntmps83
      go_wp2_with fail
      go_ret
      exact ⟨rfl, HR.out.set1 _, grown_set _ _ _ _⟩
/-- a row of bytes -/
def Row (w : World) (B : Nat) (l : List UInt8) : Prop := ∀ j (h : j < l.length), w.cell? ⟨B, j, none⟩ = some (.int .u8 (l[j].toNat : Int)) ∧ w.frozen? ⟨B, j, none⟩ = false
theorem bytes_new (s : ByteArray) (w : World) : ∃ wx cap, (convert 9 80 (.string s)).run Try.prog w = .ok (.slice (some ⟨w.heap.size, 0, none⟩) s.size cap) wx ∧ Row wx w.heap.size s.data.toList ∧ Below w.heap.size w wx ∧ w.heap.size < wx.heap.size := by
  refine ⟨_, _, run_bytes_of_string w 9 80 5 s (by kernel_rfl) (by kernel_rfl) (by kernel_rfl), ?_, ?_, ?_⟩
  · intro j hj
    have hj' : j < s.data.size := by simpa using hj
    refine ⟨?_, ?_⟩
    · have := World.cell?_alloc_mark w.drew (bytesRow s (grownCap w s.size 0 5)) 5 ((bytesRow s (grownCap w s.size 0 5)).size, (bytesRow s (grownCap w s.size 0 5)).size + 1) j
      refine this.trans ?_
      rw [bytesRow_at _ _ _ hj']
      simp
    · have := World.frozen?_alloc_mark w.drew (bytesRow s (grownCap w s.size 0 5)) 5 (bytesRow s (grownCap w s.size 0 5)).size ((bytesRow s (grownCap w s.size 0 5)).size + 1) j
      refine this.trans ?_
      have hz : s.data.size ≤ (bytesRow s (grownCap w s.size 0 5)).size := by
        unfold bytesRow; simp
      simp; omega
  · exact (Below.refl _ _).drew.alloc (Nat.le_refl _) _
  · show w.heap.size < (w.heap.push _).size
    simp
theorem or32 (x y : Nat) (k : Nat) (hy : y < 2 ^ k) (hx : x * 2 ^ k + y < 4294967296) : bits .or .u32 (y : Int) ((x * 2 ^ k : Nat) : Int) = ((x * 2 ^ k + y : Nat) : Int) := by
  have e1 : BitVec.ofInt 32 ((x * 2 ^ k : Nat) : Int) = BitVec.ofNat 32 (x * 2 ^ k) := by
    apply BitVec.eq_of_toNat_eq; rw [BitVec.toNat_ofInt, BitVec.toNat_ofNat]; omega
  have e2 : BitVec.ofInt 32 (y : Int) = BitVec.ofNat 32 y := by
    apply BitVec.eq_of_toNat_eq; rw [BitVec.toNat_ofInt, BitVec.toNat_ofNat]; omega
  show IntKind.u32.wrap ((BitVec.ofInt 32 (y : Int) ||| BitVec.ofInt 32 ((x * 2 ^ k : Nat) : Int)).toNat : Int) = _
  rw [e1, e2, BitVec.toNat_or, BitVec.toNat_ofNat, BitVec.toNat_ofNat, Nat.mod_eq_of_lt (by omega : x * 2 ^ k < 2 ^ 32), Nat.mod_eq_of_lt (by omega : y < 2 ^ 32)]
  have e3 : y ||| x * 2 ^ k = x * 2 ^ k + y := by
    rw [Nat.or_comm, Nat.mul_comm]; exact (Nat.two_pow_add_eq_or_of_lt hy x).symm
  rw [e3]
  show IntKind.u32.wrap _ = _
  rw [IntKind.wrap_u32]
  omega
/-- the word of the first k bytes -/
def wdN (l : List UInt8) : Nat → Nat
  | 0 => 0
  | k + 1 => (l.getD k 0).toNat * 256 ^ k + wdN l k
theorem wdN_lt (l : List UInt8) : ∀ k, wdN l k < 256 ^ k
  | 0 => Nat.one_pos
  | k + 1 => by
    have h1 := wdN_lt l k
    have h2 := (l.getD k 0).toNat_lt
    have h3 : (l.getD k 0).toNat * 256 ^ k ≤ 255 * 256 ^ k := Nat.mul_le_mul_right _ (by omega)
    rw [wdN, Nat.pow_succ]
    omega
/-- the number that four bytes, or none, are -/
def numL (l : List UInt8) : Int := if 2147483648 ≤ (wdN l l.length : Int) then (wdN l l.length : Int) - 4294967296 else (wdN l l.length : Int)
set_option maxRecDepth 100000 in
set_option maxHeartbeats 2000000 in
theorem number_any (l : List UInt8) (sh : Bool) (hl : l.length ≤ 4611686018427387904) (B : Nat) (w : World) (hR : Rd w B l sh) : Calls Try.prog 63 #[.pointer (some ⟨B, 0, none⟩)] w fun e w' => e = .returned (.int .i64 (numL (tkT l sh 4))) ∧ Rd w' B (tkL l sh 4) (tkS l sh 4) ∧ w.grownBy w' (some B) := by
  have TK := take_any l sh 4 hl B w hR
  have hlen : (tkT l sh 4).length ≤ 4 := by
    unfold tkT
    split
    · rw [List.length_take]; omega
    · simp
  generalize tkT l sh 4 = t at TK hlen ⊢
  generalize tkL l sh 4 = l' at TK ⊢
  generalize tkS l sh 4 = sh' at TK ⊢
  have HN : Hid (numL t = if 2147483648 ≤ (wdN t t.length : Int) then (wdN t t.length : Int) - 4294967296 else (wdN t t.length : Int)) := rfl
  generalize numL t = N at HN ⊢
  go_enter Try.func63, Try.ntmps63
  go_wp2_with fail
  refine TK.mono ?_
  rintro e w1 ⟨rfl, hR1, hg1⟩
  obtain ⟨wx, cap, hconv, hrow, hB, hlt⟩ := bytes_new (bs t) w1
  rw [bs_list] at hrow
  rw [bs_size] at hconv
  have HRW := hide hrow
  have HR1 := hide hR1
  have HG1 := hide hg1
  have HB := hide hB
  have lB := hR1.lt
  have HT := hide (rfl : t.length = t.length)
  obtain ⟨n, hn⟩ : ∃ n, t.length = n := ⟨_, rfl⟩
  have HNL := hide hn
  rw [hn] at hlen hconv HN
  clear hn hrow hR1 hg1 hB TK HT hR
  go_wp2_with fail
  go_loopw [3, 10] (fun wd i wy => ∃ k : Nat, k ≤ n ∧ i = .int .i64 k ∧ wd = .int .u32 (wdN t k : Int) ∧ wy = wx) (fun _ i _ => n - (intOf i).toNat)
  case atStart => exact ⟨0, Nat.zero_le _, rfl, rfl, rfl⟩
  case round =>
    obtain ⟨k, hk, rfl, rfl, hw⟩ := hrel
    subst hw
    by_cases hlt2 : k < n
    · have d0 := (HRW.out k (by rw [HNL.out]; exact hlt2)).1
      rw [show t[k]'(by rw [HNL.out]; exact hlt2) = t.getD k 0 by rw [List.getD, List.getElem?_eq_getElem (by rw [HNL.out]; exact hlt2)]; rfl] at d0
      have HW : Hid (wdN t (k + 1) = (t.getD k 0).toNat * 256 ^ k + wdN t k) := rfl
      have hw0 := wdN_lt t k
      have hb8 := (t.getD k 0).toNat_lt
      generalize wdN t k = y at *
      generalize t.getD k 0 = b at *
      have h4 : k = 0 ∨ k = 1 ∨ k = 2 ∨ k = 3 := by omega
      have HO : ∀ z : Nat, z = k → bits .or .u32 (y : Int) ((b.toNat * 2 ^ (8 * z) : Nat) : Int) = ((b.toNat * 256 ^ z + y : Nat) : Int) := by
        intro z hz
        have e256 : (256 : Nat) ^ z = 2 ^ (8 * z) := by rw [Nat.pow_mul]
        have hz4 : (2 : Nat) ^ (8 * z) ≤ 2 ^ 24 := Nat.pow_le_pow_right (by decide) (by omega)
        have hy : y < 2 ^ (8 * z) := by rw [← e256, hz]; exact hw0
        have hm : b.toNat * 2 ^ (8 * z) ≤ 255 * 2 ^ (8 * z) := Nat.mul_le_mul_right _ (by omega)
        rw [or32 b.toNat y (8 * z) hy (by omega), e256]
      have HOO := hide (HO k rfl)
      clear HO hw0
      rcases h4 with rfl | rfl | rfl | rfl
      · have ho : bits .or .u32 (y : Int) ((b.toNat : Int)) = (wdN t 1 : Int) := by
          rw [HW.out]
          have := HOO.out
          simpa using this
        clear HW HOO
        go_wp2_with fail
        go_roundw
        case rel => exact ⟨1, by omega, by go_num, rfl, by trivial⟩
        case measure => simp [intOf]; omega
      · have ho : bits .or .u32 (y : Int) ((b.toNat : Int) * 256) = (wdN t 2 : Int) := by
          rw [HW.out]
          have := HOO.out
          simpa using this
        clear HW HOO
        go_wp2_with fail
        go_roundw
        case rel => exact ⟨2, by omega, by go_num, rfl, by trivial⟩
        case measure => simp [intOf]; omega
      · have ho : bits .or .u32 (y : Int) ((b.toNat : Int) * 65536) = (wdN t 3 : Int) := by
          rw [HW.out]
          have := HOO.out
          simpa using this
        clear HW HOO
        go_wp2_with fail
        go_roundw
        case rel => exact ⟨3, by omega, by go_num, rfl, by trivial⟩
        case measure => simp [intOf]; omega
      · have ho : bits .or .u32 (y : Int) ((b.toNat : Int) * 16777216) = (wdN t 4 : Int) := by
          rw [HW.out]
          have := HOO.out
          simpa using this
        clear HW HOO
        go_wp2_with fail
        go_roundw
        case rel => exact ⟨4, by omega, by go_num, rfl, by trivial⟩
        case measure => simp [intOf]; omega
    · have e : k = n := by omega
      have hw4 : wdN t n < 4294967296 := Nat.lt_of_lt_of_le (wdN_lt t n) (Nat.pow_le_pow_right (by decide) hlen)
      subst e
      generalize wdN t k = y at *
      go_wp2_with fail
      go_ret
      refine ⟨ret_int ?_, ?_, ?_⟩
      · rw [HN.out]
        split <;> (unfold wrap64 wrap32; omega)
      · exact HR1.out.below HB.out lB
      · exact ⟨HB.out.os.trans HG1.out.os, HB.out.tape.trans HG1.out.tape, HB.out.output.trans HG1.out.output, Nat.le_trans HG1.out.size HB.out.size, fun k hk h => (HB.out.block k (by have := HG1.out.size; omega)).trans (HG1.out.block k hk h)⟩
end Go.Proofs.Ytnenbbkkhnlgbaa
