/- What package crc, and the reference for it, answer (CrcB over In0). -/
import Derived.Test.YtmlcknaahpfhbaaIn0
import Derived.Test.YtmlcknaahpfhbaaCrcM
namespace Go.Proofs.Ytmlcknaahpfhbaa
open Go.RowKit Go.Great

theorem of16 (x : BitVec 16) : BitVec.ofInt 16 (x.toNat : Int) = x := by
  apply BitVec.eq_of_toNat_eq
  rw [BitVec.toNat_ofInt]
  have := x.isLt
  omega
theorem wrap16 (x : BitVec 16) : IntKind.u16.wrap (x.toNat : Int) = x.toNat := by
  have := x.isLt
  rw [IntKind.wrap_u16]; omega
theorem xor16 (a b : BitVec 16) : bits .xor .u16 (a.toNat : Int) (b.toNat : Int) = ((a ^^^ b).toNat : Int) := by
  show IntKind.u16.wrap ((BitVec.ofInt 16 (a.toNat : Int) ^^^ BitVec.ofInt 16 (b.toNat : Int)).toNat : Int) = _
  rw [of16, of16, wrap16]
theorem and15 (a : BitVec 16) : bits .and .u16 (a.toNat : Int) 15 = ((a.toNat % 16 : Nat) : Int) := by
  show IntKind.u16.wrap ((BitVec.ofInt 16 (a.toNat : Int) &&& BitVec.ofInt 16 15).toNat : Int) = _
  rw [of16, wrap16, BitVec.toNat_and, show (BitVec.ofInt 16 15).toNat = 2 ^ 4 - 1 from rfl, Nat.and_two_pow_sub_one_eq_mod]
def tabV : List Value := [.int .u16 0, .int .u16 4225, .int .u16 8450, .int .u16 12675, .int .u16 16900, .int .u16 21125, .int .u16 25350, .int .u16 29575, .int .u16 33800, .int .u16 38025, .int .u16 42250, .int .u16 46475, .int .u16 50700, .int .u16 54925, .int .u16 59150, .int .u16 63375]
theorem tabV_at : ∀ i : Nat, i < 16 → tabV[i]? = some (.int .u16 ((tab i).toNat : Int))
  | 0, _ | 1, _ | 2, _ | 3, _ | 4, _ | 5, _ | 6, _ | 7, _ | 8, _ | 9, _ | 10, _ | 11, _ | 12, _ | 13, _ | 14, _ | 15, _ => rfl
  | n + 16, h => absurd h (by omega)
set_option maxHeartbeats 1000000 in
theorem nibble_any (c : BitVec 16) (w : World) : Calls Try.prog 45 #[.int .u16 (c.toNat : Int)] w fun e w' => e = .returned (.int .u16 ((nib c).toNat : Int)) ∧ Below w.heap.size w w' := by
  have ha := and15 c
  have hl := c.isLt
  have hx : bits .xor .u16 ((c.toNat : Int) / 16) ((tab (c.toNat % 16)).toNat : Int) = ((nib c).toNat : Int) := by
    have e : (c.toNat : Int) / (16 : Int) = (((c >>> 4).toNat : Nat) : Int) := by
      rw [BitVec.toNat_ushiftRight, Nat.shiftRight_eq_div_pow]; omega
    rw [e, xor16]
    rfl
  have hc := tabV_at (c.toNat % 16) (by omega)
  have hi : c.toNat % 16 < 16 := by omega
  generalize c.toNat % 16 = i at ha hx hc hi
  generalize nib c = n at hx ⊢
  generalize tab i = t at hx hc
  have hd : ∀ h : i < tabV.length, tabV[i]'h = .int .u16 (t.toNat : Int) := by
    intro h
    rw [List.getElem?_eq_getElem h] at hc
    exact Option.some.inj hc
  clear hc
  unfold tabV at hd
  go_enter Try.func45, Try.ntmps45
  go_wp2
  go_ret
  exact ⟨rfl, below_alloc _ _⟩
theorem conv8 (b : UInt8) : IntKind.u16.wrap (b.toNat : Int) = ((wide b).toNat : Int) := by
  have := b.toNat_lt
  rw [IntKind.wrap_u16, wide_nat]; omega
theorem wide_int (b : UInt8) : (b.toNat : Int) = ((wide b).toNat : Int) := by rw [wide_nat]
set_option maxHeartbeats 1000000 in
theorem cadd_fn (c : BitVec 16) (b : UInt8) (w : World) : Calls Try.prog 44 #[.int .u16 (c.toNat : Int), .int .u8 (b.toNat : Int)] w fun e w' => e = .returned (.int .u16 ((cadd c b).toNat : Int)) ∧ Below w.heap.size w w' := by
  have hc := conv8 b
  have hb := wide_int b
  have hx := xor16 c (wide b)
  have HN : Hid (nib (nib (c ^^^ wide b)) = cadd c b) := by show _ = _; rw [nib_st4, nib_st4]; rfl
  have hlt := b.toNat_lt
  generalize wide b = v at hc hb hx HN
  generalize c ^^^ v = x at hx HN
  go_enter Try.func44, Try.ntmps44
  go_wp2_with fail
  refine (nibble_any _ _).mono ?_
  rintro e w1 ⟨rfl, hB⟩
  go_wp2_with fail
  refine (nibble_any _ _).mono ?_
  rintro e w2 ⟨rfl, hC⟩
  go_wp2_with fail
  go_ret
  exact ⟨ret_int (by rw [HN.out]), below_next hB (Nat.le_refl _) hC⟩
theorem take_snoc (s : ByteArray) (k : Nat) (h : k < s.size) : s.data.toList.take (k + 1) = s.data.toList.take k ++ [s[k]] := by
  rw [List.take_succ_eq_append_getElem (by simpa using h)]; rfl
theorem cadds_snoc (c : BitVec 16) (l : List UInt8) (b : UInt8) : cadds c (l ++ [b]) = cadd (cadds c l) b := by
  unfold cadds; rw [List.foldl_append]; rfl
/-- crc.Sum -/
def csum (s : ByteArray) : BitVec 16 := cadds 65535#16 s.data.toList
set_option maxHeartbeats 1000000 in
theorem sum_any (s : ByteArray) (w : World) (hs : s.size ≤ 9223372036854775807) : Calls Try.prog 41 #[.string s] w fun e w' => e = .returned (.int .u16 ((csum s).toNat : Int)) ∧ Below w.heap.size w w' := by
  go_enter Try.func41, Try.ntmps41
  go_wp2
  go_loopw [3, 7] (fun c i wx => Below w.heap.size w wx ∧ ∃ k : Nat, k ≤ s.size ∧ i = .int .i64 k ∧ c = .int .u16 ((cadds 65535#16 (s.data.toList.take k)).toNat : Int)) (fun _ i _ => s.size - (intOf i).toNat)
  case atStart => exact ⟨Below.refl _ _, 0, Nat.zero_le _, rfl, rfl⟩
  case round =>
    obtain ⟨hB, k, hk, rfl, rfl⟩ := hrel
    by_cases hlt : k < s.size
    · have HT : Hid (cadds 65535#16 (s.data.toList.take (k + 1)) = cadd (cadds 65535#16 (s.data.toList.take k)) s[k]) := by
        show _ = _
        rw [take_snoc s k hlt, cadds_snoc]
      generalize cadds 65535#16 (s.data.toList.take k) = c at HT
      go_wp2_with fail
      refine (cadd_fn _ _ _).mono ?_
      rintro e w1 ⟨rfl, hC⟩
      go_wp2_with fail
      go_roundw
      case rel => exact ⟨below_next hB (Nat.le_refl _) hC, k + 1, by omega, by go_num, by rw [HT.out]⟩
      case measure => simp [intOf]; omega
    · have HE : Hid (cadds 65535#16 (s.data.toList.take k) = csum s) := by
        show _ = _
        rw [List.take_of_length_le (by simp; omega)]; rfl
      go_wp2_with fail
      go_ret
      exact ⟨ret_int (by rw [HE.out]), hB⟩
/-- the steps one behind the other -/
def stN : Nat → BitVec 16 → BitVec 16
  | 0, c => c
  | n + 1, c => st (stN n c)
theorem st_odd (c : BitVec 16) (h : c.toNat % 2 = 1) : bits .xor .u16 ((c.toNat : Int) / 2) 33800 = ((st c).toNat : Int) := by
  have e : c.getLsbD 0 = true := by
    rw [BitVec.getLsbD, Nat.testBit_zero]; simp; omega
  have e2 : (c.toNat : Int) / (2 : Int) = (((c >>> 1).toNat : Nat) : Int) := by
    rw [BitVec.toNat_ushiftRight, Nat.shiftRight_eq_div_pow]; omega
  have := xor16 (c >>> 1) 33800#16
  rw [e2]
  unfold st
  rw [e, if_pos rfl]
  exact this
set_option maxHeartbeats 1000000 in
theorem ref_add (c : BitVec 16) (b : UInt8) (w : World) : Calls Try.prog 37 #[.int .u16 (c.toNat : Int), .int .u8 (b.toNat : Int)] w fun e w' => e = .returned (.int .u16 ((cadd c b).toNat : Int)) ∧ w' = w := by
  have hc := conv8 b
  have hb := wide_int b
  have hx := xor16 c (wide b)
  have HN : Hid (stN 8 (c ^^^ wide b) = cadd c b) := rfl
  have hlt := b.toNat_lt
  generalize wide b = v at hc hb hx HN
  generalize c ^^^ v = x at hx HN
  go_enter Try.func37, Try.ntmps37
  go_wp2
  clear hx hc hb
  go_loop [0, 5] (fun c i => ∃ k : Nat, k ≤ 8 ∧ i = .int .i64 k ∧ c = .int .u16 ((stN k x).toNat : Int)) (fun _ i => 8 - (intOf i).toNat)
  case atStart => exact ⟨0, Nat.zero_le _, rfl, rfl⟩
  case round =>
    obtain ⟨k, hk, rfl, rfl⟩ := hrel
    by_cases hlt : k < 8
    · have HT : Hid (stN (k + 1) x = st (stN k x)) := rfl
      generalize stN k x = y at HT
      have hy := y.isLt
      by_cases ho : y.toNat % 2 = 1
      · have hx := st_odd y ho
        generalize st y = z at hx HT
        go_wp2
        go_round
        case rel => exact ⟨k + 1, by omega, by go_num, by rw [HT.out]⟩
        case measure => simp [intOf]; omega
      · have HE : Hid (((st y).toNat : Int) = (y.toNat : Int) / 2) := by
          have := st_even y (by omega)
          show _ = _
          omega
        go_wp2
        go_round
        case rel => exact ⟨k + 1, by omega, by go_num, by rw [HT.out, HE.out]⟩
        case measure => simp [intOf]; omega
    · have e : k = 8 := by omega
      subst e
      go_wp2
      go_ret
      exact ⟨ret_int (by rw [HN.out]), rfl⟩
set_option maxHeartbeats 1000000 in
theorem ref_sum (s : ByteArray) (w : World) (hs : s.size ≤ 9223372036854775807) : Calls Try.prog 25 #[.string s] w fun e w' => e = .returned (.int .u16 ((csum s).toNat : Int)) ∧ w' = w := by
  go_enter Try.func25, Try.ntmps25
  go_wp2
  go_loop [3, 4] (fun c i => ∃ k : Nat, k ≤ s.size ∧ i = .int .i64 k ∧ c = .int .u16 ((cadds 65535#16 (s.data.toList.take k)).toNat : Int)) (fun _ i => s.size - (intOf i).toNat)
  case atStart => exact ⟨0, Nat.zero_le _, rfl, rfl⟩
  case round =>
    obtain ⟨k, hk, rfl, rfl⟩ := hrel
    by_cases hlt : k < s.size
    · have HT : Hid (cadds 65535#16 (s.data.toList.take (k + 1)) = cadd (cadds 65535#16 (s.data.toList.take k)) s[k]) := by
        show _ = _
        rw [take_snoc s k hlt, cadds_snoc]
      generalize cadds 65535#16 (s.data.toList.take k) = c at HT
      go_wp2_with fail
      refine (ref_add _ _ _).mono ?_
      rintro e w1 ⟨rfl, rfl⟩
      go_wp2_with fail
      go_round
      case rel => exact ⟨k + 1, by omega, by go_num, by rw [HT.out]⟩
      case measure => simp [intOf]; omega
    · have HE : Hid (cadds 65535#16 (s.data.toList.take k) = csum s) := by
        show _ = _
        rw [List.take_of_length_le (by simp; omega)]; rfl
      go_wp2_with fail
      go_ret
      exact ⟨ret_int (by rw [HE.out]), rfl⟩
theorem wf_u16 {x : Int} (h : (Lit.int .u16 x).wf = true) : ∃ c : BitVec 16, x = (c.toNat : Int) := by
  simp [Lit.wf, IntKind.min, IntKind.max, IntKind.bits, IntKind.signed] at h
  exact ⟨BitVec.ofNat 16 x.toNat, by rw [BitVec.toNat_ofNat]; omega⟩
theorem beq_no {a b : Nat} (h : a ≠ b) : ((a : Int) == (b : Int)) = false := by
  simp; omega
theorem csum_both (a b : ByteArray) : csum (a ++ b) = cadds (csum a) b.data.toList := by
  unfold csum cadds
  rw [ByteArray.data_append, Array.toList_append, List.foldl_append]
/-- a number's two bytes, the low one first -/
def lowB (c : BitVec 16) : UInt8 := UInt8.ofNat (c.toNat % 256)
def highB (c : BitVec 16) : UInt8 := UInt8.ofNat (c.toNat / 256)
theorem lowB_nat (c : BitVec 16) : (lowB c).toNat = c.toNat % 256 := by
  rw [lowB, UInt8.toNat_ofNat']; omega
theorem highB_nat (c : BitVec 16) : (highB c).toNat = c.toNat / 256 := by
  have := c.isLt
  rw [highB, UInt8.toNat_ofNat']; omega
def twoB (c : BitVec 16) : ByteArray := ⟨#[lowB c, highB c]⟩
theorem conv_two (w : World) (c : BitVec 16) : (convert 40 9 (.slice (some ⟨w.heap.size, 0, none⟩) 2 2)).run Try.prog (w.alloc (.cells #[.int .u8 ((c.toNat : Int) % 256), .int .u8 ((c.toNat : Int) / 256)] 5)) = .ok (.string (twoB c)) (w.alloc (.cells #[.int .u8 ((c.toNat : Int) % 256), .int .u8 ((c.toNat : Int) / 256)] 5)) := by
  refine run_convert_bytes_back _ 40 9 5 ⟨w.heap.size, 0, none⟩ 2 [lowB c, highB c] (by kernel_rfl) (by kernel_rfl) (by kernel_rfl) ?_
  have h1 := lowB_nat c
  have h2 := highB_nat c
  intro j hj
  rw [show (Addr.add ⟨w.heap.size, 0, none⟩ j) = ⟨w.heap.size, j, none⟩ by simp [Addr.add]; exact fun h => h.symm, World.cell?_alloc_mark]
  match j, hj with
  | 0, _ => show some (Value.int .u8 ((c.toNat : Int) % 256)) = some (.int .u8 ((lowB c).toNat : Int)); rw [h1]; rfl
  | 1, _ => show some (Value.int .u8 ((c.toNat : Int) / 256)) = some (.int .u8 ((highB c).toNat : Int)); rw [h2]; rfl
theorem of8 (x : UInt8) : BitVec.ofInt 8 (x.toNat : Int) = x.toBitVec := by
  apply BitVec.eq_of_toNat_eq
  rw [BitVec.toNat_ofInt]
  have := x.toNat_lt
  show ((x.toNat : Int) % _).toNat = x.toNat
  omega
theorem xor8 (a b : UInt8) : bits .xor .u8 (a.toNat : Int) (b.toNat : Int) = ((a ^^^ b).toNat : Int) := by
  show IntKind.u8.wrap ((BitVec.ofInt 8 (a.toNat : Int) ^^^ BitVec.ofInt 8 (b.toNat : Int)).toNat : Int) = _
  rw [of8, of8]
  have := (a ^^^ b).toNat_lt
  show IntKind.u8.wrap (((a ^^^ b).toNat : Nat) : Int) = _
  rw [IntKind.wrap_u8]; omega
/-- a row of bytes -/
def Row (w : World) (B : Nat) (l : List UInt8) : Prop := ∀ j (h : j < l.length), w.cell? ⟨B, j, none⟩ = some (.int .u8 (l[j].toNat : Int)) ∧ w.frozen? ⟨B, j, none⟩ = false
theorem bytes_new (s : ByteArray) (w : World) : ∃ wx cap, (convert 9 40 (.string s)).run Try.prog w = .ok (.slice (some ⟨w.heap.size, 0, none⟩) s.size cap) wx ∧ Row wx w.heap.size s.data.toList ∧ Below w.heap.size w wx ∧ w.heap.size < wx.heap.size := by
  refine ⟨_, _, run_bytes_of_string w 9 40 5 s (by kernel_rfl) (by kernel_rfl) (by kernel_rfl), ?_, ?_, ?_⟩
  · intro j hj
    have hj' : j < s.data.size := by simpa using hj
    refine ⟨?_, ?_⟩
    · have := World.cell?_alloc_mark w.drew (bytesRow s (grownCap w s.size 0 5)) 5 ((bytesRow s (grownCap w s.size 0 5)).size, (bytesRow s (grownCap w s.size 0 5)).size + 1) j
      refine this.trans ?_
      rw [bytesRow_at _ _ _ hj']
      simp
    · have := World.frozen?_alloc_mark w.drew (bytesRow s (grownCap w s.size 0 5)) 5 (bytesRow s (grownCap w s.size 0 5)).size ((bytesRow s (grownCap w s.size 0 5)).size + 1) j
      refine this.trans ?_
      have hz : s.data.size ≤ (bytesRow s (grownCap w s.size 0 5)).size := by
        unfold bytesRow; simp
      simp; omega
  · exact (Below.refl _ _).drew.alloc (Nat.le_refl _) _
  · show w.heap.size < (w.heap.push _).size
    simp
theorem row_set (w : World) (B : Nat) (l : List UInt8) (h : Row w B l) (i : Nat) (x : UInt8) : Row (w.setCell ⟨B, i, none⟩ (.int .u8 (x.toNat : Int))) B (l.set i x) := by
  intro j hj
  have hj' : j < l.length := by simpa using hj
  obtain ⟨h1, h2⟩ := h j hj'
  refine ⟨?_, by rw [World.frozen?_setCell]; exact h2⟩
  by_cases g : i = j
  · subst g
    rw [World.cell?_setCell_same _ _ _ h1, List.getElem_set_self]
  · rw [World.cell?_setCell_other _ _ _ _ (by intro e; injection e with e1 e2; exact g e2), h1, List.getElem_set_ne g]
theorem row_back (w : World) (B cap : Nat) (l : List UInt8) (h : Row w B l) (n : Nat) (hn : n = l.length) : (convert 40 9 (.slice (some ⟨B, 0, none⟩) n cap)).run Try.prog w = .ok (.string ⟨l.toArray⟩) w := by
  subst hn
  refine run_convert_bytes_back _ 40 9 5 ⟨B, 0, none⟩ cap l (by kernel_rfl) (by kernel_rfl) (by kernel_rfl) ?_
  intro j hj
  rw [show (Addr.add ⟨B, 0, none⟩ j) = ⟨B, j, none⟩ by simp [Addr.add]; exact fun h => h.symm]
  exact (h j hj).1
theorem row_below {w w' : World} {B : Nat} {l : List UInt8} (h : Row w B l) (hb : Below w.heap.size w w') (hB : B < w.heap.size) : Row w' B l := by
  intro j hj
  obtain ⟨h1, h2⟩ := h j hj
  exact ⟨(hb.cell (p := ⟨B, j, none⟩) hB).trans h1, (hb.frozen (p := ⟨B, j, none⟩) hB).trans h2⟩
theorem cadds_app (c : BitVec 16) (l m : List UInt8) : cadds c (l ++ m) = cadds (cadds c l) m := by
  unfold cadds; rw [List.foldl_append]
theorem cadds_cons (c : BitVec 16) (b : UInt8) (l : List UInt8) : cadds c (b :: l) = cadds (cadd c b) l := rfl
theorem one_tells (c : BitVec 16) (l : List UInt8) (p : Nat) (hp : p < l.length) (y : UInt8) (h : cadds c (l.set p y) = cadds c l) : l.set p y = l := by
  have e1 : l.set p y = l.take p ++ y :: l.drop (p + 1) := by rw [List.set_eq_take_append_cons_drop, if_pos hp]
  have e2 : l = l.take p ++ l[p] :: l.drop (p + 1) := by
    rw [← List.drop_eq_getElem_cons hp, List.take_append_drop]
  have h' : cadds c (l.take p ++ y :: l.drop (p + 1)) = cadds c (l.take p ++ l[p] :: l.drop (p + 1)) := by
    rw [← e1, ← e2]; exact h
  rw [cadds_app, cadds_app, cadds_cons, cadds_cons] at h'
  have h2 := cadd_bytes _ _ _ (cadds_nums (l.drop (p + 1)) _ _ h')
  rw [h2, List.set_getElem_self]
end Go.Proofs.Ytmlcknaahpfhbaa
