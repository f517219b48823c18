/- What package crc, and the reference for it, answer: at every input; bytes and rows of bytes. For later layers: the texts Crc and CrcL without the statements of layer 3. -/
import Derived.Test.YtgdjphiicgiegaaProg
import Derived.Test.YtgdjphiicgiegaaCrcM
import Derived.WalkKit
import Derived.Deep.QuietTactic
import Derived.BigQuiet
import Derived.Great.BuildSlice
import Derived.Deep.WholeRow
import Derived.Below
import Derived.Laws.IdiomStrings
import Derived.Laws.Concat
namespace Go.Proofs.Ytgdjphiicgiegaa
open Go.RowKit Go.Great

theorem hide {p : Prop} (h : p) : Hid p := h
theorem ret_int {k : IntKind} {a b : Int} (h : a = b) : Ending.returned (.int k a) = .returned (.int k b) := by rw [h]
theorem ret_bool {a b : Bool} (h : a = b) : Ending.returned (.bool a) = .returned (.bool b) := by rw [h]
theorem below_next {B : Nat} {w w1 w2 : World} (h : Below B w w1) (hB : B ≤ w.heap.size) (h2 : Below w1.heap.size w1 w2) : Below B w w2 := h.trans (h2.mono (by have := h.size; omega))
theorem below_alloc (w : World) (o : Obj) : Below w.heap.size w (w.alloc o) := (Below.refl _ _).alloc (Nat.le_refl _) _
theorem below_over {w w' : World} {o : Obj} (h : Below (w.alloc o).heap.size (w.alloc o) w') : Below w.heap.size w w' :=
  below_next (below_alloc w o) (Nat.le_refl _) h
theorem of16 (x : BitVec 16) : BitVec.ofInt 16 (x.toNat : Int) = x := by
  apply BitVec.eq_of_toNat_eq
  rw [BitVec.toNat_ofInt]
  have := x.isLt
  omega
theorem wrap16 (x : BitVec 16) : IntKind.u16.wrap (x.toNat : Int) = x.toNat := by
  have := x.isLt
  rw [IntKind.wrap_u16]; omega
theorem xor16 (a b : BitVec 16) : bits .xor .u16 (a.toNat : Int) (b.toNat : Int) = ((a ^^^ b).toNat : Int) := by
  show IntKind.u16.wrap ((BitVec.ofInt 16 (a.toNat : Int) ^^^ BitVec.ofInt 16 (b.toNat : Int)).toNat : Int) = _
  rw [of16, of16, wrap16]
theorem and15 (a : BitVec 16) : bits .and .u16 (a.toNat : Int) 15 = ((a.toNat % 16 : Nat) : Int) := by
  show IntKind.u16.wrap ((BitVec.ofInt 16 (a.toNat : Int) &&& BitVec.ofInt 16 15).toNat : Int) = _
  rw [of16, wrap16, BitVec.toNat_and, show (BitVec.ofInt 16 15).toNat = 2 ^ 4 - 1 from rfl, Nat.and_two_pow_sub_one_eq_mod]
def tabV : List Value := [.int .u16 0, .int .u16 4225, .int .u16 8450, .int .u16 12675, .int .u16 16900, .int .u16 21125, .int .u16 25350, .int .u16 29575, .int .u16 33800, .int .u16 38025, .int .u16 42250, .int .u16 46475, .int .u16 50700, .int .u16 54925, .int .u16 59150, .int .u16 63375]
theorem tabV_at : ∀ i : Nat, i < 16 → tabV[i]? = some (.int .u16 ((tab i).toNat : Int))
  | 0, _ | 1, _ | 2, _ | 3, _ | 4, _ | 5, _ | 6, _ | 7, _ | 8, _ | 9, _ | 10, _ | 11, _ | 12, _ | 13, _ | 14, _ | 15, _ => rfl
  | n + 16, h => absurd h (by omega)
set_option maxHeartbeats 1000000 in
theorem nibble_any (c : BitVec 16) (w : World) : Calls Try.prog 51 #[.int .u16 (c.toNat : Int)] w fun e w' => e = .returned (.int .u16 ((nib c).toNat : Int)) ∧ Below w.heap.size w w' := by
  have ha := and15 c
  have hl := c.isLt
  have hx : bits .xor .u16 ((c.toNat : Int) / 16) ((tab (c.toNat % 16)).toNat : Int) = ((nib c).toNat : Int) := by
    have e : (c.toNat : Int) / (16 : Int) = (((c >>> 4).toNat : Nat) : Int) := by
      rw [BitVec.toNat_ushiftRight, Nat.shiftRight_eq_div_pow]; omega
    rw [e, xor16]
    rfl
  have hc := tabV_at (c.toNat % 16) (by omega)
  have hi : c.toNat % 16 < 16 := by omega
  generalize c.toNat % 16 = i at ha hx hc hi
  generalize nib c = n at hx ⊢
  generalize tab i = t at hx hc
  have hd : ∀ h : i < tabV.length, tabV[i]'h = .int .u16 (t.toNat : Int) := by
    intro h
    rw [List.getElem?_eq_getElem h] at hc
    exact Option.some.inj hc
  clear hc
  unfold tabV at hd
  go_enter Try.func51, Try.ntmps51
  go_wp2
  go_ret
  exact ⟨rfl, below_alloc _ _⟩
theorem conv8 (b : UInt8) : IntKind.u16.wrap (b.toNat : Int) = ((wide b).toNat : Int) := by
  have := b.toNat_lt
  rw [IntKind.wrap_u16, wide_nat]; omega
theorem wide_int (b : UInt8) : (b.toNat : Int) = ((wide b).toNat : Int) := by rw [wide_nat]
set_option maxHeartbeats 1000000 in
theorem add_any (c : BitVec 16) (b : UInt8) (w : World) : Calls Try.prog 45 #[.int .u16 (c.toNat : Int), .int .u8 (b.toNat : Int)] w fun e w' => e = .returned (.int .u16 ((cadd c b).toNat : Int)) ∧ Below w.heap.size w w' := by
  have hc := conv8 b
  have hb := wide_int b
  have hx := xor16 c (wide b)
  have HN : Hid (nib (nib (c ^^^ wide b)) = cadd c b) := by show _ = _; rw [nib_st4, nib_st4]; rfl
  have hlt := b.toNat_lt
  generalize wide b = v at hc hb hx HN
  generalize c ^^^ v = x at hx HN
  go_enter Try.func45, Try.ntmps45
  go_wp2_with fail
  refine (nibble_any _ _).mono ?_
  rintro e w1 ⟨rfl, hB⟩
  go_wp2_with fail
  refine (nibble_any _ _).mono ?_
  rintro e w2 ⟨rfl, hC⟩
  go_wp2_with fail
  go_ret
  exact ⟨ret_int (by rw [HN.out]), below_next hB (Nat.le_refl _) hC⟩
theorem take_snoc (s : ByteArray) (k : Nat) (h : k < s.size) : s.data.toList.take (k + 1) = s.data.toList.take k ++ [s[k]] := by
  rw [List.take_succ_eq_append_getElem (by simpa using h)]; rfl
theorem cadds_snoc (c : BitVec 16) (l : List UInt8) (b : UInt8) : cadds c (l ++ [b]) = cadd (cadds c l) b := by
  unfold cadds; rw [List.foldl_append]; rfl
/-- crc.Sum -/
def csum (s : ByteArray) : BitVec 16 := cadds 65535#16 s.data.toList
set_option maxHeartbeats 1000000 in
theorem sum_any (s : ByteArray) (w : World) (hs : s.size ≤ 9223372036854775807) : Calls Try.prog 46 #[.string s] w fun e w' => e = .returned (.int .u16 ((csum s).toNat : Int)) ∧ Below w.heap.size w w' := by
  go_enter Try.func46, Try.ntmps46
  go_wp2
  go_loopw [3, 7] (fun c i wx => Below w.heap.size w wx ∧ ∃ k : Nat, k ≤ s.size ∧ i = .int .i64 k ∧ c = .int .u16 ((cadds 65535#16 (s.data.toList.take k)).toNat : Int)) (fun _ i _ => s.size - (intOf i).toNat)
  case atStart => exact ⟨Below.refl _ _, 0, Nat.zero_le _, rfl, rfl⟩
  case round =>
    obtain ⟨hB, k, hk, rfl, rfl⟩ := hrel
    by_cases hlt : k < s.size
    · have HT : Hid (cadds 65535#16 (s.data.toList.take (k + 1)) = cadd (cadds 65535#16 (s.data.toList.take k)) s[k]) := by
        show _ = _
        rw [take_snoc s k hlt, cadds_snoc]
      generalize cadds 65535#16 (s.data.toList.take k) = c at HT
      go_wp2_with fail
      refine (add_any _ _ _).mono ?_
      rintro e w1 ⟨rfl, hC⟩
      go_wp2_with fail
      go_roundw
      case rel => exact ⟨below_next hB (Nat.le_refl _) hC, k + 1, by omega, by go_num, by rw [HT.out]⟩
      case measure => simp [intOf]; omega
    · have HE : Hid (cadds 65535#16 (s.data.toList.take k) = csum s) := by
        show _ = _
        rw [List.take_of_length_le (by simp; omega)]; rfl
      go_wp2_with fail
      go_ret
      exact ⟨ret_int (by rw [HE.out]), hB⟩
/-- the steps one behind the other -/
def stN : Nat → BitVec 16 → BitVec 16
  | 0, c => c
  | n + 1, c => st (stN n c)
theorem st_odd (c : BitVec 16) (h : c.toNat % 2 = 1) : bits .xor .u16 ((c.toNat : Int) / 2) 33800 = ((st c).toNat : Int) := by
  have e : c.getLsbD 0 = true := by
    rw [BitVec.getLsbD, Nat.testBit_zero]; simp; omega
  have e2 : (c.toNat : Int) / (2 : Int) = (((c >>> 1).toNat : Nat) : Int) := by
    rw [BitVec.toNat_ushiftRight, Nat.shiftRight_eq_div_pow]; omega
  have := xor16 (c >>> 1) 33800#16
  rw [e2]
  unfold st
  rw [e, if_pos rfl]
  exact this
theorem wf_u16 {x : Int} (h : (Lit.int .u16 x).wf = true) : ∃ c : BitVec 16, x = (c.toNat : Int) := by
  simp [Lit.wf, IntKind.min, IntKind.max, IntKind.bits, IntKind.signed] at h
  exact ⟨BitVec.ofNat 16 x.toNat, by rw [BitVec.toNat_ofNat]; omega⟩
theorem wf_u8 {x : Int} (h : (Lit.int .u8 x).wf = true) : ∃ c : UInt8, x = (c.toNat : Int) := by
  simp [Lit.wf, IntKind.min, IntKind.max, IntKind.bits, IntKind.signed] at h
  exact ⟨UInt8.ofNat x.toNat, by rw [UInt8.toNat_ofNat']; omega⟩
theorem beq_no {a b : Nat} (h : a ≠ b) : ((a : Int) == (b : Int)) = false := by
  simp; omega
theorem csum_both (a b : ByteArray) : csum (a ++ b) = cadds (csum a) b.data.toList := by
  unfold csum cadds
  rw [ByteArray.data_append, Array.toList_append, List.foldl_append]
/-- a number's two bytes, the low one first -/
def lowB (c : BitVec 16) : UInt8 := UInt8.ofNat (c.toNat % 256)
def highB (c : BitVec 16) : UInt8 := UInt8.ofNat (c.toNat / 256)
theorem lowB_nat (c : BitVec 16) : (lowB c).toNat = c.toNat % 256 := by
  rw [lowB, UInt8.toNat_ofNat']; omega
theorem highB_nat (c : BitVec 16) : (highB c).toNat = c.toNat / 256 := by
  have := c.isLt
  rw [highB, UInt8.toNat_ofNat']; omega
def twoB (c : BitVec 16) : ByteArray := ⟨#[lowB c, highB c]⟩
theorem conv_two (w : World) (c : BitVec 16) : (convert 42 9 (.slice (some ⟨w.heap.size, 0, none⟩) 2 2)).run Try.prog (w.alloc (.cells #[.int .u8 ((c.toNat : Int) % 256), .int .u8 ((c.toNat : Int) / 256)] 5)) = .ok (.string (twoB c)) (w.alloc (.cells #[.int .u8 ((c.toNat : Int) % 256), .int .u8 ((c.toNat : Int) / 256)] 5)) := by
  refine run_convert_bytes_back _ 42 9 5 ⟨w.heap.size, 0, none⟩ 2 [lowB c, highB c] (by kernel_rfl) (by kernel_rfl) (by kernel_rfl) ?_
  have h1 := lowB_nat c
  have h2 := highB_nat c
  intro j hj
  rw [show (Addr.add ⟨w.heap.size, 0, none⟩ j) = ⟨w.heap.size, j, none⟩ by simp [Addr.add]; exact fun h => h.symm, World.cell?_alloc_mark]
  match j, hj with
  | 0, _ => show some (Value.int .u8 ((c.toNat : Int) % 256)) = some (.int .u8 ((lowB c).toNat : Int)); rw [h1]; rfl
  | 1, _ => show some (Value.int .u8 ((c.toNat : Int) / 256)) = some (.int .u8 ((highB c).toNat : Int)); rw [h2]; rfl
theorem of8 (x : UInt8) : BitVec.ofInt 8 (x.toNat : Int) = x.toBitVec := by
  apply BitVec.eq_of_toNat_eq
  rw [BitVec.toNat_ofInt]
  have := x.toNat_lt
  show ((x.toNat : Int) % _).toNat = x.toNat
  omega
theorem xor8 (a b : UInt8) : bits .xor .u8 (a.toNat : Int) (b.toNat : Int) = ((a ^^^ b).toNat : Int) := by
  show IntKind.u8.wrap ((BitVec.ofInt 8 (a.toNat : Int) ^^^ BitVec.ofInt 8 (b.toNat : Int)).toNat : Int) = _
  rw [of8, of8]
  have := (a ^^^ b).toNat_lt
  show IntKind.u8.wrap (((a ^^^ b).toNat : Nat) : Int) = _
  rw [IntKind.wrap_u8]; omega
/-- a row of bytes -/
def Row (w : World) (B : Nat) (l : List UInt8) : Prop := ∀ j (h : j < l.length), w.cell? ⟨B, j, none⟩ = some (.int .u8 (l[j].toNat : Int)) ∧ w.frozen? ⟨B, j, none⟩ = false
theorem bytes_new (s : ByteArray) (w : World) : ∃ wx cap, (convert 9 42 (.string s)).run Try.prog w = .ok (.slice (some ⟨w.heap.size, 0, none⟩) s.size cap) wx ∧ Row wx w.heap.size s.data.toList ∧ Below w.heap.size w wx ∧ w.heap.size < wx.heap.size := by
  refine ⟨_, _, run_bytes_of_string w 9 42 5 s (by kernel_rfl) (by kernel_rfl) (by kernel_rfl), ?_, ?_, ?_⟩
  · intro j hj
    have hj' : j < s.data.size := by simpa using hj
    refine ⟨?_, ?_⟩
    · have := World.cell?_alloc_mark w.drew (bytesRow s (grownCap w s.size 0 5)) 5 ((bytesRow s (grownCap w s.size 0 5)).size, (bytesRow s (grownCap w s.size 0 5)).size + 1) j
      refine this.trans ?_
      rw [bytesRow_at _ _ _ hj']
      simp
    · have := World.frozen?_alloc_mark w.drew (bytesRow s (grownCap w s.size 0 5)) 5 (bytesRow s (grownCap w s.size 0 5)).size ((bytesRow s (grownCap w s.size 0 5)).size + 1) j
      refine this.trans ?_
      have hz : s.data.size ≤ (bytesRow s (grownCap w s.size 0 5)).size := by
        unfold bytesRow; simp
      simp; omega
  · exact (Below.refl _ _).drew.alloc (Nat.le_refl _) _
  · show w.heap.size < (w.heap.push _).size
    simp
theorem row_set (w : World) (B : Nat) (l : List UInt8) (h : Row w B l) (i : Nat) (x : UInt8) : Row (w.setCell ⟨B, i, none⟩ (.int .u8 (x.toNat : Int))) B (l.set i x) := by
  intro j hj
  have hj' : j < l.length := by simpa using hj
  obtain ⟨h1, h2⟩ := h j hj'
  refine ⟨?_, by rw [World.frozen?_setCell]; exact h2⟩
  by_cases g : i = j
  · subst g
    rw [World.cell?_setCell_same _ _ _ h1, List.getElem_set_self]
  · rw [World.cell?_setCell_other _ _ _ _ (by intro e; injection e with e1 e2; exact g e2), h1, List.getElem_set_ne g]
theorem row_back (w : World) (B cap : Nat) (l : List UInt8) (h : Row w B l) (n : Nat) (hn : n = l.length) : (convert 42 9 (.slice (some ⟨B, 0, none⟩) n cap)).run Try.prog w = .ok (.string ⟨l.toArray⟩) w := by
  subst hn
  refine run_convert_bytes_back _ 42 9 5 ⟨B, 0, none⟩ cap l (by kernel_rfl) (by kernel_rfl) (by kernel_rfl) ?_
  intro j hj
  rw [show (Addr.add ⟨B, 0, none⟩ j) = ⟨B, j, none⟩ by simp [Addr.add]; exact fun h => h.symm]
  exact (h j hj).1
theorem row_below {w w' : World} {B : Nat} {l : List UInt8} (h : Row w B l) (hb : Below w.heap.size w w') (hB : B < w.heap.size) : Row w' B l := by
  intro j hj
  obtain ⟨h1, h2⟩ := h j hj
  exact ⟨(hb.cell (p := ⟨B, j, none⟩) hB).trans h1, (hb.frozen (p := ⟨B, j, none⟩) hB).trans h2⟩
theorem cadds_app (c : BitVec 16) (l m : List UInt8) : cadds c (l ++ m) = cadds (cadds c l) m := by
  unfold cadds; rw [List.foldl_append]
theorem cadds_cons (c : BitVec 16) (b : UInt8) (l : List UInt8) : cadds c (b :: l) = cadds (cadd c b) l := rfl
theorem one_tells (c : BitVec 16) (l : List UInt8) (p : Nat) (hp : p < l.length) (y : UInt8) (h : cadds c (l.set p y) = cadds c l) : l.set p y = l := by
  have e1 : l.set p y = l.take p ++ y :: l.drop (p + 1) := by rw [List.set_eq_take_append_cons_drop, if_pos hp]
  have e2 : l = l.take p ++ l[p] :: l.drop (p + 1) := by
    rw [← List.drop_eq_getElem_cons hp, List.take_append_drop]
  have h' : cadds c (l.take p ++ y :: l.drop (p + 1)) = cadds c (l.take p ++ l[p] :: l.drop (p + 1)) := by
    rw [← e1, ← e2]; exact h
  rw [cadds_app, cadds_app, cadds_cons, cadds_cons] at h'
  have h2 := cadd_bytes _ _ _ (cadds_nums (l.drop (p + 1)) _ _ h')
  rw [h2, List.set_getElem_self]
end Go.Proofs.Ytgdjphiicgiegaa
