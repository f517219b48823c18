/- What follows of package crc's sums: the statements that stand without the document's answer. -/
import Derived.Test.YtplcmdibcjamlaaCrc
import Derived.Laws.IdiomStrings
import Derived.Laws.Concat
namespace Go.Proofs.Ytplcmdibcjamlaa
open Go.RowKit Go.Great

theorem beq_no {a b : Nat} (h : a ≠ b) : ((a : Int) == (b : Int)) = false := by
  simp; omega
set_option maxHeartbeats 1000000 in
theorem loses_any (c d : BitVec 16) (a b : UInt8) (w : World) : Calls Try.prog 6 #[.agg #[.int .u16 (c.toNat : Int), .int .u8 (a.toNat : Int)], .agg #[.int .u16 (d.toNat : Int), .int .u8 (b.toNat : Int)]] w fun e w' => e = .returned (.bool true) ∧ Below w.heap.size w w' := by
  obtain ⟨q, hq⟩ : ∃ q : Bool, ((a.toNat : Int) == (b.toNat : Int)) = q := ⟨_, rfl⟩
  obtain ⟨r, hr⟩ : ∃ r : Bool, ((c.toNat : Int) == (d.toNat : Int)) = r := ⟨_, rfl⟩
  have hq' : (((cadd c a).toNat : Int) == ((cadd c b).toNat : Int)) = q := by
    by_cases g : a = b
    · subst g; rw [← hq]; simp
    · have g1 : a.toNat ≠ b.toNat := fun h => g (UInt8.toNat_inj.1 h)
      have g2 : (cadd c a).toNat ≠ (cadd c b).toNat := fun h => g (cadd_bytes _ _ _ (BitVec.eq_of_toNat_eq h))
      rw [← hq, beq_no g1, beq_no g2]
  have hr' : (((cadd c a).toNat : Int) == ((cadd d a).toNat : Int)) = r := by
    by_cases g : c = d
    · subst g; rw [← hr]; simp
    · have g1 : c.toNat ≠ d.toNat := fun h => g (BitVec.eq_of_toNat_eq h)
      have g2 : (cadd c a).toNat ≠ (cadd d a).toNat := fun h => g (cadd_nums _ _ _ (BitVec.eq_of_toNat_eq h))
      rw [← hr, beq_no g1, beq_no g2]
  have hqq : (q == q) = true := by simp
  have hrr : (r == r) = true := by simp
  go_enter Try.func6, Try.ntmps6
  go_wp2_with fail
  refine (add_any _ _ _).mono ?_
  rintro e w2 ⟨rfl, h2⟩
  go_wp2_with fail
  refine (add_any _ _ _).mono ?_
  rintro e w3 ⟨rfl, h3⟩
  go_wp2_with fail
  refine (add_any _ _ _).mono ?_
  rintro e w4 ⟨rfl, h4⟩
  go_wp2_with fail
  refine (add_any _ _ _).mono ?_
  rintro e w5 ⟨rfl, h5⟩
  go_wp2_with fail
  refine (awake_any _).mono ?_
  rintro e w6 ⟨rfl, h6⟩
  go_wp2_with fail
  go_ret
  exact ⟨rfl, below_over (below_over (below_next (below_next (below_next (below_next h2 (Nat.le_refl _) h3) (Nat.le_refl _) h4) (Nat.le_refl _) h5) (Nat.le_refl _) h6))⟩
theorem CrcLosesNothing_walk (c a d b : Int) (hc : (Lit.int .u16 c).wf = true) (ha : (Lit.int .u8 a).wf = true) (hd : (Lit.int .u16 d).wf = true) (hb : (Lit.int .u8 b).wf = true) (w : World) : Calls Try.prog 6 #[.agg #[.int .u16 c, .int .u8 a], .agg #[.int .u16 d, .int .u8 b]] w fun e w' => e = .returned (.bool true) ∧ Below w.heap.size w w' := by
  obtain ⟨c, rfl⟩ := wf_u16 hc
  obtain ⟨d, rfl⟩ := wf_u16 hd
  obtain ⟨a, rfl⟩ := wf_u8 ha
  obtain ⟨b, rfl⟩ := wf_u8 hb
  exact loses_any c d a b w
theorem csum_both (a b : ByteArray) : csum (a ++ b) = cadds (csum a) b.data.toList := by
  unfold csum cadds
  rw [ByteArray.data_append, Array.toList_append, List.foldl_append]
/-- a number's two bytes, the low one first -/
def lowB (c : BitVec 16) : UInt8 := UInt8.ofNat (c.toNat % 256)
def highB (c : BitVec 16) : UInt8 := UInt8.ofNat (c.toNat / 256)
theorem lowB_nat (c : BitVec 16) : (lowB c).toNat = c.toNat % 256 := by
  rw [lowB, UInt8.toNat_ofNat']; omega
theorem highB_nat (c : BitVec 16) : (highB c).toNat = c.toNat / 256 := by
  have := c.isLt
  rw [highB, UInt8.toNat_ofNat']; omega
def twoB (c : BitVec 16) : ByteArray := ⟨#[lowB c, highB c]⟩
theorem conv_two (w : World) (c : BitVec 16) : (convert 28 9 (.slice (some ⟨w.heap.size, 0, none⟩) 2 2)).run Try.prog (w.alloc (.cells #[.int .u8 ((c.toNat : Int) % 256), .int .u8 ((c.toNat : Int) / 256)] 5)) = .ok (.string (twoB c)) (w.alloc (.cells #[.int .u8 ((c.toNat : Int) % 256), .int .u8 ((c.toNat : Int) / 256)] 5)) := by
  refine run_convert_bytes_back _ 28 9 5 ⟨w.heap.size, 0, none⟩ 2 [lowB c, highB c] (by kernel_rfl) (by kernel_rfl) (by kernel_rfl) ?_
  have h1 := lowB_nat c
  have h2 := highB_nat c
  intro j hj
  rw [show (Addr.add ⟨w.heap.size, 0, none⟩ j) = ⟨w.heap.size, j, none⟩ by simp [Addr.add]; exact fun h => h.symm, World.cell?_alloc_mark]
  match j, hj with
  | 0, _ => show some (Value.int .u8 ((c.toNat : Int) % 256)) = some (.int .u8 ((lowB c).toNat : Int)); rw [h1]; rfl
  | 1, _ => show some (Value.int .u8 ((c.toNat : Int) / 256)) = some (.int .u8 ((highB c).toNat : Int)); rw [h2]; rfl
theorem csum_own (a : ByteArray) : csum (a ++ twoB (csum a)) = 0#16 := by
  rw [csum_both]
  exact cadd_own _ _ _ (lowB_nat _) (highB_nat _)
set_option maxHeartbeats 1000000 in
theorem CrcGoesOn_walk (a b : ByteArray) (ha : a.size ≤ 140737488351232) (hb : b.size ≤ 140737488351232) (w : World) : Calls Try.prog 5 #[.string a, .string b] w fun e w' => e = .returned (.bool true) ∧ Below w.heap.size w w' := by
  go_enter Try.func5, Try.ntmps5
  go_wp2_with fail
  refine (sum_any _ _ (by omega)).mono ?_
  rintro e w1 ⟨rfl, h1⟩
  go_wp2_with fail
  go_loopw [5, 6] (fun c i wx => Below w.heap.size w wx ∧ ∃ k : Nat, k ≤ b.size ∧ i = .int .i64 k ∧ c = .int .u16 ((cadds (csum a) (b.data.toList.take k)).toNat : Int)) (fun _ i _ => b.size - (intOf i).toNat)
  case atStart => exact ⟨h1, 0, Nat.zero_le _, rfl, rfl⟩
  case round =>
    obtain ⟨hB, k, hk, rfl, rfl⟩ := hrel
    by_cases hlt : k < b.size
    · have HT : Hid (cadds (csum a) (b.data.toList.take (k + 1)) = cadd (cadds (csum a) (b.data.toList.take k)) b[k]) := by
        show _ = _
        rw [take_snoc b k hlt, cadds_snoc]
      generalize cadds (csum a) (b.data.toList.take k) = c at HT
      go_wp2_with fail
      refine (add_any _ _ _).mono ?_
      rintro e w2 ⟨rfl, hC⟩
      go_wp2_with fail
      go_roundw
      case rel => exact ⟨below_next hB (Nat.le_refl _) hC, k + 1, by omega, by go_num, by rw [HT.out]⟩
      case measure => simp [intOf]; omega
    · have HE : Hid (cadds (csum a) (b.data.toList.take k) = csum (a ++ b)) := by
        show _ = _
        rw [csum_both, List.take_of_length_le (by simp; omega)]
      generalize cadds (csum a) (b.data.toList.take k) = c at HE
      have heq : (((csum (a ++ b)).toNat : Int) == (c.toNat : Int)) = true := by rw [HE.out]; simp
      have hadd : ∀ wx, (Op.stringOp .add a b).run Try.prog wx = .ok (.string (a ++ b)) wx := fun wx => run_string_add_sum wx a b (by omega)
      have hcv := fun wx => conv_two wx (csum a)
      have HO : Hid (csum (a ++ twoB (csum a)) = 0#16) := csum_own a
      have ht : (twoB (csum a)).size = 2 := rfl
      generalize twoB (csum a) = t at hcv HO ht
      have hadd2 : ∀ wx, (Op.stringOp .add a t).run Try.prog wx = .ok (.string (a ++ t)) wx := fun wx => run_string_add_sum wx a t (by omega)
      have hsz2 : (a ++ t).size ≤ 9223372036854775807 := by rw [ByteArray.size_append]; omega
      have hsz : (a ++ b).size ≤ 9223372036854775807 := by rw [ByteArray.size_append]; omega
      go_wp2_with fail
      refine (sum_any _ _ (by omega)).mono ?_
      rintro e w3 ⟨rfl, h3⟩
      go_wp2_with fail
      refine (awake_any _).mono ?_
      rintro e w4 ⟨rfl, h4⟩
      go_wp2_with fail
      refine (sum_any _ _ hsz).mono ?_
      rintro e w5 ⟨rfl, h5⟩
      go_wp2_with fail
      refine (sum_any _ _ hsz2).mono ?_
      rintro e w6 ⟨rfl, h6⟩
      rw [HO.out]
      go_wp2_with fail
      go_ret
      exact ⟨rfl, below_next (below_next (below_next (below_next hB (Nat.le_refl _) h3) (Nat.le_refl _) h4) (Nat.le_refl _) h5) (Nat.le_refl _) (below_over h6)⟩
theorem of8 (x : UInt8) : BitVec.ofInt 8 (x.toNat : Int) = x.toBitVec := by
  apply BitVec.eq_of_toNat_eq
  rw [BitVec.toNat_ofInt]
  have := x.toNat_lt
  show ((x.toNat : Int) % _).toNat = x.toNat
  omega
theorem xor8 (a b : UInt8) : bits .xor .u8 (a.toNat : Int) (b.toNat : Int) = ((a ^^^ b).toNat : Int) := by
  show IntKind.u8.wrap ((BitVec.ofInt 8 (a.toNat : Int) ^^^ BitVec.ofInt 8 (b.toNat : Int)).toNat : Int) = _
  rw [of8, of8]
  have := (a ^^^ b).toNat_lt
  show IntKind.u8.wrap (((a ^^^ b).toNat : Nat) : Int) = _
  rw [IntKind.wrap_u8]; omega
theorem xor_low (a : UInt8) (t : BitVec 16) : bits .xor .u8 (a.toNat : Int) ((t.toNat : Int) % 256) = ((a ^^^ lowB t).toNat : Int) := by
  have := lowB_nat t
  rw [← xor8, this]; rfl
theorem xor_high (a : UInt8) (t : BitVec 16) : bits .xor .u8 (a.toNat : Int) ((t.toNat : Int) / 256) = ((a ^^^ highB t).toNat : Int) := by
  have := highB_nat t
  rw [← xor8, this]; rfl
/-- a row of bytes -/
def Row (w : World) (B : Nat) (l : List UInt8) : Prop := ∀ j (h : j < l.length), w.cell? ⟨B, j, none⟩ = some (.int .u8 (l[j].toNat : Int)) ∧ w.frozen? ⟨B, j, none⟩ = false
theorem bytes_new (s : ByteArray) (w : World) : ∃ wx cap, (convert 9 28 (.string s)).run Try.prog w = .ok (.slice (some ⟨w.heap.size, 0, none⟩) s.size cap) wx ∧ Row wx w.heap.size s.data.toList ∧ Below w.heap.size w wx ∧ w.heap.size < wx.heap.size := by
  refine ⟨_, _, run_bytes_of_string w 9 28 5 s (by kernel_rfl) (by kernel_rfl) (by kernel_rfl), ?_, ?_, ?_⟩
  · intro j hj
    have hj' : j < s.data.size := by simpa using hj
    refine ⟨?_, ?_⟩
    · have := World.cell?_alloc_mark w.drew (bytesRow s (grownCap w s.size 0 5)) 5 ((bytesRow s (grownCap w s.size 0 5)).size, (bytesRow s (grownCap w s.size 0 5)).size + 1) j
      refine this.trans ?_
      rw [bytesRow_at _ _ _ hj']
      simp
    · have := World.frozen?_alloc_mark w.drew (bytesRow s (grownCap w s.size 0 5)) 5 (bytesRow s (grownCap w s.size 0 5)).size ((bytesRow s (grownCap w s.size 0 5)).size + 1) j
      refine this.trans ?_
      have hz : s.data.size ≤ (bytesRow s (grownCap w s.size 0 5)).size := by
        unfold bytesRow; simp
      simp; omega
  · exact (Below.refl _ _).drew.alloc (Nat.le_refl _) _
  · show w.heap.size < (w.heap.push _).size
    simp
theorem row_set (w : World) (B : Nat) (l : List UInt8) (h : Row w B l) (i : Nat) (x : UInt8) : Row (w.setCell ⟨B, i, none⟩ (.int .u8 (x.toNat : Int))) B (l.set i x) := by
  intro j hj
  have hj' : j < l.length := by simpa using hj
  obtain ⟨h1, h2⟩ := h j hj'
  refine ⟨?_, by rw [World.frozen?_setCell]; exact h2⟩
  by_cases g : i = j
  · subst g
    rw [World.cell?_setCell_same _ _ _ h1, List.getElem_set_self]
  · rw [World.cell?_setCell_other _ _ _ _ (by intro e; injection e with e1 e2; exact g e2), h1, List.getElem_set_ne g]
theorem row_back (w : World) (B cap : Nat) (l : List UInt8) (h : Row w B l) (n : Nat) (hn : n = l.length) : (convert 28 9 (.slice (some ⟨B, 0, none⟩) n cap)).run Try.prog w = .ok (.string ⟨l.toArray⟩) w := by
  subst hn
  refine run_convert_bytes_back _ 28 9 5 ⟨B, 0, none⟩ cap l (by kernel_rfl) (by kernel_rfl) (by kernel_rfl) ?_
  intro j hj
  rw [show (Addr.add ⟨B, 0, none⟩ j) = ⟨B, j, none⟩ by simp [Addr.add]; exact fun h => h.symm]
  exact (h j hj).1
theorem row_below {w w' : World} {B : Nat} {l : List UInt8} (h : Row w B l) (hb : Below w.heap.size w w') (hB : B < w.heap.size) : Row w' B l := by
  intro j hj
  obtain ⟨h1, h2⟩ := h j hj
  exact ⟨(hb.cell (p := ⟨B, j, none⟩) hB).trans h1, (hb.frozen (p := ⟨B, j, none⟩) hB).trans h2⟩
theorem cadds_app (c : BitVec 16) (l m : List UInt8) : cadds c (l ++ m) = cadds (cadds c l) m := by
  unfold cadds; rw [List.foldl_append]
theorem cadds_cons (c : BitVec 16) (b : UInt8) (l : List UInt8) : cadds c (b :: l) = cadds (cadd c b) l := rfl
theorem one_tells (c : BitVec 16) (l : List UInt8) (p : Nat) (hp : p < l.length) (y : UInt8) (h : cadds c (l.set p y) = cadds c l) : l.set p y = l := by
  have e1 : l.set p y = l.take p ++ y :: l.drop (p + 1) := by rw [List.set_eq_take_append_cons_drop, if_pos hp]
  have e2 : l = l.take p ++ l[p] :: l.drop (p + 1) := by
    rw [← List.drop_eq_getElem_cons hp, List.take_append_drop]
  have h' : cadds c (l.take p ++ y :: l.drop (p + 1)) = cadds c (l.take p ++ l[p] :: l.drop (p + 1)) := by
    rw [← e1, ← e2]; exact h
  rw [cadds_app, cadds_app, cadds_cons, cadds_cons] at h'
  have h2 := cadd_bytes _ _ _ (cadds_nums (l.drop (p + 1)) _ _ h')
  rw [h2, List.set_getElem_self]
theorem two_tells (c : BitVec 16) (l : List UInt8) (p : Nat) (hp : p + 1 < l.length) (y z : UInt8) (h : cadds c ((l.set p y).set (p + 1) z) = cadds c l) : (l.set p y).set (p + 1) z = l := by
  have e2 : l = l.take p ++ l[p] :: l[p + 1] :: l.drop (p + 2) := by
    rw [← List.drop_eq_getElem_cons hp, ← List.drop_eq_getElem_cons (by omega : p < l.length), List.take_append_drop]
  have e1 : (l.set p y).set (p + 1) z = l.take p ++ y :: z :: l.drop (p + 2) := by
    have hl : (l.take p).length = p := by rw [List.length_take]; omega
    generalize l.take p = m at e2 hl
    generalize l.drop (p + 2) = r at e2
    generalize l[p] = a at e2
    generalize l[p + 1] = b at e2
    subst hl
    rw [e2]
    simp
  have h' : cadds c (l.take p ++ y :: z :: l.drop (p + 2)) = cadds c (l.take p ++ l[p] :: l[p + 1] :: l.drop (p + 2)) := by
    rw [← e1, ← e2]; exact h
  rw [cadds_app, cadds_app, cadds_cons, cadds_cons, cadds_cons, cadds_cons] at h'
  have h2 := cadd_two _ _ _ _ _ (cadds_nums (l.drop (p + 2)) _ _ h')
  rw [e1, h2.1, h2.2, ← e2]
end Go.Proofs.Ytplcmdibcjamlaa
