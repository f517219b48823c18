/- Fr3, Fr4, Fr5, Fr6. -/
import Derived.Test.YtapfaaaepnplcaaGreatDoorG03
import Derived.Test.YtapfaaaepnplcaaGreatDoorG04
import Derived.Test.YtapfaaaepnplcaaGreatDoorG10
import Derived.Test.YtapfaaaepnplcaaGreatDoorG12
import Derived.Deep.RegionHeld3
set_option maxRecDepth 100000
set_option maxHeartbeats 1000000
namespace Go.Proofs.YtapfaaaepnplcaaGreatDoor
open Go.RowKit Go.Great
theorem or_word (a b : UInt8) : bits .or .u16 (a.toNat : Int) ((b.toNat : Int) * 256) = ((word a b).toNat : Int) := by
  have ha := a.toNat_lt
  have hb := b.toNat_lt
  have e1 : BitVec.ofInt 16 (a.toNat : Int) = BitVec.ofNat 16 a.toNat := by
    apply BitVec.eq_of_toNat_eq; rw [BitVec.toNat_ofInt, BitVec.toNat_ofNat]; omega
  have e2 : BitVec.ofInt 16 ((b.toNat : Int) * 256) = BitVec.ofNat 16 (256 * b.toNat) := by
    apply BitVec.eq_of_toNat_eq; rw [BitVec.toNat_ofInt, BitVec.toNat_ofNat]; omega
  show IntKind.u16.wrap ((BitVec.ofInt 16 (a.toNat : Int) ||| BitVec.ofInt 16 ((b.toNat : Int) * 256)).toNat : Int) = _
  rw [e1, e2, wrap16]
  congr 1
  rw [BitVec.toNat_or, BitVec.toNat_ofNat, BitVec.toNat_ofNat, Nat.mod_eq_of_lt (by omega : a.toNat < 2 ^ 16), Nat.mod_eq_of_lt (by omega : 256 * b.toNat < 2 ^ 16), word_nat, Nat.or_comm, show 256 = 2 ^ 8 from rfl, ← Nat.two_pow_add_eq_or_of_lt (by omega : a.toNat < 2 ^ 8)]
  omega
/-- a variable that holds a frame -/
def Frm (w : World) (g : Nat) (x y z : Value) : Prop := w.heap[g]? = some (.cells #[x, y, z] 324 (0, 0))
theorem Frm.c0 {w : World} {g : Nat} {x y z : Value} (h : Frm w g x y z) : w.cell? ⟨g, 0, none⟩ = some x := by
  unfold Frm at h; simp [World.cell?, h]
theorem Frm.c1 {w : World} {g : Nat} {x y z : Value} (h : Frm w g x y z) : w.cell? ⟨g, 1, none⟩ = some y := by
  unfold Frm at h; simp [World.cell?, h]
theorem Frm.c2 {w : World} {g : Nat} {x y z : Value} (h : Frm w g x y z) : w.cell? ⟨g, 2, none⟩ = some z := by
  unfold Frm at h; simp [World.cell?, h]
theorem Frm.fz {w : World} {g : Nat} {x y z : Value} (h : Frm w g x y z) (i : Nat) : w.frozen? ⟨g, i, none⟩ = false := by
  unfold Frm at h; simp [World.frozen?, h]
theorem Frm.lt {w : World} {g : Nat} {x y z : Value} (h : Frm w g x y z) : g < w.heap.size := lt_of_block h
theorem Frm.below {w w' : World} {g : Nat} {x y z : Value} (h : Frm w g x y z) (hb : Below w.heap.size w w') : Frm w' g x y z := by
  unfold Frm at h ⊢; rw [hb.block g (lt_of_block h), h]
theorem Frm.set {w : World} {g : Nat} {x y z : Value} (h : Frm w g x y z) (a b c : Value) : Frm (((w.setCell ⟨g, 0, none⟩ a).setCell ⟨g, 1, none⟩ b).setCell ⟨g, 2, none⟩ c) g a b c := by
  have := heap_set (heap_set (heap_set h 0 a) 1 b) 2 c
  simpa [Frm] using this
theorem frm_new (w : World) (x y z : Value) : Frm (w.alloc (.cells #[x, y, z] 324)) w.heap.size x y z := heap_alloc_new _ _
theorem Frm.drewN {w : World} {g : Nat} {x y z : Value} (h : Frm w g x y z) (n : Nat) : Frm (w.drewN n) g x y z := by
  induction n with
  | zero => exact h
  | succ n ih => exact ih
theorem cell_set3 {w : World} {R g : Nat} (h : R ≠ g) (a b c : Value) : (((w.setCell ⟨g, 0, none⟩ a).setCell ⟨g, 1, none⟩ b).setCell ⟨g, 2, none⟩ c).cell? ⟨R, 0, none⟩ = w.cell? ⟨R, 0, none⟩ :=
  World.cell?_of_block (a := ⟨R, 0, none⟩) ((Below.heap_setCell _ _ _ _ h).trans ((Below.heap_setCell _ _ _ _ h).trans (Below.heap_setCell _ _ _ _ h)))
theorem first_back (tmps : Array Value) (w : World) (g : Nat) (x y z : Value) (fr : Nat × Nat) (b : Bool) (hp : tmps.getD 2 undef = .pointer (some ⟨g, 0, none⟩)) (hq : tmps.getD 3 undef = .bool b) (hg : w.heap[g]? = some (.cells #[x, y, z] 324 fr)) : (results Tryz.f264 tmps).run Tryz.prog w = .ok (.tuple #[.agg #[x, y, z], .bool b]) w := by
  rw [results_cell_tmp Tryz.results264]
  have := run_loadVar_row (P := Tryz.prog) w g 324 324 #[x, y, z] fr _ hg Tryz.underlying324 rfl (by kernel_rfl)
  rw [hp, hq]
  simp [asAddr, this, Result.andThen]
theorem cut_run (s : ByteArray) (a b : Nat) (h1 : a ≤ b) (h2 : b ≤ s.size) (wx : World) : (Instr.slice 9 (.string s) (some (.int .i64 a)) (some (.int .i64 b)) none).run Tryz.prog wx = .ok (.string (s.extract a b)) wx := by
  rw [run_slice_string wx 9 s .i64 .i64 a b Tryz.underlying9 (by omega) (by omega) (by omega)]
  simp
theorem first_long (w : World) (R : Nat) (s : ByteArray) (n : Int) (h : Rdr w R s n) (h1 : 1 < s.size) (h64 : 64 < s[1].toNat) : Calls Tryz.prog 264 #[.pointer (some ⟨R, 0, none⟩)] w fun e w' => e = .returned (.tuple #[.agg #[.int .i64 0, .int .i64 0, .string ⟨#[]⟩], .bool false]) ∧ Below w.heap.size w w' := by
  have h0 := h.c0
  have hlt := h.lt
  have hb := s[1].toNat_lt
  go_enter Tryz.func264, Tryz.ntmps264
  go_wp2
  refine bodyPost_ret (first_back _ _ w.heap.size _ _ _ _ _ rfl rfl (heap_alloc_new _ _)) rfl ?_
  exact ⟨rfl, below_alloc _ _⟩
theorem first_wrong (w : World) (R : Nat) (s : ByteArray) (n : Int) (h : Rdr w R s n) (h1 : 1 < s.size) (k j j1 : Nat) (hk : s[1].toNat = k) (h64 : k ≤ 64) (hj : (4 : Int) + (k : Int) = (j : Int)) (hj1 : (j : Int) + 1 = (j1 : Int)) (h5 : j1 < s.size) (h4 : j < s.size) (b : ByteArray) (hb : s.extract 1 j = b) (hb2 : 2 < b.size) (hbs : b.size ≤ 100) (hne : chk_FrM b.data.toList b[2] ≠ word s[j] s[j1]) : Calls Tryz.prog 264 #[.pointer (some ⟨R, 0, none⟩)] w fun e w' => e = .returned (.tuple #[.agg #[.int .i64 0, .int .i64 0, .string ⟨#[]⟩], .bool false]) ∧ Below w.heap.size w w' := by
  have h0 := h.c0
  have hlt := h.lt
  have hor := or_word s[j] s[j1]
  have hl4 := s[j].toNat_lt
  have hl5 := s[j1].toNat_lt
  have hj4 : 1 ≤ j := by omega
  have hck := fun w => check_any_Fr2 b hb2 (by omega) w
  generalize chk_FrM b.data.toList b[2] = c at hne hck
  generalize word s[j] s[j1] = d at hne hor
  have hsl : ∀ wx, (Instr.slice 9 (.string s) (some (.int .i64 1)) (some (.int .i64 j)) none).run Tryz.prog wx = .ok (.string b) wx := fun wx => by rw [← hb]; exact cut_run s 1 j hj4 (by omega) wx
  clear hb
  have hne2 : ((c.toNat : Int) == (d.toNat : Int)) = false := beq_no fun e => hne (BitVec.eq_of_toNat_eq e)
  go_enter Tryz.func264, Tryz.ntmps264
  go_wp2
  go_quiet (fail)
  go_wp2_with fail
  refine (hck _).mono ?_
  rintro e w1 ⟨rfl, hB1⟩
  have hF1 := ((frm_new w (.int .i64 0) (.int .i64 0) (.string ⟨#[]⟩)).drewN nq).below hB1
  have c0 := hF1.c0
  have c1 := hF1.c1
  have c2 := hF1.c2
  have fz := hF1.fz
  have HB : Hid (Below w.heap.size w w1) := below_next (below_drewN (below_alloc w _) nq) (Nat.le_refl _) hB1
  clear hB1
  go_wp2_with fail
  refine bodyPost_ret (first_back _ _ w.heap.size _ _ _ _ _ rfl rfl (hF1.set _ _ _)) rfl ?_
  exact ⟨rfl, below_set3 HB.out (Nat.le_refl _) _ _ _⟩
theorem first_good (w : World) (R : Nat) (s : ByteArray) (n : Int) (h : Rdr w R s n) (h1 : 1 < s.size) (k j j1 : Nat) (hk : s[1].toNat = k) (h64 : k ≤ 64) (hj : (4 : Int) + (k : Int) = (j : Int)) (hj1 : (j : Int) + 1 = (j1 : Int)) (h5 : j1 < s.size) (h4 : j < s.size) (h2 : 2 < s.size) (h3 : 3 < s.size) (b p : ByteArray) (hb : s.extract 1 j = b) (hp : s.extract 4 j = p) (hps : p.size ≤ 64) (hb2 : 2 < b.size) (hbs : b.size ≤ 100) (hne : chk_FrM b.data.toList b[2] = word s[j] s[j1]) : Calls Tryz.prog 264 #[.pointer (some ⟨R, 0, none⟩)] w fun e w' => e = .returned (.tuple #[.agg #[.int .i64 (s[2].toNat : Int), .int .i64 (s[3].toNat : Int), .string p], .bool true]) ∧ Below w.heap.size w w' := by
  have h0 := h.c0
  have hlt := h.lt
  have hor := or_word s[j] s[j1]
  have hl4 := s[j].toNat_lt
  have hl5 := s[j1].toNat_lt
  have hl2 := s[2].toNat_lt
  have hl3 := s[3].toNat_lt
  have hj4 : 4 ≤ j := by omega
  have hck := fun w => check_any_Fr2 b hb2 (by omega) w
  rw [hne] at hck
  clear hne
  generalize word s[j] s[j1] = d at hor hck
  have hsl : ∀ wx, (Instr.slice 9 (.string s) (some (.int .i64 1)) (some (.int .i64 j)) none).run Tryz.prog wx = .ok (.string b) wx := fun wx => by rw [← hb]; exact cut_run s 1 j (by omega) (by omega) wx
  have hsp : ∀ wx, (Instr.slice 9 (.string s) (some (.int .i64 4)) (some (.int .i64 j)) none).run Tryz.prog wx = .ok (.string p) wx := fun wx => by rw [← hp]; exact cut_run s 4 j (by omega) (by omega) wx
  clear hb hp
  have hne2 : ((d.toNat : Int) == (d.toNat : Int)) = true := by simp
  go_enter Tryz.func264, Tryz.ntmps264
  go_wp2
  go_quiet (fail)
  go_wp2_with fail
  refine (hck _).mono ?_
  rintro e w1 ⟨rfl, hB1⟩
  have hF1 := ((frm_new w (.int .i64 0) (.int .i64 0) (.string ⟨#[]⟩)).drewN nq).below hB1
  have HB : Hid (Below w.heap.size w w1) := below_next (below_drewN (below_alloc w _) nq) (Nat.le_refl _) hB1
  have hR1 := h.below HB.out
  have r0 := hR1.c0
  have c0 := hF1.c0
  have c1 := hF1.c1
  have c2 := hF1.c2
  have fz := hF1.fz
  have HF : Hid (Frm w1 w.heap.size (.int .i64 0) (.int .i64 0) (.string ⟨#[]⟩)) := hF1
  have HR : Hid (Rdr w1 R s n) := hR1
  clear hB1 hck hsl hF1 hR1
  go_wp2_with fail
  clear h h0 hk hor hj1 hl4 hl5 hb2 hbs h64 hj4 hne2
  have hRg : R ≠ w.heap.size := by omega
  have hw2 : IntKind.i64.wrap (s[2].toNat : Int) = (s[2].toNat : Int) := by rw [IntKind.wrap_i64]; omega
  have hw3 : IntKind.i64.wrap (s[3].toNat : Int) = (s[3].toNat : Int) := by rw [IntKind.wrap_i64]; omega
  go_region_held3 (fun wx => wx.cell? ⟨R, 0, none⟩ = some (.string s)) (first | go_keep | exact (cell_set3 hRg _ _ _).trans (by assumption)) (first | (go_at_call 331; refine (clone_any p _ (by omega)).mono ?_; rintro e w2 ⟨rfl, hB2⟩; replace hB2 := below_undrew hB2; have r02 := (HR.out.below hB2).c0; have c02 := (HF.out.below hB2).c0; have c12 := (HF.out.below hB2).c1; have c22 := (HF.out.below hB2).c2; have fz2 := (HF.out.below hB2).fz; have HB2 := hide hB2; clear hB2))
  all_goals go_wp2_with fail
  all_goals refine bodyPost_ret (first_back _ _ w.heap.size _ _ _ _ _ rfl rfl ((HF.out.below HB2.out).set _ _ _)) rfl ?_
  all_goals exact ⟨rfl, below_set3 (below_next HB.out (Nat.le_refl _) HB2.out) (Nat.le_refl _) _ _ _⟩
end Go.Proofs.YtapfaaaepnplcaaGreatDoor
set_option maxRecDepth 100000
namespace Go.Proofs.YtapfaaaepnplcaaGreatDoor
open Go.RowKit Go.Great
theorem getD_bs (l : List UInt8) (i : Nat) (h : i < (bs l).size) : (bs l)[i] = l.getD i 0 := by
  rw [← getD_at_Fr2 (bs l) i h, bs_list]
theorem ripe_facts {l : List UInt8} (h : ripeB l = true) : 2 ≤ l.length ∧ (64 < lenB l ∨ 6 + lenB l ≤ l.length) := by
  unfold ripeB at h; simpa using h
theorem body_facts (l : List UInt8) (h6 : 6 + lenB l ≤ l.length) : ∃ h : 2 < ((bs l).extract 1 (4 + lenB l)).size, ((bs l).extract 1 (4 + lenB l)).size = 3 + lenB l ∧ chk_FrM ((bs l).extract 1 (4 + lenB l)).data.toList ((bs l).extract 1 (4 + lenB l))[2] = chk_FrM ((l.drop 1).take (3 + lenB l)) (l.getD 3 0) := by
  have e : ((bs l).extract 1 (4 + lenB l)).data.toList = (l.drop 1).take (3 + lenB l) := by
    rw [extract_list, bs_list, show 4 + lenB l - 1 = 3 + lenB l by omega]
  have hs : ((bs l).extract 1 (4 + lenB l)).size = 3 + lenB l := by
    rw [← list_size, e, List.length_take, List.length_drop]; omega
  refine ⟨by omega, hs, ?_⟩
  rw [← getD_at_Fr2 _ 2 (by omega), e]
  congr 1
  simp only [List.getD, List.getElem?_take, List.getElem?_drop]
  rw [if_pos (by omega)]
theorem first_bad (w : World) (R : Nat) (l : List UInt8) (n : Int) (h : Rdr w R (bs l) n) (hr : ripeB l = true) (hb : 64 < lenB l ∨ goodB l = false) : Calls Tryz.prog 264 #[.pointer (some ⟨R, 0, none⟩)] w fun e w' => e = .returned (.tuple #[.agg #[.int .i64 0, .int .i64 0, .string ⟨#[]⟩], .bool false]) ∧ Below w.heap.size w w' := by
  obtain ⟨h2, h3⟩ := ripe_facts hr
  have hs := bs_size l
  have e1 : ((bs l)[1]'(by omega)).toNat = lenB l := by rw [getD_bs]; rfl
  by_cases h64 : 64 < lenB l
  · exact first_long w R (bs l) n h (by omega) (by omega)
  · have h6 : 6 + lenB l ≤ l.length := by omega
    obtain ⟨b1, b2, b3⟩ := body_facts l h6
    refine first_wrong w R (bs l) n h (by omega) (lenB l) (4 + lenB l) (5 + lenB l) e1 (by omega) (by omega) (by omega) (by omega) (by omega) _ rfl b1 (by omega) ?_
    rw [b3, getD_bs, getD_bs]
    rcases hb with hb | hb
    · omega
    · unfold goodB at hb
      simpa using hb
theorem first_ok (w : World) (R : Nat) (l : List UInt8) (n : Int) (h : Rdr w R (bs l) n) (hr : ripeB l = true) (h64 : lenB l ≤ 64) (hg : goodB l = true) : Calls Tryz.prog 264 #[.pointer (some ⟨R, 0, none⟩)] w fun e w' => e = .returned (.tuple #[.agg #[.int .i64 (frB l).1, .int .i64 (frB l).2.1, .string (frB l).2.2], .bool true]) ∧ Below w.heap.size w w' := by
  obtain ⟨h2, h3⟩ := ripe_facts hr
  have hs := bs_size l
  have e1 : ((bs l)[1]'(by omega)).toNat = lenB l := by rw [getD_bs]; rfl
  have h6 : 6 + lenB l ≤ l.length := by omega
  obtain ⟨b1, b2, b3⟩ := body_facts l h6
  have ep : (bs l).extract 4 (4 + lenB l) = (frB l).2.2 := by
    apply bs_ext
    rw [extract_list, bs_list, show 4 + lenB l - 4 = lenB l by omega]
    simp [frB]
  have eps : (frB l).2.2.size = lenB l := by
    rw [← ep, ← list_size, extract_list, bs_list, List.length_take, List.length_drop]; omega
  have := first_good w R (bs l) n h (by omega) (lenB l) (4 + lenB l) (5 + lenB l) e1 (by omega) (by omega) (by omega) (by omega) (by omega) (by omega) (by omega) _ (frB l).2.2 rfl ep (by omega) b1 (by omega) (by
    rw [b3, getD_bs, getD_bs]
    unfold goodB at hg
    simpa using hg)
  rw [getD_bs, getD_bs] at this
  exact this
/-- the cells of frames in a slice -/
def cellsF (fs : List Fr) : List Value := fs.flatMap fun f => [.int .i64 f.1, .int .i64 f.2.1, .string f.2.2]
theorem cellsF_length (fs : List Fr) : (cellsF fs).length = fs.length * 3 := by
  induction fs with
  | nil => rfl
  | cons f fs ih => simp [cellsF] at ih ⊢; omega
theorem cellsF_app (fs gs : List Fr) : cellsF (fs ++ gs) = cellsF fs ++ cellsF gs := by simp [cellsF]
theorem cellsF_one (f : Fr) : cellsF [f] = [.int .i64 f.1, .int .i64 f.2.1, .string f.2.2] := by simp [cellsF]
/-- a list that begins at a mark, or is empty -/
def Sought (l : List UInt8) : Prop := l.dropWhile (fun x => x != 253) = l
theorem sought_drop (l : List UInt8) : Sought (l.dropWhile (fun x => x != 253)) := by
  unfold Sought
  induction l with
  | nil => rfl
  | cons x t ih =>
    by_cases h : x = 253
    · subst h; simp
    · rw [List.dropWhile_cons_of_pos (by simpa using h)]; exact ih
theorem sought_cons {x : UInt8} {t : List UInt8} (h : Sought (x :: t)) : x = 253 := by
  refine Decidable.byContradiction fun hx => ?_
  unfold Sought at h
  rw [List.dropWhile_cons_of_pos (by simpa using hx)] at h
  have hl := congrArg List.length h
  have : (t.dropWhile (fun x => x != 253)).length ≤ t.length := (List.dropWhile_suffix _).length_le
  simp at hl; omega
theorem step_unripe {l : List UInt8} (h : Sought l) (hr : ripeB l = false) : step l = none := by
  cases l with
  | nil => rfl
  | cons x t =>
    have hx := sought_cons h
    unfold ripeB at hr
    simp only [decide_eq_false_iff_not] at hr
    rw [step_cons, if_pos hx]
    by_cases ht : t.length = 0
    · rw [if_pos ht]
    · have : 2 ≤ (x :: t).length := by simp; omega
      rw [if_neg ht, if_neg (by omega), if_pos (by omega)]
theorem step_bad {l : List UInt8} (h : Sought l) (hr : ripeB l = true) (hb : 64 < lenB l ∨ goodB l = false) : step l = some (none, 1, l.drop 1) := by
  obtain ⟨h2, h3⟩ := ripe_facts hr
  cases l with
  | nil => simp at h2
  | cons x t =>
    have hx := sought_cons h
    have ht : ¬ t.length = 0 := by simp at h2; omega
    rw [step_cons, if_pos hx, if_neg ht]
    by_cases h64 : 64 < lenB (x :: t)
    · rw [if_pos h64]; rfl
    · have hg : goodB (x :: t) = false := by rcases hb with hb | hb
                                             · omega
                                             · exact hb
      rw [if_neg h64, if_neg (by omega), if_neg (by simp [hg])]; rfl
theorem step_ok {l : List UInt8} (h : Sought l) (hr : ripeB l = true) (h64 : lenB l ≤ 64) (hg : goodB l = true) : step l = some (some (frB l), 0, l.drop (6 + lenB l)) := by
  obtain ⟨h2, h3⟩ := ripe_facts hr
  cases l with
  | nil => simp at h2
  | cons x t =>
    have hx := sought_cons h
    have ht : ¬ t.length = 0 := by simp at h2; omega
    rw [step_cons, if_pos hx, if_neg ht, if_neg (by omega), if_neg (by omega), if_pos hg]
/-- how many bytes the reader at R holds -/
def rlen (w : World) (R : Nat) : Nat := match w.cell? ⟨R, 0, none⟩ with | some (.string s) => s.size | _ => 0
theorem rlen_of {w : World} {R : Nat} {s : ByteArray} {n : Int} (h : Rdr w R s n) : rlen w R = s.size := by
  unfold rlen; rw [h.c0]
theorem Rdr.alloc {w : World} {R : Nat} {s : ByteArray} {n : Int} (h : Rdr w R s n) (o : Obj) : Rdr (w.alloc o) R s n := h.below (below_alloc _ _)
theorem Rdr.grown {w w' : World} {R : Nat} {s : ByteArray} {n : Int} {row : Option Nat} (h : Rdr w R s n) (g : w.grownBy w' row) (hr : row ≠ some R) : Rdr w' R s n := by
  unfold Rdr at h ⊢; rw [g.block R (lt_of_block h) (fun e => hr e.symm), h]
end Go.Proofs.YtapfaaaepnplcaaGreatDoor
set_option maxRecDepth 100000
set_option maxHeartbeats 2000000
namespace Go.Proofs.YtapfaaaepnplcaaGreatDoor
open Go.RowKit Go.Great
/-- how far Feed has read -/
def FeedRel (w : World) (R : Nat) (L : List UInt8) (n : Int) (v : Value) (wx : World) : Prop :=
  ∃ (l : List UInt8) (fs : List Fr) (b : Nat), Rdr wx R (bs l) (min (n + b) 65535) ∧ Sought l ∧ wx.ownsRow w.heap.size 324 3 v fs.length (cellsF fs) ∧ Kept R w wx ∧ fs ++ (rd_FrM l).1 = (rd_FrM L).1 ∧ b + (rd_FrM l).2.1 = (rd_FrM L).2.1 ∧ (rd_FrM l).2.2 = (rd_FrM L).2.2 ∧ l.length ≤ L.length
theorem seekS_bs (l : List UInt8) : seekS (bs l) = bs (l.dropWhile (fun x => x != 253)) := by rw [seekS, bs_list]
theorem own_kept {w wr w' : World} {R : Nat} {v : Value} {k : Nat} {xs : List Value} (HO : wr.ownsRow w.heap.size 324 3 v k xs) (hR : R < w.heap.size) (hk : Kept R wr w') : w'.ownsRow w.heap.size 324 3 v k xs := by
  refine HO.kept hk (.inr fun e => ?_)
  have := (HO.lt R e).1
  omega
theorem info_frame : (Tryz.prog.info? 324).map (fun i => (i.zero, i.size, i.bytes)) = some (some (.agg #[.int .i64 0, .int .i64 0, .string ⟨#[]⟩]), 3, 32) := by kernel_rfl
theorem new_cells (w : World) (g : Nat) (hg : g = w.heap.size) (a b c : Value) (t : TypeId) : ∀ j u, [a, b, c][j]? = some u → (w.alloc (.cells #[a, b, c] t)).cell? ((⟨g, 0, none⟩ : Addr).add j) = some u := by
  subst hg
  intro j u hu
  rw [show (Addr.add ⟨w.heap.size, 0, none⟩ j) = ⟨w.heap.size, j, none⟩ by simp [Addr.add]; exact fun h => h.symm, World.cell?_alloc_new]
  simpa using hu
theorem one_cells (x y : Int) (p : ByteArray) : ∀ u ∈ [Value.int .i64 x, .int .i64 y, .string p], u.oneCell' = true := by
  intro u hu
  simp at hu
  rcases hu with rfl | rfl | rfl <;> rfl
/-- behind a seek: the round's relation -/
theorem rel_next {w wr w6 : World} {R : Nat} {L l k : List UInt8} {n m : Int} {fs : List Fr} {b : Nat} {v : Value} {n0 : Int} (hR : R < w.heap.size) (hR6 : Rdr w6 R (bs k) m) (hm : m = min (n + (b : Int)) 65535) (hl : l.length ≤ L.length) (hK : Kept R w w6) (hO : w6.ownsRow w.heap.size 324 3 v fs.length (cellsF fs))
    (hE : fs ++ (rd_FrM k).1 = (rd_FrM L).1 ∧ b + (rd_FrM k).2.1 = (rd_FrM L).2.1 ∧ (rd_FrM k).2.2 = (rd_FrM L).2.2) (hw : Rdr wr R (bs l) n0) (hlt : k.length < l.length) : FeedRel w R L n v (w6.setCell ⟨R, 0, none⟩ (.string (seekS (bs k)))) ∧ rlen (w6.setCell ⟨R, 0, none⟩ (.string (seekS (bs k)))) R < rlen wr R := by
  have h7 := hR6.set0 (seekS (bs k))
  have hle : (k.dropWhile (fun x => x != 253)).length ≤ k.length := (List.dropWhile_suffix _).length_le
  refine ⟨⟨k.dropWhile (fun x => x != 253), fs, b, ?_, sought_drop k, own_kept hO hR ((Kept.refl R w6).set 0 _), hK.set 0 _, ?_, ?_, ?_, by omega⟩, ?_⟩
  · rw [← hm, ← seekS_bs]; exact h7
  · rw [rd_drop]; exact hE.1
  · rw [rd_drop]; exact hE.2.1
  · rw [rd_drop]; exact hE.2.2
  · rw [rlen_of h7, rlen_of hw, seekS_bs, bs_size, bs_size]; omega
theorem feed_any (w : World) (R : Nat) (s d : ByteArray) (n : Int) (h : Rdr w R s n) (hn0 : 0 ≤ n) (hn1 : n ≤ 65535) (hsz : s.size + d.size ≤ 281474976710656) (hfr : (rd_FrM (s.data.toList ++ d.data.toList)).1.length * 32 ≤ 140737488355328) :
    Calls Tryz.prog 181 #[.pointer (some ⟨R, 0, none⟩), .string d] w fun e w' => ∃ v, e = .returned v ∧ w'.ownsRow w.heap.size 324 3 v (rd_FrM (s.data.toList ++ d.data.toList)).1.length (cellsF (rd_FrM (s.data.toList ++ d.data.toList)).1) ∧ Rdr w' R (bs (rd_FrM (s.data.toList ++ d.data.toList)).2.2) (min (n + (rd_FrM (s.data.toList ++ d.data.toList)).2.1) 65535) ∧ Kept R w w' := by
  obtain ⟨L, HL⟩ : ∃ L, Hid (L = s.data.toList ++ d.data.toList) := ⟨_, rfl⟩
  rw [← HL.out] at hfr ⊢
  have HS : Hid ((s ++ d).data.toList = L) := by
    show _ = _
    rw [HL.out, ByteArray.data_append, Array.toList_append]
  have HZ : Hid (L.length ≤ 281474976710656) := by
    show _ ≤ _
    rw [HL.out, List.length_append, list_size, list_size]; exact hsz
  have h0 := h.c0
  have f0 := h.f0 0
  go_enter Tryz.func181, Tryz.ntmps181
  go_wp2_with fail
  refine (add_row w R s d n h (by omega)).mono ?_
  rintro e w1 ⟨rfl, hw1⟩
  have hR1 : Rdr w1 R (s ++ d) n := by rw [hw1]; exact h.set0 _
  have HK1 : Hid (Kept R w w1) := by show Kept R w w1; rw [hw1]; exact (Kept.refl R w).set 0 _
  clear hw1 h0 f0
  go_wp2_with fail
  refine (seek_row w1 R _ n hR1).mono ?_
  rintro e w2 ⟨rfl, hw2⟩
  have HR2 : Hid (Rdr w2 R (bs (L.dropWhile (fun x => x != 253))) n) := by
    show Rdr _ _ _ _
    rw [hw2]
    have := hR1.set0 (seekS (s ++ d))
    rw [seekS, HS.out] at this
    rw [seekS, HS.out]; exact this
  have HK2 : Hid (Kept R w w2) := by show Kept R w w2; rw [hw2]; exact HK1.out.set 0 _
  clear hw2 hR1
  have HStart : Hid (FeedRel w R L n (.slice none 0 0) w2) := by
    refine ⟨L.dropWhile (fun x => x != 253), [], 0, ?_, sought_drop L, World.ownsRow_nil _ _ _ _, HK2.out, ?_, ?_, ?_, (List.dropWhile_suffix _).length_le⟩
    · have := HR2.out
      rw [show min (n + ((0 : Nat) : Int)) 65535 = n by omega]
      exact this
    · rw [rd_drop]; rfl
    · rw [rd_drop]; simp
    · rw [rd_drop]
  go_wp2_with fail
  go_loopw [5] (fun v wx => FeedRel w R L n v wx) (fun _ wx => rlen wx R)
  case atStart => exact HStart.out
  case round =>
    obtain ⟨l, fs, b, hR, hso, hown, hK, e1, e2, e3, hlen⟩ := hrel
    have hz := HZ.out
    have hls : (bs l).size ≤ 9223372036854775807 := by rw [bs_size]; omega
    have hrip := ripe_row wr R (bs l) _ hR hls
    rw [bs_list] at hrip
    cases hr : ripeB l with
    | false =>
      have hst := rd_stop (step_unripe hso hr)
      rw [hst] at e1 e2 e3
      have HF : Hid (fs = (rd_FrM L).1 ∧ b = (rd_FrM L).2.1 ∧ l = (rd_FrM L).2.2) := ⟨by rw [← e1]; simp, by rw [← e2]; simp, e3⟩
      have HO : Hid (wr.ownsRow w.heap.size 324 3 u5 fs.length (cellsF fs)) := hown
      have HK : Hid (Kept R w wr) := hK
      have hls2 : (bs l).size ≤ 281474976710656 := by rw [bs_size]; omega
      have hlt := h.lt
      clear hown hK e1 e2 e3 hst hso hfr HStart HR2 HK2 HK1 HS HL
      rw [hr] at hrip
      clear hr
      go_wp2_with fail
      refine hrip.mono ?_
      rintro e w3 ⟨rfl, hw3⟩
      obtain rfl : wr = w3 := hw3.symm
      clear hrip
      go_wp2_with fail
      refine (hold_row wr R (bs l) _ hR hls2).mono ?_
      rintro e w4 ⟨rfl, hR4, w5, hB5, hw4⟩
      have HR4 : Hid (Rdr w4 R (bs l) (min (n + b) 65535)) := hR4
      have HK4 : Hid (Kept R w w4) := by
        show Kept R w w4
        rw [hw4]; exact (HK.out.below hB5).set 0 _
      have HO4 : Hid (w4.ownsRow w.heap.size 324 3 u5 fs.length (cellsF fs)) := by
        show World.ownsRow _ _ _ _ _ _ _
        rw [hw4]
        exact ownsRow_setCell_below (HO.out.kept (grown_below hB5 none) (by cases u5.ownBlock <;> simp)) (a := ⟨R, 0, none⟩) hlt _
      clear hR4 hB5 hw4
      go_wp2_with fail
      go_ret
      obtain ⟨g1, g2, g3⟩ := HF.out
      refine ⟨_, rfl, ?_, ?_, HK4.out⟩
      · rw [← g1]; exact HO4.out
      · rw [← g2, ← g3]; exact HR4.out
    | true =>
      by_cases hb : 64 < lenB l ∨ goodB l = false
      · have hst := step_bad hso hr hb
        have hcall := fun wx hx => first_bad wx R l (min (n + b) 65535) hx hr hb
        have HRD := rd_step hst
        rw [HRD] at e1 e2 e3
        have H2 : 2 ≤ l.length := (ripe_facts hr).1
        obtain ⟨m, hm⟩ : ∃ m, m = min (n + (b : Int)) 65535 := ⟨_, rfl⟩
        rw [← hm] at hR hcall
        have hm0 : 0 ≤ m := by omega
        have hm1 : m ≤ 65535 := by omega
        have HM : Hid (m = min (n + (b : Int)) 65535) := hm
        have HO : Hid (wr.ownsRow w.heap.size 324 3 u5 fs.length (cellsF fs)) := hown
        have HK : Hid (Kept R w wr) := hK
        have HE : Hid (fs ++ (rd_FrM (l.drop 1)).1 = (rd_FrM L).1 ∧ (b + 1) + (rd_FrM (l.drop 1)).2.1 = (rd_FrM L).2.1 ∧ (rd_FrM (l.drop 1)).2.2 = (rd_FrM L).2.2) := ⟨by simpa using e1, by simp only [] at e2; omega, e3⟩
        have hlt := h.lt
        rw [hr] at hrip
        clear hm hown hK e1 e2 e3 HRD hst hso hfr HStart HR2 HK2 HK1 HS HL hb hr
        go_wp2_with fail
        refine hrip.mono ?_
        rintro e w3 ⟨rfl, hw3⟩
        obtain rfl : wr = w3 := hw3.symm
        clear hrip
        go_wp2_with fail
        refine (hcall _ hR).mono ?_
        rintro e w4 ⟨rfl, hB4⟩
        have hR4 := hR.below hB4
        have hc1 := hR4.c1
        have hf1 := hR4.f0 1
        have hlt4 := hR4.lt
        have HB4 := hide hB4
        clear hB4 hcall
        go_wp2_with fail
        have hR5 := (hR4.set1 (min (m + 1) 65535)).alloc (Obj.cells #[Value.int IntKind.i64 0, Value.int IntKind.i64 0, Value.string { data := #[] }] 324)
        have HK5 : Hid (Kept R wr ((w4.setCell ⟨R, 1, none⟩ (.int .i64 (min (m + 1) 65535))).alloc (Obj.cells #[Value.int IntKind.i64 0, Value.int IntKind.i64 0, Value.string { data := #[] }] 324))) := (((Kept.refl R wr).below HB4.out).set 1 _).alloc _
        refine (pass_row _ R (bs l) _ hR5 1 (by rw [bs_size]; omega)).mono ?_
        rintro e w6 ⟨rfl, hw6⟩
        have HK6 : Hid (Kept R wr w6) := by show Kept R wr w6; rw [hw6]; exact HK5.out.set 0 _
        have hR6 : Rdr w6 R (bs (l.drop 1)) (min (m + 1) 65535) := by
          rw [hw6]
          have := hR5.set0 ((bs l).extract 1 (bs l).size)
          rw [extract_from, bs_list] at this ⊢
          exact this
        clear hw6 HK5 hR5 HB4 hlt4 hf1 hc1 hR4
        go_wp2_with fail
        refine (seek_row w6 R _ _ hR6).mono ?_
        rintro e w7 ⟨rfl, hw7⟩
        have HN := rel_next (n := n) (b := b + 1) (L := L) (l := l) hlt hR6 (by have := HM.out; push_cast; omega) hlen (Kept.trans HK.out HK6.out) (own_kept HO.out hlt HK6.out) HE.out hR (by rw [List.length_drop]; omega)
        rw [← hw7] at HN
        have HN := hide HN
        clear hw7 hR6
        go_wp2_with fail
        go_roundw
        case rel => exact HN.out.1
        case measure => exact HN.out.2
      · have h64 : lenB l ≤ 64 := by omega
        have hg : goodB l = true := by
          cases hg : goodB l with
          | false => exact absurd (Or.inr hg) hb
          | true => rfl
        have hst := step_ok hso hr h64 hg
        have hcall := fun wx hx => first_ok wx R l (min (n + b) 65535) hx hr h64 hg
        have H6 : 6 + lenB l ≤ l.length := by have := (ripe_facts hr).2; omega
        have hps : (frB l).2.2.size = lenB l := by
          show (((l.drop 4).take (lenB l)).toArray).size = _
          rw [List.size_toArray, List.length_take, List.length_drop]; omega
        have HRD := rd_step hst
        rw [HRD] at e1 e2 e3
        have HFB : Hid ((fs.length + 1) * 32 ≤ 140737488355328) := by
          show _ ≤ _
          have := congrArg List.length e1
          simp at this
          omega
        have HE : Hid ((fs ++ [frB l]) ++ (rd_FrM (l.drop (6 + lenB l))).1 = (rd_FrM L).1 ∧ b + (rd_FrM (l.drop (6 + lenB l))).2.1 = (rd_FrM L).2.1 ∧ (rd_FrM (l.drop (6 + lenB l))).2.2 = (rd_FrM L).2.2) := ⟨by simpa using e1, by simp only [] at e2; omega, e3⟩
        have HO : Hid (wr.ownsRow w.heap.size 324 3 u5 fs.length (cellsF fs)) := hown
        have HK : Hid (Kept R w wr) := hK
        have hlt := h.lt
        rw [hr] at hrip
        obtain ⟨m, hm⟩ : ∃ m, m = min (n + (b : Int)) 65535 := ⟨_, rfl⟩
        rw [← hm] at hR hcall
        have HM : Hid (m = min (n + (b : Int)) 65535) := hm
        clear hm hown hK e1 e2 e3 HRD hst hso hfr HStart HR2 HK2 HK1 HS HL hb hr hg
        generalize frB l = f at hcall hps HE
        generalize lenB l = q at h64 H6 hps HE
        obtain ⟨t, ht⟩ : ∃ t, 6 + q = t := ⟨_, rfl⟩
        have hwr : IntKind.i64.wrap (6 + (q : Int)) = (t : Int) := by rw [IntKind.wrap_i64]; omega
        rw [ht] at HE H6
        have HT : Hid (6 + q = t) := ht
        clear ht
        obtain ⟨i0, hi, hz0, hz1, hz2⟩ := info_parts info_frame
        go_wp2_with fail
        refine hrip.mono ?_
        rintro e w3 ⟨rfl, hw3⟩
        obtain rfl : wr = w3 := hw3.symm
        clear hrip
        go_wp2_with fail
        refine (hcall _ hR).mono ?_
        rintro e w4 ⟨rfl, hB4⟩
        have HB4 := hide hB4
        have hR4 := hR.below hB4
        have hlt4 := hR4.lt
        have hc0 := hR4.c0
        clear hB4 hcall
        have HO4 : Hid (((w4.alloc (.cells #[.int .i64 f.1, .int .i64 f.2.1, .string f.2.2] 324)).alloc (.cells #[.int .i64 f.1, .int .i64 f.2.1, .string f.2.2] 324)).ownsRow w.heap.size 324 3 u5 fs.length (cellsF fs)) := own_kept HO.out hlt ((((Kept.refl R wr).below HB4.out).alloc _).alloc _)
        have hws : w.heap.size ≤ w4.heap.size := Nat.le_trans HK.out.size HB4.out.size
        go_wp2_with (at_builtin; refine wpList_append_own _ rfl (.tmp 35) (.tmp 37) 321 rfl w.heap.size 324 i0 _ 3 32 Tryz.underlying321 hi hz0 hz1 hz2 rfl (by decide) _ _ _ rfl HO4.out ⟨w4.heap.size + 1, 0, none⟩ 1 1 [.int .i64 f.1, .int .i64 f.2.1, .string f.2.2] rfl rfl ?c1 ?c2 ?c3 ?c4 ?c5 ?_)
        case c1 => exact new_cells _ _ (size_alloc _ _).symm _ _ _ _
        case c2 => exact one_cells _ _ _
        case c3 => have := HFB.out; unfold maxLen; omega
        case c4 => exact HFB.out
        case c5 => rw [size_alloc, size_alloc]; omega
        intro v' w5 hown5 hgrow5 _
        have hub : ∀ k, u5.ownBlock = some k → w.heap.size ≤ k ∧ k < w4.heap.size := fun k e => ⟨(HO.out.lt k e).1, Nat.lt_of_lt_of_le (HO.out.lt k e).2 HB4.out.size⟩
        have HK5 : Hid (Kept R w w5) := (((HK.out.below HB4.out).alloc _).alloc _).step hgrow5 (fun k e => .inl (hub k e).1)
        have hR5 : Rdr w5 R (bs l) m := ((hR4.alloc _).alloc _).grown hgrow5 (fun e => by have := (hub R e).1; omega)
        have hF5 : Frm w5 w4.heap.size (.int .i64 f.1) (.int .i64 f.2.1) (.string f.2.2) := by
          have h1 := (frm_new w4 (.int .i64 f.1) (.int .i64 f.2.1) (.string f.2.2)).below (below_alloc _ (.cells #[.int .i64 f.1, .int .i64 f.2.1, .string f.2.2] 324))
          exact (hgrow5.block w4.heap.size (by rw [size_alloc, size_alloc]; omega) (fun e => by have := (hub _ e.symm).2; omega)).trans h1
        have HO5 : Hid (w5.ownsRow w.heap.size 324 3 v' (fs ++ [f]).length (cellsF (fs ++ [f]))) := by
          show World.ownsRow _ _ _ _ _ _ _
          rw [cellsF_app, cellsF_one, List.length_append]; exact hown5
        have hc2 := hF5.c2
        have HR5 : Hid (Rdr w5 R (bs l) m) := hR5
        have hne5 : R ≠ w4.heap.size := by omega
        clear hown5 hgrow5 hub hR5 hF5 HO4 HO HK HB4 hR4 hlt4 hc0 hws hi hz0 hz1 hz2
        go_wp2_with fail
        go_region_held3 (fun wx => wx.cell? ⟨w4.heap.size, 2, none⟩ = some (.string f.2.2)) (go_keep) (first | (go_at_call 265; refine (pass_row _ R (bs l) m (show Rdr w5.drew R (bs l) m from HR5.out) t (by rw [bs_size]; exact H6)).mono ?_; rintro e w6 ⟨rfl, hw6⟩; have hc6 : w6.cell? ⟨w4.heap.size, 2, none⟩ = some (.string f.2.2) := (by rw [hw6]; exact (World.cell?_of_block (w := w5.drew) (a := ⟨w4.heap.size, 2, none⟩) (Below.heap_setCell _ _ _ _ hne5.symm)).trans hc2); have HW6 := hide hw6; clear hw6))
        have HK6 : Hid (Kept R w5 w6) := by
          show Kept R w5 w6
          rw [HW6.out]
          exact Kept.trans (show Kept R w5 w5.drew from ⟨rfl, rfl, rfl, Nat.le_refl _, fun _ _ _ => rfl⟩) ((Kept.refl R w5.drew).set 0 _)
        have hR6 : Rdr w6 R (bs (l.drop t)) m := by
          rw [HW6.out]
          have := Rdr.set0 (show Rdr w5.drew R (bs l) m from HR5.out) ((bs l).extract t (bs l).size)
          rw [extract_from, bs_list] at this ⊢
          exact this
        clear hc6 hc2
        go_wp2_with fail
        refine (seek_row w6 R _ _ hR6).mono ?_
        rintro e w7 ⟨rfl, hw7⟩
        have HN := rel_next (n := n) (b := b) (L := L) (l := l) hlt hR6 HM.out hlen (Kept.trans HK5.out HK6.out) (own_kept HO5.out hlt HK6.out) HE.out hR (by have := HT.out; rw [List.length_drop]; omega)
        rw [← hw7] at HN
        have HN := hide HN
        clear hw7 hR6
        go_wp2_with fail
        go_roundw
        case rel => exact HN.out.1
        case measure => exact HN.out.2
end Go.Proofs.YtapfaaaepnplcaaGreatDoor
set_option maxRecDepth 100000
set_option maxHeartbeats 1000000
namespace Go.Proofs.YtapfaaaepnplcaaGreatDoor
open Go.RowKit Go.Great
theorem bad_any (w : World) (R : Nat) (s : ByteArray) (n : Int) (h : Rdr w R s n) : Calls Tryz.prog 66 #[.pointer (some ⟨R, 0, none⟩)] w fun e w' => e = .returned (.int .i64 n) ∧ w' = w := by
  have h1 := h.c1
  go_enter Tryz.func66, Tryz.ntmps66
  go_wp2
  go_ret
  exact ⟨rfl, rfl⟩
theorem feed_nil (w : World) (d : ByteArray) : Calls Tryz.prog 181 #[.pointer none, .string d] w fun e w' => e = .returned (.slice none 0 0) ∧ w' = w := by
  go_enter Tryz.func181, Tryz.ntmps181
  go_wp2
  go_ret
  exact ⟨rfl, rfl⟩
theorem bad_nil (w : World) : Calls Tryz.prog 66 #[.pointer none] w fun e w' => e = .returned (.int .i64 0) ∧ w' = w := by
  go_enter Tryz.func66, Tryz.ntmps66
  go_wp2
  go_ret
  exact ⟨rfl, rfl⟩
theorem conv_row (l : List UInt8) (w : World) (cs : Array Value) (hc : cs.toList = l.map fun x => Value.int .u8 (x.toNat : Int)) (n : Nat) (hn : n = l.length) (c : Nat) (g : Nat) (hg : g = w.heap.size) : (convert 77 9 (.slice (some ⟨g, 0, none⟩) n c)).run Tryz.prog (w.alloc (.cells cs 5)) = .ok (.string (bs l)) (w.alloc (.cells cs 5)) := by
  subst hn hg
  refine run_convert_bytes_back _ 77 9 5 ⟨w.heap.size, 0, none⟩ c l (by kernel_rfl) (by kernel_rfl) (by kernel_rfl) ?_
  intro j hj
  rw [show (Addr.add ⟨w.heap.size, 0, none⟩ j) = ⟨w.heap.size, j, none⟩ by simp [Addr.add]; exact fun h => h.symm, World.cell?_alloc_mark, ← Array.getElem?_toList, hc]
  simp [hj]
theorem enc_shape (n s i : UInt8) (p : ByteArray) : bs [253] ++ (bs [n, s, i] ++ p) ++ twoB (chk_FrM (n :: s :: i :: p.data.toList) i) = bs (encL n s i p.data.toList) := by
  apply bs_ext
  simp [ByteArray.data_append, bs, twoB, encL]
theorem encode_bytes (n s i : UInt8) (p : ByteArray) (hn : (p.size : Int) = (n.toNat : Int)) (h64 : n.toNat ≤ 64) (w : World) : Calls Tryz.prog 190 #[.agg #[.int .i64 (s.toNat : Int), .int .i64 (i.toNat : Int), .string p]] w fun e w' => e = .returned (.tuple #[.string (bs (encL n s i p.data.toList)), .int .i64 0]) ∧ Below w.heap.size w w' := by
  have hs := s.toNat_lt
  have hi := i.toNat_lt
  have hI1 := fun w => isByte_any (s.toNat : Int) w
  have hI2 := fun w => isByte_any (i.toNat : Int) w
  rw [show decide (0 ≤ (s.toNat : Int) ∧ (s.toNat : Int) ≤ 255) = true by simp; omega] at hI1
  rw [show decide (0 ≤ (i.toNat : Int) ∧ (i.toNat : Int) ≤ 255) = true by simp; omega] at hI2
  have hc3 : ∀ (wx : World) (g : Nat), g = wx.heap.size → (convert 77 9 (.slice (some ⟨g, 0, none⟩) 3 3)).run Tryz.prog (wx.alloc (.cells #[.int .u8 (n.toNat : Int), .int .u8 (s.toNat : Int), .int .u8 (i.toNat : Int)] 5)) = .ok (.string (bs [n, s, i])) (wx.alloc (.cells #[.int .u8 (n.toNat : Int), .int .u8 (s.toNat : Int), .int .u8 (i.toNat : Int)] 5)) := fun wx g hg => conv_row [n, s, i] wx _ rfl 3 rfl 3 g hg
  have hc1 : ∀ (wx : World) (g : Nat), g = wx.heap.size → (convert 77 9 (.slice (some ⟨g, 0, none⟩) 1 1)).run Tryz.prog (wx.alloc (.cells #[.int .u8 253] 5)) = .ok (.string (bs [253])) (wx.alloc (.cells #[.int .u8 253] 5)) := fun wx g hg => conv_row [253] wx _ rfl 1 rfl 1 g hg
  have hs3 := bs_size [n, s, i]
  have hs1 := bs_size [253]
  simp only [List.length_cons, List.length_nil] at hs3 hs1
  have ha1 : ∀ wx, (Op.stringOp .add (bs [n, s, i]) p).run Tryz.prog wx = .ok (.string (bs [n, s, i] ++ p)) wx := fun wx => run_string_add_sum wx _ _ (by omega)
  have hbz : (bs [n, s, i] ++ p).size = 3 + p.size := by rw [ByteArray.size_append]; omega
  have hb2 : 2 < (bs [n, s, i] ++ p).size := by omega
  have hck := fun w => check_any_Fr2 (bs [n, s, i] ++ p) hb2 (by omega) w
  have hel : (bs [n, s, i] ++ p).data.toList = n :: s :: i :: p.data.toList := by simp [ByteArray.data_append, bs]
  rw [← getD_at_Fr2 _ 2 hb2, hel] at hck
  have ha2 : ∀ wx, (Op.stringOp .add (bs [253]) (bs [n, s, i] ++ p)).run Tryz.prog wx = .ok (.string (bs [253] ++ (bs [n, s, i] ++ p))) wx := fun wx => run_string_add_sum wx _ _ (by omega)
  have HZ := enc_shape n s i p
  have hcg : (n :: s :: i :: p.data.toList).getD 2 0 = i := rfl
  rw [hcg] at hck
  generalize chk_FrM (n :: s :: i :: p.data.toList) i = c at hck HZ
  have hct : ∀ (wx : World) (g : Nat), g = wx.heap.size → (convert 77 9 (.slice (some ⟨g, 0, none⟩) 2 2)).run Tryz.prog (wx.alloc (.cells #[.int .u8 ((c.toNat : Int) % 256), .int .u8 ((c.toNat : Int) / 256)] 5)) = .ok (.string (twoB c)) (wx.alloc (.cells #[.int .u8 ((c.toNat : Int) % 256), .int .u8 ((c.toNat : Int) / 256)] 5)) := fun wx g hg => by subst hg; exact conv_two wx c
  have htz : (twoB c).size = 2 := rfl
  have ha3 : ∀ wx, (Op.stringOp .add (bs [253] ++ (bs [n, s, i] ++ p)) (twoB c)).run Tryz.prog wx = .ok (.string (bs [253] ++ (bs [n, s, i] ++ p) ++ twoB c)) wx := fun wx => run_string_add_sum wx _ _ (by rw [ByteArray.size_append]; omega)
  generalize bs [n, s, i] ++ p = b at ha1 ha2 ha3 HZ hck
  generalize bs [n, s, i] = b3 at hc3 ha1
  generalize bs [253] = b1 at hc1 ha2 ha3 HZ
  generalize b1 ++ b = b4 at ha2 ha3 HZ
  generalize twoB c = b5 at hct ha3 HZ
  generalize b4 ++ b5 = b6 at ha3 HZ
  have hcl := c.isLt
  have HZ' := hide HZ
  clear HZ hs3 hs1 hbz hb2 hel hcg htz
  go_enter Tryz.func190, Tryz.ntmps190
  go_wp2_with fail
  refine (hI1 _).mono ?_
  rintro e w1 ⟨rfl, hw1⟩
  subst hw1
  go_wp2_with fail
  refine (hI2 _).mono ?_
  rintro e w2 ⟨rfl, hw2⟩
  subst hw2
  go_wp2_with fail
  refine (hck _).mono ?_
  rintro e w3 ⟨rfl, hB3⟩
  have HB3 := hide hB3
  clear hB3
  go_wp2_with fail
  go_ret2
  rw [HZ'.out]
  exact ⟨rfl, below_next (below_next (below_over (below_over HB3.out)) (Nat.le_refl _) (below_alloc _ _)) (Nat.le_refl _) (below_alloc _ _)⟩
theorem encode_range (a b : Int) (p : ByteArray) (h : ¬ (0 ≤ a ∧ a ≤ 255) ∨ ¬ (0 ≤ b ∧ b ≤ 255)) (w : World) : Calls Tryz.prog 190 #[.agg #[.int .i64 a, .int .i64 b, .string p]] w fun e w' => e = .returned (.tuple #[.string ⟨#[]⟩, .int .i64 5]) ∧ Below w.heap.size w w' := by
  have hI1 := fun w => isByte_any a w
  have hI2 := fun w => isByte_any b w
  by_cases ha : 0 ≤ a ∧ a ≤ 255
  · have hb : ¬ (0 ≤ b ∧ b ≤ 255) := by omega
    rw [show decide (0 ≤ a ∧ a ≤ 255) = true by simpa using ha] at hI1
    rw [show decide (0 ≤ b ∧ b ≤ 255) = false by simpa using hb] at hI2
    clear h ha hb
    go_enter Tryz.func190, Tryz.ntmps190
    go_wp2_with fail
    refine (hI1 _).mono ?_
    rintro e w1 ⟨rfl, hw1⟩
    subst hw1
    go_wp2_with fail
    refine (hI2 _).mono ?_
    rintro e w2 ⟨rfl, hw2⟩
    subst hw2
    go_wp2_with fail
    go_ret2
    exact ⟨rfl, below_alloc _ _⟩
  · rw [show decide (0 ≤ a ∧ a ≤ 255) = false by simpa using ha] at hI1
    clear h ha hI2
    go_enter Tryz.func190, Tryz.ntmps190
    go_wp2_with fail
    refine (hI1 _).mono ?_
    rintro e w1 ⟨rfl, hw1⟩
    subst hw1
    go_wp2_with fail
    go_ret2
    exact ⟨rfl, below_alloc _ _⟩
theorem encode_size (a b : Int) (p : ByteArray) (ha : 0 ≤ a ∧ a ≤ 255) (hb : 0 ≤ b ∧ b ≤ 255) (h64 : 64 < p.size) (w : World) : Calls Tryz.prog 190 #[.agg #[.int .i64 a, .int .i64 b, .string p]] w fun e w' => e = .returned (.tuple #[.string ⟨#[]⟩, .int .i64 3]) ∧ Below w.heap.size w w' := by
  have hI1 := fun w => isByte_any a w
  have hI2 := fun w => isByte_any b w
  rw [show decide (0 ≤ a ∧ a ≤ 255) = true by simpa using ha] at hI1
  rw [show decide (0 ≤ b ∧ b ≤ 255) = true by simpa using hb] at hI2
  clear ha hb
  go_enter Tryz.func190, Tryz.ntmps190
  go_wp2_with fail
  refine (hI1 _).mono ?_
  rintro e w1 ⟨rfl, hw1⟩
  subst hw1
  go_wp2_with fail
  refine (hI2 _).mono ?_
  rintro e w2 ⟨rfl, hw2⟩
  subst hw2
  go_wp2_with fail
  go_ret2
  exact ⟨rfl, below_alloc _ _⟩
/-- what Encode answers -/
def encV (f : Fr) : ByteArray × Int :=
  if (0 ≤ f.1 ∧ f.1 ≤ 255) ∧ (0 ≤ f.2.1 ∧ f.2.1 ≤ 255) then if f.2.2.size ≤ 64 then (bs (encF f), 0) else (⟨#[]⟩, 3) else (⟨#[]⟩, 5)
theorem encV_right {f : Fr} (h : Right f) : encV f = (bs (encF f), 0) := by
  obtain ⟨h1, h2, h3, h4, h5⟩ := h
  unfold encV
  rw [if_pos ⟨⟨h1, h2⟩, h3, h4⟩, if_pos h5]
theorem encV_wrong {f : Fr} (h : ¬ Right f) : (encV f).1 = ⟨#[]⟩ ∧ (encV f).2 ≠ 0 := by
  unfold encV
  by_cases h1 : (0 ≤ f.1 ∧ f.1 ≤ 255) ∧ (0 ≤ f.2.1 ∧ f.2.1 ≤ 255)
  · by_cases h2 : f.2.2.size ≤ 64
    · exact absurd ⟨h1.1.1, h1.1.2, h1.2.1, h1.2.2, h2⟩ h
    · rw [if_pos h1, if_neg h2]; simp
  · rw [if_neg h1]; simp
theorem encode_any (f : Fr) (w : World) : Calls Tryz.prog 190 #[.agg #[.int .i64 f.1, .int .i64 f.2.1, .string f.2.2]] w fun e w' => e = .returned (.tuple #[.string (encV f).1, .int .i64 (encV f).2]) ∧ Below w.heap.size w w' := by
  obtain ⟨a, b, p⟩ := f
  unfold encV
  by_cases h1 : (0 ≤ a ∧ a ≤ 255) ∧ (0 ≤ b ∧ b ≤ 255)
  · rw [if_pos h1]
    by_cases h2 : p.size ≤ 64
    · rw [if_pos h2]
      obtain ⟨⟨h3, h4⟩, h5, h6⟩ := h1
      have ea : ((UInt8.ofNat a.toNat).toNat : Int) = a := by rw [UInt8.toNat_ofNat']; omega
      have eb : ((UInt8.ofNat b.toNat).toNat : Int) = b := by rw [UInt8.toNat_ofNat']; omega
      have en : ((UInt8.ofNat p.size).toNat : Int) = p.size := by rw [UInt8.toNat_ofNat']; omega
      have := encode_bytes (UInt8.ofNat p.size) (UInt8.ofNat a.toNat) (UInt8.ofNat b.toNat) p en.symm (by omega) w
      rw [ea, eb] at this
      exact this
    · rw [if_neg h2]
      exact encode_size a b p h1.1 h1.2 (by omega) w
  · rw [if_neg h1]
    refine encode_range a b p ?_ w
    rcases Decidable.not_and_iff_or_not.1 h1 with h | h
    · exact .inl h
    · exact .inr h
end Go.Proofs.YtapfaaaepnplcaaGreatDoor
