/- The frame at the mark. -/
import Derived.Test.YtgdjphiicgiegaaFr2
import Derived.Deep.RegionHeld3
namespace Go.Proofs.Ytgdjphiicgiegaa
open Go.RowKit Go.Great

theorem or_word (a b : UInt8) : bits .or .u16 (a.toNat : Int) ((b.toNat : Int) * 256) = ((word a b).toNat : Int) := by
  have ha := a.toNat_lt
  have hb := b.toNat_lt
  have e1 : BitVec.ofInt 16 (a.toNat : Int) = BitVec.ofNat 16 a.toNat := by
    apply BitVec.eq_of_toNat_eq; rw [BitVec.toNat_ofInt, BitVec.toNat_ofNat]; omega
  have e2 : BitVec.ofInt 16 ((b.toNat : Int) * 256) = BitVec.ofNat 16 (256 * b.toNat) := by
    apply BitVec.eq_of_toNat_eq; rw [BitVec.toNat_ofInt, BitVec.toNat_ofNat]; omega
  show IntKind.u16.wrap ((BitVec.ofInt 16 (a.toNat : Int) ||| BitVec.ofInt 16 ((b.toNat : Int) * 256)).toNat : Int) = _
  rw [e1, e2, wrap16]
  congr 1
  rw [BitVec.toNat_or, BitVec.toNat_ofNat, BitVec.toNat_ofNat, Nat.mod_eq_of_lt (by omega : a.toNat < 2 ^ 16), Nat.mod_eq_of_lt (by omega : 256 * b.toNat < 2 ^ 16), word_nat, Nat.or_comm, show 256 = 2 ^ 8 from rfl, ← Nat.two_pow_add_eq_or_of_lt (by omega : a.toNat < 2 ^ 8)]
  omega
/-- a variable that holds a frame -/
def Frm (w : World) (g : Nat) (x y z : Value) : Prop := w.heap[g]? = some (.cells #[x, y, z] 28 (0, 0))
theorem Frm.c0 {w : World} {g : Nat} {x y z : Value} (h : Frm w g x y z) : w.cell? ⟨g, 0, none⟩ = some x := by
  unfold Frm at h; simp [World.cell?, h]
theorem Frm.c1 {w : World} {g : Nat} {x y z : Value} (h : Frm w g x y z) : w.cell? ⟨g, 1, none⟩ = some y := by
  unfold Frm at h; simp [World.cell?, h]
theorem Frm.c2 {w : World} {g : Nat} {x y z : Value} (h : Frm w g x y z) : w.cell? ⟨g, 2, none⟩ = some z := by
  unfold Frm at h; simp [World.cell?, h]
theorem Frm.fz {w : World} {g : Nat} {x y z : Value} (h : Frm w g x y z) (i : Nat) : w.frozen? ⟨g, i, none⟩ = false := by
  unfold Frm at h; simp [World.frozen?, h]
theorem Frm.lt {w : World} {g : Nat} {x y z : Value} (h : Frm w g x y z) : g < w.heap.size := lt_of_block h
theorem Frm.below {w w' : World} {g : Nat} {x y z : Value} (h : Frm w g x y z) (hb : Below w.heap.size w w') : Frm w' g x y z := by
  unfold Frm at h ⊢; rw [hb.block g (lt_of_block h), h]
theorem heap_set {w : World} {g : Nat} {cs : Array Value} {t : TypeId} {fr : Nat × Nat} (h : w.heap[g]? = some (.cells cs t fr)) (i : Nat) (u : Value) : (w.setCell ⟨g, i, none⟩ u).heap[g]? = some (.cells (cs.setIfInBounds i u) t fr) := by
  have hlt := lt_of_block h
  have h' : w.heap[g] = .cells cs t fr := by simpa [Array.getElem?_eq_getElem hlt] using h
  show (w.heap.modify g _)[g]? = _
  rw [Array.getElem?_eq_getElem (by simpa using hlt), Array.getElem_modify_self, h']
  rfl
theorem Frm.set {w : World} {g : Nat} {x y z : Value} (h : Frm w g x y z) (a b c : Value) : Frm (((w.setCell ⟨g, 0, none⟩ a).setCell ⟨g, 1, none⟩ b).setCell ⟨g, 2, none⟩ c) g a b c := by
  have := heap_set (heap_set (heap_set h 0 a) 1 b) 2 c
  simpa [Frm] using this
theorem below_set3 {B : Nat} {w w1 : World} {g : Nat} (h : Below B w w1) (hg : B ≤ g) (a b c : Value) : Below B w (((w1.setCell ⟨g, 0, none⟩ a).setCell ⟨g, 1, none⟩ b).setCell ⟨g, 2, none⟩ c) :=
  ((h.setCell (p := ⟨g, 0, none⟩) hg a).setCell (p := ⟨g, 1, none⟩) hg b).setCell (p := ⟨g, 2, none⟩) hg c
theorem frm_new (w : World) (x y z : Value) : Frm (w.alloc (.cells #[x, y, z] 28)) w.heap.size x y z := heap_alloc_new _ _
theorem Frm.drewN {w : World} {g : Nat} {x y z : Value} (h : Frm w g x y z) (n : Nat) : Frm (w.drewN n) g x y z := by
  induction n with
  | zero => exact h
  | succ n ih => exact ih
theorem below_drewN {B : Nat} {w w1 : World} (h : Below B w w1) (n : Nat) : Below B w (w1.drewN n) := by
  induction n with
  | zero => exact h
  | succ n ih => exact ih.drew
theorem cell_set3 {w : World} {R g : Nat} (h : R ≠ g) (a b c : Value) : (((w.setCell ⟨g, 0, none⟩ a).setCell ⟨g, 1, none⟩ b).setCell ⟨g, 2, none⟩ c).cell? ⟨R, 0, none⟩ = w.cell? ⟨R, 0, none⟩ :=
  World.cell?_of_block (a := ⟨R, 0, none⟩) ((Below.heap_setCell _ _ _ _ h).trans ((Below.heap_setCell _ _ _ _ h).trans (Below.heap_setCell _ _ _ _ h)))
theorem below_undrew {w w' : World} (h : Below w.drew.heap.size w.drew w') : Below w.heap.size w w' := ⟨h.os, h.tape, h.output, h.size, h.block⟩
theorem first_back (tmps : Array Value) (w : World) (g : Nat) (x y z : Value) (fr : Nat × Nat) (b : Bool) (hp : tmps.getD 2 undef = .pointer (some ⟨g, 0, none⟩)) (hq : tmps.getD 3 undef = .bool b) (hg : w.heap[g]? = some (.cells #[x, y, z] 28 fr)) : (results Try.f38 tmps).run Try.prog w = .ok (.tuple #[.agg #[x, y, z], .bool b]) w := by
  rw [results_cell_tmp Try.results38]
  have := run_loadVar_row (P := Try.prog) w g 28 28 #[x, y, z] fr _ hg Try.underlying28 rfl (by kernel_rfl)
  rw [hp, hq]
  simp [asAddr, this, Result.andThen]
theorem cut_run (s : ByteArray) (a b : Nat) (h1 : a ≤ b) (h2 : b ≤ s.size) (wx : World) : (Instr.slice 9 (.string s) (some (.int .i64 a)) (some (.int .i64 b)) none).run Try.prog wx = .ok (.string (s.extract a b)) wx := by
  rw [run_slice_string wx 9 s .i64 .i64 a b Try.underlying9 (by omega) (by omega) (by omega)]
  simp
theorem first_long (w : World) (R : Nat) (s : ByteArray) (n : Int) (h : Rdr w R s n) (h1 : 1 < s.size) (h64 : 64 < s[1].toNat) : Calls Try.prog 38 #[.pointer (some ⟨R, 0, none⟩)] w fun e w' => e = .returned (.tuple #[.agg #[.int .i64 0, .int .i64 0, .string ⟨#[]⟩], .bool false]) ∧ Below w.heap.size w w' := by
  have h0 := h.c0
  have hlt := h.lt
  have hb := s[1].toNat_lt
  go_enter Try.func38, Try.ntmps38
  go_wp2
  refine bodyPost_ret (first_back _ _ w.heap.size _ _ _ _ _ rfl rfl (heap_alloc_new _ _)) rfl ?_
  exact ⟨rfl, below_alloc _ _⟩
set_option maxHeartbeats 1000000 in
theorem first_wrong (w : World) (R : Nat) (s : ByteArray) (n : Int) (h : Rdr w R s n) (h1 : 1 < s.size) (k j j1 : Nat) (hk : s[1].toNat = k) (h64 : k ≤ 64) (hj : (4 : Int) + (k : Int) = (j : Int)) (hj1 : (j : Int) + 1 = (j1 : Int)) (h5 : j1 < s.size) (h4 : j < s.size) (b : ByteArray) (hb : s.extract 1 j = b) (hb2 : 2 < b.size) (hbs : b.size ≤ 100) (hne : chk b.data.toList b[2] ≠ word s[j] s[j1]) : Calls Try.prog 38 #[.pointer (some ⟨R, 0, none⟩)] w fun e w' => e = .returned (.tuple #[.agg #[.int .i64 0, .int .i64 0, .string ⟨#[]⟩], .bool false]) ∧ Below w.heap.size w w' := by
  have h0 := h.c0
  have hlt := h.lt
  have hor := or_word s[j] s[j1]
  have hl4 := s[j].toNat_lt
  have hl5 := s[j1].toNat_lt
  have hj4 : 1 ≤ j := by omega
  have hck := fun w => check_any b hb2 (by omega) w
  generalize chk b.data.toList b[2] = c at hne hck
  generalize word s[j] s[j1] = d at hne hor
  have hsl : ∀ wx, (Instr.slice 9 (.string s) (some (.int .i64 1)) (some (.int .i64 j)) none).run Try.prog wx = .ok (.string b) wx := fun wx => by rw [← hb]; exact cut_run s 1 j hj4 (by omega) wx
  clear hb
  have hne2 : ((c.toNat : Int) == (d.toNat : Int)) = false := beq_no fun e => hne (BitVec.eq_of_toNat_eq e)
  go_enter Try.func38, Try.ntmps38
  go_wp2
  go_quiet (fail)
  go_wp2_with fail
  refine (hck _).mono ?_
  rintro e w1 ⟨rfl, hB1⟩
  have hF1 := ((frm_new w (.int .i64 0) (.int .i64 0) (.string ⟨#[]⟩)).drewN nq).below hB1
  have c0 := hF1.c0
  have c1 := hF1.c1
  have c2 := hF1.c2
  have fz := hF1.fz
  have HB : Hid (Below w.heap.size w w1) := below_next (below_drewN (below_alloc w _) nq) (Nat.le_refl _) hB1
  clear hB1
  go_wp2_with fail
  refine bodyPost_ret (first_back _ _ w.heap.size _ _ _ _ _ rfl rfl (hF1.set _ _ _)) rfl ?_
  exact ⟨rfl, below_set3 HB.out (Nat.le_refl _) _ _ _⟩
set_option maxHeartbeats 800000 in
theorem first_good (w : World) (R : Nat) (s : ByteArray) (n : Int) (h : Rdr w R s n) (h1 : 1 < s.size) (k j j1 : Nat) (hk : s[1].toNat = k) (h64 : k ≤ 64) (hj : (4 : Int) + (k : Int) = (j : Int)) (hj1 : (j : Int) + 1 = (j1 : Int)) (h5 : j1 < s.size) (h4 : j < s.size) (h2 : 2 < s.size) (h3 : 3 < s.size) (b p : ByteArray) (hb : s.extract 1 j = b) (hp : s.extract 4 j = p) (hps : p.size ≤ 64) (hb2 : 2 < b.size) (hbs : b.size ≤ 100) (hne : chk b.data.toList b[2] = word s[j] s[j1]) : Calls Try.prog 38 #[.pointer (some ⟨R, 0, none⟩)] w fun e w' => e = .returned (.tuple #[.agg #[.int .i64 (s[2].toNat : Int), .int .i64 (s[3].toNat : Int), .string p], .bool true]) ∧ Below w.heap.size w w' := by
  have h0 := h.c0
  have hlt := h.lt
  have hor := or_word s[j] s[j1]
  have hl4 := s[j].toNat_lt
  have hl5 := s[j1].toNat_lt
  have hl2 := s[2].toNat_lt
  have hl3 := s[3].toNat_lt
  have hj4 : 4 ≤ j := by omega
  have hck := fun w => check_any b hb2 (by omega) w
  rw [hne] at hck
  clear hne
  generalize word s[j] s[j1] = d at hor hck
  have hsl : ∀ wx, (Instr.slice 9 (.string s) (some (.int .i64 1)) (some (.int .i64 j)) none).run Try.prog wx = .ok (.string b) wx := fun wx => by rw [← hb]; exact cut_run s 1 j (by omega) (by omega) wx
  have hsp : ∀ wx, (Instr.slice 9 (.string s) (some (.int .i64 4)) (some (.int .i64 j)) none).run Try.prog wx = .ok (.string p) wx := fun wx => by rw [← hp]; exact cut_run s 4 j (by omega) (by omega) wx
  clear hb hp
  have hne2 : ((d.toNat : Int) == (d.toNat : Int)) = true := by simp
  go_enter Try.func38, Try.ntmps38
  go_wp2
  go_quiet (fail)
  go_wp2_with fail
  refine (hck _).mono ?_
  rintro e w1 ⟨rfl, hB1⟩
  have hF1 := ((frm_new w (.int .i64 0) (.int .i64 0) (.string ⟨#[]⟩)).drewN nq).below hB1
  have HB : Hid (Below w.heap.size w w1) := below_next (below_drewN (below_alloc w _) nq) (Nat.le_refl _) hB1
  have hR1 := h.below HB.out
  have r0 := hR1.c0
  have c0 := hF1.c0
  have c1 := hF1.c1
  have c2 := hF1.c2
  have fz := hF1.fz
  have HF : Hid (Frm w1 w.heap.size (.int .i64 0) (.int .i64 0) (.string ⟨#[]⟩)) := hF1
  have HR : Hid (Rdr w1 R s n) := hR1
  clear hB1 hck hsl hF1 hR1
  go_wp2_with fail
  clear h h0 hk hor hj1 hl4 hl5 hb2 hbs h64 hj4 hne2
  have hRg : R ≠ w.heap.size := by omega
  have hw2 : IntKind.i64.wrap (s[2].toNat : Int) = (s[2].toNat : Int) := by rw [IntKind.wrap_i64]; omega
  have hw3 : IntKind.i64.wrap (s[3].toNat : Int) = (s[3].toNat : Int) := by rw [IntKind.wrap_i64]; omega
  go_region_held3 (fun wx => wx.cell? ⟨R, 0, none⟩ = some (.string s)) (first | go_keep | exact (cell_set3 hRg _ _ _).trans (by assumption)) (first | (go_at_call 48; refine (clone_any p _ (by omega)).mono ?_; rintro e w2 ⟨rfl, hB2⟩; replace hB2 := below_undrew hB2; have r02 := (HR.out.below hB2).c0; have c02 := (HF.out.below hB2).c0; have c12 := (HF.out.below hB2).c1; have c22 := (HF.out.below hB2).c2; have fz2 := (HF.out.below hB2).fz; have HB2 := hide hB2; clear hB2))
  all_goals go_wp2_with fail
  all_goals refine bodyPost_ret (first_back _ _ w.heap.size _ _ _ _ _ rfl rfl ((HF.out.below HB2.out).set _ _ _)) rfl ?_
  all_goals exact ⟨rfl, below_set3 (below_next HB.out (Nat.le_refl _) HB2.out) (Nat.le_refl _) _ _ _⟩
end Go.Proofs.Ytgdjphiicgiegaa
