/- Rf1, Rf2. -/
import Derived.Test.YtcjahdgppnmdkaaStoreRunsG03
import Derived.OwnWalk
import Derived.Deep.OwnRows
set_option maxRecDepth 100000
namespace Go.Proofs.Ytcjahdgppnmdkaa
open Go.RowKit Go.Great
/-- a row of bytes -/
def Row (w : World) (B : Nat) (l : List UInt8) : Prop := ∀ j (h : j < l.length), w.cell? ⟨B, j, none⟩ = some (.int .u8 (l[j].toNat : Int)) ∧ w.frozen? ⟨B, j, none⟩ = false
theorem bytes_new (s : ByteArray) (w : World) : ∃ wx cap, (convert 9 93 (.string s)).run Try.prog w = .ok (.slice (some ⟨w.heap.size, 0, none⟩) s.size cap) wx ∧ Row wx w.heap.size s.data.toList ∧ Below w.heap.size w wx ∧ w.heap.size < wx.heap.size ∧ s.size ≤ cap := by
  refine ⟨_, _, run_bytes_of_string w 9 93 5 s (by kernel_rfl) (by kernel_rfl) (by kernel_rfl), ?_, ?_, ?_, grownCap_ge _ _ _ _⟩
  · intro j hj
    have hj' : j < s.data.size := by simpa using hj
    refine ⟨?_, ?_⟩
    · have := World.cell?_alloc_mark w.drew (bytesRow s (grownCap w s.size 0 5)) 5 ((bytesRow s (grownCap w s.size 0 5)).size, (bytesRow s (grownCap w s.size 0 5)).size + 1) j
      refine this.trans ?_
      rw [bytesRow_at _ _ _ hj']
      simp
    · have := World.frozen?_alloc_mark w.drew (bytesRow s (grownCap w s.size 0 5)) 5 (bytesRow s (grownCap w s.size 0 5)).size ((bytesRow s (grownCap w s.size 0 5)).size + 1) j
      refine this.trans ?_
      have hz : s.data.size ≤ (bytesRow s (grownCap w s.size 0 5)).size := by
        unfold bytesRow; simp
      simp; omega
  · exact (Below.refl _ _).drew.alloc (Nat.le_refl _) _
  · show w.heap.size < (w.heap.push _).size
    simp
theorem row_set (w : World) (B : Nat) (l : List UInt8) (h : Row w B l) (i : Nat) (x : UInt8) : Row (w.setCell ⟨B, i, none⟩ (.int .u8 (x.toNat : Int))) B (l.set i x) := by
  intro j hj
  have hj' : j < l.length := by simpa using hj
  obtain ⟨h1, h2⟩ := h j hj'
  refine ⟨?_, by rw [World.frozen?_setCell]; exact h2⟩
  by_cases g : i = j
  · subst g
    rw [World.cell?_setCell_same _ _ _ h1, List.getElem_set_self]
  · rw [World.cell?_setCell_other _ _ _ _ (by intro e; injection e with e1 e2; exact g e2), h1, List.getElem_set_ne g]
theorem row_block {w w' : World} {B : Nat} {l : List UInt8} (h : Row w B l) (hb : w'.heap[B]? = w.heap[B]?) : Row w' B l := by
  intro j hj
  obtain ⟨h1, h2⟩ := h j hj
  refine ⟨by rw [← h1]; simp [World.cell?, hb], by rw [← h2]; simp [World.frozen?, hb]⟩
/-- the reference's flash: block X, its cells in block D -/
structure Rf (w : World) (X D cap : Nat) (ρ : St) : Prop where
  len : ρ.C.length = 8192
  ne : D ≠ X
  cle : ρ.C.length ≤ cap
  lt : D < w.heap.size
  blk : w.heap[X]? = some (.cells #[.slice (some ⟨D, 0, none⟩) ρ.C.length cap, .bool ρ.off, .bool ρ.ar, .int .i64 ρ.lf, .string ρ.jk, .int .i64 ρ.st] 95 (0, 0))
  row : Row w D ρ.C
theorem Rf.ltX {w : World} {X D cap : Nat} {ρ : St} (h : Rf w X D cap ρ) : X < w.heap.size := lt_of_block h.blk
theorem Rf.fz {w : World} {X D cap : Nat} {ρ : St} (h : Rf w X D cap ρ) (i : Nat) : w.frozen? ⟨X, i, none⟩ = false := by simp [World.frozen?, h.blk]
theorem Rf.c0 {w : World} {X D cap : Nat} {ρ : St} (h : Rf w X D cap ρ) : w.cell? ⟨X, 0, none⟩ = some (.slice (some ⟨D, 0, none⟩) ρ.C.length cap) := by simp [World.cell?, h.blk]
theorem Rf.c1 {w : World} {X D cap : Nat} {ρ : St} (h : Rf w X D cap ρ) : w.cell? ⟨X, 1, none⟩ = some (.bool ρ.off) := by simp [World.cell?, h.blk]
theorem Rf.c2 {w : World} {X D cap : Nat} {ρ : St} (h : Rf w X D cap ρ) : w.cell? ⟨X, 2, none⟩ = some (.bool ρ.ar) := by simp [World.cell?, h.blk]
theorem Rf.c3 {w : World} {X D cap : Nat} {ρ : St} (h : Rf w X D cap ρ) : w.cell? ⟨X, 3, none⟩ = some (.int .i64 ρ.lf) := by simp [World.cell?, h.blk]
theorem Rf.c4 {w : World} {X D cap : Nat} {ρ : St} (h : Rf w X D cap ρ) : w.cell? ⟨X, 4, none⟩ = some (.string ρ.jk) := by simp [World.cell?, h.blk]
theorem Rf.c5 {w : World} {X D cap : Nat} {ρ : St} (h : Rf w X D cap ρ) : w.cell? ⟨X, 5, none⟩ = some (.int .i64 ρ.st) := by simp [World.cell?, h.blk]
theorem set_arr {w : World} {R i : Nat} {l : Array Value} {t : TypeId} {fr : Nat × Nat} (h : w.heap[R]? = some (.cells l t fr)) (v : Value) : (w.setCell ⟨R, i, none⟩ v).heap[R]? = some (.cells (l.setIfInBounds i v) t fr) := by
  have hlt := lt_of_block h
  have h' : w.heap[R] = .cells l t fr := by simpa [Array.getElem?_eq_getElem hlt] using h
  show (w.heap.modify R _)[R]? = _
  rw [Array.getElem?_eq_getElem (by simpa using hlt), Array.getElem_modify_self, h']
  rfl
theorem set_other (w : World) {R B i : Nat} (v : Value) (h : B ≠ R) : (w.setCell ⟨R, i, none⟩ v).heap[B]? = w.heap[B]? := Below.heap_setCell _ _ _ _ (fun e => h e)
theorem size_set (w : World) (a : Addr) (v : Value) : (w.setCell a v).heap.size = w.heap.size := by simp [World.setCell]
theorem Rf.setD {w : World} {X D cap : Nat} {ρ : St} (h : Rf w X D cap ρ) (i : Nat) (b : UInt8) : Rf (w.setCell ⟨D, i, none⟩ (.int .u8 (b.toNat : Int))) X D cap { ρ with C := ρ.C.set i b } :=
  ⟨by simp [h.len], h.ne, by simpa using h.cle, by rw [size_set]; exact h.lt, by rw [set_other _ _ (fun e => h.ne e.symm), h.blk]; simp, row_set _ _ _ h.row _ _⟩
theorem Rf.s1 {w : World} {X D cap : Nat} {ρ : St} (h : Rf w X D cap ρ) (v : Bool) : Rf (w.setCell ⟨X, 1, none⟩ (.bool v)) X D cap { ρ with off := v } :=
  ⟨h.len, h.ne, h.cle, by rw [size_set]; exact h.lt, set_arr h.blk _, row_block h.row (set_other _ _ h.ne)⟩
theorem Rf.s2 {w : World} {X D cap : Nat} {ρ : St} (h : Rf w X D cap ρ) (v : Bool) : Rf (w.setCell ⟨X, 2, none⟩ (.bool v)) X D cap { ρ with ar := v } :=
  ⟨h.len, h.ne, h.cle, by rw [size_set]; exact h.lt, set_arr h.blk _, row_block h.row (set_other _ _ h.ne)⟩
theorem Rf.s3 {w : World} {X D cap : Nat} {ρ : St} (h : Rf w X D cap ρ) (v : Int) : Rf (w.setCell ⟨X, 3, none⟩ (.int .i64 v)) X D cap { ρ with lf := v } :=
  ⟨h.len, h.ne, h.cle, by rw [size_set]; exact h.lt, set_arr h.blk _, row_block h.row (set_other _ _ h.ne)⟩
theorem Rf.s4 {w : World} {X D cap : Nat} {ρ : St} (h : Rf w X D cap ρ) (v : ByteArray) : Rf (w.setCell ⟨X, 4, none⟩ (.string v)) X D cap { ρ with jk := v } :=
  ⟨h.len, h.ne, h.cle, by rw [size_set]; exact h.lt, set_arr h.blk _, row_block h.row (set_other _ _ h.ne)⟩
theorem Rf.s5 {w : World} {X D cap : Nat} {ρ : St} (h : Rf w X D cap ρ) (v : Int) : Rf (w.setCell ⟨X, 5, none⟩ (.int .i64 v)) X D cap { ρ with st := v } :=
  ⟨h.len, h.ne, h.cle, by rw [size_set]; exact h.lt, set_arr h.blk _, row_block h.row (set_other _ _ h.ne)⟩
theorem Rf.drew {w : World} {X D cap : Nat} {ρ : St} (h : Rf w X D cap ρ) : Rf w.drew X D cap ρ := ⟨h.len, h.ne, h.cle, h.lt, h.blk, h.row⟩
theorem Rf.below {w w' : World} {X D cap : Nat} {ρ : St} (h : Rf w X D cap ρ) (hb : Below w.heap.size w w') : Rf w' X D cap ρ :=
  ⟨h.len, h.ne, h.cle, Nat.lt_of_lt_of_le h.lt hb.size, by rw [hb.block _ h.ltX, h.blk], row_block h.row (hb.block _ h.lt)⟩
theorem Rf.kept {w w' : World} {X D cap R : Nat} {ρ : St} (h : Rf w X D cap ρ) (hb : Kept R w w') (h1 : X ≠ R) (h2 : D ≠ R) : Rf w' X D cap ρ :=
  ⟨h.len, h.ne, h.cle, Nat.lt_of_lt_of_le h.lt hb.size, hb.other h.blk h1, row_block h.row (World.grownBy.block hb _ h.lt (by intro e; injection e with e; exact h2 e))⟩
/-- what is kept but for blocks X and D -/
structure Kept2 (X D : Nat) (w w' : World) : Prop where
  os : w'.os = w.os
  tape : w'.tape = w.tape
  output : w'.output = w.output
  size : w.heap.size ≤ w'.heap.size
  block : ∀ k, k < w.heap.size → k ≠ X → k ≠ D → w'.heap[k]? = w.heap[k]?
theorem Kept2.refl (X D : Nat) (w : World) : Kept2 X D w w := ⟨rfl, rfl, rfl, Nat.le_refl _, fun _ _ _ _ => rfl⟩
theorem Kept2.trans {X D : Nat} {w w1 w2 : World} (h : Kept2 X D w w1) (g : Kept2 X D w1 w2) : Kept2 X D w w2 :=
  ⟨g.os.trans h.os, g.tape.trans h.tape, g.output.trans h.output, Nat.le_trans h.size g.size, fun k hk h1 h2 => (g.block k (Nat.lt_of_lt_of_le hk h.size) h1 h2).trans (h.block k hk h1 h2)⟩
theorem Kept2.setX {X D : Nat} {w w1 : World} (h : Kept2 X D w w1) (i : Nat) (u : Value) : Kept2 X D w (w1.setCell ⟨X, i, none⟩ u) :=
  h.trans ⟨rfl, rfl, rfl, by rw [size_set]; exact Nat.le_refl _, fun _ _ h1 _ => set_other _ _ h1⟩
theorem Kept2.setD {X D : Nat} {w w1 : World} (h : Kept2 X D w w1) (i : Nat) (u : Value) : Kept2 X D w (w1.setCell ⟨D, i, none⟩ u) :=
  h.trans ⟨rfl, rfl, rfl, by rw [size_set]; exact Nat.le_refl _, fun _ _ _ h2 => set_other _ _ h2⟩
theorem Kept2.drew {X D : Nat} {w w1 : World} (h : Kept2 X D w w1) : Kept2 X D w w1.drew := h.trans ⟨rfl, rfl, rfl, Nat.le_refl _, fun _ _ _ _ => rfl⟩
theorem Kept2.toBelow {X D B : Nat} {a w w1 : World} (h : Below B a w) (g : Kept2 X D w w1) (hB : B ≤ w.heap.size) (h1 : B ≤ X) (h2 : B ≤ D) : Below B a w1 :=
  ⟨g.os.trans h.os, g.tape.trans h.tape, g.output.trans h.output, Nat.le_trans h.size g.size, fun k hk => (g.block k (by omega) (by omega) (by omega)).trans (h.block k hk)⟩
theorem Fl.kept2 {w w' : World} {R X D : Nat} {σ : St} (h : Fl w R σ) (hb : Kept2 X D w w') (h1 : R ≠ X) (h2 : R ≠ D) : Fl w' R σ := ⟨h.len, by rw [hb.block _ h.lt h1 h2, h.blk]⟩
theorem rof_out (w : World) (s : ByteArray) (hs : s.size ≠ 8192) : Calls Try.prog 38 #[.string s] w fun e w' => e = .returned (.tuple #[.pointer none, .int .i64 3]) ∧ w' = w := by
  have hn : ((s.size : Int) != 8192) = true := by simp; omega
  go_enter Try.func38, Try.ntmps38
  go_wp2_with fail
  go_ret2
  exact ⟨rfl, rfl⟩
theorem rof_in (w : World) (s : ByteArray) (hs : s.size = 8192) : Calls Try.prog 38 #[.string s] w fun e w' => ∃ X D cap, e = .returned (.tuple #[fp X, .int .i64 0]) ∧ w.heap.size ≤ X ∧ w.heap.size ≤ D ∧ Rf w' X D cap (st0 s.data.toList) ∧ Below w.heap.size w w' := by
  have hn : ((s.size : Int) != 8192) = false := by simp; omega
  obtain ⟨wx, cap, h1, h2, h3, h4, h5⟩ := bytes_new s w
  have HS := hide hs
  clear hs
  go_enter Try.func38, Try.ntmps38
  go_wp2_with fail
  go_ret2
  have hb := below_alloc wx (Obj.cells #[Value.slice (some ⟨w.heap.size, 0, none⟩) s.size cap, Value.bool false, Value.bool false, Value.int IntKind.i64 0, Value.string ⟨#[]⟩, Value.int IntKind.i64 0] 95)
  refine ⟨wx.heap.size, w.heap.size, cap, rfl, h3.size, Nat.le_refl _, ⟨(list_size s).trans HS.out, Nat.ne_of_lt h4, ?_, Nat.lt_of_lt_of_le h4 hb.size, ?_, row_block h2 (hb.block _ h4)⟩, below_next h3 (Nat.le_refl _) hb⟩
  · show s.data.toList.length ≤ cap
    rw [list_size]; exact h5
  · rw [heap_alloc_new]
    show _ = some (Obj.cells #[Value.slice (some ⟨w.heap.size, 0, none⟩) s.data.toList.length cap, _, _, _, _, _] _ _)
    rw [list_size]
    rfl
theorem row_owns {w : World} {base g n cap : Nat} {e : TypeId} {l : List UInt8} (h : w.ownsRow base e 1 (.slice (some ⟨g, 0, none⟩) n cap) n (bytesV l)) (hn : l.length = n) : Row w g l := by
  intro j hj
  refine ⟨?_, World.ownsRow.frozenAt h j⟩
  rw [World.ownsRow.cellAt h j (by omega)]
  simp [bytesV, hj]
theorem info_byte : (Try.prog.info? 5).map (fun i => (i.zero, i.size, i.bytes)) = some (some (.int .u8 0), 1, 1) := by kernel_rfl
theorem info_parts {t : TypeId} {z : Value} {a b : Nat} (h : (Try.prog.info? t).map (fun i => (i.zero, i.size, i.bytes)) = some (some z, a, b)) : ∃ i, Try.prog.info? t = some i ∧ i.zero = some z ∧ i.size = a ∧ i.bytes = b := by
  cases hi : Try.prog.info? t with
  | none => rw [hi] at h; cases h
  | some i =>
    rw [hi] at h
    simp only [Option.map_some, Option.some.injEq, Prod.mk.injEq] at h
    exact ⟨i, rfl, h.1, h.2.1, h.2.2⟩
theorem rnew_any (w : World) : Calls Try.prog 37 #[] w fun e w' => ∃ X D cap, e = .returned (fp X) ∧ w.heap.size ≤ X ∧ w.heap.size ≤ D ∧ Rf w' X D cap s0 ∧ Below w.heap.size w w' := by
  obtain ⟨i0, hi, hz0, hz1, hz2⟩ := info_parts info_byte
  obtain ⟨n, hn⟩ : ∃ n, Hid (n = 8192) := ⟨_, hide rfl⟩
  go_enter Try.func37, Try.ntmps37
  go_wp2_with (at_make; refine wpList_make_full _ rfl (.const (.int .i64 8192)) (.const (.int .i64 8192)) 93 rfl w.heap.size 5 i0 _ 1 Try.underlying93 hi hz0 hz1 .i64 .i64 _ _ n rfl rfl ?b0 ?b0 ?b1 ?b2 ?b3 ?_)
  case b0 => rw [hn.out]; rfl
  case b1 => rw [hz2, hn.out]; omega
  case b2 => rw [hn.out]; unfold maxLen; omega
  case b3 => exact Nat.le_refl _
  intro w1 hown1 hgrow1
  have HR1 : Hid (Row w1 w.heap.size (List.replicate n 0)) := by
    refine row_owns (n := n) (cap := n) (base := w.heap.size) (e := 5) ?_ List.length_replicate
    rw [bytesV_rep, ← toList_madeCells_one]
    exact hown1
  have HB1 : Hid (Below w.heap.size w w1) := (Below.refl w.heap.size w).grown hgrow1 (Nat.le_refl _) (fun k e => by cases e)
  have hlt1 : Hid (w.heap.size < w1.heap.size) := by
    show _ < _
    refine Decidable.byContradiction fun hc => ?_
    have h0 := (HR1.out 0 (by rw [List.length_replicate, hn.out]; omega)).1
    have : w1.heap[w.heap.size]? = none := by simp; omega
    simp [World.cell?, this] at h0
  clear hown1 hgrow1
  go_wp2_with fail
  obtain ⟨w2, hw2⟩ : ∃ w2, Hid (w1.alloc (Obj.cells #[Value.slice (some ⟨w.heap.size, 0, none⟩) n n, Value.bool false, Value.bool false, Value.int IntKind.i64 0, Value.string ⟨#[]⟩, Value.int IntKind.i64 0] 95) = w2) := ⟨_, hide rfl⟩
  rw [hw2.out]
  have hF2 : Rf w2 w1.heap.size w.heap.size n (st0 (List.replicate n 0)) := by
    have hb := below_alloc w1 (Obj.cells #[Value.slice (some ⟨w.heap.size, 0, none⟩) n n, Value.bool false, Value.bool false, Value.int IntKind.i64 0, Value.string ⟨#[]⟩, Value.int IntKind.i64 0] 95)
    rw [← hw2.out]
    refine ⟨by show (List.replicate n (0 : UInt8)).length = 8192; rw [List.length_replicate]; exact hn.out, Nat.ne_of_lt hlt1.out, by show (List.replicate n (0 : UInt8)).length ≤ n; rw [List.length_replicate]; omega, Nat.lt_of_lt_of_le hlt1.out hb.size, ?_, row_block HR1.out (hb.block _ hlt1.out)⟩
    rw [heap_alloc_new]
    show _ = some (Obj.cells #[Value.slice (some ⟨w.heap.size, 0, none⟩) (List.replicate n (0 : UInt8)).length n, _, _, _, _, _] _ _)
    rw [List.length_replicate]
    rfl
  have hB2 : Below w.heap.size w w2 := by rw [← hw2.out]; exact below_next HB1.out (Nat.le_refl _) (below_alloc _ _)
  obtain ⟨X, hX⟩ : ∃ X, Hid (w1.heap.size = X) := ⟨_, hide rfl⟩
  have hXle : Hid (w.heap.size ≤ X) := by show _ ≤ _; rw [← hX.out]; exact HB1.out.size
  obtain ⟨D, hD⟩ : ∃ D, Hid (w.heap.size = D) := ⟨_, hide rfl⟩
  rw [hX.out, hD.out] at hF2 ⊢
  rw [hD.out] at hXle
  rw [show Below w.heap.size w w2 ↔ Below D w w2 by rw [hD.out]] at hB2
  clear hw2 HR1 hlt1 HB1
  go_loopw [2] (fun v wr => ∃ i : Nat, v = .int .i64 (i : Int) ∧ i ≤ n ∧ Rf wr X D n (st0 (onL (List.replicate n 0) 0 i fun _ _ => 255)) ∧ Below D w wr) (fun v _ => n - (intOf v).toNat)
  case atStart => exact ⟨0, rfl, Nat.zero_le _, by rw [onL_zero]; exact hF2, hB2⟩
  case round =>
    obtain ⟨i, rfl, hi, hF, hK⟩ := hrel
    by_cases hlt : i < n
    · have c0 := hF.c0
      have hdd : decide ((i : Int) < 8192) = true := decide_eq_true (by have := hn.out; omega)
      have hl : (st0 (onL (List.replicate n 0) 0 i fun _ _ => 255)).C.length = n := by
        show (onL (List.replicate n 0) 0 i fun _ _ => 255).length = n
        rw [onL_length, List.length_replicate]
      rw [hl] at c0
      obtain ⟨u, c⟩ : ∃ u, wr.cell? ⟨D, i, none⟩ = some u := ⟨_, (hF.row i (by rw [hl]; exact hlt)).1⟩
      have f := (hF.row i (by rw [hl]; exact hlt)).2
      have hn9 : n ≤ 8192 := by have := hn.out; omega
      clear hl
      go_wp2_with fail
      go_roundw
      case rel =>
        refine ⟨i + 1, by go_num, by omega, ?_, hK.setCell (Nat.le_refl _) _⟩
        have e := hF.setD i 255
        have e2 : onL (List.replicate n 0) 0 (i + 1) (fun _ _ => 255) = (onL (List.replicate n 0) 0 i fun _ _ => 255).set i 255 := by
          rw [← onL_succ _ _ _ _ (by rw [List.length_replicate]; omega), Nat.zero_add]
        rw [e2]
        exact e
      case measure => simp [intOf]; omega
    · obtain rfl : i = n := by omega
      have hdd : decide ((i : Int) < 8192) = false := decide_eq_false (by have := hn.out; omega)
      rw [onL_rep] at hF
      have HF := hide hF
      clear hF
      go_wp2_with fail
      go_ret
      refine ⟨X, D, i, rfl, by rw [hD.out]; exact hXle.out, by rw [hD.out]; exact Nat.le_refl _, ?_, by rw [hD.out]; exact hK⟩
      have h9 := hn.out
      subst h9
      exact HF.out
/-- both flashes, of one image -/
def Made (w w' : World) (R X D cap : Nat) (C : List UInt8) : Prop := w.heap.size ≤ R ∧ w.heap.size ≤ X ∧ w.heap.size ≤ D ∧ R ≠ X ∧ R ≠ D ∧ Fl w' R (st0 C) ∧ Rf w' X D cap (st0 C) ∧ Below w.heap.size w w'
theorem ne_empty {j : ByteArray} (h0 : ¬ j.size = 0) : (j.toList == [] ) = false := by
  rw [ByteArray.toList_eq]
  cases hj : j.data.toList with
  | nil => exact absurd (by rw [← list_size, hj]; rfl) h0
  | cons a l => rfl
/-- the cells of an image -/
def cellsI (s : ByteArray) : List UInt8 := if s.size = 0 then List.replicate 8192 255 else s.data.toList
def okI (s : ByteArray) : Prop := s.size = 0 ∨ s.size = 8192
end Go.Proofs.Ytcjahdgppnmdkaa
set_option maxRecDepth 100000
namespace Go.Proofs.Ytcjahdgppnmdkaa
open Go.RowKit Go.Great
theorem rimage_any (w : World) (X D cap : Nat) (ρ : St) (h : Rf w X D cap ρ) : Calls Try.prog 44 #[fp X] w fun e w' => e = .returned (.string (bs ρ.C)) ∧ w' = w := by
  have c0 := h.c0
  have hc : (convert 93 9 (.slice (some ⟨D, 0, none⟩) ρ.C.length cap)).run Try.prog w = .ok (.string (bs ρ.C)) w := run_convert_bytes_back _ 93 9 5 ⟨D, 0, none⟩ cap ρ.C (by kernel_rfl) (by kernel_rfl) (by kernel_rfl) (fun j hj => by rw [Addr.add0]; exact (h.row j hj).1)
  go_enter Try.func44, Try.ntmps44
  go_wp2
  go_ret
  exact ⟨rfl, rfl⟩
theorem range_any (w : World) (a n : Int) (ha : I64 a) : Calls Try.prog 95 #[.int .i64 a, .int .i64 n] w fun e w' => e = .returned (.bool (insideB a n)) ∧ w' = w := by
  unfold I64 at ha
  go_enter Try.func95, Try.ntmps95
  by_cases h1 : 0 ≤ a
  · by_cases h2 : 0 ≤ n
    · by_cases h3 : a ≤ 8192
      · go_wp2
        go_ret
        refine ⟨ret_bool ?_, rfl⟩
        unfold insideB
        apply decide_eq_decide.2
        omega
      · go_wp2
        go_ret
        refine ⟨ret_bool ?_, rfl⟩
        unfold insideB
        symm
        apply decide_eq_false
        omega
    · go_wp2
      go_ret
      refine ⟨ret_bool ?_, rfl⟩
      simp [insideB]
      omega
  · go_wp2
    go_ret
    refine ⟨ret_bool ?_, rfl⟩
    simp [insideB]
    omega
theorem rjunk_any (w : World) (j : ByteArray) (i : Nat) (hj : j.size ≤ 9223372036854775807) (hi : i ≤ 9223372036854775807) : Calls Try.prog 94 #[.string j, .int .i64 i] w fun e w' => e = .returned (.int .u8 ((arB j i).toNat : Int)) ∧ w' = w := by
  go_enter Try.func94, Try.ntmps94
  by_cases h0 : j.size = 0
  · have e : arB j i = 0 := by unfold arB; rw [if_pos h0]
    rw [e]
    go_wp2
    go_ret
    exact ⟨rfl, rfl⟩
  · have hne : ((j.size : Int) == 0) = false := beq_eq_false_iff_ne.2 (by omega)
    have hr : ((i : Int).tmod (j.size : Int)) = ((i % j.size : Nat) : Int) := by
      rw [Int.tmod_eq_emod_of_nonneg (by omega)]; rfl
    have hlt : i % j.size < j.size := Nat.mod_lt _ (by omega)
    go_wp2
    go_ret
    refine ⟨ret_int ?_, rfl⟩
    unfold arB
    rw [if_neg h0, List.getD_eq_getElem?_getD, List.getElem?_eq_getElem (by rw [list_size]; exact hlt)]
    rfl
/-- the reference's step -/
def stepR (ρ : St) : St × Bool :=
  if ρ.ar = true ∧ ρ.lf = 0 then ({ ρ with off := true, ar := false }, false)
  else ({ ρ with lf := if ρ.ar then wrap64 (ρ.lf - 1) else ρ.lf, st := wrap64 (ρ.st + 1) }, true)
theorem rstep_any (w : World) (X D cap : Nat) (ρ : St) (h : Rf w X D cap ρ) : Calls Try.prog 93 #[fp X] w fun e w' => e = .returned (.bool (stepR ρ).2) ∧ Rf w' X D cap (stepR ρ).1 ∧ Kept2 X D w w' := by
  have h1 := h.c1
  have h2 := h.c2
  have h3 := h.c3
  have h5 := h.c5
  have f1 := h.fz 1
  have f2 := h.fz 2
  have f3 := h.fz 3
  have f5 := h.fz 5
  go_enter Try.func93, Try.ntmps93
  cases har : ρ.ar <;> rw [har] at h2
  · have e : stepR ρ = ({ ρ with st := wrap64 (ρ.st + 1) }, true) := by simp [stepR, har]
    go_wp2
    go_ret
    rw [e]
    exact ⟨rfl, h.s5 _, (Kept2.refl _ _ _).setX _ _⟩
  · by_cases hl : ρ.lf = 0
    · have e : stepR ρ = ({ ρ with off := true, ar := false }, false) := by simp [stepR, har, hl]
      rw [hl] at h3
      go_wp2
      go_ret
      rw [e]
      exact ⟨rfl, (h.s1 true).s2 false, ((Kept2.refl _ _ _).setX _ _).setX _ _⟩
    · have e : stepR ρ = ({ ρ with lf := wrap64 (ρ.lf - 1), st := wrap64 (ρ.st + 1) }, true) := by simp [stepR, har, hl]
      go_wp2
      go_ret
      rw [e]
      exact ⟨rfl, (h.s3 _).s5 _, ((Kept2.refl _ _ _).setX _ _).setX _ _⟩
def onR (ρ : St) : St := { ρ with off := false, ar := false }
theorem ron_any (w : World) (X D cap : Nat) (ρ : St) (h : Rf w X D cap ρ) : Calls Try.prog 40 #[fp X] w fun e w' => e = .returned (.tuple #[]) ∧ Rf w' X D cap (onR ρ) ∧ Kept2 X D w w' := by
  have h1 := h.c1
  have h2 := h.c2
  have f1 := h.fz 1
  have f2 := h.fz 2
  go_enter Try.func40, Try.ntmps40
  go_wp2
  go_end0
  exact ⟨rfl, (h.s1 false).s2 false, ((Kept2.refl _ _ _).setX _ _).setX _ _⟩
def cutRR (ρ : St) (n : Int) (j : ByteArray) : St × Int :=
  if ρ.off then (ρ, 60) else if n < 0 then (ρ, 1) else ({ ρ with ar := true, lf := n, jk := j }, 0)
theorem rcut_any (w : World) (X D cap : Nat) (ρ : St) (h : Rf w X D cap ρ) (n : Int) (j : ByteArray) : Calls Try.prog 43 #[fp X, .int .i64 n, .string j] w fun e w' => e = .returned (.int .i64 (cutRR ρ n j).2) ∧ Rf w' X D cap (cutRR ρ n j).1 ∧ Kept2 X D w w' := by
  have h1 := h.c1
  have h2 := h.c2
  have h3 := h.c3
  have h4 := h.c4
  have f2 := h.fz 2
  have f3 := h.fz 3
  have f4 := h.fz 4
  cases ho : ρ.off <;> rw [ho] at h1
  · by_cases hn : n < 0
    · rw [show cutRR ρ n j = (ρ, 1) by unfold cutRR; rw [ho, if_neg (by decide), if_pos hn]]
      clear ho
      go_enter Try.func43, Try.ntmps43
      go_wp2
      go_ret
      exact ⟨rfl, h, Kept2.refl _ _ _⟩
    · rw [show cutRR ρ n j = ({ ρ with ar := true, lf := n, jk := j }, 0) by unfold cutRR; rw [ho, if_neg (by decide), if_neg hn]]
      clear ho
      go_enter Try.func43, Try.ntmps43
      go_wp2
      go_ret
      exact ⟨rfl, ((h.s2 true).s3 n).s4 j, (((Kept2.refl _ _ _).setX _ _).setX _ _).setX _ _⟩
  · rw [show cutRR ρ n j = (ρ, 60) by unfold cutRR; rw [ho, if_pos rfl]]
    clear ho
    go_enter Try.func43, Try.ntmps43
    go_wp2
    go_ret
    exact ⟨rfl, h, Kept2.refl _ _ _⟩
/-- a piece of a row -/
theorem cut_row (D n cap a k : Nat) (hi : a + k ≤ n) (hc : n ≤ cap) : ∃ Y c, (k = 0 ∨ Y = (⟨D, a, none⟩ : Addr)) ∧ ∀ w, (Instr.slice 93 (.slice (some ⟨D, 0, none⟩) n cap) (some (.int .i64 (a : Int))) (some (.int .i64 ((a : Int) + (k : Int)))) none).run Try.prog w = .ok (.slice (some Y) k c) w := by
  refine ⟨if cap = a then ⟨D, 0, none⟩ else Addr.add ⟨D, 0, none⟩ (a * 1), cap - a, ?_, fun w => ?_⟩
  · by_cases h : cap = a
    · exact .inl (by omega)
    · right; rw [if_neg h, Addr.add0, Nat.mul_one]
  · rw [run_slice_lh w 93 (some ⟨D, 0, none⟩) n cap (by kernel_rfl) .i64 .i64 (a : Int) ((a : Int) + (k : Int)) (by omega) (by omega) (by omega)]
    rw [show Try.prog.elem 93 = 5 by kernel_rfl, Try.sizeOf5]
    simp only [Result.andThen_ok, sliced]
    rw [show ((a : Int)).toNat = a by omega, show ((a : Int) + (k : Int)).toNat - a = k by omega]
    by_cases h : cap = a
    · rw [if_pos h, if_pos h]
    · rw [if_neg h, if_neg h]; rfl
end Go.Proofs.Ytcjahdgppnmdkaa
