/- In0, No0, No1, No2, NoM, No3, No4, No5, CrcB. -/
import Derived.Test.YtapfaaaepnplcaaGreatDoorG01
import Derived.Great.BuildSlice
import Derived.Deep.WholeRow
import Derived.Below
import Derived.Laws.IdiomStrings
import Derived.Laws.IdiomCopy
import Derived.Laws.Concat
import Derived.Laws.CopyRow
import Derived.Lib.AppendStr
import Derived.Lib.BufferRead
import Derived.OwnWalk
import Derived.Deep.RegionHeld3
import Derived.Test.YtapfaaaepnplcaaGreatDoorProg
import Derived.WalkKit
import Derived.Deep.QuietTactic
import Derived.BigQuiet
import Derived.Test.YtapfaaaepnplcaaGreatDoorG02
set_option maxRecDepth 100000
namespace Go.Proofs.YtapfaaaepnplcaaGreatDoor
open Go.RowKit Go.Great
theorem below_next {B : Nat} {w w1 w2 : World} (h : Below B w w1) (hB : B ≤ w.heap.size) (h2 : Below w1.heap.size w1 w2) : Below B w w2 := h.trans (h2.mono (by have := h.size; omega))
theorem below_alloc (w : World) (o : Obj) : Below w.heap.size w (w.alloc o) := (Below.refl _ _).alloc (Nat.le_refl _) _
theorem below_over {w w' : World} {o : Obj} (h : Below (w.alloc o).heap.size (w.alloc o) w') : Below w.heap.size w w' :=
  below_next (below_alloc w o) (Nat.le_refl _) h
theorem wf_u8 {x : Int} (h : (Lit.int .u8 x).wf = true) : ∃ c : UInt8, x = (c.toNat : Int) := by
  simp [Lit.wf, IntKind.min, IntKind.max, IntKind.bits, IntKind.signed] at h
  exact ⟨UInt8.ofNat x.toNat, by rw [UInt8.toNat_ofNat']; omega⟩
/-- a string of these bytes -/
def bs (l : List UInt8) : ByteArray := ⟨l.toArray⟩
theorem bs_list (l : List UInt8) : (bs l).data.toList = l := by simp [bs]
theorem bs_size (l : List UInt8) : (bs l).size = l.length := by simp [bs, ByteArray.size]
theorem bs_of (s : ByteArray) : bs s.data.toList = s := by simp [bs]
theorem bs_inj {l m : List UInt8} (h : bs l = bs m) : l = m := by rw [← bs_list l, h, bs_list]
theorem list_size (s : ByteArray) : s.data.toList.length = s.size := Array.length_toList
def bytesV (l : List UInt8) : List Value := l.map fun b => Value.int .u8 (b.toNat : Int)
theorem bytesV_length (l : List UInt8) : (bytesV l).length = l.length := by simp [bytesV]
theorem grown_below {w w' : World} (h : Below w.heap.size w w') (row : Option Nat) : w.grownBy w' row := ⟨h.os, h.tape, h.output, h.size, fun k hk _ => h.block k hk⟩
theorem below_drewN {B : Nat} {w w1 : World} (h : Below B w w1) (n : Nat) : Below B w (w1.drewN n) := by
  induction n with
  | zero => exact h
  | succ n ih => exact ih.drew
theorem size_alloc (w : World) (o : Obj) : (w.alloc o).heap.size = w.heap.size + 1 := by simp
theorem drewN_cell (w : World) (n : Nat) (a : Addr) : (w.drewN n).cell? a = w.cell? a := by
  induction n with
  | zero => rfl
  | succ n ih => exact ih
theorem drewN_drewN (w : World) (n k : Nat) : (w.drewN n).drewN k = w.drewN (n + k) := by
  induction k with
  | zero => rfl
  | succ k ih => exact congrArg World.drew ih
theorem add_plain' (b o i : Nat) : Addr.add ⟨b, o, none⟩ i = ⟨b, o + i, none⟩ := by
  unfold Addr.add
  split
  · subst_vars; rfl
  · rfl
theorem info_parts {t : TypeId} {z : Value} {a b : Nat} (h : (Tryz.prog.info? t).map (fun i => (i.zero, i.size, i.bytes)) = some (some z, a, b)) : ∃ i, Tryz.prog.info? t = some i ∧ i.zero = some z ∧ i.size = a ∧ i.bytes = b := by
  cases hi : Tryz.prog.info? t with
  | none => rw [hi] at h; cases h
  | some i =>
    rw [hi] at h
    simp only [Option.map_some, Option.some.injEq, Prod.mk.injEq] at h
    exact ⟨i, rfl, h.1, h.2.1, h.2.2⟩
theorem info_byte : (Tryz.prog.info? 5).map (fun i => (i.zero, i.size, i.bytes)) = some (some (.int .u8 0), 1, 1) := by kernel_rfl
theorem new_cell1 (w : World) (g : Nat) (hg : g = w.heap.size) (a : Value) (t : TypeId) : ∀ j u, [a][j]? = some u → (w.alloc (.cells #[a] t)).cell? ((⟨g, 0, none⟩ : Addr).add j) = some u := by
  subst hg
  intro j u hu
  rw [show (Addr.add ⟨w.heap.size, 0, none⟩ j) = ⟨w.heap.size, j, none⟩ by simp [Addr.add]; exact fun h => h.symm, World.cell?_alloc_new]
  simpa using hu
theorem list_ext0 {a b : List Int} (hl : a.length = b.length) (h : ∀ i, i < a.length → a.getD i 0 = b.getD i 0) : a = b := by
  refine List.ext_getElem hl fun i h1 h2 => ?_
  have := h i h1
  rw [List.getD, List.getD, List.getElem?_eq_getElem h1, List.getElem?_eq_getElem h2] at this
  exact this
theorem bs_ext {s t : ByteArray} (h : s.data.toList = t.data.toList) : s = t := by
  rw [← bs_of s, h, bs_of]
theorem extract_list (s : ByteArray) (a b : Nat) : (s.extract a b).data.toList = (s.data.toList.drop a).take (b - a) := by
  rw [ByteArray.data_extract, Array.toList_extract]
theorem extract_from (s : ByteArray) (a : Nat) : s.extract a s.size = bs (s.data.toList.drop a) := by
  apply bs_ext
  rw [extract_list, bs_list, List.take_of_length_le (by simp)]
/-- a slice of ints, as it reads -/
def Ints (w : World) (v : Value) (l : List Int) : Prop :=
  ∃ a cap, v = .slice a l.length cap ∧ (0 < l.length → ∃ g o, a = some ⟨g, o, none⟩ ∧ g < w.heap.size ∧ ∀ i, i < l.length → w.cell? ⟨g, o + i, none⟩ = some (.int .i64 (l.getD i 0)))
theorem Ints.nil (w : World) : Ints w (.slice none 0 0) [] := ⟨none, 0, rfl, fun h => absurd h (by simp)⟩
theorem Ints.below {w w' : World} {v : Value} {l : List Int} (h : Ints w v l) (hb : Below w.heap.size w w') : Ints w' v l := by
  obtain ⟨a, cap, e, h1⟩ := h
  refine ⟨a, cap, e, fun h0 => ?_⟩
  obtain ⟨g, o, e2, hg, hc⟩ := h1 h0
  have hs := hb.size
  exact ⟨g, o, e2, by omega, fun i hi => (hb.cell (p := ⟨g, o + i, none⟩) hg).trans (hc i hi)⟩
/-- a new slice of these numbers -/
def rowI (l : List Int) : Array Value := (l.map (Value.int .i64)).toArray
theorem ints_row {w : World} {g : Nat} {l : List Int} {t : TypeId} (h : w.heap[g]? = some (.cells (rowI l) t)) (n c : Nat) (hn : n = l.length) : Ints w (.slice (some ⟨g, 0, none⟩) n c) l := by
  subst hn
  refine ⟨_, c, rfl, fun _ => ⟨g, 0, rfl, lt_of_block h, fun i hi => ?_⟩⟩
  rw [cell_of_row _ _ (0 + i) (rowI l) t (0, 0) h]
  unfold rowI
  rw [List.getElem?_toArray, Nat.zero_add, List.getElem?_map, List.getElem?_eq_getElem hi, List.getD, List.getElem?_eq_getElem hi]
  rfl
theorem heap_alloc_at (w : World) (o : Obj) (g : Nat) (hg : g = w.heap.size) : (w.alloc o).heap[g]? = some o := by subst hg; exact heap_alloc_new _ _
/-- a slice of ints of the call's own -/
def IRow (w : World) (base : Nat) (v : Value) (l : List Int) : Prop := w.ownsRow base 3 1 v l.length (l.map (Value.int .i64))
theorem IRow.nil (w : World) (base : Nat) : IRow w base (.slice none 0 0) [] := World.ownsRow_nil _ _ _ _
theorem IRow.below {w w' : World} {base : Nat} {v : Value} {l : List Int} (h : IRow w base v l) (hb : Below w.heap.size w w') : IRow w' base v l := World.ownsRow.kept h (grown_below hb none) (by cases v.ownBlock <;> simp)
theorem IRow.alloc {w : World} {base : Nat} {v : Value} {l : List Int} (h : IRow w base v l) (o : Obj) : IRow (w.alloc o) base v l := h.below (below_alloc _ _)
theorem IRow.shape {w : World} {base : Nat} {v : Value} {l : List Int} (h : IRow w base v l) : ∃ a cap, v = .slice a l.length cap := by
  rcases h.2 with ⟨h1, h2⟩ | ⟨g, cap, cur, h1, _⟩
  · exact ⟨none, 0, by rw [h1, h2]⟩
  · exact ⟨_, cap, h1⟩
theorem IRow.ints {w : World} {base : Nat} {v : Value} {l : List Int} (h : IRow w base v l) : Ints w v l := by
  have h0 := h
  rcases h.2 with ⟨h1, h2⟩ | ⟨g, cap, cur, h1, hb, hh, _⟩
  · have : l = [] := List.eq_nil_of_length_eq_zero h2
    subst this h1
    exact Ints.nil _
  · subst h1
    refine ⟨_, cap, rfl, fun _ => ⟨g, 0, rfl, lt_of_block hh, fun i hi => ?_⟩⟩
    rw [Nat.zero_add, World.ownsRow.cellAt h0 i (by omega)]
    simp [hi]
theorem info_int : (Tryz.prog.info? 3).map (fun i => (i.zero, i.size, i.bytes)) = some (some (.int .i64 0), 1, 8) := by kernel_rfl
theorem Ints.drewN {w : World} {v : Value} {l : List Int} (h : Ints w v l) (n : Nat) : Ints (w.drewN n) v l := by
  induction n with
  | zero => exact h
  | succ n ih => exact ih
/-- a slice of bytes of the call's own -/
def BRow (w : World) (base : Nat) (v : Value) (l : List UInt8) : Prop := w.ownsRow base 5 1 v l.length (bytesV l)
theorem BRow.nil (w : World) (base : Nat) : BRow w base (.slice none 0 0) [] := World.ownsRow_nil _ _ _ _
theorem BRow.below {w w' : World} {base : Nat} {v : Value} {l : List UInt8} (h : BRow w base v l) (hb : Below w.heap.size w w') : BRow w' base v l := World.ownsRow.kept h (grown_below hb none) (by cases v.ownBlock <;> simp)
theorem BRow.alloc {w : World} {base : Nat} {v : Value} {l : List UInt8} (h : BRow w base v l) (o : Obj) : BRow (w.alloc o) base v l := h.below (below_alloc _ _)
theorem BRow.shape {w : World} {base : Nat} {v : Value} {l : List UInt8} (h : BRow w base v l) : ∃ a cap, v = .slice a l.length cap := by
  rcases h.2 with ⟨h1, h2⟩ | ⟨g, cap, cur, h1, _⟩
  · exact ⟨none, 0, by rw [h1, h2]⟩
  · exact ⟨_, cap, h1⟩
theorem BRow.text {w : World} {base : Nat} {v : Value} {l : List UInt8} (h : BRow w base v l) : (convert 77 9 v).run Tryz.prog w = .ok (.string (bs l)) w := by
  have h0 := h
  rcases h.2 with ⟨h1, h2⟩ | ⟨g, cap, cur, h1, _⟩
  · have : l = [] := List.eq_nil_of_length_eq_zero h2
    rw [h1, this, Lib.run_convert_nil_bytes w 77 9 5 0 (by kernel_rfl) (by kernel_rfl) (by kernel_rfl)]
    rfl
  · subst h1
    refine run_convert_bytes_back _ 77 9 5 ⟨g, 0, none⟩ cap l (by kernel_rfl) (by kernel_rfl) (by kernel_rfl) ?_
    intro j hj
    exact World.ownsRow.cells h0 (g := g) rfl j _ (by simp [bytesV, hj])
theorem bytesV_app (l m : List UInt8) : bytesV (l ++ m) = bytesV l ++ bytesV m := by simp [bytesV]
theorem take_at {P : Program} {ops : Array Oper} {Q : Exit → Act → World → Prop} {md : Region.Mode} {S : World → Prop} {i : Nat} {oi : Oper} {v : Value} {d : Option Tmp} {fuel : Nat} {listed : Array Bool} {a : Act} {w : World} (hi : ops[i]? = some oi) (hd : oi.dst = d)
    (hs : Region.noSelect ops = true) (hf : Region.free md ops listed i = true) (hr : (Region.ready md ops listed).contains i = true)
    (hQ : ∀ c a w, Q (.panic c) (a.put d v) w → Q (.panic c) a w) (hy : YieldsIf P ops S oi v a) (hS : S w)
    (h : wpAnyH P md ops Q S fuel (listed.setIfInBounds i true) (a.put d v) w) : wpAnyH P md ops Q S (fuel + 1) listed a w := by
  subst hd
  exact wpAnyH_take hi hs hf hr hQ hy hS h
theorem below_undrew {w w' : World} (h : Below w.drew.heap.size w.drew w') : Below w.heap.size w w' := ⟨h.os, h.tape, h.output, h.size, h.block⟩
end Go.Proofs.YtapfaaaepnplcaaGreatDoor
set_option maxRecDepth 100000
namespace Go.Proofs.YtapfaaaepnplcaaGreatDoor
open Go.RowKit Go.Great
theorem of8 (x : UInt8) : BitVec.ofInt 8 (x.toNat : Int) = x.toBitVec := by
  apply BitVec.eq_of_toNat_eq
  rw [BitVec.toNat_ofInt]
  have := x.toNat_lt
  show ((x.toNat : Int) % _).toNat = x.toNat
  omega
theorem and8 (a b : UInt8) : bits .and .u8 (a.toNat : Int) (b.toNat : Int) = ((a &&& b).toNat : Int) := by
  show IntKind.u8.wrap ((BitVec.ofInt 8 (a.toNat : Int) &&& BitVec.ofInt 8 (b.toNat : Int)).toNat : Int) = _
  rw [of8, of8]
  have := (a &&& b).toNat_lt
  show IntKind.u8.wrap (((a &&& b).toNat : Nat) : Int) = _
  rw [IntKind.wrap_u8]; omega
theorem or8 (a b : UInt8) : bits .or .u8 (a.toNat : Int) (b.toNat : Int) = ((a ||| b).toNat : Int) := by
  show IntKind.u8.wrap ((BitVec.ofInt 8 (a.toNat : Int) ||| BitVec.ofInt 8 (b.toNat : Int)).toNat : Int) = _
  rw [of8, of8]
  have := (a ||| b).toNat_lt
  show IntKind.u8.wrap (((a ||| b).toNat : Nat) : Int) = _
  rw [IntKind.wrap_u8]; omega
/-- what is kept but for block R -/
def Kept (R : Nat) (w w' : World) : Prop := w.grownBy w' (some R)
theorem Kept.refl (R : Nat) (w : World) : Kept R w w := ⟨rfl, rfl, rfl, Nat.le_refl _, fun _ _ _ => rfl⟩
theorem Kept.step {R : Nat} {w w1 w2 : World} {row : Option Nat} (h : Kept R w w1) (g : w1.grownBy w2 row) (hr : ∀ k, row = some k → w.heap.size ≤ k ∨ k = R) : Kept R w w2 := by
  refine ⟨g.os.trans h.os, g.tape.trans h.tape, g.output.trans h.output, Nat.le_trans h.size g.size, fun k hk hne => ?_⟩
  have hs := h.size
  refine (g.block k (by omega) ?_).trans (h.block k hk hne)
  intro e
  rcases hr k e.symm with h1 | h1
  · omega
  · exact hne (by rw [h1])
theorem Kept.below {R : Nat} {w w1 w2 : World} (h : Kept R w w1) (g : Below w1.heap.size w1 w2) : Kept R w w2 := h.step (grown_below g none) (fun _ e => by cases e)
theorem Kept.alloc {R : Nat} {w w1 : World} (h : Kept R w w1) (o : Obj) : Kept R w (w1.alloc o) := h.below (below_alloc _ _)
theorem Kept.trans {R : Nat} {w w1 w2 : World} (h : Kept R w w1) (g : Kept R w1 w2) : Kept R w w2 := Kept.step h (show w1.grownBy w2 (some R) from g) (fun k e => by injection e with e; exact .inr e.symm)
theorem Kept.set {R : Nat} {w w1 : World} (h : Kept R w w1) (i : Nat) (u : Value) : Kept R w (w1.setCell ⟨R, i, none⟩ u) := by
  refine Kept.trans h ⟨rfl, rfl, rfl, by simp [World.setCell], fun k hk hne => Below.heap_setCell _ _ _ _ ?_⟩
  intro e; exact hne (by rw [e])
theorem Kept.drew {R : Nat} {w w1 : World} (h : Kept R w w1) : Kept R w w1.drew := Kept.trans h ⟨rfl, rfl, rfl, Nat.le_refl _, fun _ _ _ => rfl⟩
theorem Kept.size {R : Nat} {w w1 : World} (h : Kept R w w1) : w.heap.size ≤ w1.heap.size := World.grownBy.size h
theorem Kept.over {R : Nat} {w w1 : World} {o : Obj} (h : Kept R (w.alloc o) w1) : Kept R w w1 := Kept.trans (Kept.alloc (Kept.refl R w) o) h
theorem Kept.toBelow {R B : Nat} {a w w1 : World} (h : Below B a w) (g : Kept R w w1) (hB : B ≤ w.heap.size) (hR : B ≤ R) : Below B a w1 := h.grown g hB (fun k e => by injection e with e; omega)
theorem Kept.other {R k : Nat} {w w1 : World} {o : Obj} (h : Kept R w w1) (hk : w.heap[k]? = some o) (hne : k ≠ R) : w1.heap[k]? = some o := by
  rw [World.grownBy.block h k (lt_of_block hk) (by intro e; injection e with e; exact hne e), hk]
end Go.Proofs.YtapfaaaepnplcaaGreatDoor
set_option maxRecDepth 100000
namespace Go.Proofs.YtapfaaaepnplcaaGreatDoor
open Go.RowKit Go.Great
/-- a flash: its cells; whether power is off; its steps; its cut -/
structure St where
  C : List UInt8
  off : Bool
  st : Int
  ar : Bool
  lf : Int
  jk : ByteArray
def flRow (σ : St) : List Value := bytesV σ.C ++ [.bool σ.off, .int .i64 σ.st, .bool σ.ar, .int .i64 σ.lf, .string σ.jk]
theorem flRow_length (σ : St) : (flRow σ).length = σ.C.length + 5 := by simp [flRow, bytesV]
/-- block R is a flash -/
structure Fl (w : World) (R : Nat) (σ : St) : Prop where
  len : σ.C.length = 8192
  blk : w.heap[R]? = some (.cells (flRow σ).toArray 177 (0, 0))
theorem cell_of_list {w : World} {R i : Nat} {l : List Value} {t : TypeId} {fr : Nat × Nat} (h : w.heap[R]? = some (.cells l.toArray t fr)) : w.cell? ⟨R, i, none⟩ = l[i]? := by
  simp [World.cell?, h]
theorem Fl.frozen {w : World} {R : Nat} {σ : St} (h : Fl w R σ) (i : Nat) : w.frozen? ⟨R, i, none⟩ = false := by
  simp [World.frozen?, h.blk]
theorem Fl.lt {w : World} {R : Nat} {σ : St} (h : Fl w R σ) : R < w.heap.size := lt_of_block h.blk
theorem Fl.cell {w : World} {R : Nat} {σ : St} (h : Fl w R σ) (i : Nat) (hi : i < σ.C.length) : w.cell? ⟨R, i, none⟩ = some (.int .u8 (σ.C[i].toNat : Int)) := by
  rw [cell_of_list h.blk, flRow, List.getElem?_append_left (by simpa [bytesV] using hi)]
  simp [bytesV, hi]
theorem tail_at (σ : St) (h : σ.C.length = 8192) (k : Nat) : (flRow σ)[8192 + k]? = [Value.bool σ.off, .int .i64 σ.st, .bool σ.ar, .int .i64 σ.lf, .string σ.jk][k]? := by
  rw [flRow, List.getElem?_append_right (by simp [bytesV, h]), bytesV_length, h, Nat.add_sub_cancel_left]
theorem Fl.c0 {w : World} {R : Nat} {σ : St} (h : Fl w R σ) : w.cell? ⟨R, 8192, none⟩ = some (.bool σ.off) := by
  rw [cell_of_list h.blk]; exact tail_at σ h.len 0
theorem Fl.c1 {w : World} {R : Nat} {σ : St} (h : Fl w R σ) : w.cell? ⟨R, 8193, none⟩ = some (.int .i64 σ.st) := by
  rw [cell_of_list h.blk]; exact tail_at σ h.len 1
theorem Fl.c2 {w : World} {R : Nat} {σ : St} (h : Fl w R σ) : w.cell? ⟨R, 8194, none⟩ = some (.bool σ.ar) := by
  rw [cell_of_list h.blk]; exact tail_at σ h.len 2
theorem Fl.c3 {w : World} {R : Nat} {σ : St} (h : Fl w R σ) : w.cell? ⟨R, 8195, none⟩ = some (.int .i64 σ.lf) := by
  rw [cell_of_list h.blk]; exact tail_at σ h.len 3
theorem Fl.c4 {w : World} {R : Nat} {σ : St} (h : Fl w R σ) : w.cell? ⟨R, 8196, none⟩ = some (.string σ.jk) := by
  rw [cell_of_list h.blk]; exact tail_at σ h.len 4
theorem set_list {w : World} {R i : Nat} {l : List Value} {t : TypeId} {fr : Nat × Nat} (h : w.heap[R]? = some (.cells l.toArray t fr)) (v : Value) : (w.setCell ⟨R, i, none⟩ v).heap[R]? = some (.cells (l.set i v).toArray t fr) := by
  have hlt := lt_of_block h
  have h' : w.heap[R] = .cells l.toArray t fr := by simpa [Array.getElem?_eq_getElem hlt] using h
  show (w.heap.modify R _)[R]? = _
  rw [Array.getElem?_eq_getElem (by simpa using hlt), Array.getElem_modify_self, h']
  simp
theorem flRow_cell (σ : St) (i : Nat) (b : UInt8) (hi : i < σ.C.length) : (flRow σ).set i (.int .u8 (b.toNat : Int)) = flRow { σ with C := σ.C.set i b } := by
  unfold flRow
  rw [List.set_append_left _ _ (by simpa [bytesV] using hi)]
  simp [bytesV, List.map_set]
theorem tail_set (σ : St) (h : σ.C.length = 8192) (k : Nat) (v : Value) : (flRow σ).set (8192 + k) v = bytesV σ.C ++ [Value.bool σ.off, .int .i64 σ.st, .bool σ.ar, .int .i64 σ.lf, .string σ.jk].set k v := by
  rw [flRow, List.set_append_right _ _ (by simp [bytesV, h]), bytesV_length, h, Nat.add_sub_cancel_left]
theorem Fl.setCell {w : World} {R : Nat} {σ : St} (h : Fl w R σ) (i : Nat) (b : UInt8) (hi : i < σ.C.length) : Fl (w.setCell ⟨R, i, none⟩ (.int .u8 (b.toNat : Int))) R { σ with C := σ.C.set i b } :=
  ⟨by simp [h.len], by rw [set_list h.blk, flRow_cell σ i b hi]⟩
theorem Fl.s0 {w : World} {R : Nat} {σ : St} (h : Fl w R σ) (v : Bool) : Fl (w.setCell ⟨R, 8192, none⟩ (.bool v)) R { σ with off := v } :=
  ⟨h.len, by rw [set_list h.blk]; exact congrArg (fun l => some (Obj.cells (List.toArray l) _ _)) (tail_set σ h.len 0 _)⟩
theorem Fl.s1 {w : World} {R : Nat} {σ : St} (h : Fl w R σ) (v : Int) : Fl (w.setCell ⟨R, 8193, none⟩ (.int .i64 v)) R { σ with st := v } :=
  ⟨h.len, by rw [set_list h.blk]; exact congrArg (fun l => some (Obj.cells (List.toArray l) _ _)) (tail_set σ h.len 1 _)⟩
theorem Fl.s2 {w : World} {R : Nat} {σ : St} (h : Fl w R σ) (v : Bool) : Fl (w.setCell ⟨R, 8194, none⟩ (.bool v)) R { σ with ar := v } :=
  ⟨h.len, by rw [set_list h.blk]; exact congrArg (fun l => some (Obj.cells (List.toArray l) _ _)) (tail_set σ h.len 2 _)⟩
theorem Fl.s3 {w : World} {R : Nat} {σ : St} (h : Fl w R σ) (v : Int) : Fl (w.setCell ⟨R, 8195, none⟩ (.int .i64 v)) R { σ with lf := v } :=
  ⟨h.len, by rw [set_list h.blk]; exact congrArg (fun l => some (Obj.cells (List.toArray l) _ _)) (tail_set σ h.len 3 _)⟩
theorem Fl.s4 {w : World} {R : Nat} {σ : St} (h : Fl w R σ) (v : ByteArray) : Fl (w.setCell ⟨R, 8196, none⟩ (.string v)) R { σ with jk := v } :=
  ⟨h.len, by rw [set_list h.blk]; exact congrArg (fun l => some (Obj.cells (List.toArray l) _ _)) (tail_set σ h.len 4 _)⟩
theorem Fl.drew {w : World} {R : Nat} {σ : St} (h : Fl w R σ) : Fl w.drew R σ := ⟨h.len, h.blk⟩
theorem Fl.below {w w' : World} {R : Nat} {σ : St} (h : Fl w R σ) (hb : Below w.heap.size w w') : Fl w' R σ := ⟨h.len, by rw [hb.block R h.lt, h.blk]⟩
theorem Fl.kept {w w' : World} {R X : Nat} {σ : St} (h : Fl w R σ) (hb : Kept X w w') (hne : R ≠ X) : Fl w' R σ := ⟨h.len, hb.other h.blk hne⟩
/-- a flash's zero value -/
def flZ : List Value := List.replicate 8192 (.int .u8 0) ++ [.bool false, .int .i64 0, .bool false, .int .i64 0, .string ⟨#[]⟩]
def isZ (v : Value) : Bool := match v with | .int .u8 n => n == 0 | _ => false
theorem isZ_eq {v : Value} (h : isZ v = true) : v = .int .u8 0 := by
  unfold isZ at h; split at h
  · simp at h; subst h; rfl
  · cases h
def eat : Nat → List Value → Option (List Value)
  | 0, l => some l
  | _ + 1, [] => none
  | n + 1, x :: t => match isZ x with | true => eat n t | false => none
theorem eat_eq (n : Nat) (l r : List Value) (h : eat n l = some r) : l = List.replicate n (.int .u8 0) ++ r := by
  induction n generalizing l with
  | zero => simpa [eat] using h
  | succ n ih =>
    cases l with
    | nil => simp [eat] at h
    | cons x t =>
      have hx : isZ x = true := by cases hx : isZ x <;> simp_all [eat]
      have h2 : eat n t = some r := by simpa [eat, hx] using h
      rw [isZ_eq hx, ih t h2]; simp [List.replicate_succ]
def eats (n : Nat) : Nat → List Value → Option (List Value)
  | 0, l => some l
  | m + 1, l => match eat n l with | some t => eats n m t | none => none
theorem eats_eq (m n : Nat) (l r : List Value) (h : eats n m l = some r) : l = List.replicate (n * m) (.int .u8 0) ++ r := by
  induction m generalizing l with
  | zero => simpa [eats] using h
  | succ m ih =>
    cases he : eat n l with
    | none => simp [eats, he] at h
    | some t =>
      have h2 : eats n m t = some r := by simpa [eats, he] using h
      rw [eat_eq n l t he, ih t h2, Nat.mul_succ, Nat.add_comm, ← List.append_assoc]; simp
def look (o : Option Value) : Option (List Value) := match o with | some (.agg a) => eats 128 64 a.toList | _ => none
theorem look_eq {o : Option Value} {r : List Value} (h : look o = some r) : o = some (.agg (List.replicate (128 * 64) (Value.int .u8 0) ++ r).toArray) := by
  unfold look at h; split at h
  · rw [← eats_eq 64 128 _ _ h]
  · cases h
theorem z_look : look Tryz.t177.zero = some [.bool false, .int .i64 0, .bool false, .int .i64 0, .string ⟨#[]⟩] := by kernel_rfl
theorem z_fl : Tryz.t177.zero = some (.agg flZ.toArray) := look_eq z_look
theorem zv_fl (w : World) : Sem.run Tryz.prog (zeroValue 177) w = Result.ok (.agg flZ.toArray) w := by
  unfold zeroValue
  simp [z_fl]
def st0 (C : List UInt8) : St := ⟨C, false, 0, false, 0, ⟨#[]⟩⟩
theorem bytesV_rep (n : Nat) : bytesV (List.replicate n 0) = List.replicate n (.int .u8 0) := by simp [bytesV]
theorem flZ_row : flZ = flRow (st0 (List.replicate 8192 0)) := by
  unfold flZ flRow
  rw [show (st0 (List.replicate 8192 0)).C = List.replicate 8192 0 from rfl, bytesV_rep]
  rfl
end Go.Proofs.YtapfaaaepnplcaaGreatDoor
set_option maxRecDepth 100000
namespace Go.Proofs.YtapfaaaepnplcaaGreatDoor
open Go.RowKit Go.Great
abbrev fp (R : Nat) : Value := .pointer (some ⟨R, 0, none⟩)
theorem ready_nil (w : World) : Calls Tryz.prog 75 #[.pointer none] w fun e w' => e = .returned (.int .i64 2) ∧ w' = w := by
  go_enter Tryz.func75, Tryz.ntmps75
  go_wp2
  go_ret
  exact ⟨rfl, rfl⟩
theorem ready_any (w : World) (R : Nat) (σ : St) (h : Fl w R σ) : Calls Tryz.prog 75 #[fp R] w fun e w' => e = .returned (.int .i64 (if σ.off then 60 else 0)) ∧ w' = w := by
  have h0 := h.c0
  go_enter Tryz.func75, Tryz.ntmps75
  cases ho : σ.off <;> rw [ho] at h0
  · go_wp2
    go_ret
    exact ⟨rfl, rfl⟩
  · go_wp2
    go_ret
    exact ⟨rfl, rfl⟩
/-- are these cells? -/
def insideB (at_ n : Int) : Bool := decide (0 ≤ at_ ∧ 0 ≤ n ∧ at_ + n ≤ 8192)
theorem inside_any (w : World) (a n : Int) (ha : I64 a) : Calls Tryz.prog 76 #[.int .i64 a, .int .i64 n] w fun e w' => e = .returned (.bool (insideB a n)) ∧ w' = w := by
  unfold I64 at ha
  go_enter Tryz.func76, Tryz.ntmps76
  by_cases h1 : 0 ≤ a
  · by_cases h2 : 0 ≤ n
    · go_wp2
      go_ret
      refine ⟨ret_bool ?_, rfl⟩
      unfold insideB
      apply decide_eq_decide.2
      omega
    · go_wp2
      go_ret
      refine ⟨ret_bool ?_, rfl⟩
      simp [insideB]
      omega
  · go_wp2
    go_ret
    refine ⟨ret_bool ?_, rfl⟩
    simp [insideB]
    omega
/-- a junk's byte for the i-th cell -/
def arB (j : ByteArray) (i : Nat) : UInt8 := if j.size = 0 then 0 else j.data.toList.getD (i % j.size) 0
theorem around_any (w : World) (j : ByteArray) (i : Nat) (hj : j.size ≤ 9223372036854775807) (hi : i ≤ 9223372036854775807) : Calls Tryz.prog 160 #[.string j, .int .i64 i] w fun e w' => e = .returned (.int .u8 ((arB j i).toNat : Int)) ∧ w' = w := by
  go_enter Tryz.func160, Tryz.ntmps160
  by_cases h0 : j.size = 0
  · obtain rfl : j = ⟨#[]⟩ := by
      apply ByteArray.ext
      exact Array.eq_empty_of_size_eq_zero h0
    go_wp2
    go_ret
    exact ⟨rfl, rfl⟩
  · have hne : (j.toList == [] ) = false := by
      rw [ByteArray.toList_eq]
      cases hj : j.data.toList with
      | nil => exact absurd (by rw [← list_size, hj]; rfl) h0
      | cons a l => rfl
    have hr : ((i : Int).tmod (j.size : Int)) = ((i % j.size : Nat) : Int) := by
      rw [Int.tmod_eq_emod_of_nonneg (by omega)]; rfl
    have hlt : i % j.size < j.size := Nat.mod_lt _ (by omega)
    go_wp2
    go_ret
    refine ⟨ret_int ?_, rfl⟩
    unfold arB
    rw [if_neg h0, List.getD_eq_getElem?_getD, List.getElem?_eq_getElem (by rw [list_size]; exact hlt)]
    rfl
theorem told_any (w : World) (a : Addr) (cap : Nat) (l : List UInt8) (h : ∀ j (hj : j < l.length), w.cell? (a.add j) = some (.int .u8 (l[j].toNat : Int))) : Calls Tryz.prog 77 #[.slice (some a) l.length cap] w fun e w' => e = .returned (.string (bs l)) ∧ w' = w := by
  have hc : (convert 77 9 (.slice (some a) l.length cap)).run Tryz.prog w = .ok (.string (bs l)) w := run_convert_bytes_back _ 77 9 5 a cap l (by kernel_rfl) (by kernel_rfl) (by kernel_rfl) h
  go_enter Tryz.func77, Tryz.ntmps77
  go_wp2
  go_ret
  exact ⟨rfl, rfl⟩
/-- a step that begins -/
def stepS (σ : St) : St × ByteArray × Bool :=
  if σ.ar = true ∧ σ.lf = 0 then ({ σ with off := true, ar := false, lf := 0, jk := ⟨#[]⟩ }, σ.jk, false)
  else ({ σ with lf := if σ.ar then wrap64 (σ.lf - 1) else σ.lf, st := wrap64 (σ.st + 1) }, ⟨#[]⟩, true)
theorem step_any (w : World) (R : Nat) (σ : St) (h : Fl w R σ) : Calls Tryz.prog 159 #[fp R] w fun e w' => e = .returned (.tuple #[.string (stepS σ).2.1, .bool (stepS σ).2.2]) ∧ Fl w' R (stepS σ).1 ∧ Kept R w w' := by
  have h0 := h.c0
  have h1 := h.c1
  have h2 := h.c2
  have h3 := h.c3
  have h4 := h.c4
  have f0 := h.frozen 8192
  have f1 := h.frozen 8193
  have f2 := h.frozen 8194
  have f3 := h.frozen 8195
  have f4 := h.frozen 8196
  go_enter Tryz.func159, Tryz.ntmps159
  cases har : σ.ar <;> rw [har] at h2
  · have e : stepS σ = ({ σ with st := wrap64 (σ.st + 1) }, ⟨#[]⟩, true) := by simp [stepS, har]
    go_wp2
    go_ret2
    rw [e]
    exact ⟨rfl, h.s1 _, (Kept.refl _ _).set _ _⟩
  · by_cases hl : σ.lf = 0
    · have e : stepS σ = ({ σ with off := true, ar := false, lf := 0, jk := ⟨#[]⟩ }, σ.jk, false) := by simp [stepS, har, hl]
      rw [hl] at h3
      go_wp2
      go_ret2
      rw [e]
      exact ⟨rfl, (((h.s0 true).s2 false).s3 0).s4 ⟨#[]⟩, ((((Kept.refl _ _).set _ _).set _ _).set _ _).set _ _⟩
    · have e : stepS σ = ({ σ with lf := wrap64 (σ.lf - 1), st := wrap64 (σ.st + 1) }, ⟨#[]⟩, true) := by simp [stepS, har, hl]
      go_wp2
      go_ret2
      rw [e]
      exact ⟨rfl, (h.s3 _).s1 _, ((Kept.refl _ _).set _ _).set _ _⟩
theorem Addr.add0 (R i : Nat) : Addr.add ⟨R, 0, none⟩ i = ⟨R, i, none⟩ := by simp [Addr.add]; exact fun h => h.symm
theorem Addr.addi (R o i : Nat) : Addr.add ⟨R, o, none⟩ i = ⟨R, o + i, none⟩ := by unfold Addr.add; split <;> simp_all
end Go.Proofs.YtapfaaaepnplcaaGreatDoor
set_option maxRecDepth 100000
namespace Go.Proofs.YtapfaaaepnplcaaGreatDoor
theorem getD_at {α : Type} (l : List α) (d : α) {k : Nat} (h : k < l.length) : l.getD k d = l[k] := by rw [List.getD_eq_getElem?_getD, List.getElem?_eq_getElem h]; rfl
/-- the n cells from o on, each turned -/
def onL (C : List UInt8) (o n : Nat) (g : Nat → UInt8 → UInt8) : List UInt8 := C.mapIdx fun k c => if o ≤ k ∧ k < o + n then g (k - o) c else c
theorem onL_length (C : List UInt8) (o n : Nat) (g : Nat → UInt8 → UInt8) : (onL C o n g).length = C.length := by simp [onL]
theorem onL_at (C : List UInt8) (o n : Nat) (g : Nat → UInt8 → UInt8) (k : Nat) (h : k < (onL C o n g).length) : (onL C o n g)[k] = if o ≤ k ∧ k < o + n then g (k - o) (C[k]'(by simpa [onL] using h)) else C[k]'(by simpa [onL] using h) := by
  simp [onL]
theorem onL_getD (C : List UInt8) (o n : Nat) (g : Nat → UInt8 → UInt8) (k : Nat) (h : k < C.length) : (onL C o n g).getD k 0 = if o ≤ k ∧ k < o + n then g (k - o) (C.getD k 0) else C.getD k 0 := by
  have h2 : k < (onL C o n g).length := by rw [onL_length]; exact h
  rw [getD_at _ _ h2, onL_at, getD_at _ _ h]
theorem onL_zero (C : List UInt8) (o : Nat) (g : Nat → UInt8 → UInt8) : onL C o 0 g = C := by
  apply List.ext_getElem
  · simp [onL]
  · intro k h1 h2
    rw [onL_at, if_neg (by omega)]
theorem onL_succ (C : List UInt8) (o n : Nat) (g : Nat → UInt8 → UInt8) (h : o + n < C.length) : (onL C o n g).set (o + n) (g n (C.getD (o + n) 0)) = onL C o (n + 1) g := by
  apply List.ext_getElem
  · simp [onL]
  · intro k h1 h2
    have hk : k < C.length := by simpa [onL] using h2
    rw [onL_at, List.getElem_set]
    by_cases e : o + n = k
    · subst e
      rw [if_pos rfl, if_pos (by omega), Nat.add_sub_cancel_left, getD_at _ _ h]
    · rw [if_neg e, onL_at]
      by_cases c : o ≤ k ∧ k < o + n
      · rw [if_pos c, if_pos (by omega)]
      · rw [if_neg c, if_neg (by omega)]
theorem onL_next (C : List UInt8) (o n : Nat) (g : Nat → UInt8 → UInt8) (h : o + n < C.length) : (onL C o n g).getD (o + n) 0 = C.getD (o + n) 0 := by
  rw [onL_getD C o n g _ h, if_neg (by omega)]
theorem onL_congr (C : List UInt8) (o n : Nat) (g g' : Nat → UInt8 → UInt8) (h : ∀ i c, i < n → g i c = g' i c) : onL C o n g = onL C o n g' := by
  apply List.ext_getElem
  · simp [onL]
  · intro k h1 h2
    rw [onL_at, onL_at]
    by_cases c : o ≤ k ∧ k < o + n
    · rw [if_pos c, if_pos c, h _ _ (by omega)]
    · rw [if_neg c, if_neg c]
end Go.Proofs.YtapfaaaepnplcaaGreatDoor
set_option maxRecDepth 100000
namespace Go.Proofs.YtapfaaaepnplcaaGreatDoor
open Go.RowKit Go.Great
/-- one byte that is programmed -/
def progB (σ : St) (i : Nat) (b : UInt8) : St × Bool :=
  if (stepS σ).2.2 then ({ (stepS σ).1 with C := (stepS σ).1.C.set i ((stepS σ).1.C.getD i 0 &&& b) }, true)
  else ({ (stepS σ).1 with C := (stepS σ).1.C.set i ((stepS σ).1.C.getD i 0 &&& (b ||| arB (stepS σ).2.1 0)) }, false)
theorem stepS_C (σ : St) : (stepS σ).1.C = σ.C := by unfold stepS; split <;> rfl
theorem progB_any (w : World) (R : Nat) (σ : St) (h : Fl w R σ) (hj : σ.jk.size ≤ 9223372036854775807) (i : Nat) (hi : i < 8192) (b : UInt8) : Calls Tryz.prog 321 #[fp R, .int .i64 i, .int .u8 (b.toNat : Int)] w fun e w' => e = .returned (.int .i64 (if (progB σ i b).2 then 0 else 60)) ∧ Fl w' R (progB σ i b).1 ∧ Kept R w w' := by
  have S := step_any w R σ h
  have hjj : (stepS σ).2.1.size ≤ 9223372036854775807 := by
    unfold stepS; split
    · exact hj
    · show (0 : Nat) ≤ _; omega
  have hC := stepS_C σ
  unfold progB
  obtain ⟨⟨τ, jk, wh⟩, hs⟩ : ∃ x, stepS σ = x := ⟨_, rfl⟩
  rw [hs] at S hjj hC ⊢
  simp only at S hjj hC ⊢
  clear hs
  have hl : i < τ.C.length := by rw [hC, h.len]; exact hi
  have hg : τ.C.getD i 0 = τ.C[i] := by rw [List.getD_eq_getElem?_getD, List.getElem?_eq_getElem hl]; rfl
  rw [hg]
  clear hC
  obtain ⟨x, hx⟩ : ∃ x, Hid (τ.C[i] = x) := ⟨_, hide rfl⟩
  go_enter Tryz.func321, Tryz.ntmps321
  go_wp2_with fail
  refine S.mono ?_
  rintro e w1 ⟨rfl, h1, k1⟩
  have c : w1.cell? ⟨R, i, none⟩ = some (.int .u8 (x.toNat : Int)) := by rw [h1.cell i hl, hx.out]
  have f := h1.frozen i
  have hi' : (i : Int) < 8192 := by omega
  cases wh
  · obtain ⟨u, hu⟩ : ∃ u, Hid (arB jk 0 = u) := ⟨_, hide rfl⟩
    have A : ∀ wx, Calls Tryz.prog 160 #[.string jk, .int .i64 0] wx fun e w' => e = .returned (.int .u8 (u.toNat : Int)) ∧ w' = wx := fun wx => by
      have := around_any wx jk 0 hjj (by omega)
      rw [hu.out] at this
      exact this
    obtain ⟨y, hy⟩ : ∃ y, Hid (b ||| u = y) := ⟨_, hide rfl⟩
    have o1 : bits .or .u8 (b.toNat : Int) (u.toNat : Int) = (y.toNat : Int) := by rw [or8, hy.out]
    obtain ⟨z, hz⟩ : ∃ z, Hid (x &&& y = z) := ⟨_, hide rfl⟩
    have a1 : bits .and .u8 (x.toNat : Int) (y.toNat : Int) = (z.toNat : Int) := by rw [and8, hz.out]
    go_wp2_with fail
    go_region_with (go_at_call 160; refine (A _).mono ?_; rintro e w2 ⟨rfl, rfl⟩)
    all_goals
      clear o1 a1 A c f S hi'
      go_wp2_with fail
      go_ret
      refine ⟨by rfl, ?_, (k1.set _ _).drew⟩
      show Fl _ R { τ with C := τ.C.set i (τ.C[i] &&& (b ||| arB jk 0)) }
      rw [hx.out, hu.out, hy.out, hz.out]
      exact (h1.setCell i z hl).drew
  · obtain ⟨z, hz⟩ : ∃ z, Hid (x &&& b = z) := ⟨_, hide rfl⟩
    have a1 : bits .and .u8 (x.toNat : Int) (b.toNat : Int) = (z.toNat : Int) := by rw [and8, hz.out]
    go_wp2_with fail
    go_region
    go_wp2_with fail
    go_ret
    refine ⟨by rfl, ?_, (k1.set _ _).drew⟩
    show Fl _ R { τ with C := τ.C.set i (τ.C[i] &&& b) }
    rw [hx.out, hz.out]
    exact (h1.setCell i z hl).drew
/-- cells that are filled -/
theorem fill_any (w : World) (R : Nat) (σ : St) (h : Fl w R σ) (o n cap : Nat) (hn : o + n ≤ 8192) : Calls Tryz.prog 67 #[.slice (some ⟨R, o, none⟩) n cap] w fun e w' => e = .returned (.tuple #[]) ∧ Fl w' R { σ with C := onL σ.C o n fun _ _ => 255 } ∧ Kept R w w' := by
  have hl := h.len
  go_enter Tryz.func67, Tryz.ntmps67
  go_wp2_with fail
  go_loopw [5] (fun v5 wr => ∃ i : Nat, v5 = .int .i64 (i : Int) ∧ i ≤ n ∧ Fl wr R { σ with C := onL σ.C o i fun _ _ => 255 } ∧ Kept R w wr) (fun v5 _ => n - (intOf v5).toNat)
  case atStart => exact ⟨0, rfl, Nat.zero_le _, by rw [onL_zero]; exact h, Kept.refl _ _⟩
  case round =>
    obtain ⟨i, rfl, hi, hF, hK⟩ := hrel
    by_cases hlt : i < n
    · have hio : o + i < σ.C.length := by omega
      have c := hF.cell (o + i) (by rw [onL_length]; exact hio)
      have f := hF.frozen (o + i)
      go_wp2_with fail
      go_roundw
      case rel =>
        refine ⟨i + 1, by go_num, by omega, ?_, hK.set _ _⟩
        have := hF.setCell (o + i) 255 (by rw [onL_length]; exact hio)
        rw [← onL_succ _ _ _ _ hio]
        exact this
      case measure => simp [intOf]; omega
    · obtain rfl : i = n := by omega
      go_wp2_with fail
      go_end0
      exact ⟨rfl, hF, hK⟩
end Go.Proofs.YtapfaaaepnplcaaGreatDoor
set_option maxRecDepth 100000
namespace Go.Proofs.YtapfaaaepnplcaaGreatDoor
open Go.RowKit Go.Great
theorem progB_jk (σ : St) (i : Nat) (b : UInt8) (h : σ.jk.size ≤ 4096) : (progB σ i b).1.jk.size ≤ 4096 := by
  have : (stepS σ).1.jk.size ≤ 4096 := by
    unfold stepS; split
    · show (0 : Nat) ≤ _; omega
    · exact h
  unfold progB; split <;> exact this
/-- bytes that are programmed -/
def progS (σ : St) (a : Nat) : List UInt8 → St × Bool
  | [] => (σ, true)
  | b :: t => if (progB σ a b).2 then progS (progB σ a b).1 (a + 1) t else ((progB σ a b).1, false)
def progR (σ : St) (a : Int) (d : ByteArray) : St × Int :=
  if σ.off then (σ, 60) else if insideB a d.size then ((progS σ a.toNat d.data.toList).1, if (progS σ a.toNat d.data.toList).2 then 0 else 60) else (σ, 1)
theorem prog_nil (w : World) (a : Int) (d : ByteArray) : Calls Tryz.prog 242 #[.pointer none, .int .i64 a, .string d] w fun e w' => e = .returned (.int .i64 2) ∧ w' = w := by
  go_enter Tryz.func242, Tryz.ntmps242
  go_wp2_with fail
  refine (ready_nil w).mono ?_
  rintro e w1 ⟨rfl, rfl⟩
  go_wp2_with fail
  go_ret
  exact ⟨rfl, rfl⟩
theorem prog_off (w : World) (R : Nat) (σ : St) (h : Fl w R σ) (ho : σ.off = true) (a : Int) (d : ByteArray) : Calls Tryz.prog 242 #[fp R, .int .i64 a, .string d] w fun e w' => e = .returned (.int .i64 60) ∧ w' = w := by
  have S := ready_any w R σ h
  rw [ho] at S
  go_enter Tryz.func242, Tryz.ntmps242
  go_wp2_with fail
  refine S.mono ?_
  rintro e w1 ⟨rfl, rfl⟩
  go_wp2_with fail
  go_ret
  exact ⟨rfl, rfl⟩
theorem prog_out (w : World) (R : Nat) (σ : St) (h : Fl w R σ) (ho : σ.off = false) (a : Int) (ha : I64 a) (d : ByteArray) (hd : insideB a d.size = false) : Calls Tryz.prog 242 #[fp R, .int .i64 a, .string d] w fun e w' => e = .returned (.int .i64 1) ∧ w' = w := by
  have S := ready_any w R σ h
  rw [ho] at S
  have I := inside_any w a d.size ha
  rw [hd] at I
  go_enter Tryz.func242, Tryz.ntmps242
  go_wp2_with fail
  refine S.mono ?_
  rintro e w1 ⟨rfl, rfl⟩
  go_wp2_with fail
  refine I.mono ?_
  rintro e w1 ⟨rfl, rfl⟩
  go_wp2_with fail
  go_ret
  exact ⟨rfl, rfl⟩
theorem prog_in (w : World) (R : Nat) (σ : St) (h : Fl w R σ) (hj : σ.jk.size ≤ 4096) (ho : σ.off = false) (a : Nat) (d : ByteArray) (hd : a + d.size ≤ 8192) : Calls Tryz.prog 242 #[fp R, .int .i64 a, .string d] w fun e w' => e = .returned (.int .i64 (if (progS σ a d.data.toList).2 then 0 else 60)) ∧ Fl w' R (progS σ a d.data.toList).1 ∧ Kept R w w' := by
  have S := ready_any w R σ h
  rw [ho] at S
  have I := inside_any w a d.size (by unfold I64; omega)
  rw [show insideB (a : Int) d.size = true by unfold insideB; apply decide_eq_true; omega] at I
  obtain ⟨⟨ρf, okf⟩, hr⟩ : ∃ r, Hid (progS σ a d.data.toList = r) := ⟨_, hide rfl⟩
  rw [hr.out]
  simp only
  obtain ⟨v, hv⟩ : ∃ v : Int, Hid ((if okf then 0 else 60) = v) := ⟨_, hide rfl⟩
  rw [show (if okf = true then (0 : Int) else 60) = v from hv.out]
  go_enter Tryz.func242, Tryz.ntmps242
  go_wp2_with fail
  refine S.mono ?_
  rintro e w1 ⟨rfl, hw⟩
  obtain rfl := hw.symm
  clear hw
  go_wp2_with fail
  refine I.mono ?_
  rintro e w1 ⟨rfl, hw⟩
  obtain rfl := hw.symm
  clear hw
  clear S I
  go_wp2_with fail
  go_loopw [22] (fun v wr => ∃ i τ, v = .int .i64 ((i : Nat) : Int) ∧ i ≤ d.size ∧ Fl wr R τ ∧ Kept R w wr ∧ τ.jk.size ≤ 4096 ∧ Hid (progS σ a d.data.toList = progS τ (a + i) (d.data.toList.drop i))) (fun v _ => d.size - (intOf v).toNat)
  case atStart => exact ⟨0, σ, rfl, Nat.zero_le _, h, Kept.refl _ _, hj, hide rfl⟩
  case round =>
    obtain ⟨i, τ, rfl, hi, hF, hK, hj2, hE⟩ := hrel
    by_cases hlt : i < d.size
    · have hb : d.data.toList.drop i = d[i] :: d.data.toList.drop (i + 1) := by
        rw [List.drop_eq_getElem_cons (by rw [list_size]; exact hlt)]; rfl
      have P := progB_any wr R τ hF (by omega) (a + i) (by omega) d[i]
      have hj3 := progB_jk τ (a + i) d[i] hj2
      have hE2 : Hid (progS σ a d.data.toList = if (progB τ (a + i) d[i]).2 then progS (progB τ (a + i) d[i]).1 (a + i + 1) (d.data.toList.drop (i + 1)) else ((progB τ (a + i) d[i]).1, false)) := by
        show _ = _
        rw [hE.out, hb]; rfl
      clear hb hE hj2
      obtain ⟨⟨ρ, ok⟩, hr⟩ : ∃ r, progB τ (a + i) d[i] = r := ⟨_, rfl⟩
      rw [hr] at P hE2 hj3
      clear hr
      simp only at P hE2 hj3
      rw [show ((a + i : Nat) : Int) = (a : Int) + (i : Int) from by omega] at P
      cases ok
      · go_wp2_with fail
        refine P.mono ?_
        rintro e w1 ⟨rfl, h1, k1⟩
        go_wp2_with fail
        go_ret
        have := hE2.out
        simp only [Bool.false_eq_true, if_false] at this
        rw [hr.out] at this
        injection this with e1 e2
        subst e1 e2
        have e3 := hv.out
        subst e3
        exact ⟨rfl, h1, hK.trans k1⟩
      · go_wp2_with fail
        refine P.mono ?_
        rintro e w1 ⟨rfl, h1, k1⟩
        go_wp2_with fail
        go_roundw
        case rel => exact ⟨i + 1, ρ, by go_num, by omega, h1, hK.trans k1, hj3, hide (by rw [hE2.out]; rfl)⟩
        case measure => simp [intOf]; omega
    · obtain rfl : i = d.size := by omega
      have hE2 := hE.out
      rw [List.drop_of_length_le (by rw [list_size]; exact Nat.le_refl _)] at hE2
      have HE := hide hE2
      clear hE hE2
      go_wp2_with fail
      go_ret
      have := HE.out
      rw [hr.out] at this
      injection this with e1 e2
      subst e1 e2
      have e3 := hv.out
      subst e3
      exact ⟨rfl, hF, hK⟩
theorem insideB_true {a n : Int} (h : insideB a n = true) : 0 ≤ a ∧ 0 ≤ n ∧ a + n ≤ 8192 := of_decide_eq_true h
theorem prog_any (w : World) (R : Nat) (σ : St) (h : Fl w R σ) (hj : σ.jk.size ≤ 4096) (a : Int) (ha : I64 a) (d : ByteArray) : Calls Tryz.prog 242 #[fp R, .int .i64 a, .string d] w fun e w' => e = .returned (.int .i64 (progR σ a d).2) ∧ Fl w' R (progR σ a d).1 ∧ Kept R w w' := by
  unfold progR
  cases ho : σ.off
  · cases hi : insideB a d.size
    · refine (prog_out w R σ h ho a ha d hi).mono ?_
      rintro e w1 ⟨rfl, rfl⟩
      exact ⟨rfl, h, Kept.refl _ _⟩
    · obtain ⟨h1, h2, h3⟩ := insideB_true hi
      obtain ⟨k, rfl⟩ := Int.eq_ofNat_of_zero_le h1
      refine (prog_in w R σ h hj ho k d (by omega)).mono ?_
      rintro e w1 ⟨rfl, h1, h2⟩
      exact ⟨rfl, h1, h2⟩
  · refine (prog_off w R σ h ho a d).mono ?_
    rintro e w1 ⟨rfl, rfl⟩
    exact ⟨rfl, h, Kept.refl _ _⟩
end Go.Proofs.YtapfaaaepnplcaaGreatDoor
set_option maxRecDepth 100000
namespace Go.Proofs.YtapfaaaepnplcaaGreatDoor
open Go.RowKit Go.Great
def onS (σ : St) : St := { σ with off := false, ar := false, lf := 0, jk := ⟨#[]⟩ }
/-- what Read answers -/
def readR (σ : St) (a n : Int) : ByteArray × Int :=
  if σ.off then (⟨#[]⟩, 60) else if insideB a n then (bs ((σ.C.drop a.toNat).take n.toNat), 0) else (⟨#[]⟩, 1)
theorem read_nil (w : World) (a n : Int) : Calls Tryz.prog 36 #[.pointer none, .int .i64 a, .int .i64 n] w fun e w' => e = .returned (.tuple #[.string ⟨#[]⟩, .int .i64 2]) ∧ w' = w := by
  go_enter Tryz.func36, Tryz.ntmps36
  go_wp2_with fail
  refine (ready_nil w).mono ?_
  rintro e w1 ⟨rfl, rfl⟩
  go_wp2_with fail
  go_ret2
  exact ⟨rfl, rfl⟩
theorem cut_cells (R a n : Nat) (hi : a + n ≤ 8192) : ∃ X, (n = 0 ∨ X = (⟨R, a, none⟩ : Addr)) ∧ ∀ w, (Instr.sliceAt 173 (.pointer (some ⟨R, 0, none⟩)) (some (.int .i64 (a : Int))) (some (.int .i64 ((a : Int) + (n : Int)))) none).run Tryz.prog w = .ok (.slice (some X) n (8192 - a)) w := by
  refine ⟨if 8192 = a then ⟨R, 0, none⟩ else Addr.add ⟨R, 0, none⟩ (a * 1), ?_, fun w => ?_⟩
  · by_cases h : 8192 = a
    · exact .inl (by omega)
    · right; rw [if_neg h, Addr.add0, Nat.mul_one]
  · rw [run_sliceAt_array_lh w 173 ⟨R, 0, none⟩ (by kernel_rfl) .i64 .i64 (a : Int) ((a : Int) + (n : Int)) (by omega) (by omega) (by rw [show Tryz.prog.arrayLen 173 = 8192 by kernel_rfl]; omega)]
    rw [show Tryz.prog.arrayLen 173 = 8192 by kernel_rfl, show Tryz.prog.elem 173 = 5 by kernel_rfl, Tryz.sizeOf5]
    simp only [Result.andThen_ok, slicedAt]
    rw [show ((a : Int)).toNat = a by omega, show ((a : Int) + (n : Int)).toNat - a = n by omega]
theorem read_in (w : World) (R : Nat) (σ : St) (h : Fl w R σ) (ho : σ.off = false) (a n : Nat) (hi : a + n ≤ 8192) : Calls Tryz.prog 36 #[fp R, .int .i64 a, .int .i64 n] w fun e w' => e = .returned (.tuple #[.string (bs ((σ.C.drop a).take n)), .int .i64 0]) ∧ w' = w := by
  have S := ready_any w R σ h
  rw [ho] at S
  have I := inside_any w a n (by unfold I64; omega)
  rw [show insideB (a : Int) n = true by unfold insideB; apply decide_eq_true; omega] at I
  have hl : ((σ.C.drop a).take n).length = n := by rw [List.length_take, List.length_drop, h.len]; omega
  have T : ∀ x cap, (n = 0 ∨ x = ⟨R, a, none⟩) → Calls Tryz.prog 77 #[.slice (some x) n cap] w fun e w' => e = .returned (.string (bs ((σ.C.drop a).take n))) ∧ w' = w := by
    intro x cap hx
    have := told_any w x cap ((σ.C.drop a).take n) (fun j hj => by
      rw [hl] at hj
      rcases hx with hx | hx
      · omega
      · subst hx
        rw [Addr.addi, h.cell (a + j) (by rw [h.len]; omega)]
        simp)
    rw [hl] at this
    exact this
  go_enter Tryz.func36, Tryz.ntmps36
  go_wp2_with fail
  refine S.mono ?_
  rintro e w1 ⟨rfl, hw⟩
  obtain rfl := hw.symm
  clear hw
  go_wp2_with fail
  refine I.mono ?_
  rintro e w1 ⟨rfl, hw⟩
  obtain rfl := hw.symm
  clear hw
  clear S I
  obtain ⟨X, hX, hc⟩ := cut_cells R a n hi
  have T2 := T X (8192 - a) hX
  clear T hX
  go_wp2_with fail
  refine T2.mono ?_
  rintro e w1 ⟨rfl, rfl⟩
  go_wp2_with fail
  go_ret2
  exact ⟨rfl, rfl⟩
theorem read_off (w : World) (R : Nat) (σ : St) (h : Fl w R σ) (ho : σ.off = true) (a n : Int) : Calls Tryz.prog 36 #[fp R, .int .i64 a, .int .i64 n] w fun e w' => e = .returned (.tuple #[.string ⟨#[]⟩, .int .i64 60]) ∧ w' = w := by
  have S := ready_any w R σ h
  rw [ho] at S
  go_enter Tryz.func36, Tryz.ntmps36
  go_wp2_with fail
  refine S.mono ?_
  rintro e w1 ⟨rfl, rfl⟩
  go_wp2_with fail
  go_ret2
  exact ⟨rfl, rfl⟩
theorem read_out (w : World) (R : Nat) (σ : St) (h : Fl w R σ) (ho : σ.off = false) (a n : Int) (ha : I64 a) (hd : insideB a n = false) : Calls Tryz.prog 36 #[fp R, .int .i64 a, .int .i64 n] w fun e w' => e = .returned (.tuple #[.string ⟨#[]⟩, .int .i64 1]) ∧ w' = w := by
  have S := ready_any w R σ h
  rw [ho] at S
  have I := inside_any w a n ha
  rw [hd] at I
  go_enter Tryz.func36, Tryz.ntmps36
  go_wp2_with fail
  refine S.mono ?_
  rintro e w1 ⟨rfl, rfl⟩
  go_wp2_with fail
  refine I.mono ?_
  rintro e w1 ⟨rfl, rfl⟩
  go_wp2_with fail
  go_ret2
  exact ⟨rfl, rfl⟩
theorem read_any (w : World) (R : Nat) (σ : St) (h : Fl w R σ) (a n : Int) (ha : I64 a) : Calls Tryz.prog 36 #[fp R, .int .i64 a, .int .i64 n] w fun e w' => e = .returned (.tuple #[.string (readR σ a n).1, .int .i64 (readR σ a n).2]) ∧ w' = w := by
  unfold readR
  cases ho : σ.off
  · cases hi : insideB a n
    · exact read_out w R σ h ho a n ha hi
    · obtain ⟨h1, h2, h3⟩ := insideB_true hi
      obtain ⟨k, rfl⟩ := Int.eq_ofNat_of_zero_le h1
      obtain ⟨m, rfl⟩ := Int.eq_ofNat_of_zero_le h2
      exact read_in w R σ h ho k m (by omega)
  · exact read_off w R σ h ho a n
end Go.Proofs.YtapfaaaepnplcaaGreatDoor
set_option maxRecDepth 100000
set_option maxHeartbeats 1000000
namespace Go.Proofs.YtapfaaaepnplcaaGreatDoor
open Go.RowKit Go.Great
theorem of16 (x : BitVec 16) : BitVec.ofInt 16 (x.toNat : Int) = x := by
  apply BitVec.eq_of_toNat_eq
  rw [BitVec.toNat_ofInt]
  have := x.isLt
  omega
theorem wrap16 (x : BitVec 16) : IntKind.u16.wrap (x.toNat : Int) = x.toNat := by
  have := x.isLt
  rw [IntKind.wrap_u16]; omega
theorem xor16 (a b : BitVec 16) : bits .xor .u16 (a.toNat : Int) (b.toNat : Int) = ((a ^^^ b).toNat : Int) := by
  show IntKind.u16.wrap ((BitVec.ofInt 16 (a.toNat : Int) ^^^ BitVec.ofInt 16 (b.toNat : Int)).toNat : Int) = _
  rw [of16, of16, wrap16]
theorem and15 (a : BitVec 16) : bits .and .u16 (a.toNat : Int) 15 = ((a.toNat % 16 : Nat) : Int) := by
  show IntKind.u16.wrap ((BitVec.ofInt 16 (a.toNat : Int) &&& BitVec.ofInt 16 15).toNat : Int) = _
  rw [of16, wrap16, BitVec.toNat_and, show (BitVec.ofInt 16 15).toNat = 2 ^ 4 - 1 from rfl, Nat.and_two_pow_sub_one_eq_mod]
def tabV : List Value := [.int .u16 0, .int .u16 4225, .int .u16 8450, .int .u16 12675, .int .u16 16900, .int .u16 21125, .int .u16 25350, .int .u16 29575, .int .u16 33800, .int .u16 38025, .int .u16 42250, .int .u16 46475, .int .u16 50700, .int .u16 54925, .int .u16 59150, .int .u16 63375]
theorem tabV_at : ∀ i : Nat, i < 16 → tabV[i]? = some (.int .u16 ((tab i).toNat : Int))
  | 0, _ | 1, _ | 2, _ | 3, _ | 4, _ | 5, _ | 6, _ | 7, _ | 8, _ | 9, _ | 10, _ | 11, _ | 12, _ | 13, _ | 14, _ | 15, _ => rfl
  | n + 16, h => absurd h (by omega)
theorem nibble_any (c : BitVec 16) (w : World) : Calls Tryz.prog 385 #[.int .u16 (c.toNat : Int)] w fun e w' => e = .returned (.int .u16 ((nib c).toNat : Int)) ∧ Below w.heap.size w w' := by
  have ha := and15 c
  have hl := c.isLt
  have hx : bits .xor .u16 ((c.toNat : Int) / 16) ((tab (c.toNat % 16)).toNat : Int) = ((nib c).toNat : Int) := by
    have e : (c.toNat : Int) / (16 : Int) = (((c >>> 4).toNat : Nat) : Int) := by
      rw [BitVec.toNat_ushiftRight, Nat.shiftRight_eq_div_pow]; omega
    rw [e, xor16]
    rfl
  have hc := tabV_at (c.toNat % 16) (by omega)
  have hi : c.toNat % 16 < 16 := by omega
  generalize c.toNat % 16 = i at ha hx hc hi
  generalize nib c = n at hx ⊢
  generalize tab i = t at hx hc
  have hd : ∀ h : i < tabV.length, tabV[i]'h = .int .u16 (t.toNat : Int) := by
    intro h
    rw [List.getElem?_eq_getElem h] at hc
    exact Option.some.inj hc
  clear hc
  unfold tabV at hd
  go_enter Tryz.func385, Tryz.ntmps385
  go_wp2
  go_ret
  exact ⟨rfl, below_alloc _ _⟩
theorem conv8 (b : UInt8) : IntKind.u16.wrap (b.toNat : Int) = ((wide b).toNat : Int) := by
  have := b.toNat_lt
  rw [IntKind.wrap_u16, wide_nat]; omega
theorem wide_int (b : UInt8) : (b.toNat : Int) = ((wide b).toNat : Int) := by rw [wide_nat]
theorem add_any_CrcB (c : BitVec 16) (b : UInt8) (w : World) : Calls Tryz.prog 342 #[.int .u16 (c.toNat : Int), .int .u8 (b.toNat : Int)] w fun e w' => e = .returned (.int .u16 ((cadd c b).toNat : Int)) ∧ Below w.heap.size w w' := by
  have hc := conv8 b
  have hb := wide_int b
  have hx := xor16 c (wide b)
  have HN : Hid (nib (nib (c ^^^ wide b)) = cadd c b) := by show _ = _; rw [nib_st4, nib_st4]; rfl
  have hlt := b.toNat_lt
  generalize wide b = v at hc hb hx HN
  generalize c ^^^ v = x at hx HN
  go_enter Tryz.func342, Tryz.ntmps342
  go_wp2_with fail
  refine (nibble_any _ _).mono ?_
  rintro e w1 ⟨rfl, hB⟩
  go_wp2_with fail
  refine (nibble_any _ _).mono ?_
  rintro e w2 ⟨rfl, hC⟩
  go_wp2_with fail
  go_ret
  exact ⟨ret_int (by rw [HN.out]), below_next hB (Nat.le_refl _) hC⟩
theorem take_snoc (s : ByteArray) (k : Nat) (h : k < s.size) : s.data.toList.take (k + 1) = s.data.toList.take k ++ [s[k]] := by
  rw [List.take_succ_eq_append_getElem (by simpa using h)]; rfl
theorem cadds_snoc (c : BitVec 16) (l : List UInt8) (b : UInt8) : cadds c (l ++ [b]) = cadd (cadds c l) b := by
  unfold cadds; rw [List.foldl_append]; rfl
/-- crc.Sum -/
def csum (s : ByteArray) : BitVec 16 := cadds 65535#16 s.data.toList
theorem sum_any (s : ByteArray) (w : World) (hs : s.size ≤ 9223372036854775807) : Calls Tryz.prog 343 #[.string s] w fun e w' => e = .returned (.int .u16 ((csum s).toNat : Int)) ∧ Below w.heap.size w w' := by
  go_enter Tryz.func343, Tryz.ntmps343
  go_wp2
  go_loopw [3, 7] (fun c i wx => Below w.heap.size w wx ∧ ∃ k : Nat, k ≤ s.size ∧ i = .int .i64 k ∧ c = .int .u16 ((cadds 65535#16 (s.data.toList.take k)).toNat : Int)) (fun _ i _ => s.size - (intOf i).toNat)
  case atStart => exact ⟨Below.refl _ _, 0, Nat.zero_le _, rfl, rfl⟩
  case round =>
    obtain ⟨hB, k, hk, rfl, rfl⟩ := hrel
    by_cases hlt : k < s.size
    · have HT : Hid (cadds 65535#16 (s.data.toList.take (k + 1)) = cadd (cadds 65535#16 (s.data.toList.take k)) s[k]) := by
        show _ = _
        rw [take_snoc s k hlt, cadds_snoc]
      generalize cadds 65535#16 (s.data.toList.take k) = c at HT
      go_wp2_with fail
      refine (add_any_CrcB _ _ _).mono ?_
      rintro e w1 ⟨rfl, hC⟩
      go_wp2_with fail
      go_roundw
      case rel => exact ⟨below_next hB (Nat.le_refl _) hC, k + 1, by omega, by go_num, by rw [HT.out]⟩
      case measure => simp [intOf]; omega
    · have HE : Hid (cadds 65535#16 (s.data.toList.take k) = csum s) := by
        show _ = _
        rw [List.take_of_length_le (by simp; omega)]; rfl
      go_wp2_with fail
      go_ret
      exact ⟨ret_int (by rw [HE.out]), hB⟩
/-- the steps one behind the other -/
def stN : Nat → BitVec 16 → BitVec 16
  | 0, c => c
  | n + 1, c => st (stN n c)
theorem st_odd (c : BitVec 16) (h : c.toNat % 2 = 1) : bits .xor .u16 ((c.toNat : Int) / 2) 33800 = ((st c).toNat : Int) := by
  have e : c.getLsbD 0 = true := by
    rw [BitVec.getLsbD, Nat.testBit_zero]; simp; omega
  have e2 : (c.toNat : Int) / (2 : Int) = (((c >>> 1).toNat : Nat) : Int) := by
    rw [BitVec.toNat_ushiftRight, Nat.shiftRight_eq_div_pow]; omega
  have := xor16 (c >>> 1) 33800#16
  rw [e2]
  unfold st
  rw [e, if_pos rfl]
  exact this
theorem wf_u16 {x : Int} (h : (Lit.int .u16 x).wf = true) : ∃ c : BitVec 16, x = (c.toNat : Int) := by
  simp [Lit.wf, IntKind.min, IntKind.max, IntKind.bits, IntKind.signed] at h
  exact ⟨BitVec.ofNat 16 x.toNat, by rw [BitVec.toNat_ofNat]; omega⟩
theorem beq_no {a b : Nat} (h : a ≠ b) : ((a : Int) == (b : Int)) = false := by
  simp; omega
theorem csum_both (a b : ByteArray) : csum (a ++ b) = cadds (csum a) b.data.toList := by
  unfold csum cadds
  rw [ByteArray.data_append, Array.toList_append, List.foldl_append]
/-- a number's two bytes, the low one first -/
def lowB (c : BitVec 16) : UInt8 := UInt8.ofNat (c.toNat % 256)
def highB (c : BitVec 16) : UInt8 := UInt8.ofNat (c.toNat / 256)
theorem lowB_nat (c : BitVec 16) : (lowB c).toNat = c.toNat % 256 := by
  rw [lowB, UInt8.toNat_ofNat']; omega
theorem highB_nat (c : BitVec 16) : (highB c).toNat = c.toNat / 256 := by
  have := c.isLt
  rw [highB, UInt8.toNat_ofNat']; omega
def twoB (c : BitVec 16) : ByteArray := ⟨#[lowB c, highB c]⟩
theorem conv_two (w : World) (c : BitVec 16) : (convert 77 9 (.slice (some ⟨w.heap.size, 0, none⟩) 2 2)).run Tryz.prog (w.alloc (.cells #[.int .u8 ((c.toNat : Int) % 256), .int .u8 ((c.toNat : Int) / 256)] 5)) = .ok (.string (twoB c)) (w.alloc (.cells #[.int .u8 ((c.toNat : Int) % 256), .int .u8 ((c.toNat : Int) / 256)] 5)) := by
  refine run_convert_bytes_back _ 77 9 5 ⟨w.heap.size, 0, none⟩ 2 [lowB c, highB c] (by kernel_rfl) (by kernel_rfl) (by kernel_rfl) ?_
  have h1 := lowB_nat c
  have h2 := highB_nat c
  intro j hj
  rw [show (Addr.add ⟨w.heap.size, 0, none⟩ j) = ⟨w.heap.size, j, none⟩ by simp [Addr.add]; exact fun h => h.symm, World.cell?_alloc_mark]
  match j, hj with
  | 0, _ => show some (Value.int .u8 ((c.toNat : Int) % 256)) = some (.int .u8 ((lowB c).toNat : Int)); rw [h1]; rfl
  | 1, _ => show some (Value.int .u8 ((c.toNat : Int) / 256)) = some (.int .u8 ((highB c).toNat : Int)); rw [h2]; rfl
theorem xor8 (a b : UInt8) : bits .xor .u8 (a.toNat : Int) (b.toNat : Int) = ((a ^^^ b).toNat : Int) := by
  show IntKind.u8.wrap ((BitVec.ofInt 8 (a.toNat : Int) ^^^ BitVec.ofInt 8 (b.toNat : Int)).toNat : Int) = _
  rw [of8, of8]
  have := (a ^^^ b).toNat_lt
  show IntKind.u8.wrap (((a ^^^ b).toNat : Nat) : Int) = _
  rw [IntKind.wrap_u8]; omega
/-- a row of bytes -/
def Row (w : World) (B : Nat) (l : List UInt8) : Prop := ∀ j (h : j < l.length), w.cell? ⟨B, j, none⟩ = some (.int .u8 (l[j].toNat : Int)) ∧ w.frozen? ⟨B, j, none⟩ = false
theorem bytes_new (s : ByteArray) (w : World) : ∃ wx cap, (convert 9 77 (.string s)).run Tryz.prog w = .ok (.slice (some ⟨w.heap.size, 0, none⟩) s.size cap) wx ∧ Row wx w.heap.size s.data.toList ∧ Below w.heap.size w wx ∧ w.heap.size < wx.heap.size := by
  refine ⟨_, _, run_bytes_of_string w 9 77 5 s (by kernel_rfl) (by kernel_rfl) (by kernel_rfl), ?_, ?_, ?_⟩
  · intro j hj
    have hj' : j < s.data.size := by simpa using hj
    refine ⟨?_, ?_⟩
    · have := World.cell?_alloc_mark w.drew (bytesRow s (grownCap w s.size 0 5)) 5 ((bytesRow s (grownCap w s.size 0 5)).size, (bytesRow s (grownCap w s.size 0 5)).size + 1) j
      refine this.trans ?_
      rw [bytesRow_at _ _ _ hj']
      simp
    · have := World.frozen?_alloc_mark w.drew (bytesRow s (grownCap w s.size 0 5)) 5 (bytesRow s (grownCap w s.size 0 5)).size ((bytesRow s (grownCap w s.size 0 5)).size + 1) j
      refine this.trans ?_
      have hz : s.data.size ≤ (bytesRow s (grownCap w s.size 0 5)).size := by
        unfold bytesRow; simp
      simp; omega
  · exact (Below.refl _ _).drew.alloc (Nat.le_refl _) _
  · show w.heap.size < (w.heap.push _).size
    simp
theorem row_set (w : World) (B : Nat) (l : List UInt8) (h : Row w B l) (i : Nat) (x : UInt8) : Row (w.setCell ⟨B, i, none⟩ (.int .u8 (x.toNat : Int))) B (l.set i x) := by
  intro j hj
  have hj' : j < l.length := by simpa using hj
  obtain ⟨h1, h2⟩ := h j hj'
  refine ⟨?_, by rw [World.frozen?_setCell]; exact h2⟩
  by_cases g : i = j
  · subst g
    rw [World.cell?_setCell_same _ _ _ h1, List.getElem_set_self]
  · rw [World.cell?_setCell_other _ _ _ _ (by intro e; injection e with e1 e2; exact g e2), h1, List.getElem_set_ne g]
theorem row_back (w : World) (B cap : Nat) (l : List UInt8) (h : Row w B l) (n : Nat) (hn : n = l.length) : (convert 77 9 (.slice (some ⟨B, 0, none⟩) n cap)).run Tryz.prog w = .ok (.string ⟨l.toArray⟩) w := by
  subst hn
  refine run_convert_bytes_back _ 77 9 5 ⟨B, 0, none⟩ cap l (by kernel_rfl) (by kernel_rfl) (by kernel_rfl) ?_
  intro j hj
  rw [show (Addr.add ⟨B, 0, none⟩ j) = ⟨B, j, none⟩ by simp [Addr.add]; exact fun h => h.symm]
  exact (h j hj).1
theorem row_below {w w' : World} {B : Nat} {l : List UInt8} (h : Row w B l) (hb : Below w.heap.size w w') (hB : B < w.heap.size) : Row w' B l := by
  intro j hj
  obtain ⟨h1, h2⟩ := h j hj
  exact ⟨(hb.cell (p := ⟨B, j, none⟩) hB).trans h1, (hb.frozen (p := ⟨B, j, none⟩) hB).trans h2⟩
theorem cadds_app (c : BitVec 16) (l m : List UInt8) : cadds c (l ++ m) = cadds (cadds c l) m := by
  unfold cadds; rw [List.foldl_append]
theorem cadds_cons (c : BitVec 16) (b : UInt8) (l : List UInt8) : cadds c (b :: l) = cadds (cadd c b) l := rfl
theorem one_tells (c : BitVec 16) (l : List UInt8) (p : Nat) (hp : p < l.length) (y : UInt8) (h : cadds c (l.set p y) = cadds c l) : l.set p y = l := by
  have e1 : l.set p y = l.take p ++ y :: l.drop (p + 1) := by rw [List.set_eq_take_append_cons_drop, if_pos hp]
  have e2 : l = l.take p ++ l[p] :: l.drop (p + 1) := by
    rw [← List.drop_eq_getElem_cons hp, List.take_append_drop]
  have h' : cadds c (l.take p ++ y :: l.drop (p + 1)) = cadds c (l.take p ++ l[p] :: l.drop (p + 1)) := by
    rw [← e1, ← e2]; exact h
  rw [cadds_app, cadds_app, cadds_cons, cadds_cons] at h'
  have h2 := cadd_bytes _ _ _ (cadds_nums (l.drop (p + 1)) _ _ h')
  rw [h2, List.set_getElem_self]
end Go.Proofs.YtapfaaaepnplcaaGreatDoor
