/- No0, No1, No2, NoM, Rg. -/
import Derived.Test.YtcjahdgppnmdkaaProg
import Derived.WalkKit
import Derived.Deep.QuietTactic
import Derived.BigQuiet
import Derived.Great.BuildSlice
import Derived.Deep.WholeRow
import Derived.Below
import Derived.Laws.IdiomStrings
import Derived.Laws.IdiomCopy
import Derived.Laws.Concat
import Derived.Laws.CopyRow
set_option maxRecDepth 100000
namespace Go.Proofs.Ytcjahdgppnmdkaa
open Go.RowKit Go.Great
theorem hide {p : Prop} (h : p) : Hid p := h
theorem ret_int {k : IntKind} {a b : Int} (h : a = b) : Ending.returned (.int k a) = .returned (.int k b) := by rw [h]
theorem ret_bool {a b : Bool} (h : a = b) : Ending.returned (.bool a) = .returned (.bool b) := by rw [h]
theorem below_next {B : Nat} {w w1 w2 : World} (h : Below B w w1) (hB : B ≤ w.heap.size) (h2 : Below w1.heap.size w1 w2) : Below B w w2 := h.trans (h2.mono (by have := h.size; omega))
theorem below_alloc (w : World) (o : Obj) : Below w.heap.size w (w.alloc o) := (Below.refl _ _).alloc (Nat.le_refl _) _
theorem below_over {w w' : World} {o : Obj} (h : Below (w.alloc o).heap.size (w.alloc o) w') : Below w.heap.size w w' :=
  below_next (below_alloc w o) (Nat.le_refl _) h
/-- an int -/
def I64 (x : Int) : Prop := -9223372036854775808 ≤ x ∧ x ≤ 9223372036854775807
theorem wf_i64 {x : Int} (h : (Lit.int .i64 x).wf = true) : I64 x := by
  simp [Lit.wf, IntKind.min, IntKind.max, IntKind.bits, IntKind.signed] at h
  unfold I64; omega
theorem wf_u8 {x : Int} (h : (Lit.int .u8 x).wf = true) : ∃ c : UInt8, x = (c.toNat : Int) := by
  simp [Lit.wf, IntKind.min, IntKind.max, IntKind.bits, IntKind.signed] at h
  exact ⟨UInt8.ofNat x.toNat, by rw [UInt8.toNat_ofNat']; omega⟩
theorem of8 (x : UInt8) : BitVec.ofInt 8 (x.toNat : Int) = x.toBitVec := by
  apply BitVec.eq_of_toNat_eq
  rw [BitVec.toNat_ofInt]
  have := x.toNat_lt
  show ((x.toNat : Int) % _).toNat = x.toNat
  omega
theorem and8 (a b : UInt8) : bits .and .u8 (a.toNat : Int) (b.toNat : Int) = ((a &&& b).toNat : Int) := by
  show IntKind.u8.wrap ((BitVec.ofInt 8 (a.toNat : Int) &&& BitVec.ofInt 8 (b.toNat : Int)).toNat : Int) = _
  rw [of8, of8]
  have := (a &&& b).toNat_lt
  show IntKind.u8.wrap (((a &&& b).toNat : Nat) : Int) = _
  rw [IntKind.wrap_u8]; omega
theorem or8 (a b : UInt8) : bits .or .u8 (a.toNat : Int) (b.toNat : Int) = ((a ||| b).toNat : Int) := by
  show IntKind.u8.wrap ((BitVec.ofInt 8 (a.toNat : Int) ||| BitVec.ofInt 8 (b.toNat : Int)).toNat : Int) = _
  rw [of8, of8]
  have := (a ||| b).toNat_lt
  show IntKind.u8.wrap (((a ||| b).toNat : Nat) : Int) = _
  rw [IntKind.wrap_u8]; omega
/-- a string of these bytes -/
def bs (l : List UInt8) : ByteArray := ⟨l.toArray⟩
theorem bs_list (l : List UInt8) : (bs l).data.toList = l := by simp [bs]
theorem bs_size (l : List UInt8) : (bs l).size = l.length := by simp [bs, ByteArray.size]
theorem bs_of (s : ByteArray) : bs s.data.toList = s := by simp [bs]
theorem bs_inj {l m : List UInt8} (h : bs l = bs m) : l = m := by rw [← bs_list l, h, bs_list]
theorem list_size (s : ByteArray) : s.data.toList.length = s.size := Array.length_toList
def bytesV (l : List UInt8) : List Value := l.map fun b => Value.int .u8 (b.toNat : Int)
theorem bytesV_length (l : List UInt8) : (bytesV l).length = l.length := by simp [bytesV]
theorem grown_below {w w' : World} (h : Below w.heap.size w w') (row : Option Nat) : w.grownBy w' row := ⟨h.os, h.tape, h.output, h.size, fun k hk _ => h.block k hk⟩
/-- what is kept but for block R -/
def Kept (R : Nat) (w w' : World) : Prop := w.grownBy w' (some R)
theorem Kept.refl (R : Nat) (w : World) : Kept R w w := ⟨rfl, rfl, rfl, Nat.le_refl _, fun _ _ _ => rfl⟩
theorem Kept.step {R : Nat} {w w1 w2 : World} {row : Option Nat} (h : Kept R w w1) (g : w1.grownBy w2 row) (hr : ∀ k, row = some k → w.heap.size ≤ k ∨ k = R) : Kept R w w2 := by
  refine ⟨g.os.trans h.os, g.tape.trans h.tape, g.output.trans h.output, Nat.le_trans h.size g.size, fun k hk hne => ?_⟩
  have hs := h.size
  refine (g.block k (by omega) ?_).trans (h.block k hk hne)
  intro e
  rcases hr k e.symm with h1 | h1
  · omega
  · exact hne (by rw [h1])
theorem Kept.below {R : Nat} {w w1 w2 : World} (h : Kept R w w1) (g : Below w1.heap.size w1 w2) : Kept R w w2 := h.step (grown_below g none) (fun _ e => by cases e)
theorem Kept.alloc {R : Nat} {w w1 : World} (h : Kept R w w1) (o : Obj) : Kept R w (w1.alloc o) := h.below (below_alloc _ _)
theorem Kept.trans {R : Nat} {w w1 w2 : World} (h : Kept R w w1) (g : Kept R w1 w2) : Kept R w w2 := Kept.step h (show w1.grownBy w2 (some R) from g) (fun k e => by injection e with e; exact .inr e.symm)
theorem Kept.set {R : Nat} {w w1 : World} (h : Kept R w w1) (i : Nat) (u : Value) : Kept R w (w1.setCell ⟨R, i, none⟩ u) := by
  refine Kept.trans h ⟨rfl, rfl, rfl, by simp [World.setCell], fun k hk hne => Below.heap_setCell _ _ _ _ ?_⟩
  intro e; exact hne (by rw [e])
theorem Kept.drew {R : Nat} {w w1 : World} (h : Kept R w w1) : Kept R w w1.drew := Kept.trans h ⟨rfl, rfl, rfl, Nat.le_refl _, fun _ _ _ => rfl⟩
theorem Kept.size {R : Nat} {w w1 : World} (h : Kept R w w1) : w.heap.size ≤ w1.heap.size := World.grownBy.size h
theorem Kept.over {R : Nat} {w w1 : World} {o : Obj} (h : Kept R (w.alloc o) w1) : Kept R w w1 := Kept.trans (Kept.alloc (Kept.refl R w) o) h
theorem Kept.toBelow {R B : Nat} {a w w1 : World} (h : Below B a w) (g : Kept R w w1) (hB : B ≤ w.heap.size) (hR : B ≤ R) : Below B a w1 := h.grown g hB (fun k e => by injection e with e; omega)
theorem Kept.other {R k : Nat} {w w1 : World} {o : Obj} (h : Kept R w w1) (hk : w.heap[k]? = some o) (hne : k ≠ R) : w1.heap[k]? = some o := by
  rw [World.grownBy.block h k (lt_of_block hk) (by intro e; injection e with e; exact hne e), hk]
end Go.Proofs.Ytcjahdgppnmdkaa
set_option maxRecDepth 100000
namespace Go.Proofs.Ytcjahdgppnmdkaa
open Go.RowKit Go.Great
/-- a flash: its cells; whether power is off; its steps; its cut -/
structure St where
  C : List UInt8
  off : Bool
  st : Int
  ar : Bool
  lf : Int
  jk : ByteArray
def flRow (σ : St) : List Value := bytesV σ.C ++ [.bool σ.off, .int .i64 σ.st, .bool σ.ar, .int .i64 σ.lf, .string σ.jk]
theorem flRow_length (σ : St) : (flRow σ).length = σ.C.length + 5 := by simp [flRow, bytesV]
/-- block R is a flash -/
structure Fl (w : World) (R : Nat) (σ : St) : Prop where
  len : σ.C.length = 8192
  blk : w.heap[R]? = some (.cells (flRow σ).toArray 100 (0, 0))
theorem cell_of_list {w : World} {R i : Nat} {l : List Value} {t : TypeId} {fr : Nat × Nat} (h : w.heap[R]? = some (.cells l.toArray t fr)) : w.cell? ⟨R, i, none⟩ = l[i]? := by
  simp [World.cell?, h]
theorem Fl.frozen {w : World} {R : Nat} {σ : St} (h : Fl w R σ) (i : Nat) : w.frozen? ⟨R, i, none⟩ = false := by
  simp [World.frozen?, h.blk]
theorem Fl.lt {w : World} {R : Nat} {σ : St} (h : Fl w R σ) : R < w.heap.size := lt_of_block h.blk
theorem Fl.cell {w : World} {R : Nat} {σ : St} (h : Fl w R σ) (i : Nat) (hi : i < σ.C.length) : w.cell? ⟨R, i, none⟩ = some (.int .u8 (σ.C[i].toNat : Int)) := by
  rw [cell_of_list h.blk, flRow, List.getElem?_append_left (by simpa [bytesV] using hi)]
  simp [bytesV, hi]
theorem tail_at (σ : St) (h : σ.C.length = 8192) (k : Nat) : (flRow σ)[8192 + k]? = [Value.bool σ.off, .int .i64 σ.st, .bool σ.ar, .int .i64 σ.lf, .string σ.jk][k]? := by
  rw [flRow, List.getElem?_append_right (by simp [bytesV, h]), bytesV_length, h, Nat.add_sub_cancel_left]
theorem Fl.c0 {w : World} {R : Nat} {σ : St} (h : Fl w R σ) : w.cell? ⟨R, 8192, none⟩ = some (.bool σ.off) := by
  rw [cell_of_list h.blk]; exact tail_at σ h.len 0
theorem Fl.c1 {w : World} {R : Nat} {σ : St} (h : Fl w R σ) : w.cell? ⟨R, 8193, none⟩ = some (.int .i64 σ.st) := by
  rw [cell_of_list h.blk]; exact tail_at σ h.len 1
theorem Fl.c2 {w : World} {R : Nat} {σ : St} (h : Fl w R σ) : w.cell? ⟨R, 8194, none⟩ = some (.bool σ.ar) := by
  rw [cell_of_list h.blk]; exact tail_at σ h.len 2
theorem Fl.c3 {w : World} {R : Nat} {σ : St} (h : Fl w R σ) : w.cell? ⟨R, 8195, none⟩ = some (.int .i64 σ.lf) := by
  rw [cell_of_list h.blk]; exact tail_at σ h.len 3
theorem Fl.c4 {w : World} {R : Nat} {σ : St} (h : Fl w R σ) : w.cell? ⟨R, 8196, none⟩ = some (.string σ.jk) := by
  rw [cell_of_list h.blk]; exact tail_at σ h.len 4
theorem set_list {w : World} {R i : Nat} {l : List Value} {t : TypeId} {fr : Nat × Nat} (h : w.heap[R]? = some (.cells l.toArray t fr)) (v : Value) : (w.setCell ⟨R, i, none⟩ v).heap[R]? = some (.cells (l.set i v).toArray t fr) := by
  have hlt := lt_of_block h
  have h' : w.heap[R] = .cells l.toArray t fr := by simpa [Array.getElem?_eq_getElem hlt] using h
  show (w.heap.modify R _)[R]? = _
  rw [Array.getElem?_eq_getElem (by simpa using hlt), Array.getElem_modify_self, h']
  simp
theorem flRow_cell (σ : St) (i : Nat) (b : UInt8) (hi : i < σ.C.length) : (flRow σ).set i (.int .u8 (b.toNat : Int)) = flRow { σ with C := σ.C.set i b } := by
  unfold flRow
  rw [List.set_append_left _ _ (by simpa [bytesV] using hi)]
  simp [bytesV, List.map_set]
theorem tail_set (σ : St) (h : σ.C.length = 8192) (k : Nat) (v : Value) : (flRow σ).set (8192 + k) v = bytesV σ.C ++ [Value.bool σ.off, .int .i64 σ.st, .bool σ.ar, .int .i64 σ.lf, .string σ.jk].set k v := by
  rw [flRow, List.set_append_right _ _ (by simp [bytesV, h]), bytesV_length, h, Nat.add_sub_cancel_left]
theorem Fl.setCell {w : World} {R : Nat} {σ : St} (h : Fl w R σ) (i : Nat) (b : UInt8) (hi : i < σ.C.length) : Fl (w.setCell ⟨R, i, none⟩ (.int .u8 (b.toNat : Int))) R { σ with C := σ.C.set i b } :=
  ⟨by simp [h.len], by rw [set_list h.blk, flRow_cell σ i b hi]⟩
theorem Fl.s0 {w : World} {R : Nat} {σ : St} (h : Fl w R σ) (v : Bool) : Fl (w.setCell ⟨R, 8192, none⟩ (.bool v)) R { σ with off := v } :=
  ⟨h.len, by rw [set_list h.blk]; exact congrArg (fun l => some (Obj.cells (List.toArray l) _ _)) (tail_set σ h.len 0 _)⟩
theorem Fl.s1 {w : World} {R : Nat} {σ : St} (h : Fl w R σ) (v : Int) : Fl (w.setCell ⟨R, 8193, none⟩ (.int .i64 v)) R { σ with st := v } :=
  ⟨h.len, by rw [set_list h.blk]; exact congrArg (fun l => some (Obj.cells (List.toArray l) _ _)) (tail_set σ h.len 1 _)⟩
theorem Fl.s2 {w : World} {R : Nat} {σ : St} (h : Fl w R σ) (v : Bool) : Fl (w.setCell ⟨R, 8194, none⟩ (.bool v)) R { σ with ar := v } :=
  ⟨h.len, by rw [set_list h.blk]; exact congrArg (fun l => some (Obj.cells (List.toArray l) _ _)) (tail_set σ h.len 2 _)⟩
theorem Fl.s3 {w : World} {R : Nat} {σ : St} (h : Fl w R σ) (v : Int) : Fl (w.setCell ⟨R, 8195, none⟩ (.int .i64 v)) R { σ with lf := v } :=
  ⟨h.len, by rw [set_list h.blk]; exact congrArg (fun l => some (Obj.cells (List.toArray l) _ _)) (tail_set σ h.len 3 _)⟩
theorem Fl.s4 {w : World} {R : Nat} {σ : St} (h : Fl w R σ) (v : ByteArray) : Fl (w.setCell ⟨R, 8196, none⟩ (.string v)) R { σ with jk := v } :=
  ⟨h.len, by rw [set_list h.blk]; exact congrArg (fun l => some (Obj.cells (List.toArray l) _ _)) (tail_set σ h.len 4 _)⟩
theorem Fl.drew {w : World} {R : Nat} {σ : St} (h : Fl w R σ) : Fl w.drew R σ := ⟨h.len, h.blk⟩
theorem Fl.below {w w' : World} {R : Nat} {σ : St} (h : Fl w R σ) (hb : Below w.heap.size w w') : Fl w' R σ := ⟨h.len, by rw [hb.block R h.lt, h.blk]⟩
theorem Fl.kept {w w' : World} {R X : Nat} {σ : St} (h : Fl w R σ) (hb : Kept X w w') (hne : R ≠ X) : Fl w' R σ := ⟨h.len, hb.other h.blk hne⟩
/-- a flash's zero value -/
def flZ : List Value := List.replicate 8192 (.int .u8 0) ++ [.bool false, .int .i64 0, .bool false, .int .i64 0, .string ⟨#[]⟩]
def isZ (v : Value) : Bool := match v with | .int .u8 n => n == 0 | _ => false
theorem isZ_eq {v : Value} (h : isZ v = true) : v = .int .u8 0 := by
  unfold isZ at h; split at h
  · simp at h; subst h; rfl
  · cases h
def eat : Nat → List Value → Option (List Value)
  | 0, l => some l
  | _ + 1, [] => none
  | n + 1, x :: t => match isZ x with | true => eat n t | false => none
theorem eat_eq (n : Nat) (l r : List Value) (h : eat n l = some r) : l = List.replicate n (.int .u8 0) ++ r := by
  induction n generalizing l with
  | zero => simpa [eat] using h
  | succ n ih =>
    cases l with
    | nil => simp [eat] at h
    | cons x t =>
      have hx : isZ x = true := by cases hx : isZ x <;> simp_all [eat]
      have h2 : eat n t = some r := by simpa [eat, hx] using h
      rw [isZ_eq hx, ih t h2]; simp [List.replicate_succ]
def eats (n : Nat) : Nat → List Value → Option (List Value)
  | 0, l => some l
  | m + 1, l => match eat n l with | some t => eats n m t | none => none
theorem eats_eq (m n : Nat) (l r : List Value) (h : eats n m l = some r) : l = List.replicate (n * m) (.int .u8 0) ++ r := by
  induction m generalizing l with
  | zero => simpa [eats] using h
  | succ m ih =>
    cases he : eat n l with
    | none => simp [eats, he] at h
    | some t =>
      have h2 : eats n m t = some r := by simpa [eats, he] using h
      rw [eat_eq n l t he, ih t h2, Nat.mul_succ, Nat.add_comm, ← List.append_assoc]; simp
def look (o : Option Value) : Option (List Value) := match o with | some (.agg a) => eats 128 64 a.toList | _ => none
theorem look_eq {o : Option Value} {r : List Value} (h : look o = some r) : o = some (.agg (List.replicate (128 * 64) (Value.int .u8 0) ++ r).toArray) := by
  unfold look at h; split at h
  · rw [← eats_eq 64 128 _ _ h]
  · cases h
theorem z_look : look Try.t100.zero = some [.bool false, .int .i64 0, .bool false, .int .i64 0, .string ⟨#[]⟩] := by kernel_rfl
theorem z_fl : Try.t100.zero = some (.agg flZ.toArray) := look_eq z_look
theorem zv_fl (w : World) : Sem.run Try.prog (zeroValue 100) w = Result.ok (.agg flZ.toArray) w := by
  unfold zeroValue
  simp [z_fl]
def st0 (C : List UInt8) : St := ⟨C, false, 0, false, 0, ⟨#[]⟩⟩
theorem bytesV_rep (n : Nat) : bytesV (List.replicate n 0) = List.replicate n (.int .u8 0) := by simp [bytesV]
theorem flZ_row : flZ = flRow (st0 (List.replicate 8192 0)) := by
  unfold flZ flRow
  rw [show (st0 (List.replicate 8192 0)).C = List.replicate 8192 0 from rfl, bytesV_rep]
  rfl
end Go.Proofs.Ytcjahdgppnmdkaa
set_option maxRecDepth 100000
namespace Go.Proofs.Ytcjahdgppnmdkaa
open Go.RowKit Go.Great
abbrev fp (R : Nat) : Value := .pointer (some ⟨R, 0, none⟩)
theorem ready_nil (w : World) : Calls Try.prog 48 #[.pointer none] w fun e w' => e = .returned (.int .i64 2) ∧ w' = w := by
  go_enter Try.func48, Try.ntmps48
  go_wp2
  go_ret
  exact ⟨rfl, rfl⟩
theorem ready_any (w : World) (R : Nat) (σ : St) (h : Fl w R σ) : Calls Try.prog 48 #[fp R] w fun e w' => e = .returned (.int .i64 (if σ.off then 60 else 0)) ∧ w' = w := by
  have h0 := h.c0
  go_enter Try.func48, Try.ntmps48
  cases ho : σ.off <;> rw [ho] at h0
  · go_wp2
    go_ret
    exact ⟨rfl, rfl⟩
  · go_wp2
    go_ret
    exact ⟨rfl, rfl⟩
/-- are these cells? -/
def insideB (at_ n : Int) : Bool := decide (0 ≤ at_ ∧ 0 ≤ n ∧ at_ + n ≤ 8192)
theorem inside_any (w : World) (a n : Int) (ha : I64 a) : Calls Try.prog 64 #[.int .i64 a, .int .i64 n] w fun e w' => e = .returned (.bool (insideB a n)) ∧ w' = w := by
  unfold I64 at ha
  go_enter Try.func64, Try.ntmps64
  by_cases h1 : 0 ≤ a
  · by_cases h2 : 0 ≤ n
    · go_wp2
      go_ret
      refine ⟨ret_bool ?_, rfl⟩
      unfold insideB
      apply decide_eq_decide.2
      omega
    · go_wp2
      go_ret
      refine ⟨ret_bool ?_, rfl⟩
      simp [insideB]
      omega
  · go_wp2
    go_ret
    refine ⟨ret_bool ?_, rfl⟩
    simp [insideB]
    omega
/-- a junk's byte for the i-th cell -/
def arB (j : ByteArray) (i : Nat) : UInt8 := if j.size = 0 then 0 else j.data.toList.getD (i % j.size) 0
theorem around_any (w : World) (j : ByteArray) (i : Nat) (hj : j.size ≤ 9223372036854775807) (hi : i ≤ 9223372036854775807) : Calls Try.prog 107 #[.string j, .int .i64 i] w fun e w' => e = .returned (.int .u8 ((arB j i).toNat : Int)) ∧ w' = w := by
  go_enter Try.func107, Try.ntmps107
  by_cases h0 : j.size = 0
  · obtain rfl : j = ⟨#[]⟩ := by
      apply ByteArray.ext
      exact Array.eq_empty_of_size_eq_zero h0
    go_wp2
    go_ret
    exact ⟨rfl, rfl⟩
  · have hne : (j.toList == [] ) = false := by
      rw [ByteArray.toList_eq]
      cases hj : j.data.toList with
      | nil => exact absurd (by rw [← list_size, hj]; rfl) h0
      | cons a l => rfl
    have hr : ((i : Int).tmod (j.size : Int)) = ((i % j.size : Nat) : Int) := by
      rw [Int.tmod_eq_emod_of_nonneg (by omega)]; rfl
    have hlt : i % j.size < j.size := Nat.mod_lt _ (by omega)
    go_wp2
    go_ret
    refine ⟨ret_int ?_, rfl⟩
    unfold arB
    rw [if_neg h0, List.getD_eq_getElem?_getD, List.getElem?_eq_getElem (by rw [list_size]; exact hlt)]
    rfl
theorem told_any (w : World) (a : Addr) (cap : Nat) (l : List UInt8) (h : ∀ j (hj : j < l.length), w.cell? (a.add j) = some (.int .u8 (l[j].toNat : Int))) : Calls Try.prog 54 #[.slice (some a) l.length cap] w fun e w' => e = .returned (.string (bs l)) ∧ w' = w := by
  have hc : (convert 93 9 (.slice (some a) l.length cap)).run Try.prog w = .ok (.string (bs l)) w := run_convert_bytes_back _ 93 9 5 a cap l (by kernel_rfl) (by kernel_rfl) (by kernel_rfl) h
  go_enter Try.func54, Try.ntmps54
  go_wp2
  go_ret
  exact ⟨rfl, rfl⟩
/-- a step that begins -/
def stepS (σ : St) : St × ByteArray × Bool :=
  if σ.ar = true ∧ σ.lf = 0 then ({ σ with off := true, ar := false, lf := 0, jk := ⟨#[]⟩ }, σ.jk, false)
  else ({ σ with lf := if σ.ar then wrap64 (σ.lf - 1) else σ.lf, st := wrap64 (σ.st + 1) }, ⟨#[]⟩, true)
theorem step_any (w : World) (R : Nat) (σ : St) (h : Fl w R σ) : Calls Try.prog 106 #[fp R] w fun e w' => e = .returned (.tuple #[.string (stepS σ).2.1, .bool (stepS σ).2.2]) ∧ Fl w' R (stepS σ).1 ∧ Kept R w w' := by
  have h0 := h.c0
  have h1 := h.c1
  have h2 := h.c2
  have h3 := h.c3
  have h4 := h.c4
  have f0 := h.frozen 8192
  have f1 := h.frozen 8193
  have f2 := h.frozen 8194
  have f3 := h.frozen 8195
  have f4 := h.frozen 8196
  go_enter Try.func106, Try.ntmps106
  cases har : σ.ar <;> rw [har] at h2
  · have e : stepS σ = ({ σ with st := wrap64 (σ.st + 1) }, ⟨#[]⟩, true) := by simp [stepS, har]
    go_wp2
    go_ret2
    rw [e]
    exact ⟨rfl, h.s1 _, (Kept.refl _ _).set _ _⟩
  · by_cases hl : σ.lf = 0
    · have e : stepS σ = ({ σ with off := true, ar := false, lf := 0, jk := ⟨#[]⟩ }, σ.jk, false) := by simp [stepS, har, hl]
      rw [hl] at h3
      go_wp2
      go_ret2
      rw [e]
      exact ⟨rfl, (((h.s0 true).s2 false).s3 0).s4 ⟨#[]⟩, ((((Kept.refl _ _).set _ _).set _ _).set _ _).set _ _⟩
    · have e : stepS σ = ({ σ with lf := wrap64 (σ.lf - 1), st := wrap64 (σ.st + 1) }, ⟨#[]⟩, true) := by simp [stepS, har, hl]
      go_wp2
      go_ret2
      rw [e]
      exact ⟨rfl, (h.s3 _).s1 _, ((Kept.refl _ _).set _ _).set _ _⟩
theorem Addr.add0 (R i : Nat) : Addr.add ⟨R, 0, none⟩ i = ⟨R, i, none⟩ := by simp [Addr.add]; exact fun h => h.symm
theorem Addr.addi (R o i : Nat) : Addr.add ⟨R, o, none⟩ i = ⟨R, o + i, none⟩ := by unfold Addr.add; split <;> simp_all
end Go.Proofs.Ytcjahdgppnmdkaa
set_option maxRecDepth 100000
namespace Go.Proofs.Ytcjahdgppnmdkaa
theorem getD_at {α : Type} (l : List α) (d : α) {k : Nat} (h : k < l.length) : l.getD k d = l[k] := by rw [List.getD_eq_getElem?_getD, List.getElem?_eq_getElem h]; rfl
/-- the n cells from o on, each turned -/
def onL (C : List UInt8) (o n : Nat) (g : Nat → UInt8 → UInt8) : List UInt8 := C.mapIdx fun k c => if o ≤ k ∧ k < o + n then g (k - o) c else c
theorem onL_length (C : List UInt8) (o n : Nat) (g : Nat → UInt8 → UInt8) : (onL C o n g).length = C.length := by simp [onL]
theorem onL_at (C : List UInt8) (o n : Nat) (g : Nat → UInt8 → UInt8) (k : Nat) (h : k < (onL C o n g).length) : (onL C o n g)[k] = if o ≤ k ∧ k < o + n then g (k - o) (C[k]'(by simpa [onL] using h)) else C[k]'(by simpa [onL] using h) := by
  simp [onL]
theorem onL_getD (C : List UInt8) (o n : Nat) (g : Nat → UInt8 → UInt8) (k : Nat) (h : k < C.length) : (onL C o n g).getD k 0 = if o ≤ k ∧ k < o + n then g (k - o) (C.getD k 0) else C.getD k 0 := by
  have h2 : k < (onL C o n g).length := by rw [onL_length]; exact h
  rw [getD_at _ _ h2, onL_at, getD_at _ _ h]
theorem onL_zero (C : List UInt8) (o : Nat) (g : Nat → UInt8 → UInt8) : onL C o 0 g = C := by
  apply List.ext_getElem
  · simp [onL]
  · intro k h1 h2
    rw [onL_at, if_neg (by omega)]
theorem onL_succ (C : List UInt8) (o n : Nat) (g : Nat → UInt8 → UInt8) (h : o + n < C.length) : (onL C o n g).set (o + n) (g n (C.getD (o + n) 0)) = onL C o (n + 1) g := by
  apply List.ext_getElem
  · simp [onL]
  · intro k h1 h2
    have hk : k < C.length := by simpa [onL] using h2
    rw [onL_at, List.getElem_set]
    by_cases e : o + n = k
    · subst e
      rw [if_pos rfl, if_pos (by omega), Nat.add_sub_cancel_left, getD_at _ _ h]
    · rw [if_neg e, onL_at]
      by_cases c : o ≤ k ∧ k < o + n
      · rw [if_pos c, if_pos (by omega)]
      · rw [if_neg c, if_neg (by omega)]
theorem onL_next (C : List UInt8) (o n : Nat) (g : Nat → UInt8 → UInt8) (h : o + n < C.length) : (onL C o n g).getD (o + n) 0 = C.getD (o + n) 0 := by
  rw [onL_getD C o n g _ h, if_neg (by omega)]
theorem onL_congr (C : List UInt8) (o n : Nat) (g g' : Nat → UInt8 → UInt8) (h : ∀ i c, i < n → g i c = g' i c) : onL C o n g = onL C o n g' := by
  apply List.ext_getElem
  · simp [onL]
  · intro k h1 h2
    rw [onL_at, onL_at]
    by_cases c : o ≤ k ∧ k < o + n
    · rw [if_pos c, if_pos c, h _ _ (by omega)]
    · rw [if_neg c, if_neg c]
end Go.Proofs.Ytcjahdgppnmdkaa
set_option maxRecDepth 100000
namespace Go.Proofs.Ytcjahdgppnmdkaa
open Go.RowKit Go.Great
section
variable {P : Program} {md : Region.Mode} {L : List Oper} {o : Oper} {Q : Exit → Act → World → Prop}
/-- what is asked behind the others -/
def thenLast (P : Program) (o : Oper) (Q : Exit → Act → World → Prop) : Exit → Act → World → Prop
  | .normal, a, w => o.wp P a w (fun a' w' => Q .normal a' w') Q
  | e, a, w => Q e a w
theorem upon_last {x : Oper} {a : Act} {K K' : Act → World → Prop} (h : ∀ a w, K a w → K' a w) {r : Result Next} (hh : x.upon P a K (thenLast P o Q) r) : x.upon P a K' Q r := by
  cases r with
  | ok n w' =>
    cases n <;> simp only [Oper.upon] at hh ⊢
    case value => exact h _ _ hh
    case skip => exact h _ _ hh
    case defer => exact h _ _ hh
    case enter =>
      refine Calls.mono hh fun e w'' he => ?_
      cases e with
      | returned u => exact h _ _ he
      | panicked c => exact he
      | outgrown => exact he
    case row => exact Rows.mono hh fun u w'' he => h _ _ he
  | halt x w' =>
    cases x <;> simp only [Oper.upon] at hh ⊢
    case panic => exact hh
/-- each operation waits only for earlier ones, and none is guarded -/
def Plainly (md : Region.Mode) (L : List Oper) (o : Oper) : Prop :=
  (∀ x ∈ L, x.guard = none) ∧ o.guard = none ∧ (∀ (i : Nat) (x : Oper), L[i]? = some x → ∀ e ∈ x.after, e.on < i) ∧ (∀ e ∈ o.after, e.on < L.length) ∧ (∀ j, j < L.length → ∃ e ∈ o.after, Region.binds md e = true ∧ e.on = j)
def plainB (md : Region.Mode) (L : List Oper) (o : Oper) : Bool :=
  L.all (fun x => x.guard.isNone) && (o.guard.isNone && (L.zipIdx.all (fun p => p.1.after.all fun e => decide (e.on < p.2)) && (o.after.all (fun e => decide (e.on < L.length)) && (List.range L.length).all fun j => o.after.any fun e => Region.binds md e && e.on == j)))
theorem plain_of (h : plainB md L o = true) : Plainly md L o := by
  simp only [plainB, Bool.and_eq_true] at h
  obtain ⟨h1, h2, h3, h4, h5⟩ := h
  refine ⟨fun x hx => ?_, ?_, fun i x hx e he => ?_, fun e he => ?_, fun j hj => ?_⟩
  · have := List.all_eq_true.1 h1 x hx
    simpa using this
  · simpa using h2
  · have := List.all_eq_true.1 h3 (x, i) (List.mk_mem_zipIdx_iff_getElem?.2 hx)
    exact of_decide_eq_true (Array.all_eq_true'.1 this e he)
  · exact of_decide_eq_true (Array.all_eq_true'.1 h4 e he)
  · have := List.all_eq_true.1 h5 j (List.mem_range.2 hj)
    obtain ⟨e, he, hb⟩ := Array.any_eq_true'.1 this
    simp only [Bool.and_eq_true, beq_iff_eq] at hb
    exact ⟨e, he, hb.1, hb.2⟩
theorem last_at (L : List Oper) (o : Oper) : (L ++ [o]).toArray[L.length]? = some o := by simp
theorem front_at (L : List Oper) (o : Oper) {i : Nat} (h : i < L.length) : (L ++ [o]).toArray[i]? = L.toArray[i]? := by
  simp [List.getElem?_append_left h]
theorem all_or_some (n : Nat) (p : Nat → Bool) : (∀ i, i < n → p i = true) ∨ ∃ i, i < n ∧ p i = false ∧ ∀ j, j < i → p j = true := by
  induction n with
  | zero => exact .inl fun i h => absurd h (Nat.not_lt_zero i)
  | succ n ih =>
    rcases ih with ih | ⟨i, h1, h2, h3⟩
    · cases hp : p n
      · exact .inr ⟨n, Nat.lt_succ_self n, hp, ih⟩
      · refine .inl fun i hi => ?_
        by_cases e : i = n
        · rw [e]; exact hp
        · exact ih i (by omega)
    · exact .inr ⟨i, by omega, h2, h3⟩
theorem getD_push (l : Array Bool) (b : Bool) {i : Nat} (h : i < l.size) (d : Bool) : (l.push b).getD i d = l.getD i d := by
  simp [Array.getD_eq_getD_getElem?, Array.getElem?_push, Nat.ne_of_lt h]
theorem getD_dft (l : Array Bool) {i : Nat} (h : i < l.size) (d d' : Bool) : l.getD i d = l.getD i d' := by
  simp [h]
/-- some operation of the front is ready, or all have come up -/
theorem front_ready (hp : Plainly md L o) {listed : Array Bool} (hs : listed.size = L.length) : (∀ i, i < L.length → listed.getD i true = true) ∨ ∃ i, i < L.length ∧ i ∈ Region.ready md L.toArray listed := by
  rcases all_or_some L.length (fun i => listed.getD i true) with h | ⟨i, h1, h2, h3⟩
  · exact .inl h
  · refine .inr ⟨i, h1, mem_ready.2 ⟨h2, L[i], by simp [h1], fun e he _ => ?_⟩⟩
    have := hp.2.2.1 i L[i] (by simp [h1]) e he
    rw [getD_dft listed (by omega) false true]
    exact h3 _ this
theorem ready_front (hp : Plainly md L o) {listed : Array Bool} (hs : listed.size = L.length) {i : Nat} (hi : i < L.length) : i ∈ Region.ready md (L ++ [o]).toArray (listed.push false) ↔ i ∈ Region.ready md L.toArray listed := by
  rw [mem_ready, mem_ready, getD_push _ _ (by omega), front_at L o hi]
  refine and_congr_right fun _ => ?_
  refine exists_congr fun x => ?_
  refine and_congr_right fun hx => ?_
  have hx' : L[i]? = some x := by simpa using hx
  refine forall_congr' fun e => forall_congr' fun he => forall_congr' fun _ => ?_
  have := hp.2.2.1 i x hx' e he
  rw [getD_push _ _ (by omega)]
theorem ready_last (hp : Plainly md L o) {listed : Array Bool} (hs : listed.size = L.length) : L.length ∈ Region.ready md (L ++ [o]).toArray (listed.push false) ↔ ∀ i, i < L.length → listed.getD i true = true := by
  rw [mem_ready]
  constructor
  · rintro ⟨_, x, hx, hall⟩ i hi
    obtain rfl : o = x := by rw [last_at] at hx; injection hx
    obtain ⟨e, he, hb, hon⟩ := hp.2.2.2.2 i hi
    have := hall e he hb
    rw [hon, getD_push _ _ (by omega)] at this
    rw [getD_dft listed (by omega) true false]
    exact this
  · intro h
    refine ⟨by rw [← hs]; simp [Array.getD_eq_getD_getElem?], o, last_at L o, fun e he _ => ?_⟩
    have := hp.2.2.2.1 e he
    rw [getD_push _ _ (by omega), getD_dft listed (by omega) false true]
    exact h _ this
theorem ready_lt {listed : Array Bool} {i : Nat} (h : i ∈ Region.ready md (L ++ [o]).toArray listed) : i ≤ L.length := by
  obtain ⟨_, x, hx, _⟩ := mem_ready.1 h
  have := (Array.getElem?_eq_some_iff.1 hx).1
  simp at this
  omega
theorem ready_none {listed : Array Bool} (hs : ∀ i, i ≤ L.length → listed.getD i true = true) : Region.ready md (L ++ [o]).toArray listed = [] := by
  rw [List.eq_nil_iff_forall_not_mem]
  intro i hi
  have h1 := ready_lt hi
  have h2 := (mem_ready.1 hi).1
  rw [hs i h1] at h2
  cases h2
theorem last_step (hp : Plainly md L o) {fuel : Nat} {listed : Array Bool} {a : Act} {w : World} (hs : listed.size = L.length) (hall : ∀ i, i < L.length → listed.getD i true = true) (h : o.wp P a w (fun a' w' => Q .normal a' w') Q) : wpOp P (L ++ [o]).toArray Q L.length (wpAny P md (L ++ [o]).toArray Q fuel ((listed.push false).setIfInBounds L.length true)) a w := by
  have hr : Region.ready md (L ++ [o]).toArray ((listed.push false).setIfInBounds L.length true) = [] := by
    apply ready_none
    intro i hi
    by_cases e : i = L.length
    · subst e; simp [Array.getD_eq_getD_getElem?, hs]
    · have hi' : i < L.length := by omega
      have := hall i hi'
      rw [← getD_push listed false (by omega)] at this
      have h2 : ((listed.push false).setIfInBounds L.length true).getD i true = (listed.push false).getD i true := by
        simp [Array.getD_eq_getD_getElem?, Ne.symm e]
      rw [h2]
      exact this
  unfold wpOp
  simp only [last_at]
  have hw : Region.wanted o (yielded (L ++ [o]).toArray a.tmps) = true := by simp [Region.wanted, hp.2.1]
  rw [if_pos hw]
  refine .inl (Oper.wp_mono (fun a' w' hq => ?_) h)
  cases fuel with
  | zero => exact ⟨hr, hq⟩
  | succ n => exact ⟨fun _ => hq, fun i hi => by rw [hr] at hi; cases hi⟩
theorem push_set (l : Array Bool) {i : Nat} (h : i < l.size) : (l.push false).setIfInBounds i true = (l.setIfInBounds i true).push false := by
  apply Array.ext_getElem?
  intro j
  simp only [Array.getElem?_setIfInBounds, Array.getElem?_push, Array.size_push, Array.size_setIfInBounds]
  by_cases e : i = j
  · subst e; simp [h, Nat.lt_succ_of_lt h, Nat.ne_of_lt h]
  · simp [e]
theorem any_last (hp : Plainly md L o) : ∀ (fuel : Nat) (listed : Array Bool) (a : Act) (w : World), listed.size = L.length → wpAny P md L.toArray (thenLast P o Q) fuel listed a w → wpAny P md (L ++ [o]).toArray Q (fuel + 1) (listed.push false) a w := by
  intro fuel
  induction fuel with
  | zero =>
    intro listed a w hs h
    obtain ⟨hr, hq⟩ := h
    have hall : ∀ i, i < L.length → listed.getD i true = true := by
      rcases front_ready hp hs with h | ⟨i, _, hi⟩
      · exact h
      · rw [hr] at hi; cases hi
    refine ⟨fun h0 => ?_, fun i hi => ?_⟩
    · have := (ready_last hp hs).2 hall
      rw [h0] at this; cases this
    · by_cases e : i < L.length
      · have := (ready_front hp hs e).1 hi
        rw [hr] at this; cases this
      · obtain rfl : i = L.length := by have := ready_lt hi; omega
        exact last_step hp hs hall hq
  | succ fuel ih =>
    intro listed a w hs h
    obtain ⟨hn, hi⟩ := h
    refine ⟨fun h0 => ?_, fun i hr => ?_⟩
    · rcases front_ready hp hs with h | ⟨i, hlt, hi⟩
      · have := (ready_last hp hs).2 h
        rw [h0] at this; cases this
      · have := (ready_front hp hs hlt).2 hi
        rw [h0] at this; cases this
    · by_cases e : i < L.length
      · have h1 := hi i ((ready_front hp hs e).1 hr)
        unfold wpOp at h1 ⊢
        rw [front_at L o e]
        cases hx : L.toArray[i]? with
        | none => simp at hx; omega
        | some x =>
          simp only [hx] at h1 ⊢
          have hg := hp.1 x (List.mem_of_getElem? (by simpa using hx))
          have hw : ∀ ops : Array Oper, Region.wanted x (yielded ops a.tmps) = true := fun ops => by simp [Region.wanted, hg]
          rw [if_pos (hw _)] at h1 ⊢
          rcases h1 with h1 | ⟨h1, h2⟩
          · refine .inl (upon_last (fun a' w' hh => ?_) h1)
            rw [push_set _ (by omega)]
            exact ih _ a' w' (by simpa using hs) hh
          · exact .inr ⟨h1, h2⟩
      · obtain rfl : i = L.length := by have := ready_lt hr; omega
        have hall := (ready_last hp hs).1 hr
        refine last_step hp hs hall (hn ?_)
        rw [List.eq_nil_iff_forall_not_mem]
        intro i hi2
        obtain ⟨h2, x, hx, _⟩ := mem_ready.1 hi2
        have hlt : i < L.length := by simpa using (Array.getElem?_eq_some_iff.1 hx).1
        rw [hall i hlt] at h2
        cases h2
/-- the others are quiet, then the last one -/
theorem region_last {id : Nat} {a : Act} {w : World} {l : List Oper} (n : Nat) (hl : l.take n ++ (l.drop n).take 1 = l) (hlen : (l.take n).length = n) (o : Oper) (ho : (l.drop n).take 1 = [o]) (hm : P.follows .mixedOrders = true) (hB : Region.lexB .any (l.take n).toArray = true) (hp0 : plainB .any (l.take n) o = true)
    (h : wpQuiet P (l.take n).toArray (fun w' => ∃ k, w' = w.drewN k) (fun a' => ∀ k, o.wp P a' (w.drewN k) (fun a'' w'' => Q .normal a'' w'') Q) (l.take n) a) : (Code.region id l.toArray true).wp P Q a w := by
  have hp := plain_of hp0
  rw [ho] at hl
  simp only [Region.lexB, Bool.and_eq_true] at hB
  refine wp_region_any hm ?_
  have h1 := wpAnyQ_lex (C := fun w' => ∃ k, w' = w.drewN k) (md := .any) hB.1 (l.take n) 0 (Array.replicate (l.take n).length false) a (by simp) (by simpa using hB.2) h
  have h2 := wpAny_of_quiet (P := P) (md := .any) (ops := (l.take n).toArray) (C := fun w' => ∃ k, w' = w.drewN k) (Q := fun a' => ∀ k, o.wp P a' (w.drewN k) (fun a'' w'' => Q .normal a'' w'') Q) (Q' := thenLast P o Q) (fun a' w' hw' h => by obtain ⟨k, rfl⟩ := hw'; exact h k) _ _ a (w.drewN 1) ⟨1, rfl⟩ h1
  have h3 := any_last hp _ _ a (w.drewN 1) (by simp) h2
  have hsz : l.length = n + 1 := by
    have := congrArg List.length hl
    rw [List.length_append, hlen] at this
    simpa using this.symm
  rw [hl] at h3
  have e1 : (Array.replicate (l.take n).length false).push false = Array.replicate l.toArray.size false := by
    rw [hlen, List.size_toArray, hsz, Array.replicate_succ]
  rw [e1, hlen] at h3
  rw [show l.toArray.size = n + 1 by simp [hsz]] at h3 ⊢
  exact h3
end
end Go.Proofs.Ytcjahdgppnmdkaa
