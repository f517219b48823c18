/- The block of a flash: its cells, and what lies behind them. -/
import Derived.Test.YtcjahdgppnmdkaaNo0
set_option maxRecDepth 100000
namespace Go.Proofs.Ytcjahdgppnmdkaa
open Go.RowKit Go.Great

/-- a flash: its cells; whether power is off; its steps; its cut -/
structure St where
  C : List UInt8
  off : Bool
  st : Int
  ar : Bool
  lf : Int
  jk : ByteArray
def flRow (σ : St) : List Value := bytesV σ.C ++ [.bool σ.off, .int .i64 σ.st, .bool σ.ar, .int .i64 σ.lf, .string σ.jk]
theorem flRow_length (σ : St) : (flRow σ).length = σ.C.length + 5 := by simp [flRow, bytesV]
/-- block R is a flash -/
structure Fl (w : World) (R : Nat) (σ : St) : Prop where
  len : σ.C.length = 8192
  blk : w.heap[R]? = some (.cells (flRow σ).toArray 100 (0, 0))
theorem cell_of_list {w : World} {R i : Nat} {l : List Value} {t : TypeId} {fr : Nat × Nat} (h : w.heap[R]? = some (.cells l.toArray t fr)) : w.cell? ⟨R, i, none⟩ = l[i]? := by
  simp [World.cell?, h]
theorem Fl.frozen {w : World} {R : Nat} {σ : St} (h : Fl w R σ) (i : Nat) : w.frozen? ⟨R, i, none⟩ = false := by
  simp [World.frozen?, h.blk]
theorem Fl.lt {w : World} {R : Nat} {σ : St} (h : Fl w R σ) : R < w.heap.size := lt_of_block h.blk
theorem Fl.cell {w : World} {R : Nat} {σ : St} (h : Fl w R σ) (i : Nat) (hi : i < σ.C.length) : w.cell? ⟨R, i, none⟩ = some (.int .u8 (σ.C[i].toNat : Int)) := by
  rw [cell_of_list h.blk, flRow, List.getElem?_append_left (by simpa [bytesV] using hi)]
  simp [bytesV, hi]
theorem tail_at (σ : St) (h : σ.C.length = 8192) (k : Nat) : (flRow σ)[8192 + k]? = [Value.bool σ.off, .int .i64 σ.st, .bool σ.ar, .int .i64 σ.lf, .string σ.jk][k]? := by
  rw [flRow, List.getElem?_append_right (by simp [bytesV, h]), bytesV_length, h, Nat.add_sub_cancel_left]
theorem Fl.c0 {w : World} {R : Nat} {σ : St} (h : Fl w R σ) : w.cell? ⟨R, 8192, none⟩ = some (.bool σ.off) := by
  rw [cell_of_list h.blk]; exact tail_at σ h.len 0
theorem Fl.c1 {w : World} {R : Nat} {σ : St} (h : Fl w R σ) : w.cell? ⟨R, 8193, none⟩ = some (.int .i64 σ.st) := by
  rw [cell_of_list h.blk]; exact tail_at σ h.len 1
theorem Fl.c2 {w : World} {R : Nat} {σ : St} (h : Fl w R σ) : w.cell? ⟨R, 8194, none⟩ = some (.bool σ.ar) := by
  rw [cell_of_list h.blk]; exact tail_at σ h.len 2
theorem Fl.c3 {w : World} {R : Nat} {σ : St} (h : Fl w R σ) : w.cell? ⟨R, 8195, none⟩ = some (.int .i64 σ.lf) := by
  rw [cell_of_list h.blk]; exact tail_at σ h.len 3
theorem Fl.c4 {w : World} {R : Nat} {σ : St} (h : Fl w R σ) : w.cell? ⟨R, 8196, none⟩ = some (.string σ.jk) := by
  rw [cell_of_list h.blk]; exact tail_at σ h.len 4
theorem set_list {w : World} {R i : Nat} {l : List Value} {t : TypeId} {fr : Nat × Nat} (h : w.heap[R]? = some (.cells l.toArray t fr)) (v : Value) : (w.setCell ⟨R, i, none⟩ v).heap[R]? = some (.cells (l.set i v).toArray t fr) := by
  have hlt := lt_of_block h
  have h' : w.heap[R] = .cells l.toArray t fr := by simpa [Array.getElem?_eq_getElem hlt] using h
  show (w.heap.modify R _)[R]? = _
  rw [Array.getElem?_eq_getElem (by simpa using hlt), Array.getElem_modify_self, h']
  simp
theorem flRow_cell (σ : St) (i : Nat) (b : UInt8) (hi : i < σ.C.length) : (flRow σ).set i (.int .u8 (b.toNat : Int)) = flRow { σ with C := σ.C.set i b } := by
  unfold flRow
  rw [List.set_append_left _ _ (by simpa [bytesV] using hi)]
  simp [bytesV, List.map_set]
theorem tail_set (σ : St) (h : σ.C.length = 8192) (k : Nat) (v : Value) : (flRow σ).set (8192 + k) v = bytesV σ.C ++ [Value.bool σ.off, .int .i64 σ.st, .bool σ.ar, .int .i64 σ.lf, .string σ.jk].set k v := by
  rw [flRow, List.set_append_right _ _ (by simp [bytesV, h]), bytesV_length, h, Nat.add_sub_cancel_left]
theorem Fl.setCell {w : World} {R : Nat} {σ : St} (h : Fl w R σ) (i : Nat) (b : UInt8) (hi : i < σ.C.length) : Fl (w.setCell ⟨R, i, none⟩ (.int .u8 (b.toNat : Int))) R { σ with C := σ.C.set i b } :=
  ⟨by simp [h.len], by rw [set_list h.blk, flRow_cell σ i b hi]⟩
theorem Fl.s0 {w : World} {R : Nat} {σ : St} (h : Fl w R σ) (v : Bool) : Fl (w.setCell ⟨R, 8192, none⟩ (.bool v)) R { σ with off := v } :=
  ⟨h.len, by rw [set_list h.blk]; exact congrArg (fun l => some (Obj.cells (List.toArray l) _ _)) (tail_set σ h.len 0 _)⟩
theorem Fl.s1 {w : World} {R : Nat} {σ : St} (h : Fl w R σ) (v : Int) : Fl (w.setCell ⟨R, 8193, none⟩ (.int .i64 v)) R { σ with st := v } :=
  ⟨h.len, by rw [set_list h.blk]; exact congrArg (fun l => some (Obj.cells (List.toArray l) _ _)) (tail_set σ h.len 1 _)⟩
theorem Fl.s2 {w : World} {R : Nat} {σ : St} (h : Fl w R σ) (v : Bool) : Fl (w.setCell ⟨R, 8194, none⟩ (.bool v)) R { σ with ar := v } :=
  ⟨h.len, by rw [set_list h.blk]; exact congrArg (fun l => some (Obj.cells (List.toArray l) _ _)) (tail_set σ h.len 2 _)⟩
theorem Fl.s3 {w : World} {R : Nat} {σ : St} (h : Fl w R σ) (v : Int) : Fl (w.setCell ⟨R, 8195, none⟩ (.int .i64 v)) R { σ with lf := v } :=
  ⟨h.len, by rw [set_list h.blk]; exact congrArg (fun l => some (Obj.cells (List.toArray l) _ _)) (tail_set σ h.len 3 _)⟩
theorem Fl.s4 {w : World} {R : Nat} {σ : St} (h : Fl w R σ) (v : ByteArray) : Fl (w.setCell ⟨R, 8196, none⟩ (.string v)) R { σ with jk := v } :=
  ⟨h.len, by rw [set_list h.blk]; exact congrArg (fun l => some (Obj.cells (List.toArray l) _ _)) (tail_set σ h.len 4 _)⟩
theorem Fl.drew {w : World} {R : Nat} {σ : St} (h : Fl w R σ) : Fl w.drew R σ := ⟨h.len, h.blk⟩
theorem Fl.below {w w' : World} {R : Nat} {σ : St} (h : Fl w R σ) (hb : Below w.heap.size w w') : Fl w' R σ := ⟨h.len, by rw [hb.block R h.lt, h.blk]⟩
theorem Fl.kept {w w' : World} {R X : Nat} {σ : St} (h : Fl w R σ) (hb : Kept X w w') (hne : R ≠ X) : Fl w' R σ := ⟨h.len, hb.other h.blk hne⟩
/-- a flash's zero value -/
def flZ : List Value := List.replicate 8192 (.int .u8 0) ++ [.bool false, .int .i64 0, .bool false, .int .i64 0, .string ⟨#[]⟩]
def isZ (v : Value) : Bool := match v with | .int .u8 n => n == 0 | _ => false
theorem isZ_eq {v : Value} (h : isZ v = true) : v = .int .u8 0 := by
  unfold isZ at h; split at h
  · simp at h; subst h; rfl
  · cases h
def eat : Nat → List Value → Option (List Value)
  | 0, l => some l
  | _ + 1, [] => none
  | n + 1, x :: t => match isZ x with | true => eat n t | false => none
theorem eat_eq (n : Nat) (l r : List Value) (h : eat n l = some r) : l = List.replicate n (.int .u8 0) ++ r := by
  induction n generalizing l with
  | zero => simpa [eat] using h
  | succ n ih =>
    cases l with
    | nil => simp [eat] at h
    | cons x t =>
      have hx : isZ x = true := by cases hx : isZ x <;> simp_all [eat]
      have h2 : eat n t = some r := by simpa [eat, hx] using h
      rw [isZ_eq hx, ih t h2]; simp [List.replicate_succ]
def eats (n : Nat) : Nat → List Value → Option (List Value)
  | 0, l => some l
  | m + 1, l => match eat n l with | some t => eats n m t | none => none
theorem eats_eq (m n : Nat) (l r : List Value) (h : eats n m l = some r) : l = List.replicate (n * m) (.int .u8 0) ++ r := by
  induction m generalizing l with
  | zero => simpa [eats] using h
  | succ m ih =>
    cases he : eat n l with
    | none => simp [eats, he] at h
    | some t =>
      have h2 : eats n m t = some r := by simpa [eats, he] using h
      rw [eat_eq n l t he, ih t h2, Nat.mul_succ, Nat.add_comm, ← List.append_assoc]; simp
def look (o : Option Value) : Option (List Value) := match o with | some (.agg a) => eats 128 64 a.toList | _ => none
theorem look_eq {o : Option Value} {r : List Value} (h : look o = some r) : o = some (.agg (List.replicate (128 * 64) (Value.int .u8 0) ++ r).toArray) := by
  unfold look at h; split at h
  · rw [← eats_eq 64 128 _ _ h]
  · cases h
theorem z_look : look Try.t100.zero = some [.bool false, .int .i64 0, .bool false, .int .i64 0, .string ⟨#[]⟩] := by kernel_rfl
theorem z_fl : Try.t100.zero = some (.agg flZ.toArray) := look_eq z_look
theorem zv_fl (w : World) : Sem.run Try.prog (zeroValue 100) w = Result.ok (.agg flZ.toArray) w := by
  unfold zeroValue
  simp [z_fl]
def st0 (C : List UInt8) : St := ⟨C, false, 0, false, 0, ⟨#[]⟩⟩
theorem bytesV_rep (n : Nat) : bytesV (List.replicate n 0) = List.replicate n (.int .u8 0) := by simp [bytesV]
theorem flZ_row : flZ = flRow (st0 (List.replicate 8192 0)) := by
  unfold flZ flRow
  rw [show (st0 (List.replicate 8192 0)).C = List.replicate 8192 0 from rfl, bytesV_rep]
  rfl
end Go.Proofs.Ytcjahdgppnmdkaa
