/- What the reader's row of bytes does. -/
import Derived.Test.YtgdjphiicgiegaaFrM
import Derived.Laws.Externs
import Derived.Lib.Bytealg
import Derived.Shelf.Strconv.Clone
namespace Go.Proofs.Ytgdjphiicgiegaa
open Go.RowKit Go.Great

/-- a reader: what it holds, how many were bad -/
def Rdr (w : World) (R : Nat) (s : ByteArray) (n : Int) : Prop := w.heap[R]? = some (.cells #[.string s, .int .i64 n] 69 (0, 0))
theorem Rdr.c0 {w : World} {R : Nat} {s : ByteArray} {n : Int} (h : Rdr w R s n) : w.cell? ⟨R, 0, none⟩ = some (.string s) := by
  unfold Rdr at h; simp [World.cell?, h]
theorem Rdr.c1 {w : World} {R : Nat} {s : ByteArray} {n : Int} (h : Rdr w R s n) : w.cell? ⟨R, 1, none⟩ = some (.int .i64 n) := by
  unfold Rdr at h; simp [World.cell?, h]
theorem Rdr.f0 {w : World} {R : Nat} {s : ByteArray} {n : Int} (h : Rdr w R s n) (i : Nat) : w.frozen? ⟨R, i, none⟩ = false := by
  unfold Rdr at h; simp [World.frozen?, h]
theorem Rdr.lt {w : World} {R : Nat} {s : ByteArray} {n : Int} (h : Rdr w R s n) : R < w.heap.size := lt_of_block h
theorem Rdr.set0 {w : World} {R : Nat} {s : ByteArray} {n : Int} (h : Rdr w R s n) (t : ByteArray) : Rdr (w.setCell ⟨R, 0, none⟩ (.string t)) R t n := by
  have hlt := h.lt
  have h' : w.heap[R] = .cells #[.string s, .int .i64 n] 69 (0, 0) := by simpa [Rdr, Array.getElem?_eq_getElem hlt] using h
  show (w.heap.modify R _)[R]? = _
  rw [Array.getElem?_eq_getElem (by simpa using hlt), Array.getElem_modify_self, h']
  rfl
theorem Rdr.set1 {w : World} {R : Nat} {s : ByteArray} {n : Int} (h : Rdr w R s n) (m : Int) : Rdr (w.setCell ⟨R, 1, none⟩ (.int .i64 m)) R s m := by
  have hlt := h.lt
  have h' : w.heap[R] = .cells #[.string s, .int .i64 n] 69 (0, 0) := by simpa [Rdr, Array.getElem?_eq_getElem hlt] using h
  show (w.heap.modify R _)[R]? = _
  rw [Array.getElem?_eq_getElem (by simpa using hlt), Array.getElem_modify_self, h']
  rfl
theorem Rdr.below {w w' : World} {R : Nat} {s : ByteArray} {n : Int} (h : Rdr w R s n) (hb : Below w.heap.size w w') : Rdr w' R s n := by
  unfold Rdr at h ⊢; rw [hb.block R (lt_of_block h), h]
theorem add_row (w : World) (R : Nat) (s d : ByteArray) (n : Int) (h : Rdr w R s n) (hs : s.size + d.size ≤ 9223372036854775807) : Calls Try.prog 35 #[.pointer (some ⟨R, 0, none⟩), .string d] w fun e w' => e = .returned (.tuple #[]) ∧ w' = w.setCell ⟨R, 0, none⟩ (.string (s ++ d)) := by
  have h0 := h.c0
  have f0 := h.f0 0
  have hadd : ∀ wx, (Op.stringOp .add s d).run Try.prog wx = .ok (.string (s ++ d)) wx := fun wx => run_string_add_sum wx s d hs
  go_enter Try.func35, Try.ntmps35
  go_wp2
  go_end0
  exact ⟨rfl, rfl⟩
theorem pass_row (w : World) (R : Nat) (s : ByteArray) (n : Int) (h : Rdr w R s n) (k : Nat) (hk : k ≤ s.size) : Calls Try.prog 39 #[.pointer (some ⟨R, 0, none⟩), .int .i64 k] w fun e w' => e = .returned (.tuple #[]) ∧ w' = w.setCell ⟨R, 0, none⟩ (.string (s.extract k s.size)) := by
  have h0 := h.c0
  have f0 := h.f0 0
  go_enter Try.func39, Try.ntmps39
  go_wp2
  go_end0
  exact ⟨rfl, rfl⟩
theorem new_any (w : World) : Calls Try.prog 19 #[] w fun e w' => e = .returned (.pointer (some ⟨w.heap.size, 0, none⟩)) ∧ w' = w.alloc (.cells #[.string ⟨#[]⟩, .int .i64 0] 69) := by
  go_enter Try.func19, Try.ntmps19
  go_wp2
  go_ret
  exact ⟨rfl, rfl⟩
/-- the library's contract of internal/stringslite.Clone, at this dump's numbers -/
def cloneRen : Go.Shelf.Ren := ⟨fun | 316 => 53 | n => n, fun | 0 => 0 | 3 => 3 | 4 => 4 | 9 => 9 | 37 => 42 | 127 => 83 | 5 => 5 | n => n, fun | n => n⟩
theorem cloneLays : Go.Proofs.LaysM.n316 Try.prog cloneRen := {
  mixed := by kernel_rfl
  f316 := Try.func53.trans (congrArg some (by kernel_rfl))
  t0 := Try.underlying0
  a0 := Try.isAgg0
  z0 := Try.sizeOf0
  v0 := Try.zeroValue0
  t3 := Try.underlying3
  a3 := Try.isAgg3
  z3 := Try.sizeOf3
  v3 := Try.zeroValue3
  t4 := Try.underlying4
  a4 := Try.isAgg4
  z4 := Try.sizeOf4
  v4 := Try.zeroValue4
  t9 := Try.underlying9
  a9 := Try.isAgg9
  z9 := Try.sizeOf9
  v9 := Try.zeroValue9
  t37 := Try.underlying42
  a37 := Try.isAgg42
  z37 := Try.sizeOf42
  v37 := Try.zeroValue42
  t127 := Try.underlying83
  a127 := Try.isAgg83
  z127 := Try.sizeOf83
  v127 := Try.zeroValue83
  t5 := Try.underlying5
  a5 := Try.isAgg5
  z5 := Try.sizeOf5
  v5 := Try.zeroValue5
  i0 := by kernel_rfl
  i3 := by kernel_rfl
  i4 := by kernel_rfl
  i9 := by kernel_rfl
  i37 := by kernel_rfl
  i127 := by kernel_rfl
  i5 := by kernel_rfl }
theorem clone_own (s : ByteArray) (w : World) (hlim : s.size ≤ 281474976710656) : Calls Try.prog 53 #[.string s] w fun e w' => e = .returned (.string s) ∧ Below w.heap.size w w' := Any.stringslite_Clone cloneLays s w hlim
theorem clone_any (s : ByteArray) (w : World) (hlim : s.size ≤ 281474976710656) : Calls Try.prog 48 #[.string s] w fun e w' => e = .returned (.string s) ∧ Below w.heap.size w w' := by
  go_enter Try.func48, Try.ntmps48
  go_wp2_with fail
  refine (clone_own s _ hlim).mono ?_
  rintro e w1 ⟨rfl, h1⟩
  go_wp2_with fail
  go_ret
  exact ⟨rfl, h1⟩
theorem index_any (s : ByteArray) (w : World) : Calls Try.prog 47 #[.string s, .int .u8 253] w fun e w' => e = .returned (.int .i64 (Lib.indexByte s.data.toList 253)) ∧ w' = w := by
  have hx : ∀ wx : World, (callFunc 54 #[.string s, .int .u8 253]).run Try.prog wx = .ok (.value (.int .i64 (Lib.indexByte s.data.toList 253))) wx := by
    intro wx
    rw [run_callFunc_extern (fn := Try.f54) (e := Extern.BytealgIndexByte.indexByte) (by kernel_rfl) (by kernel_rfl) (by kernel_rfl) (by kernel_rfl) (by kernel_rfl)]
    rw [Lib.run_indexByteString]
    rfl
  go_enter Try.func47, Try.ntmps47
  go_wp2
  go_ret
  exact ⟨rfl, rfl⟩
end Go.Proofs.Ytgdjphiicgiegaa
