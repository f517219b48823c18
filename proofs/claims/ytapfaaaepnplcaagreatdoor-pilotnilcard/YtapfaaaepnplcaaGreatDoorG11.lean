/- Fr1. -/
import Derived.Test.YtapfaaaepnplcaaGreatDoorG10
import Derived.Test.YtapfaaaepnplcaaGreatDoorG05
import Derived.Laws.Externs
import Derived.Lib.Bytealg
import Derived.Shelf.Strconv.Clone
set_option maxRecDepth 100000
namespace Go.Proofs.YtapfaaaepnplcaaGreatDoor
open Go.RowKit Go.Great
/-- a reader: what it holds, how many were bad -/
def Rdr (w : World) (R : Nat) (s : ByteArray) (n : Int) : Prop := w.heap[R]? = some (.cells #[.string s, .int .i64 n] 214 (0, 0))
theorem Rdr.c0 {w : World} {R : Nat} {s : ByteArray} {n : Int} (h : Rdr w R s n) : w.cell? ⟨R, 0, none⟩ = some (.string s) := by
  unfold Rdr at h; simp [World.cell?, h]
theorem Rdr.c1 {w : World} {R : Nat} {s : ByteArray} {n : Int} (h : Rdr w R s n) : w.cell? ⟨R, 1, none⟩ = some (.int .i64 n) := by
  unfold Rdr at h; simp [World.cell?, h]
theorem Rdr.f0 {w : World} {R : Nat} {s : ByteArray} {n : Int} (h : Rdr w R s n) (i : Nat) : w.frozen? ⟨R, i, none⟩ = false := by
  unfold Rdr at h; simp [World.frozen?, h]
theorem Rdr.lt {w : World} {R : Nat} {s : ByteArray} {n : Int} (h : Rdr w R s n) : R < w.heap.size := lt_of_block h
theorem Rdr.set0 {w : World} {R : Nat} {s : ByteArray} {n : Int} (h : Rdr w R s n) (t : ByteArray) : Rdr (w.setCell ⟨R, 0, none⟩ (.string t)) R t n := by
  have hlt := h.lt
  have h' : w.heap[R] = .cells #[.string s, .int .i64 n] 214 (0, 0) := by simpa [Rdr, Array.getElem?_eq_getElem hlt] using h
  show (w.heap.modify R _)[R]? = _
  rw [Array.getElem?_eq_getElem (by simpa using hlt), Array.getElem_modify_self, h']
  rfl
theorem Rdr.set1 {w : World} {R : Nat} {s : ByteArray} {n : Int} (h : Rdr w R s n) (m : Int) : Rdr (w.setCell ⟨R, 1, none⟩ (.int .i64 m)) R s m := by
  have hlt := h.lt
  have h' : w.heap[R] = .cells #[.string s, .int .i64 n] 214 (0, 0) := by simpa [Rdr, Array.getElem?_eq_getElem hlt] using h
  show (w.heap.modify R _)[R]? = _
  rw [Array.getElem?_eq_getElem (by simpa using hlt), Array.getElem_modify_self, h']
  rfl
theorem Rdr.below {w w' : World} {R : Nat} {s : ByteArray} {n : Int} (h : Rdr w R s n) (hb : Below w.heap.size w w') : Rdr w' R s n := by
  unfold Rdr at h ⊢; rw [hb.block R (lt_of_block h), h]
theorem add_row (w : World) (R : Nat) (s d : ByteArray) (n : Int) (h : Rdr w R s n) (hs : s.size + d.size ≤ 9223372036854775807) : Calls Tryz.prog 261 #[.pointer (some ⟨R, 0, none⟩), .string d] w fun e w' => e = .returned (.tuple #[]) ∧ w' = w.setCell ⟨R, 0, none⟩ (.string (s ++ d)) := by
  have h0 := h.c0
  have f0 := h.f0 0
  have hadd : ∀ wx, (Op.stringOp .add s d).run Tryz.prog wx = .ok (.string (s ++ d)) wx := fun wx => run_string_add_sum wx s d hs
  go_enter Tryz.func261, Tryz.ntmps261
  go_wp2
  go_end0
  exact ⟨rfl, rfl⟩
theorem pass_row (w : World) (R : Nat) (s : ByteArray) (n : Int) (h : Rdr w R s n) (k : Nat) (hk : k ≤ s.size) : Calls Tryz.prog 265 #[.pointer (some ⟨R, 0, none⟩), .int .i64 k] w fun e w' => e = .returned (.tuple #[]) ∧ w' = w.setCell ⟨R, 0, none⟩ (.string (s.extract k s.size)) := by
  have h0 := h.c0
  have f0 := h.f0 0
  go_enter Tryz.func265, Tryz.ntmps265
  go_wp2
  go_end0
  exact ⟨rfl, rfl⟩
theorem new_any_Fr1 (w : World) : Calls Tryz.prog 46 #[] w fun e w' => e = .returned (.pointer (some ⟨w.heap.size, 0, none⟩)) ∧ w' = w.alloc (.cells #[.string ⟨#[]⟩, .int .i64 0] 214) := by
  go_enter Tryz.func46, Tryz.ntmps46
  go_wp2
  go_ret
  exact ⟨rfl, rfl⟩
theorem index_any_Fr1 (s : ByteArray) (w : World) : Calls Tryz.prog 329 #[.string s, .int .u8 253] w fun e w' => e = .returned (.int .i64 (Lib.indexByte s.data.toList 253)) ∧ w' = w := by
  have hx : ∀ wx : World, (callFunc 394 #[.string s, .int .u8 253]).run Tryz.prog wx = .ok (.value (.int .i64 (Lib.indexByte s.data.toList 253))) wx := by
    intro wx
    rw [run_callFunc_extern (fn := Tryz.f394) (e := Extern.BytealgIndexByte.indexByte) (by kernel_rfl) (by kernel_rfl) (by kernel_rfl) (by kernel_rfl) (by kernel_rfl)]
    rw [Lib.run_indexByteString]
    rfl
  go_enter Tryz.func329, Tryz.ntmps329
  go_wp2
  go_ret
  exact ⟨rfl, rfl⟩
end Go.Proofs.YtapfaaaepnplcaaGreatDoor
