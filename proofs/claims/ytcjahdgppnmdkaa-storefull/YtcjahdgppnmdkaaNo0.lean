/- Small laws that every text here uses: what is kept of memory, bytes, rows of bytes. -/
import Derived.Test.YtcjahdgppnmdkaaProg
import Derived.WalkKit
import Derived.Deep.QuietTactic
import Derived.BigQuiet
import Derived.Great.BuildSlice
import Derived.Deep.WholeRow
import Derived.Below
import Derived.Laws.IdiomStrings
import Derived.Laws.IdiomCopy
import Derived.Laws.Concat
import Derived.Laws.CopyRow
set_option maxRecDepth 100000
namespace Go.Proofs.Ytcjahdgppnmdkaa
open Go.RowKit Go.Great

theorem hide {p : Prop} (h : p) : Hid p := h
theorem ret_int {k : IntKind} {a b : Int} (h : a = b) : Ending.returned (.int k a) = .returned (.int k b) := by rw [h]
theorem ret_bool {a b : Bool} (h : a = b) : Ending.returned (.bool a) = .returned (.bool b) := by rw [h]
theorem below_next {B : Nat} {w w1 w2 : World} (h : Below B w w1) (hB : B ≤ w.heap.size) (h2 : Below w1.heap.size w1 w2) : Below B w w2 := h.trans (h2.mono (by have := h.size; omega))
theorem below_alloc (w : World) (o : Obj) : Below w.heap.size w (w.alloc o) := (Below.refl _ _).alloc (Nat.le_refl _) _
theorem below_over {w w' : World} {o : Obj} (h : Below (w.alloc o).heap.size (w.alloc o) w') : Below w.heap.size w w' :=
  below_next (below_alloc w o) (Nat.le_refl _) h
/-- an int -/
def I64 (x : Int) : Prop := -9223372036854775808 ≤ x ∧ x ≤ 9223372036854775807
theorem wf_i64 {x : Int} (h : (Lit.int .i64 x).wf = true) : I64 x := by
  simp [Lit.wf, IntKind.min, IntKind.max, IntKind.bits, IntKind.signed] at h
  unfold I64; omega
theorem wf_u8 {x : Int} (h : (Lit.int .u8 x).wf = true) : ∃ c : UInt8, x = (c.toNat : Int) := by
  simp [Lit.wf, IntKind.min, IntKind.max, IntKind.bits, IntKind.signed] at h
  exact ⟨UInt8.ofNat x.toNat, by rw [UInt8.toNat_ofNat']; omega⟩
theorem of8 (x : UInt8) : BitVec.ofInt 8 (x.toNat : Int) = x.toBitVec := by
  apply BitVec.eq_of_toNat_eq
  rw [BitVec.toNat_ofInt]
  have := x.toNat_lt
  show ((x.toNat : Int) % _).toNat = x.toNat
  omega
theorem and8 (a b : UInt8) : bits .and .u8 (a.toNat : Int) (b.toNat : Int) = ((a &&& b).toNat : Int) := by
  show IntKind.u8.wrap ((BitVec.ofInt 8 (a.toNat : Int) &&& BitVec.ofInt 8 (b.toNat : Int)).toNat : Int) = _
  rw [of8, of8]
  have := (a &&& b).toNat_lt
  show IntKind.u8.wrap (((a &&& b).toNat : Nat) : Int) = _
  rw [IntKind.wrap_u8]; omega
theorem or8 (a b : UInt8) : bits .or .u8 (a.toNat : Int) (b.toNat : Int) = ((a ||| b).toNat : Int) := by
  show IntKind.u8.wrap ((BitVec.ofInt 8 (a.toNat : Int) ||| BitVec.ofInt 8 (b.toNat : Int)).toNat : Int) = _
  rw [of8, of8]
  have := (a ||| b).toNat_lt
  show IntKind.u8.wrap (((a ||| b).toNat : Nat) : Int) = _
  rw [IntKind.wrap_u8]; omega
/-- a string of these bytes -/
def bs (l : List UInt8) : ByteArray := ⟨l.toArray⟩
theorem bs_list (l : List UInt8) : (bs l).data.toList = l := by simp [bs]
theorem bs_size (l : List UInt8) : (bs l).size = l.length := by simp [bs, ByteArray.size]
theorem bs_of (s : ByteArray) : bs s.data.toList = s := by simp [bs]
theorem bs_inj {l m : List UInt8} (h : bs l = bs m) : l = m := by rw [← bs_list l, h, bs_list]
theorem list_size (s : ByteArray) : s.data.toList.length = s.size := Array.length_toList
def bytesV (l : List UInt8) : List Value := l.map fun b => Value.int .u8 (b.toNat : Int)
theorem bytesV_length (l : List UInt8) : (bytesV l).length = l.length := by simp [bytesV]
theorem grown_below {w w' : World} (h : Below w.heap.size w w') (row : Option Nat) : w.grownBy w' row := ⟨h.os, h.tape, h.output, h.size, fun k hk _ => h.block k hk⟩
/-- what is kept but for block R -/
def Kept (R : Nat) (w w' : World) : Prop := w.grownBy w' (some R)
theorem Kept.refl (R : Nat) (w : World) : Kept R w w := ⟨rfl, rfl, rfl, Nat.le_refl _, fun _ _ _ => rfl⟩
theorem Kept.step {R : Nat} {w w1 w2 : World} {row : Option Nat} (h : Kept R w w1) (g : w1.grownBy w2 row) (hr : ∀ k, row = some k → w.heap.size ≤ k ∨ k = R) : Kept R w w2 := by
  refine ⟨g.os.trans h.os, g.tape.trans h.tape, g.output.trans h.output, Nat.le_trans h.size g.size, fun k hk hne => ?_⟩
  have hs := h.size
  refine (g.block k (by omega) ?_).trans (h.block k hk hne)
  intro e
  rcases hr k e.symm with h1 | h1
  · omega
  · exact hne (by rw [h1])
theorem Kept.below {R : Nat} {w w1 w2 : World} (h : Kept R w w1) (g : Below w1.heap.size w1 w2) : Kept R w w2 := h.step (grown_below g none) (fun _ e => by cases e)
theorem Kept.alloc {R : Nat} {w w1 : World} (h : Kept R w w1) (o : Obj) : Kept R w (w1.alloc o) := h.below (below_alloc _ _)
theorem Kept.trans {R : Nat} {w w1 w2 : World} (h : Kept R w w1) (g : Kept R w1 w2) : Kept R w w2 := Kept.step h (show w1.grownBy w2 (some R) from g) (fun k e => by injection e with e; exact .inr e.symm)
theorem Kept.set {R : Nat} {w w1 : World} (h : Kept R w w1) (i : Nat) (u : Value) : Kept R w (w1.setCell ⟨R, i, none⟩ u) := by
  refine Kept.trans h ⟨rfl, rfl, rfl, by simp [World.setCell], fun k hk hne => Below.heap_setCell _ _ _ _ ?_⟩
  intro e; exact hne (by rw [e])
theorem Kept.drew {R : Nat} {w w1 : World} (h : Kept R w w1) : Kept R w w1.drew := Kept.trans h ⟨rfl, rfl, rfl, Nat.le_refl _, fun _ _ _ => rfl⟩
theorem Kept.size {R : Nat} {w w1 : World} (h : Kept R w w1) : w.heap.size ≤ w1.heap.size := World.grownBy.size h
theorem Kept.over {R : Nat} {w w1 : World} {o : Obj} (h : Kept R (w.alloc o) w1) : Kept R w w1 := Kept.trans (Kept.alloc (Kept.refl R w) o) h
theorem Kept.toBelow {R B : Nat} {a w w1 : World} (h : Below B a w) (g : Kept R w w1) (hB : B ≤ w.heap.size) (hR : B ≤ R) : Below B a w1 := h.grown g hB (fun k e => by injection e with e; omega)
theorem Kept.other {R k : Nat} {w w1 : World} {o : Obj} (h : Kept R w w1) (hk : w.heap[k]? = some o) (hne : k ≠ R) : w1.heap[k]? = some o := by
  rw [World.grownBy.block h k (lt_of_block hk) (by intro e; injection e with e; exact hne e), hk]
end Go.Proofs.Ytcjahdgppnmdkaa
