/- A variable that holds a message. -/
import Derived.Test.YtgdjphiicgiegaaMs6
namespace Go.Proofs.Ytgdjphiicgiegaa
open Go.RowKit Go.Great

/-- a variable that holds a message -/
def Msg (w : World) (g : Nat) (x y : Value) : Prop := w.heap[g]? = some (.cells #[x, y] 25 (0, 0))
theorem Msg.c0 {w : World} {g : Nat} {x y : Value} (h : Msg w g x y) : w.cell? ⟨g, 0, none⟩ = some x := by
  unfold Msg at h; simp [World.cell?, h]
theorem Msg.c1 {w : World} {g : Nat} {x y : Value} (h : Msg w g x y) : w.cell? ⟨g, 1, none⟩ = some y := by
  unfold Msg at h; simp [World.cell?, h]
theorem Msg.fz {w : World} {g : Nat} {x y : Value} (h : Msg w g x y) (i : Nat) : w.frozen? ⟨g, i, none⟩ = false := by
  unfold Msg at h; simp [World.frozen?, h]
theorem Msg.lt {w : World} {g : Nat} {x y : Value} (h : Msg w g x y) : g < w.heap.size := lt_of_block h
theorem Msg.below {w w' : World} {g : Nat} {x y : Value} (h : Msg w g x y) (hb : Below w.heap.size w w') : Msg w' g x y := by
  unfold Msg at h ⊢; rw [hb.block g (lt_of_block h), h]
theorem Msg.set {w : World} {g : Nat} {x y : Value} (h : Msg w g x y) (a b : Value) : Msg ((w.setCell ⟨g, 0, none⟩ a).setCell ⟨g, 1, none⟩ b) g a b := by
  have := heap_set (heap_set h 0 a) 1 b
  simpa [Msg] using this
theorem msg_new (w : World) (x y : Value) : Msg (w.alloc (.cells #[x, y] 25)) w.heap.size x y := heap_alloc_new _ _
theorem Msg.drewN {w : World} {g : Nat} {x y : Value} (h : Msg w g x y) (n : Nat) : Msg (w.drewN n) g x y := by
  induction n with
  | zero => exact h
  | succ n ih => exact ih
theorem below_set2 {B : Nat} {w w1 : World} {g : Nat} (h : Below B w w1) (hg : B ≤ g) (a b : Value) : Below B w ((w1.setCell ⟨g, 0, none⟩ a).setCell ⟨g, 1, none⟩ b) :=
  (h.setCell (p := ⟨g, 0, none⟩) hg a).setCell (p := ⟨g, 1, none⟩) hg b
theorem Ints.drewN {w : World} {v : Value} {l : List Int} (h : Ints w v l) (n : Nat) : Ints (w.drewN n) v l := by
  induction n with
  | zero => exact h
  | succ n ih => exact ih
theorem frame_back {fn : Func} (h : fn.results = #[.cell 4 28, .tmp 5]) (tmps : Array Value) (w : World) (g : Nat) (x y z : Value) (fr : Nat × Nat) (b : Value) (hp : tmps.getD 4 undef = .pointer (some ⟨g, 0, none⟩)) (hq : tmps.getD 5 undef = b) (hg : w.heap[g]? = some (.cells #[x, y, z] 28 fr)) : (results fn tmps).run Try.prog w = .ok (.tuple #[.agg #[x, y, z], b]) w := by
  rw [results_cell_tmp h]
  have := run_loadVar_row (P := Try.prog) w g 28 28 #[x, y, z] fr _ hg Try.underlying28 rfl (by kernel_rfl)
  rw [hp, hq]
  simp [asAddr, this, Result.andThen]
theorem msg_back {fn : Func} (h : fn.results = #[.cell 2 25, .tmp 3]) (tmps : Array Value) (w : World) (g : Nat) (x y : Value) (fr : Nat × Nat) (b : Value) (hp : tmps.getD 2 undef = .pointer (some ⟨g, 0, none⟩)) (hq : tmps.getD 3 undef = b) (hg : w.heap[g]? = some (.cells #[x, y] 25 fr)) : (results fn tmps).run Try.prog w = .ok (.tuple #[.agg #[x, y], b]) w := by
  rw [results_cell_tmp h]
  have := run_loadVar_row (P := Try.prog) w g 25 25 #[x, y] fr _ hg Try.underlying25 rfl (by kernel_rfl)
  rw [hp, hq]
  simp [asAddr, this, Result.andThen]
theorem wpK_len (k : Int) : (wpK k).length = (wsK k).length := by unfold wpK; rw [List.length_map]
/-- behind the call of widths -/
theorem enc_start {w w1 : World} {k : Int} {u : Value} {ns : List Int} (hu : Ints w u ns) (hB : Below ((w.alloc (.cells #[.int .u8 k, u] 25)).alloc (.cells #[.int .i64 0, .int .i64 0, .string ⟨#[]⟩] 28)).heap.size ((w.alloc (.cells #[.int .u8 k, u] 25)).alloc (.cells #[.int .i64 0, .int .i64 0, .string ⟨#[]⟩] 28)) w1) : Msg w1 w.heap.size (.int .u8 k) u ∧ Frm w1 (w.heap.size + 1) (.int .i64 0) (.int .i64 0) (.string ⟨#[]⟩) ∧ Ints w1 u ns ∧ Below w.heap.size w w1 := by
  refine ⟨((msg_new w _ _).below (below_alloc _ _)).below hB, ?_, ((hu.below (below_alloc _ _)).below (below_alloc _ _)).below hB, below_over (below_over hB)⟩
  have := (frm_new (w.alloc (.cells #[.int .u8 k, u] 25)) (.int .i64 0) (.int .i64 0) (.string ⟨#[]⟩)).below hB
  rw [size_alloc] at this
  exact this
end Go.Proofs.Ytgdjphiicgiegaa
