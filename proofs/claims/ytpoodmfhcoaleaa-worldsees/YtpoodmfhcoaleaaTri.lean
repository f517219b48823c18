/- For every layer: three ints (an array) in a variable's cells, handed back, compared; what is asked for on an axis. -/
import Derived.Test.YtpoodmfhcoaleaaGn0
namespace Go.Proofs.Ytpoodmfhcoaleaa
open Go.RowKit Go.Great

/-- three ints' cells -/
abbrev tC (a b c : Int) : Array Value := #[.int .i64 a, .int .i64 b, .int .i64 c]
abbrev tV (a b c : Int) : Value := .agg (tC a b c)
/-- what is asked for -/
def ask (n v : Int) : Int := clamp (sat (n - v)) (-64) 64
theorem sat_any (x : Int) : I64 (sat x) := by unfold sat I64; split <;> (try split) <;> omega
theorem three_back {fn : Func} {p : Tmp} {ty e : TypeId} {n : Nat} (h : fn.results = #[.cell p ty]) (hu : Try.prog.underlying ty = some (.array n e)) {cs : Array Value} (hz : (Try.prog.info? ty).map (·.size) = some cs.size) (tmps : Array Value) (w : World) (g : Nat) (hp : tmps.getD p undef = .pointer (some ⟨g, 0, none⟩)) (hg : Blk w g cs ty) : (results fn tmps).run Try.prog w = .ok (.agg cs) w := by
  rw [res_one h]
  have := run_loadVar_row (P := Try.prog) w g ty ty cs (0, 0) _ hg hu rfl hz
  rw [hp]
  simp [asAddr, this, Result.andThen]
theorem t_back {fn : Func} {p : Tmp} (h : fn.results = #[.cell p 22]) (tmps : Array Value) (w : World) (g : Nat) (x y z : Value) (hp : tmps.getD p undef = .pointer (some ⟨g, 0, none⟩)) (hg : Blk w g #[x, y, z] 22) : (results fn tmps).run Try.prog w = .ok (.agg #[x, y, z]) w :=
  three_back h Try.underlying22 (by kernel_rfl) tmps w g hp hg
theorem Blk.set3 {W : World} {B : Nat} {x y z : Value} {t : TypeId} (h : Blk W B #[x, y, z] t) (a b c : Value) : Blk (((W.setCell ⟨B, 0, none⟩ a).setCell ⟨B, 1, none⟩ b).setCell ⟨B, 2, none⟩ c) B #[a, b, c] t := heap_set (heap_set (heap_set h 0 a) 1 b) 2 c
theorem below_set3 {n : Nat} {w w1 : World} (h : Below n w w1) (g : Nat) (a b c : Value) (hg : n ≤ g) (hn : n ≤ w1.heap.size) : Below n w (((w1.setCell ⟨g, 0, none⟩ a).setCell ⟨g, 1, none⟩ b).setCell ⟨g, 2, none⟩ c) :=
  below_set (below_set (below_set h _ _ _ hg hn) _ _ _ hg (by rw [setCell_size]; exact hn)) _ _ _ hg (by rw [setCell_size, setCell_size]; exact hn)
theorem Blk.set3o {W : World} {B C : Nat} {cs : Array Value} {t : TypeId} (h : Blk W B cs t) (hne : B ≠ C) (a b c : Value) : Blk (((W.setCell ⟨C, 0, none⟩ a).setCell ⟨C, 1, none⟩ b).setCell ⟨C, 2, none⟩ c) B cs t := ((h.setOther hne _ _).setOther hne _ _).setOther hne _ _
theorem grown_new {w w1 : World} {B : Nat} (h : w.grownBy w1 (some B)) (g i : Nat) (x : Value) (hg : w.heap.size ≤ g) : w.grownBy (w1.setCell ⟨g, i, none⟩ x) (some B) := grown_then h (grown_set w1 g i x) (fun k e => .inr (by injection e with e; omega))
theorem three_cells {W : World} {d : Nat} {a b c : Value} {t : TypeId} (h : Blk W d #[a, b, c] t) : W.cell? ⟨d, 0, none⟩ = some a ∧ W.cell? ⟨d, 1, none⟩ = some b ∧ W.cell? ⟨d, 2, none⟩ = some c := ⟨h.cell 0 rfl, h.cell 1 rfl, h.cell 2 rfl⟩
theorem one_box (w : World) (A : Array Value) (t : TypeId) : ∃ W0, w.alloc (.cells A t) = W0 ∧ Below w.heap.size w W0 ∧ Blk W0 w.heap.size A t ∧ W0.heap.size = w.heap.size + 1 := ⟨_, rfl, below_alloc _ _, Blk.new _ _ _, by simp⟩
theorem part3 (a b c : Value) (w : World) : (part 3 #[a, b, c] 0).run Try.prog w = .ok a w ∧ (part 3 #[a, b, c] 1).run Try.prog w = .ok b w ∧ (part 3 #[a, b, c] 2).run Try.prog w = .ok c w := ⟨by kernel_rfl, by kernel_rfl, by kernel_rfl⟩
theorem eqI (d : Nat) (a b : Int) (w : World) : (Op.equalIn (d + 1) 3 (.int .i64 a) (.int .i64 b)).run Try.prog w = .ok (a == b) w := by
  simp only [Op.equalIn, Sem.run_bind, run_underlying Try.underlying3, Result.andThen_ok]
  simp
theorem eqA (d : Nat) (a b c x y z : Int) (w : World) : (Op.equalIn (d + 2) 22 (.agg #[.int .i64 a, .int .i64 b, .int .i64 c]) (.agg #[.int .i64 x, .int .i64 y, .int .i64 z])).run Try.prog w = .ok (a == x && (b == y && c == z)) w := by
  have hs : (sizeOf 3).run Try.prog w = .ok 1 w := by kernel_rfl
  rw [Op.equalIn]
  simp only [Sem.run_bind, run_underlying Try.underlying22, Result.andThen_ok, hs]
  simp [Std.Legacy.Range.forIn_eq_forIn_range', List.range', eqI, (part3 _ _ _ _).1, (part3 _ _ _ _).2.1, (part3 _ _ _ _).2.2, Sem.run_bind]
  by_cases h1 : a = x <;> by_cases h2 : b = y <;> by_cases h3 : c = z <;> simp [h1, h2, h3]
theorem eql_arr (a b c x y z : Int) (w : World) : (binOp .eql 22 (.agg #[.int .i64 a, .int .i64 b, .int .i64 c]) (.agg #[.int .i64 x, .int .i64 y, .int .i64 z])).run Try.prog w = .ok (.bool (a == x && (b == y && c == z))) w := by
  have h := eqA (Op.maxDepth - 2) a b c x y z w
  have e : Op.maxDepth - 2 + 2 = Op.maxDepth := by decide
  rw [e] at h
  simp [binOp, Op.equal, h]
theorem neq_arr (a b c x y z : Int) (w : World) : (binOp .neq 22 (.agg #[.int .i64 a, .int .i64 b, .int .i64 c]) (.agg #[.int .i64 x, .int .i64 y, .int .i64 z])).run Try.prog w = .ok (.bool (!(a == x && (b == y && c == z)))) w := by
  have h := eqA (Op.maxDepth - 2) a b c x y z w
  have e : Op.maxDepth - 2 + 2 = Op.maxDepth := by decide
  rw [e] at h
  simp [binOp, Op.equal, h]
theorem i64_of {x : Int} (h : -9223372036854775808 ≤ x ∧ x ≤ 9223372036854775807) : I64 x := h
theorem i64_0 : I64 0 := i64_of (by decide)
end Go.Proofs.Ytpoodmfhcoaleaa
