/- Package mixer, walked: Limit, the arms' signs, the arms' pushes. -/
import Derived.Test.YtpoodmfhcoaleaaGn0
namespace Go.Proofs.Ytpoodmfhcoaleaa
open Go.RowKit Go.Great

/-- a wrench's cells -/
abbrev wC (l x y t : Int) : Array Value := #[.int .i64 l, .int .i64 x, .int .i64 y, .int .i64 t]
/-- a wrench -/
abbrev wV (l x y t : Int) : Value := .agg (wC l x y t)
/-- eight motors' cells -/
abbrev eC (a b c d e f g h : Int) : Array Value := #[.int .i64 a, .int .i64 b, .int .i64 c, .int .i64 d, .int .i64 e, .int .i64 f, .int .i64 g, .int .i64 h]
abbrev eV (a b c d e f g h : Int) : Value := .agg (eC a b c d e f g h)
/-- one result, out of its variable's block: an array's -/
theorem arr_back {fn : Func} {p : Tmp} {ty e : TypeId} {n : Nat} (h : fn.results = #[.cell p ty]) (hu : Try.prog.underlying ty = some (.array n e)) {cs : Array Value} (hz : (Try.prog.info? ty).map (·.size) = some cs.size) (tmps : Array Value) (w : World) (g : Nat) (hp : tmps.getD p undef = .pointer (some ⟨g, 0, none⟩)) (hg : Blk w g cs ty) : (results fn tmps).run Try.prog w = .ok (.agg cs) w := by
  rw [res_one h]
  have := run_loadVar_row (P := Try.prog) w g ty ty cs (0, 0) _ hg hu rfl hz
  rw [hp]
  simp [asAddr, this, Result.andThen]
/-- two results, the first one an array, out of its variable's block -/
theorem arr_back2 {fn : Func} {p u : Tmp} {ty e : TypeId} {n : Nat} (h : fn.results = #[.cell p ty, .tmp u]) (hu : Try.prog.underlying ty = some (.array n e)) {cs : Array Value} (hz : (Try.prog.info? ty).map (·.size) = some cs.size) (tmps : Array Value) (w : World) (g : Nat) (b : Value) (hp : tmps.getD p undef = .pointer (some ⟨g, 0, none⟩)) (hq : tmps.getD u undef = b) (hg : Blk w g cs ty) : (results fn tmps).run Try.prog w = .ok (.tuple #[.agg cs, b]) w := by
  rw [results_cell_tmp h]
  have := run_loadVar_row (P := Try.prog) w g ty ty cs (0, 0) _ hg hu rfl hz
  rw [hp, hq]
  simp [asAddr, this, Result.andThen]
theorem wr_back {fn : Func} {p : Tmp} (h : fn.results = #[.cell p 46]) (tmps : Array Value) (w : World) (g : Nat) (x y z u : Value) (hp : tmps.getD p undef = .pointer (some ⟨g, 0, none⟩)) (hg : Blk w g #[x, y, z, u] 46) : (results fn tmps).run Try.prog w = .ok (.agg #[x, y, z, u]) w :=
  res_back h Try.underlying46 (by kernel_rfl) tmps w g hp hg
theorem four_back {fn : Func} {p : Tmp} (h : fn.results = #[.cell p 57]) (tmps : Array Value) (w : World) (g : Nat) (x y z u : Value) (hp : tmps.getD p undef = .pointer (some ⟨g, 0, none⟩)) (hg : Blk w g #[x, y, z, u] 57) : (results fn tmps).run Try.prog w = .ok (.agg #[x, y, z, u]) w :=
  arr_back h Try.underlying57 (by kernel_rfl) tmps w g hp hg
theorem Blk.set4 {W : World} {B : Nat} {x y z q : Value} {t : TypeId} (h : Blk W B #[x, y, z, q] t) (a b c d : Value) : Blk ((((W.setCell ⟨B, 0, none⟩ a).setCell ⟨B, 1, none⟩ b).setCell ⟨B, 2, none⟩ c).setCell ⟨B, 3, none⟩ d) B #[a, b, c, d] t := heap_set (heap_set (heap_set (heap_set h 0 a) 1 b) 2 c) 3 d
theorem below_set4 {n : Nat} {w w1 : World} (h : Below n w w1) (g : Nat) (a b c d : Value) (hg : n ≤ g) (hn : n ≤ w1.heap.size) : Below n w ((((w1.setCell ⟨g, 0, none⟩ a).setCell ⟨g, 1, none⟩ b).setCell ⟨g, 2, none⟩ c).setCell ⟨g, 3, none⟩ d) :=
  below_set (below_set (below_set (below_set h _ _ _ hg hn) _ _ _ hg (by rw [setCell_size]; exact hn)) _ _ _ hg (by rw [setCell_size, setCell_size]; exact hn)) _ _ _ hg (by rw [setCell_size, setCell_size, setCell_size]; exact hn)
theorem lim_any (l x y t : Int) (w : World) : Calls Try.prog 19 #[wV l x y t] w fun e w' => e = .returned (wV (clamp l 328 456) (clamp x (-64) 64) (clamp y (-64) 64) (clamp t (-100) 100)) ∧ Below w.heap.size w w' := by
  obtain ⟨W0, hW0, b0, M0, R0, hz0⟩ := two_boxes w (wC l x y t) (wC 0 0 0 0) 46 46
  have c0 : W0.cell? ⟨w.heap.size, 0, none⟩ = some (.int .i64 l) := M0.cell 0 rfl
  have c1 : W0.cell? ⟨w.heap.size, 1, none⟩ = some (.int .i64 x) := M0.cell 1 rfl
  have c2 : W0.cell? ⟨w.heap.size, 2, none⟩ = some (.int .i64 y) := M0.cell 2 rfl
  have c3 : W0.cell? ⟨w.heap.size, 3, none⟩ = some (.int .i64 t) := M0.cell 3 rfl
  have r0 : W0.cell? ⟨w.heap.size + 1, 0, none⟩ = some (.int .i64 0) := R0.cell 0 rfl
  have r1 : W0.cell? ⟨w.heap.size + 1, 1, none⟩ = some (.int .i64 0) := R0.cell 1 rfl
  have r2 : W0.cell? ⟨w.heap.size + 1, 2, none⟩ = some (.int .i64 0) := R0.cell 2 rfl
  have r3 : W0.cell? ⟨w.heap.size + 1, 3, none⟩ = some (.int .i64 0) := R0.cell 3 rfl
  have f0 := R0.frozen 0
  have f1 := R0.frozen 1
  have f2 := R0.frozen 2
  have f3 := R0.frozen 3
  have Hb := hide b0
  have HR := hide R0
  clear b0 M0 R0
  go_enter Try.func19, Try.ntmps19
  go_wp2_with fail
  refine reg_last 13 rfl rfl _ rfl (by kernel_rfl) (by kernel_rfl) (by kernel_rfl) ?_
  simp only [List.take_succ_cons, List.take_zero]
  repeat (quiet_step (first | (go_at_call 31; exact Calls.quiet_of_same (clamp_any _ _ _ _))))
  refine wpQuiet_nil ?_
  intro nq
  go_simp
  go_wp2_with fail
  refine bodyPost_ret (wr_back (p := 2) (by kernel_rfl) _ _ (w.heap.size + 1) _ _ _ _ rfl ((blk_drewN HR.out nq).set4 _ _ _ _)) rfl ⟨rfl, ?_⟩
  exact below_set4 (below_drewN Hb.out nq) _ _ _ _ _ (by omega) (below_drewN Hb.out nq).size
theorem sides_any (w : World) : Calls Try.prog 39 #[] w fun e w' => e = .returned (.agg #[.int .i64 1, .int .i64 1, .int .i64 (-1), .int .i64 1, .int .i64 (-1), .int .i64 (-1), .int .i64 1, .int .i64 (-1)]) ∧ Below w.heap.size w w' := by
  go_enter Try.func39, Try.ntmps39
  go_wp2
  exact bodyPost_ret (arr_back (p := 0) (by kernel_rfl) Try.underlying63 (by kernel_rfl) _ _ w.heap.size rfl (Blk.new _ _ _)) rfl ⟨rfl, below_alloc _ _⟩
theorem over_any (a b : Int) (w : World) (ha : I64 a) (h : 1 ≤ b) : Calls Try.prog 40 #[.int .i64 a, .int .i64 b] w fun e w' => e = .returned (.int .i64 (a / b)) ∧ w' = w := by
  have DN := hide (fun W => down_any a b W ha h)
  clear ha h
  go_enter Try.func40, Try.ntmps40
  go_wp2_with (go_at_call 45; refine (DN.out _).mono ?_; rintro e w1 ⟨rfl, hw⟩; obtain rfl := hw.symm)
  go_ret
  exact ⟨rfl, rfl⟩
end Go.Proofs.Ytpoodmfhcoaleaa
