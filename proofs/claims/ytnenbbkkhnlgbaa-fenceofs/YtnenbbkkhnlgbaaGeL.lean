/- The chapter's examples. -/
import Derived.Test.YtnenbbkkhnlgbaaGeK
import Derived.Test.YtnenbbkkhnlgbaaGeF
namespace Go.Proofs.Ytnenbbkkhnlgbaa
open Go.RowKit Go.Great

theorem results_one {fn : Func} {p : Tmp} {ty : TypeId} (h : fn.results = #[.cell p ty]) (tmps : Array Value) (P : Program) (w : World) :
    (results fn tmps).run P w = ((asAddr (tmps.getD p undef)).run P w).andThen fun a w₁ => (loadVar ty a).run P w₁ := by
  simp only [results, h]
  simp [Sem.run_bind, Result.andThen]
theorem pt_back {fn : Func} {p : Tmp} (h : fn.results = #[.cell p 39]) (tmps : Array Value) (w : World) (g : Nat) (x y : Value) (hp : tmps.getD p undef = .pointer (some ⟨g, 0, none⟩)) (hg : Blk w g #[x, y] 39) : (results fn tmps).run Try.prog w = .ok (.agg #[x, y]) w := by
  rw [results_one h]
  have := run_loadVar_row (P := Try.prog) w g 39 39 #[x, y] (0, 0) _ hg Try.underlying39 rfl (by kernel_rfl)
  rw [hp]
  simp [asAddr, this, Result.andThen]
theorem pts_at {W : World} {g : Nat} {cs : Array Value} {t : TypeId} (h : Blk W g cs t) (l : List Pt) (hcs : ∀ i, i < l.length → cs[i * 2]? = some (.int .i64 (l.getD i (0, 0)).1) ∧ cs[i * 2 + 1]? = some (.int .i64 (l.getD i (0, 0)).2)) (n c : Nat) (hn : n = l.length) : Pts W (.slice (some ⟨g, 0, none⟩) n c) l := by
  subst hn
  refine ⟨_, c, rfl, fun _ => ⟨g, 0, rfl, h.lt, fun i hi => ?_⟩⟩
  rw [Nat.zero_add]
  exact ⟨h.cell _ (hcs i hi).1, h.cell _ (hcs i hi).2⟩
def sqL : List Pt := [(0, 0), (10, 0), (10, 10), (0, 10)]
def arL : List Pt := [(0, 0), (10, 5), (0, 10), (3, 5)]
def sqC : Array Value := #[.int .i64 0, .int .i64 0, .int .i64 10, .int .i64 0, .int .i64 10, .int .i64 10, .int .i64 0, .int .i64 10]
def arC : Array Value := #[.int .i64 0, .int .i64 0, .int .i64 10, .int .i64 5, .int .i64 0, .int .i64 10, .int .i64 3, .int .i64 5]
theorem ex_far (w : World) : Calls Try.prog 42 #[.agg #[.int .i64 0, .int .i64 0], .agg #[.int .i64 3, .int .i64 (-4)]] w fun e w' => e = .returned (.tuple #[.int .i64 25, .int .i64 0]) ∧ Below w.heap.size w w' := by
  have h := far_any (0, 0) (3, -4) w
  rw [show farI (0, 0) (3, -4) = 25 by decide, show orE [(0, 0), (3, -4)] = 0 by decide] at h
  exact h
theorem ex_touches (w : World) : Calls Try.prog 80 #[.agg #[.int .i64 0, .int .i64 0], .agg #[.int .i64 10, .int .i64 10], .agg #[.int .i64 4, .int .i64 6], .agg #[.int .i64 0, .int .i64 4]] w fun e w' => e = .returned (.tuple #[.bool true, .int .i64 0]) ∧ Below w.heap.size w w' := by
  have h := touches_any (0, 0) (10, 10) (4, 6) (0, 4) w
  rw [show toI (0, 0) (10, 10) (4, 6) (0, 4) = true by decide, show toE (0, 0) (10, 10) (4, 6) (0, 4) = 0 by decide] at h
  exact h
theorem ar_pts {W : World} {g : Nat} (h : Blk W g arC 39) : Pts W (.slice (some ⟨g, 0, none⟩) 4 4) arL := pts_new h arL rfl 4 4 rfl
theorem sq_pts {W : World} {g : Nat} (h : Blk W g sqC 39) : Pts W (.slice (some ⟨g, 0, none⟩) 4 4) sqL := pts_new h sqL rfl 4 4 rfl
theorem ex_in {W : World} {g : Nat} (h : Blk W g arC 39) : Calls Try.prog 39 #[.slice (some ⟨g, 0, none⟩) 4 4, .agg #[.int .i64 4, .int .i64 5]] W fun e w' => e = .returned (.tuple #[.int .i64 1, .int .i64 0]) ∧ Below W.heap.size W w' := by
  have h := callsIn_wide.1 (side_any arL _ (4, 5) W (ar_pts h) (by decide))
  rw [show sdI arL (4, 5) = 1 by decide +kernel, show sdE arL (4, 5) = 0 by decide +kernel] at h
  exact h
theorem ex_out {W : World} {g : Nat} (h : Blk W g arC 39) : Calls Try.prog 39 #[.slice (some ⟨g, 0, none⟩) 4 4, .agg #[.int .i64 2, .int .i64 5]] W fun e w' => e = .returned (.tuple #[.int .i64 (-1), .int .i64 0]) ∧ Below W.heap.size W w' := by
  have h := callsIn_wide.1 (side_any arL _ (2, 5) W (ar_pts h) (by decide))
  rw [show sdI arL (2, 5) = -1 by decide +kernel, show sdE arL (2, 5) = 0 by decide +kernel] at h
  exact h
theorem ex_few {W : World} {g : Nat} (h : Blk W g sqC 39) : Calls Try.prog 46 #[.slice (some ⟨g, 0, none⟩) 2 4] W fun e w' => e = .returned (.int .i64 90) ∧ Below W.heap.size W w' := by
  have h := simple_any [(0, 0), (10, 0)] _ W (pts_at h [(0, 0), (10, 0)] (fun i hi => by
    have : i = 0 ∨ i = 1 := by simp at hi; omega
    rcases this with rfl | rfl <;> exact ⟨rfl, rfl⟩) 2 4 rfl) (by decide)
  rw [show simE [(0, 0), (10, 0)] = 90 by decide +kernel] at h
  exact h
end Go.Proofs.Ytnenbbkkhnlgbaa
