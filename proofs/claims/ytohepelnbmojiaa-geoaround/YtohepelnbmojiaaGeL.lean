/- The chapter's examples. -/
import Derived.Test.YtohepelnbmojiaaGeK
import Derived.Test.YtohepelnbmojiaaGeF
namespace Go.Proofs.Ytohepelnbmojiaa
open Go.RowKit Go.Great

theorem results_one {fn : Func} {p : Tmp} {ty : TypeId} (h : fn.results = #[.cell p ty]) (tmps : Array Value) (P : Program) (w : World) :
    (results fn tmps).run P w = ((asAddr (tmps.getD p undef)).run P w).andThen fun a w₁ => (loadVar ty a).run P w₁ := by
  simp only [results, h]
  simp [Sem.run_bind, Result.andThen]
theorem pt_back {fn : Func} {p : Tmp} (h : fn.results = #[.cell p 23]) (tmps : Array Value) (w : World) (g : Nat) (x y : Value) (hp : tmps.getD p undef = .pointer (some ⟨g, 0, none⟩)) (hg : Blk w g #[x, y] 23) : (results fn tmps).run Try.prog w = .ok (.agg #[x, y]) w := by
  rw [results_one h]
  have := run_loadVar_row (P := Try.prog) w g 23 23 #[x, y] (0, 0) _ hg Try.underlying23 rfl (by kernel_rfl)
  rw [hp]
  simp [asAddr, this, Result.andThen]
theorem at_any (x y : Int) (w : World) : Calls Try.prog 32 #[.int .i64 x, .int .i64 y] w fun e w' => e = .returned (.agg #[.int .i64 x, .int .i64 y]) ∧ w' = w.alloc (.cells #[.int .i64 x, .int .i64 y] 23) := by
  go_enter Try.func32, Try.ntmps32
  go_wp2_with fail
  exact bodyPost_ret (pt_back (p := 4) (by kernel_rfl) _ _ w.heap.size _ _ rfl (Blk.new _ _ _)) rfl ⟨rfl, rfl⟩
theorem pts_at {W : World} {g : Nat} {cs : Array Value} {t : TypeId} (h : Blk W g cs t) (l : List Pt) (hcs : ∀ i, i < l.length → cs[i * 2]? = some (.int .i64 (l.getD i (0, 0)).1) ∧ cs[i * 2 + 1]? = some (.int .i64 (l.getD i (0, 0)).2)) (n c : Nat) (hn : n = l.length) : Pts W (.slice (some ⟨g, 0, none⟩) n c) l := by
  subst hn
  refine ⟨_, c, rfl, fun _ => ⟨g, 0, rfl, h.lt, fun i hi => ?_⟩⟩
  rw [Nat.zero_add]
  exact ⟨h.cell _ (hcs i hi).1, h.cell _ (hcs i hi).2⟩
def sqL : List Pt := [(0, 0), (10, 0), (10, 10), (0, 10)]
def arL : List Pt := [(0, 0), (10, 5), (0, 10), (3, 5)]
def sqC : Array Value := #[.int .i64 0, .int .i64 0, .int .i64 10, .int .i64 0, .int .i64 10, .int .i64 10, .int .i64 0, .int .i64 10]
def arC : Array Value := #[.int .i64 0, .int .i64 0, .int .i64 10, .int .i64 5, .int .i64 0, .int .i64 10, .int .i64 3, .int .i64 5]
set_option maxHeartbeats 1000000 in
theorem square_any (w : World) : Calls Try.prog 40 #[] w fun e w' => ∃ g, e = .returned (.slice (some ⟨g, 0, none⟩) 4 4) ∧ Blk w' g sqC 23 ∧ Below w.heap.size w w' := by
  unfold sqC
  go_enter Try.func40, Try.ntmps40
  have hB : Below w.heap.size w w := Below.refl _ _
  go_wp2_with (go_at_call 32; refine (at_any _ _ _).mono ?_; rintro e w1 ⟨rfl, hw⟩; replace hB := below_next hB (Nat.le_refl _) (hw ▸ below_alloc _ _); clear hw)
  go_ret
  exact ⟨_, rfl, Blk.new _ _ _, below_next hB (Nat.le_refl _) (below_alloc _ _)⟩
set_option maxHeartbeats 1000000 in
theorem arrow_any (w : World) : Calls Try.prog 39 #[] w fun e w' => ∃ g, e = .returned (.slice (some ⟨g, 0, none⟩) 4 4) ∧ Blk w' g arC 23 ∧ Below w.heap.size w w' := by
  unfold arC
  go_enter Try.func39, Try.ntmps39
  have hB : Below w.heap.size w w := Below.refl _ _
  go_wp2_with (go_at_call 32; refine (at_any _ _ _).mono ?_; rintro e w1 ⟨rfl, hw⟩; replace hB := below_next hB (Nat.le_refl _) (hw ▸ below_alloc _ _); clear hw)
  go_ret
  exact ⟨_, rfl, Blk.new _ _ _, below_next hB (Nat.le_refl _) (below_alloc _ _)⟩
theorem ex_orient (w : World) : Calls Try.prog 14 #[.agg #[.int .i64 0, .int .i64 0], .agg #[.int .i64 5, .int .i64 0], .agg #[.int .i64 3, .int .i64 1]] w fun e w' => e = .returned (.tuple #[.int .i64 1, .int .i64 0]) ∧ Below w.heap.size w w' := by
  have h := orient_any (0, 0) (5, 0) (3, 1) w
  rw [show orI (0, 0) (5, 0) (3, 1) = 1 by decide, show orE [(0, 0), (5, 0), (3, 1)] = 0 by decide] at h
  exact h
theorem ex_meet (w : World) : Calls Try.prog 20 #[.agg #[.int .i64 0, .int .i64 0], .agg #[.int .i64 4, .int .i64 4], .agg #[.int .i64 0, .int .i64 4], .agg #[.int .i64 4, .int .i64 0]] w fun e w' => e = .returned (.tuple #[.bool true, .int .i64 0]) ∧ Below w.heap.size w w' := by
  have h := meetF_any (0, 0) (4, 4) (0, 4) (4, 0) w
  rw [show meI (0, 0) (4, 4) (0, 4) (4, 0) = true by decide, show orE [(0, 0), (4, 4), (0, 4), (4, 0)] = 0 by decide] at h
  exact h
theorem ex_far (w : World) : Calls Try.prog 16 #[.agg #[.int .i64 0, .int .i64 0], .agg #[.int .i64 3, .int .i64 (-4)]] w fun e w' => e = .returned (.tuple #[.int .i64 25, .int .i64 0]) ∧ Below w.heap.size w w' := by
  have h := far_any (0, 0) (3, -4) w
  rw [show farI (0, 0) (3, -4) = 25 by decide, show orE [(0, 0), (3, -4)] = 0 by decide] at h
  exact h
theorem ex_touches (w : World) : Calls Try.prog 29 #[.agg #[.int .i64 0, .int .i64 0], .agg #[.int .i64 10, .int .i64 10], .agg #[.int .i64 4, .int .i64 6], .agg #[.int .i64 0, .int .i64 4]] w fun e w' => e = .returned (.tuple #[.bool true, .int .i64 0]) ∧ Below w.heap.size w w' := by
  have h := touches_any (0, 0) (10, 10) (4, 6) (0, 4) w
  rw [show toI (0, 0) (10, 10) (4, 6) (0, 4) = true by decide, show toE (0, 0) (10, 10) (4, 6) (0, 4) = 0 by decide] at h
  exact h
theorem ar_pts {W : World} {g : Nat} (h : Blk W g arC 23) : Pts W (.slice (some ⟨g, 0, none⟩) 4 4) arL := pts_new h arL rfl 4 4 rfl
theorem sq_pts {W : World} {g : Nat} (h : Blk W g sqC 23) : Pts W (.slice (some ⟨g, 0, none⟩) 4 4) sqL := pts_new h sqL rfl 4 4 rfl
theorem ex_in {W : World} {g : Nat} (h : Blk W g arC 23) : Calls Try.prog 27 #[.slice (some ⟨g, 0, none⟩) 4 4, .agg #[.int .i64 4, .int .i64 5]] W fun e w' => e = .returned (.tuple #[.int .i64 1, .int .i64 0]) ∧ Below W.heap.size W w' := by
  have h := callsIn_wide.1 (side_any arL _ (4, 5) W (ar_pts h) (by decide))
  rw [show sdI arL (4, 5) = 1 by decide +kernel, show sdE arL (4, 5) = 0 by decide +kernel] at h
  exact h
theorem ex_out {W : World} {g : Nat} (h : Blk W g arC 23) : Calls Try.prog 27 #[.slice (some ⟨g, 0, none⟩) 4 4, .agg #[.int .i64 2, .int .i64 5]] W fun e w' => e = .returned (.tuple #[.int .i64 (-1), .int .i64 0]) ∧ Below W.heap.size W w' := by
  have h := callsIn_wide.1 (side_any arL _ (2, 5) W (ar_pts h) (by decide))
  rw [show sdI arL (2, 5) = -1 by decide +kernel, show sdE arL (2, 5) = 0 by decide +kernel] at h
  exact h
theorem ex_area {W : World} {g : Nat} (h : Blk W g sqC 23) : Calls Try.prog 23 #[.slice (some ⟨g, 0, none⟩) 4 4] W fun e w' => e = .returned (.tuple #[.int .i64 200, .int .i64 0]) ∧ Below W.heap.size W w' := by
  have h := callsIn_wide.1 (area_any sqL _ W (sq_pts h) (by decide))
  rw [show araI sqL = 200 by decide +kernel, show simE sqL = 0 by decide +kernel] at h
  exact h
theorem ex_few {W : World} {g : Nat} (h : Blk W g sqC 23) : Calls Try.prog 22 #[.slice (some ⟨g, 0, none⟩) 2 4] W fun e w' => e = .returned (.int .i64 90) ∧ Below W.heap.size W w' := by
  have h := simple_any [(0, 0), (10, 0)] _ W (pts_at h [(0, 0), (10, 0)] (fun i hi => by
    have : i = 0 ∨ i = 1 := by simp at hi; omega
    rcases this with rfl | rfl <;> exact ⟨rfl, rfl⟩) 2 4 rfl) (by decide)
  rw [show simE [(0, 0), (10, 0)] = 90 by decide +kernel] at h
  exact h
set_option maxRecDepth 100000 in
set_option maxHeartbeats 4000000 in
theorem awake_any (w : World) : Calls Try.prog 18 #[] w fun e w' => e = .returned (.bool true) ∧ Below w.heap.size w w' := by
  have hB : Below w.heap.size w w := Below.refl _ _
  go_enter Try.func18, Try.ntmps18
  go_wp2_with (first
    | (go_at_call 32; refine (at_any _ _ _).mono ?_; rintro e w9 ⟨rfl, hw9⟩; have hb9 : Below _ _ w9 := hw9 ▸ below_alloc _ _; replace hB := below_next hB (Nat.le_refl _) hb9; (try replace hA := Blk.after hA hb9); clear hb9 hw9)
    | (go_at_call 14; refine (ex_orient _).mono ?_; rintro e w1 ⟨rfl, hb⟩; replace hB := below_next hB (Nat.le_refl _) hb; clear hb)
    | (go_at_call 20; refine (ex_meet _).mono ?_; rintro e w2 ⟨rfl, hb⟩; replace hB := below_next hB (Nat.le_refl _) hb; clear hb)
    | (go_at_call 16; refine (ex_far _).mono ?_; rintro e w7 ⟨rfl, hb⟩; replace hB := below_next hB (Nat.le_refl _) hb; clear hb)
    | (go_at_call 29; refine (ex_touches _).mono ?_; rintro e w5 ⟨rfl, hb⟩; replace hB := below_next hB (Nat.le_refl _) hb; clear hb)
    | (go_at_call 39; refine (arrow_any _).mono ?_; rintro e w3 ⟨g3, rfl, hA, hb⟩; replace hB := below_next hB (Nat.le_refl _) hb; clear hb)
    | (go_at_call 40; refine (square_any _).mono ?_; rintro e w3 ⟨g3, rfl, hA, hb⟩; replace hB := below_next hB (Nat.le_refl _) hb; clear hb)
    | (go_at_call 23; refine (ex_area hA).mono ?_; rintro e w6 ⟨rfl, hb⟩; replace hB := below_next hB (Nat.le_refl _) hb; clear hb hA)
    | (go_at_call 22; refine (ex_few hA).mono ?_; rintro e w8 ⟨rfl, hb⟩; replace hB := below_next hB (Nat.le_refl _) hb; clear hb hA)
    | (go_at_call_of 27 (Value.agg #[Value.int IntKind.i64 4, Value.int IntKind.i64 5]); refine (ex_in hA).mono ?_; rintro e w4 ⟨rfl, hb⟩; replace hB := below_next hB (Nat.le_refl _) hb; clear hb hA)
    | (go_at_call_of 27 (Value.agg #[Value.int IntKind.i64 2, Value.int IntKind.i64 5]); refine (ex_out hA).mono ?_; rintro e w4 ⟨rfl, hb⟩; replace hB := below_next hB (Nat.le_refl _) hb; clear hb hA))
  go_ret
  exact ⟨rfl, hB⟩
end Go.Proofs.Ytohepelnbmojiaa
