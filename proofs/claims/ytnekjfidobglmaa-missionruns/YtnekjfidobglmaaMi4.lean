/- Package mission: a run's steps: Over, Index, item, Goal, loiter, jump, Step. -/
import Derived.Test.YtnekjfidobglmaaMi3
namespace Go.Proofs.Ytnekjfidobglmaa
open Go.RowKit Go.Great Go.Maps

theorem run_cells {w : World} {R : Nat} {iv : Value} {p s l : Int} {m : Nat} {t : TypeId} (h : Blk w R (rC iv p s l m) t) : w.cell? ⟨R, 0, none⟩ = some iv ∧ w.cell? ⟨R, 1, none⟩ = some (.int .i64 p) ∧ w.cell? ⟨R, 2, none⟩ = some (.int .i64 s) ∧ w.cell? ⟨R, 3, none⟩ = some (.int .i64 l) ∧ w.cell? ⟨R, 4, none⟩ = some (.map (some m)) := ⟨h.cell 0 rfl, h.cell 1 rfl, h.cell 2 rfl, h.cell 3 rfl, h.cell 4 rfl⟩
theorem index_nil (w : World) : Calls Try.prog 26 #[.pointer none] w fun e w' => e = .returned (.int .i64 0) ∧ w' = w := by
  go_enter Try.func26, Try.ntmps26
  go_wp2
  go_ret
  simp
theorem index_any (w : World) (R n : Nat) (r : Rn) (h : RunB w R n r) : Calls Try.prog 26 #[rP R] w fun e w' => e = .returned (.int .i64 (r.p : Int)) ∧ w' = w := by
  obtain ⟨iv, m, hB, _, _⟩ := h
  obtain ⟨c0, c1, c2, c3, c4⟩ := run_cells hB
  clear hB
  go_enter Try.func26, Try.ntmps26
  go_wp2
  go_ret
  simp
set_option maxHeartbeats 1000000 in
theorem over_nil (w : World) : Calls Try.prog 27 #[.pointer none] w fun e w' => e = .returned (.bool false) ∧ ∃ k, w' = w.drewN k := by
  go_enter Try.func27, Try.ntmps27
  go_wp2
  go_quiet (fail)
  go_wp2
  go_ret
  exact ⟨rfl, _, rfl⟩
set_option maxHeartbeats 1000000 in
theorem over_any (w : World) (R n : Nat) (r : Rn) (h : RunB w R n r) : Calls Try.prog 27 #[rP R] w fun e w' => e = .returned (.bool (decide (r.p = r.L.length))) ∧ ∃ k, w' = w.drewN k := by
  obtain ⟨iv, m, hB, hM, _⟩ := h
  obtain ⟨a, c, rfl⟩ := hM.shape
  obtain ⟨c0, c1, c2, c3, c4⟩ := run_cells hB
  generalize r.L.length = ln at *
  generalize r.p = p at *
  clear hB hM
  go_enter Try.func27, Try.ntmps27
  go_wp2
  go_quiet (fail)
  go_wp2
  go_ret
  exact ⟨ret_bool (by rw [Bool.eq_iff_iff]; simp; omega), _, rfl⟩
theorem Blk.set4 {W : World} {B : Nat} {a b c d : Value} {t : TypeId} (h : Blk W B #[a, b, c, d] t) (x y z u : Value) : Blk ((((W.setCell ⟨B, 0, none⟩ x).setCell ⟨B, 1, none⟩ y).setCell ⟨B, 2, none⟩ z).setCell ⟨B, 3, none⟩ u) B #[x, y, z, u] t := heap_set (heap_set (heap_set (heap_set h 0 x) 1 y) 2 z) 3 u
theorem below_set4 {n : Nat} {w w1 : World} (h : Below n w w1) (g : Nat) (x y z u : Value) (hg : n ≤ g) (hn : n ≤ w1.heap.size) : Below n w ((((w1.setCell ⟨g, 0, none⟩ x).setCell ⟨g, 1, none⟩ y).setCell ⟨g, 2, none⟩ z).setCell ⟨g, 3, none⟩ u) := by
  refine below_set (below_set (below_set (below_set h g 0 x hg hn) g 1 y hg ?_) g 2 z hg ?_) g 3 u hg ?_
  all_goals simp only [setCell_size]; exact hn
theorem item_back {fn : Func} (h : fn.results = #[.cell 2 48, .tmp 3]) (tmps : Array Value) (w : World) (g : Nat) (k a b c : Int) (z : Value) (hp : tmps.getD 2 undef = .pointer (some ⟨g, 0, none⟩)) (hq : tmps.getD 3 undef = z) (hg : Blk w g (iC k a b c) 48) : (results fn tmps).run Try.prog w = .ok (.tuple #[iV k a b c, z]) w :=
  res_back2 h Try.underlying48 (by kernel_rfl) tmps w g z hp hq hg
set_option maxHeartbeats 1000000 in
theorem item_nil (w : World) : Calls Try.prog 40 #[.pointer none] w fun e w' => e = .returned (.tuple #[iV 0 0 0 0, .bool false]) ∧ Below w.heap.size w w' := by
  have HB := hide (Blk.new w (iC 0 0 0 0) 48)
  have Hb := hide (below_alloc w (.cells (iC 0 0 0 0) 48))
  go_enter Try.func40, Try.ntmps40
  go_upto_region 1 with fail
  obtain ⟨c0, c1, c2, c3⟩ := it_cells HB.out
  have fz := HB.out.frozen
  generalize w.alloc (.cells (iC 0 0 0 0) 48) = W at *
  have hz := Hb.out.size
  go_wp2_with fail
  refine bodyPost_ret (item_back Try.results40 _ _ w.heap.size _ _ _ _ _ rfl rfl (HB.out.set4 _ _ _ _)) rfl ?_
  exact ⟨rfl, below_set4 Hb.out _ _ _ _ _ (Nat.le_refl _) hz⟩
set_option maxHeartbeats 2000000 in
theorem item_end (w : World) (R n : Nat) (r : Rn) (h : RunB w R n r) (hp : r.p = r.L.length) : Calls Try.prog 40 #[rP R] w fun e w' => e = .returned (.tuple #[iV 0 0 0 0, .bool false]) ∧ Below w.heap.size w w' := by
  have HB := hide (Blk.new w (iC 0 0 0 0) 48)
  have Hb := hide (below_alloc w (.cells (iC 0 0 0 0) 48))
  have OV := hide (over_any _ R n r (h.alloc (.cells (iC 0 0 0 0) 48)))
  rw [show decide (r.p = r.L.length) = true by simp [hp]] at OV
  clear h
  go_enter Try.func40, Try.ntmps40
  go_upto_region 1 with fail
  generalize w.alloc (.cells (iC 0 0 0 0) 48) = W at *
  go_wp2_with (go_at_call 27; refine OV.out.mono ?_; rintro e w1 ⟨rfl, k1, hw1⟩; have HB1 : Hid (Blk w1 w.heap.size (iC 0 0 0 0) 48) := (by rw [hw1]; exact hide (blk_drewN HB.out k1)); have Hb1 : Hid (Below w.heap.size w w1) := (by rw [hw1]; exact hide (below_drewN Hb.out k1)); clear hw1 HB Hb OV; obtain ⟨c0, c1, c2, c3⟩ := it_cells HB1.out; have fz := HB1.out.frozen)
  refine bodyPost_ret (item_back Try.results40 _ _ w.heap.size _ _ _ _ _ rfl rfl (HB1.out.set4 _ _ _ _)) rfl ?_
  exact ⟨rfl, below_set4 Hb1.out _ _ _ _ _ (Nat.le_refl _) Hb1.out.size⟩
set_option maxHeartbeats 4000000 in
theorem item_any (w : World) (R n : Nat) (r : Rn) (h : RunB w R n r) (x : It) (hx : r.L[r.p]? = some x) : Calls Try.prog 40 #[rP R] w fun e w' => e = .returned (.tuple #[iV x.k.toNat x.a x.b x.c, .bool true]) ∧ Below w.heap.size w w' := by
  have HB := hide (Blk.new w (iC 0 0 0 0) 48)
  have Hb := hide (below_alloc w (.cells (iC 0 0 0 0) 48))
  have hpl := (List.getElem?_eq_some_iff.1 hx).1
  have H0 := hide h
  have OV := hide (over_any _ R n r (h.alloc (.cells (iC 0 0 0 0) 48)))
  rw [show decide (r.p = r.L.length) = false by simp; omega] at OV
  obtain ⟨iv, m, hR, hM, _⟩ := h
  obtain ⟨g, og, cap, x', e1, hg, hxl, cell⟩ := hM.rws.get r.p hpl
  rw [hx] at hxl
  injection hxl with hxl
  subst hxl
  have HC := hide cell
  have HR := hide hR
  generalize r.L.length = ln at *
  generalize r.p = p at *
  subst e1
  clear hM hR cell hx
  go_enter Try.func40, Try.ntmps40
  go_upto_region 1 with fail
  have hz : (w.alloc (.cells (iC 0 0 0 0) 48)).heap.size = w.heap.size + 1 := size_alloc _ _
  generalize w.alloc (.cells (iC 0 0 0 0) 48) = W at *
  go_wp2_with (go_at_call 27; refine OV.out.mono ?_; rintro e w1 ⟨rfl, k1, hw1⟩; have HB1 : Hid (Blk w1 w.heap.size (iC 0 0 0 0) 48) := (by rw [hw1]; exact hide (blk_drewN HB.out k1)); have Hb1 : Hid (Below w.heap.size w w1) := (by rw [hw1]; exact hide (below_drewN Hb.out k1)); clear hw1 HB Hb OV; obtain ⟨c0, c1, c2, c3⟩ := it_cells HB1.out; have fz := HB1.out.frozen)
  have hbw := Hb1.out
  have p0 : w1.cell? ⟨g, og + p * 4, none⟩ = some (.int .u8 x.k.toNat) := HC.out w1 hbw 0 _ rfl
  have p1 : w1.cell? ⟨g, og + p * 4 + 1, none⟩ = some (.int .i64 x.a) := HC.out w1 hbw 1 _ rfl
  have p2 : w1.cell? ⟨g, og + p * 4 + 2, none⟩ = some (.int .i64 x.b) := HC.out w1 hbw 2 _ rfl
  have p3 : w1.cell? ⟨g, og + p * 4 + 3, none⟩ = some (.int .i64 x.c) := HC.out w1 hbw 3 _ rfl
  obtain ⟨r0, r1, r2, r3, r4⟩ := run_cells (HR.out.after hbw)
  clear hbw HC HR H0
  go_region
  all_goals go_wp2_with fail
  all_goals refine bodyPost_ret (item_back Try.results40 _ _ w.heap.size _ _ _ _ _ rfl rfl (blk_drew (HB1.out.set4 _ _ _ _))) rfl ?_
  all_goals exact ⟨rfl, (below_set4 Hb1.out _ _ _ _ _ (Nat.le_refl _) Hb1.out.size).drew⟩
end Go.Proofs.Ytnekjfidobglmaa
