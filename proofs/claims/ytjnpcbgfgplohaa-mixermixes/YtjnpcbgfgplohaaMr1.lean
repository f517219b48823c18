/- The document's mixer, walked: Limit, an arm's push. -/
import Derived.Test.YtjnpcbgfgplohaaMxP
namespace Go.Proofs.Ytjnpcbgfgplohaa
open Go.RowKit Go.Great

set_option maxHeartbeats 400000 in
theorem rclampX (x lo hi : Int) (w : World) : Calls Try.prog 19 #[.int .i64 x, .int .i64 lo, .int .i64 hi] w fun e w' => e = .returned (.int .i64 (clamp x lo hi)) ∧ w' = w := by
  go_enter Try.func19, Try.ntmps19
  go_wp2
  all_goals (go_ret; refine ⟨ret_int ?_, rfl⟩; unfold clamp; split <;> (try split) <;> omega)
set_option maxHeartbeats 400000 in
theorem rfloorX (a b : Int) (w : World) (ha : -1000000 ≤ a ∧ a ≤ 1000000) (h : 1 ≤ b) : Calls Try.prog 18 #[.int .i64 a, .int .i64 b] w fun e w' => e = .returned (.int .i64 (a / b)) ∧ w' = w := by
  have hi := ediv_in a b h
  by_cases g : a.tmod b < 0
  · have f := (fl a b h).1 g
    have hd : -1000000 ≤ a.tdiv b ∧ a.tdiv b ≤ 1000001 := by omega
    have F : Hid (a.tdiv b - 1 = a / b) := f
    clear f hi
    go_enter Try.func18, Try.ntmps18
    go_wp2
    go_ret
    exact ⟨ret_int F.out, rfl⟩
  · have f := (fl a b h).2 (by omega)
    have hd : -1000000 ≤ a.tdiv b ∧ a.tdiv b ≤ 1000001 := by omega
    have F : Hid (a.tdiv b = a / b) := f
    clear f hi
    go_enter Try.func18, Try.ntmps18
    go_wp2
    go_ret
    exact ⟨ret_int F.out, rfl⟩
theorem rlim_any (l x y t : Int) (w : World) : Calls Try.prog 10 #[wV l x y t] w fun e w' => e = .returned (wV (clamp l 328 456) (clamp x (-64) 64) (clamp y (-64) 64) (clamp t (-100) 100)) ∧ Below w.heap.size w w' := by
  obtain ⟨W0, hW0, b0, M0, R0, hz0⟩ := two_boxes w (wC l x y t) (wC 0 0 0 0) 23 23
  obtain ⟨c0, c1, c2, c3⟩ := four_cells M0
  obtain ⟨r0, r1, r2, r3⟩ := four_cells R0
  obtain ⟨f0, f1, f2, f3⟩ := four_set R0
  have Hb := hide b0
  have HR := hide R0
  clear b0 M0 R0
  go_enter Try.func10, Try.ntmps10
  go_wp2_with fail
  refine reg_last 13 rfl rfl _ rfl (by kernel_rfl) (by kernel_rfl) (by kernel_rfl) ?_
  simp only [List.take_succ_cons, List.take_zero]
  repeat (quiet_step (first | (go_at_call 19; exact Calls.quiet_of_same (rclampX _ _ _ _))))
  refine wpQuiet_nil ?_
  intro nq
  go_simp
  go_wp2_with fail
  refine bodyPost_ret (wr_back (p := 2) (by kernel_rfl) _ _ (w.heap.size + 1) _ _ _ _ rfl ((blk_drewN HR.out nq).set4 _ _ _ _)) rfl ⟨rfl, ?_⟩
  exact below_set4 (below_drewN Hb.out nq) _ _ _ _ _ (by omega) (below_drewN Hb.out nq).size
theorem push_0 (l x y t : Int) (w : World) (hl : 0 ≤ l ∧ l ≤ 1000) (hx : -1000 ≤ x ∧ x ≤ 1000) (hy : -1000 ≤ y ∧ y ≤ 1000) : Calls Try.prog 17 #[wV l x y t, .int .i64 0] w fun e w' => e = .returned (.int .i64 (l + x + y)) ∧ Below w.heap.size w w' := by
  have HM := hide (Blk.new w (wC l x y t) 23)
  have Hb := hide (below_alloc w (.cells (wC l x y t) 23))
  go_enter Try.func17, Try.ntmps17
  go_upto_region 1 with fail
  generalize w.alloc (.cells (wC l x y t) 23) = W0 at *
  obtain ⟨W1, hW1, b1, A1, B1, hz1⟩ := two_boxes W0 (wC 1 (-1) (-1) 1) (wC 1 1 (-1) (-1)) 3 3
  go_upto_region 3 with fail
  replace HM := hide (HM.out.after b1)
  replace Hb := hide (below_next Hb.out (Nat.le_refl _) b1)
  have cA : W1.cell? ⟨W0.heap.size, 0, none⟩ = some (.int .i64 1) := A1.cell 0 rfl
  have cB : W1.cell? ⟨W0.heap.size + 1, 0, none⟩ = some (.int .i64 1) := B1.cell 0 rfl
  clear b1 A1 B1 hz1
  obtain ⟨m0, m1, m2, m3⟩ := four_cells HM.out
  go_quiet (fail)
  go_wp2_with fail
  go_ret
  exact ⟨ret_int (by omega), below_drewN Hb.out _⟩
theorem push_1 (l x y t : Int) (w : World) (hl : 0 ≤ l ∧ l ≤ 1000) (hx : -1000 ≤ x ∧ x ≤ 1000) (hy : -1000 ≤ y ∧ y ≤ 1000) : Calls Try.prog 17 #[wV l x y t, .int .i64 1] w fun e w' => e = .returned (.int .i64 (l - x + y)) ∧ Below w.heap.size w w' := by
  have HM := hide (Blk.new w (wC l x y t) 23)
  have Hb := hide (below_alloc w (.cells (wC l x y t) 23))
  go_enter Try.func17, Try.ntmps17
  go_upto_region 1 with fail
  generalize w.alloc (.cells (wC l x y t) 23) = W0 at *
  obtain ⟨W1, hW1, b1, A1, B1, hz1⟩ := two_boxes W0 (wC 1 (-1) (-1) 1) (wC 1 1 (-1) (-1)) 3 3
  go_upto_region 3 with fail
  replace HM := hide (HM.out.after b1)
  replace Hb := hide (below_next Hb.out (Nat.le_refl _) b1)
  have cA : W1.cell? ⟨W0.heap.size, 1, none⟩ = some (.int .i64 (-1)) := A1.cell 1 rfl
  have cB : W1.cell? ⟨W0.heap.size + 1, 1, none⟩ = some (.int .i64 1) := B1.cell 1 rfl
  clear b1 A1 B1 hz1
  obtain ⟨m0, m1, m2, m3⟩ := four_cells HM.out
  go_quiet (fail)
  go_wp2_with fail
  go_ret
  exact ⟨ret_int (by omega), below_drewN Hb.out _⟩
theorem push_2 (l x y t : Int) (w : World) (hl : 0 ≤ l ∧ l ≤ 1000) (hx : -1000 ≤ x ∧ x ≤ 1000) (hy : -1000 ≤ y ∧ y ≤ 1000) : Calls Try.prog 17 #[wV l x y t, .int .i64 2] w fun e w' => e = .returned (.int .i64 (l - x - y)) ∧ Below w.heap.size w w' := by
  have HM := hide (Blk.new w (wC l x y t) 23)
  have Hb := hide (below_alloc w (.cells (wC l x y t) 23))
  go_enter Try.func17, Try.ntmps17
  go_upto_region 1 with fail
  generalize w.alloc (.cells (wC l x y t) 23) = W0 at *
  obtain ⟨W1, hW1, b1, A1, B1, hz1⟩ := two_boxes W0 (wC 1 (-1) (-1) 1) (wC 1 1 (-1) (-1)) 3 3
  go_upto_region 3 with fail
  replace HM := hide (HM.out.after b1)
  replace Hb := hide (below_next Hb.out (Nat.le_refl _) b1)
  have cA : W1.cell? ⟨W0.heap.size, 2, none⟩ = some (.int .i64 (-1)) := A1.cell 2 rfl
  have cB : W1.cell? ⟨W0.heap.size + 1, 2, none⟩ = some (.int .i64 (-1)) := B1.cell 2 rfl
  clear b1 A1 B1 hz1
  obtain ⟨m0, m1, m2, m3⟩ := four_cells HM.out
  go_quiet (fail)
  go_wp2_with fail
  go_ret
  exact ⟨ret_int (by omega), below_drewN Hb.out _⟩
theorem push_3 (l x y t : Int) (w : World) (hl : 0 ≤ l ∧ l ≤ 1000) (hx : -1000 ≤ x ∧ x ≤ 1000) (hy : -1000 ≤ y ∧ y ≤ 1000) : Calls Try.prog 17 #[wV l x y t, .int .i64 3] w fun e w' => e = .returned (.int .i64 (l + x - y)) ∧ Below w.heap.size w w' := by
  have HM := hide (Blk.new w (wC l x y t) 23)
  have Hb := hide (below_alloc w (.cells (wC l x y t) 23))
  go_enter Try.func17, Try.ntmps17
  go_upto_region 1 with fail
  generalize w.alloc (.cells (wC l x y t) 23) = W0 at *
  obtain ⟨W1, hW1, b1, A1, B1, hz1⟩ := two_boxes W0 (wC 1 (-1) (-1) 1) (wC 1 1 (-1) (-1)) 3 3
  go_upto_region 3 with fail
  replace HM := hide (HM.out.after b1)
  replace Hb := hide (below_next Hb.out (Nat.le_refl _) b1)
  have cA : W1.cell? ⟨W0.heap.size, 3, none⟩ = some (.int .i64 1) := A1.cell 3 rfl
  have cB : W1.cell? ⟨W0.heap.size + 1, 3, none⟩ = some (.int .i64 (-1)) := B1.cell 3 rfl
  clear b1 A1 B1 hz1
  obtain ⟨m0, m1, m2, m3⟩ := four_cells HM.out
  go_quiet (fail)
  go_wp2_with fail
  go_ret
  exact ⟨ret_int (by omega), below_drewN Hb.out _⟩
end Go.Proofs.Ytjnpcbgfgplohaa
