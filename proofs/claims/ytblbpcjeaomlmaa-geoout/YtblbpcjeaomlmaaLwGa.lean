/- GeoTurns, GeoOrients, GeoMeets, GeoTouches, GeoDiagonals. -/
import Derived.Test.YtblbpcjeaomlmaaGeO
namespace Go.Proofs.Ytblbpcjeaomlmaa
open Go.RowKit Go.Great

theorem fit_dec (l : List Pt) : orE l = 0 ∨ orE l = 5 := by unfold orE; split <;> simp
theorem all_perm1 (a b p : Pt) : [b, p, a].all fitB = [a, b, p].all fitB := by simp only [List.all_cons, List.all_nil]; cases fitB a <;> cases fitB b <;> cases fitB p <;> rfl
theorem all_perm2 (a b p : Pt) : [b, a, p].all fitB = [a, b, p].all fitB := by simp only [List.all_cons, List.all_nil]; cases fitB a <;> cases fitB b <;> cases fitB p <;> rfl
theorem or_turn (a b p : Pt) : orI b p a = orI a b p := by
  unfold orI
  rw [all_perm1, show cross b p a = cross a b p by unfold cross; grind]
theorem sg_neg (n : Int) : sg (-n) = - sg n := by unfold sg; split <;> split <;> (try split) <;> omega
theorem or_flip (a b p : Pt) : orI b a p = - orI a b p := by
  unfold orI
  rw [all_perm2, cross_flip, sg_neg]
  split <;> simp
theorem orE_turn (a b p : Pt) : orE [b, p, a] = orE [a, b, p] := by unfold orE; rw [all_perm1]
theorem orE_flip (a b p : Pt) : orE [b, a, p] = orE [a, b, p] := by unfold orE; rw [all_perm2]
theorem or_pm (a b p : Pt) : -1 ≤ orI a b p ∧ orI a b p ≤ 1 := by unfold orI; split; exact sg_bound _; omega
theorem or_none (a b p : Pt) : orE [a, b, p] = 0 ∨ orI a b p = 0 := by unfold orE orI; split <;> simp
set_option maxHeartbeats 4000000 in
theorem GeoTurns_walk (a0 a1 b0 b1 p0 p1 : Int) (w : World) : Calls Try.prog 8 #[.agg #[.int .i64 a0, .int .i64 a1], .agg #[.int .i64 b0, .int .i64 b1], .agg #[.int .i64 p0, .int .i64 p1]] w fun e w' => e = .returned (.bool true) ∧ Below w.heap.size w w' := by
  have AW := awake_any
  have o1 := orient_any (a0, a1) (b0, b1) (p0, p1)
  have o2 := orient_any (b0, b1) (p0, p1) (a0, a1)
  have o3 := orient_any (b0, b1) (a0, a1) (p0, p1)
  rw [or_turn (a0, a1) (b0, b1) (p0, p1), orE_turn (a0, a1) (b0, b1) (p0, p1)] at o2
  rw [or_flip (a0, a1) (b0, b1) (p0, p1), orE_flip (a0, a1) (b0, b1) (p0, p1)] at o3
  have hpm := or_pm (a0, a1) (b0, b1) (p0, p1)
  have hno := or_none (a0, a1) (b0, b1) (p0, p1)
  generalize orI (a0, a1) (b0, b1) (p0, p1) = s at *
  generalize orE [(a0, a1), (b0, b1), (p0, p1)] = E at *
  have HN := hide hno
  clear hno
  simp only [pV] at *
  go_enter Try.func8, Try.ntmps8
  go_wp2_with fail
  obtain ⟨W0, hW0⟩ : ∃ W0, lay w [(#[.int .i64 a0, .int .i64 a1], 23), (#[.int .i64 b0, .int .i64 b1], 23), (#[.int .i64 p0, .int .i64 p1], 23)] = W0 := ⟨_, rfl⟩
  have hB : Below w.heap.size w W0 := hW0 ▸ lay_below _ _
  have B0 : Blk W0 (w.heap.size) #[.int .i64 a0, .int .i64 a1] 23 := hW0 ▸ lay_blk _ w 0 _ _ rfl
  have B1 : Blk W0 (w.heap.size + 1) #[.int .i64 b0, .int .i64 b1] 23 := hW0 ▸ lay_blk _ w 1 _ _ rfl
  have B2 : Blk W0 (w.heap.size + 1 + 1) #[.int .i64 p0, .int .i64 p1] 23 := hW0 ▸ lay_blk _ w 2 _ _ rfl
  rw [show (((w.alloc _).alloc _).alloc _) = W0 from hW0]
  clear hW0
  refine (o1 _).mono ?_
  rintro e w1 ⟨rfl, hb1⟩
  replace B0 := B0.after hb1
  replace B1 := B1.after hb1
  replace B2 := B2.after hb1
  replace hB := below_next hB (Nat.le_refl _) hb1
  clear hb1 o1
  have k0_0 := B0.cell 0 rfl
  have k0_1 := B0.cell 1 rfl
  have k1_0 := B1.cell 0 rfl
  have k1_1 := B1.cell 1 rfl
  have k2_0 := B2.cell 0 rfl
  have k2_1 := B2.cell 1 rfl
  go_wp2_with fail
  refine (o2 _).mono ?_
  rintro e w2 ⟨rfl, hb2⟩
  clear k0_0 k0_1 k1_0 k1_1 k2_0 k2_1
  replace B0 := B0.after hb2
  replace B1 := B1.after hb2
  replace B2 := B2.after hb2
  replace hB := below_next hB (Nat.le_refl _) hb2
  clear hb2 o2
  have k0_0 := B0.cell 0 rfl
  have k0_1 := B0.cell 1 rfl
  have k1_0 := B1.cell 0 rfl
  have k1_1 := B1.cell 1 rfl
  have k2_0 := B2.cell 0 rfl
  have k2_1 := B2.cell 1 rfl
  go_wp2_with fail
  refine (o3 _).mono ?_
  rintro e w3 ⟨rfl, hb3⟩
  clear k0_0 k0_1 k1_0 k1_1 k2_0 k2_1
  replace B0 := B0.after hb3
  replace B1 := B1.after hb3
  replace B2 := B2.after hb3
  replace hB := below_next hB (Nat.le_refl _) hb3
  clear hb3 o3
  have k0_0 := B0.cell 0 rfl
  have k0_1 := B0.cell 1 rfl
  have k1_0 := B1.cell 0 rfl
  have k1_1 := B1.cell 1 rfl
  have k2_0 := B2.cell 0 rfl
  have k2_1 := B2.cell 1 rfl
  go_wp2_with fail
  refine (AW _).mono ?_
  rintro e w9 ⟨rfl, hb9⟩
  replace hB := below_next hB (Nat.le_refl _) hb9
  clear hb9
  rcases HN.out with h0 | h0
  · subst h0
    go_wp2_with fail
    go_ret
    exact ⟨rfl, hB⟩
  · subst h0
    go_wp2_with fail
    all_goals (go_ret; first | exact ⟨rfl, hB⟩ | exact ⟨ret_bool (by simp), hB⟩)
set_option maxHeartbeats 4000000 in
theorem GeoOrients_walk (a0 a1 b0 b1 p0 p1 : Int) (w : World) : Calls Try.prog 3 #[.agg #[.int .i64 a0, .int .i64 a1], .agg #[.int .i64 b0, .int .i64 b1], .agg #[.int .i64 p0, .int .i64 p1]] w fun e w' => e = .returned (.bool true) ∧ Below w.heap.size w w' := by
  have AW := awake_any
  have o1 := orient_any (a0, a1) (b0, b1) (p0, p1)
  have o2 := rorient_any (a0, a1) (b0, b1) (p0, p1)
  have o3 := far_any (a0, a1) (b0, b1)
  have o4 := rfar_any (a0, a1) (b0, b1)
  generalize orI (a0, a1) (b0, b1) (p0, p1) = s at *
  generalize orE [(a0, a1), (b0, b1), (p0, p1)] = E at *
  generalize farI (a0, a1) (b0, b1) = d at *
  generalize orE [(a0, a1), (b0, b1)] = G at *
  simp only [pV] at *
  go_enter Try.func3, Try.ntmps3
  go_wp2_with fail
  obtain ⟨W0, hW0⟩ : ∃ W0, lay w [(#[.int .i64 a0, .int .i64 a1], 23), (#[.int .i64 b0, .int .i64 b1], 23), (#[.int .i64 p0, .int .i64 p1], 23)] = W0 := ⟨_, rfl⟩
  have hB : Below w.heap.size w W0 := hW0 ▸ lay_below _ _
  have B0 : Blk W0 (w.heap.size) #[.int .i64 a0, .int .i64 a1] 23 := hW0 ▸ lay_blk _ w 0 _ _ rfl
  have B1 : Blk W0 (w.heap.size + 1) #[.int .i64 b0, .int .i64 b1] 23 := hW0 ▸ lay_blk _ w 1 _ _ rfl
  have B2 : Blk W0 (w.heap.size + 1 + 1) #[.int .i64 p0, .int .i64 p1] 23 := hW0 ▸ lay_blk _ w 2 _ _ rfl
  rw [show (((w.alloc _).alloc _).alloc _) = W0 from hW0]
  clear hW0
  refine (o1 _).mono ?_
  rintro e w1 ⟨rfl, hb1⟩
  replace B0 := B0.after hb1
  replace B1 := B1.after hb1
  replace B2 := B2.after hb1
  replace hB := below_next hB (Nat.le_refl _) hb1
  clear hb1 o1
  have k0_0 := B0.cell 0 rfl
  have k0_1 := B0.cell 1 rfl
  have k1_0 := B1.cell 0 rfl
  have k1_1 := B1.cell 1 rfl
  have k2_0 := B2.cell 0 rfl
  have k2_1 := B2.cell 1 rfl
  go_wp2_with fail
  refine (o2 _).mono ?_
  rintro e w2 ⟨rfl, hb2⟩
  clear k0_0 k0_1 k1_0 k1_1 k2_0 k2_1
  replace B0 := B0.after hb2
  replace B1 := B1.after hb2
  replace B2 := B2.after hb2
  replace hB := below_next hB (Nat.le_refl _) hb2
  clear hb2 o2
  have k0_0 := B0.cell 0 rfl
  have k0_1 := B0.cell 1 rfl
  have k1_0 := B1.cell 0 rfl
  have k1_1 := B1.cell 1 rfl
  have k2_0 := B2.cell 0 rfl
  have k2_1 := B2.cell 1 rfl
  go_wp2_with fail
  refine (o3 _).mono ?_
  rintro e w3 ⟨rfl, hb3⟩
  clear k0_0 k0_1 k1_0 k1_1 k2_0 k2_1
  replace B0 := B0.after hb3
  replace B1 := B1.after hb3
  replace B2 := B2.after hb3
  replace hB := below_next hB (Nat.le_refl _) hb3
  clear hb3 o3
  have k0_0 := B0.cell 0 rfl
  have k0_1 := B0.cell 1 rfl
  have k1_0 := B1.cell 0 rfl
  have k1_1 := B1.cell 1 rfl
  have k2_0 := B2.cell 0 rfl
  have k2_1 := B2.cell 1 rfl
  go_wp2_with fail
  refine (o4 _).mono ?_
  rintro e w4 ⟨rfl, hb4⟩
  clear k0_0 k0_1 k1_0 k1_1 k2_0 k2_1
  replace B0 := B0.after hb4
  replace B1 := B1.after hb4
  replace B2 := B2.after hb4
  replace hB := below_next hB (Nat.le_refl _) hb4
  clear hb4 o4
  have k0_0 := B0.cell 0 rfl
  have k0_1 := B0.cell 1 rfl
  have k1_0 := B1.cell 0 rfl
  have k1_1 := B1.cell 1 rfl
  have k2_0 := B2.cell 0 rfl
  have k2_1 := B2.cell 1 rfl
  go_wp2_with fail
  refine (AW _).mono ?_
  rintro e w9 ⟨rfl, hb9⟩
  replace hB := below_next hB (Nat.le_refl _) hb9
  clear hb9
  go_wp2_with fail
  go_ret
  exact ⟨rfl, hB⟩
theorem all_sw (a b c d : Pt) : [c, d, a, b].all fitB = [a, b, c, d].all fitB := by simp only [List.all_cons, List.all_nil]; cases fitB a <;> cases fitB b <;> cases fitB c <;> cases fitB d <;> rfl
theorem all_fl (a b c d : Pt) : [b, a, c, d].all fitB = [a, b, c, d].all fitB := by simp only [List.all_cons, List.all_nil]; cases fitB a <;> cases fitB b <;> cases fitB c <;> cases fitB d <;> rfl
theorem meetB_sw (a b c d : Pt) : meetB c d a b = meetB a b c d := by rw [Bool.eq_iff_iff, meetB_iff, meetB_iff]; exact ⟨MeetP.swap, MeetP.swap⟩
theorem meetB_fl (a b c d : Pt) : meetB b a c d = meetB a b c d := by rw [Bool.eq_iff_iff, meetB_iff, meetB_iff]; exact ⟨fun h => h.swap.flip.swap, fun h => h.swap.flip.swap⟩
theorem me_sw (a b c d : Pt) : meI c d a b = meI a b c d := by unfold meI; rw [all_sw, meetB_sw]
theorem me_fl (a b c d : Pt) : meI b a c d = meI a b c d := by unfold meI; rw [all_fl, meetB_fl]
theorem orE_sw (a b c d : Pt) : orE [c, d, a, b] = orE [a, b, c, d] := by unfold orE; rw [all_sw]
theorem orE_fl (a b c d : Pt) : orE [b, a, c, d] = orE [a, b, c, d] := by unfold orE; rw [all_fl]
set_option maxHeartbeats 4000000 in
theorem meets_walk (a0 a1 b0 b1 c0 c1 d0 d1 : Int) (w : World) : Calls Try.prog 4 #[.agg #[.int .i64 a0, .int .i64 a1, .int .i64 b0, .int .i64 b1], .agg #[.int .i64 c0, .int .i64 c1, .int .i64 d0, .int .i64 d1]] w fun e w' => e = .returned (.bool true) ∧ Below w.heap.size w w' := by
  have AW := awake_any
  have o1 := rmeet_any (a0, a1) (b0, b1) (c0, c1) (d0, d1)
  have o2 := meetF_any (a0, a1) (b0, b1) (c0, c1) (d0, d1)
  have o3 := meetF_any (c0, c1) (d0, d1) (a0, a1) (b0, b1)
  have o4 := meetF_any (b0, b1) (a0, a1) (c0, c1) (d0, d1)
  rw [me_sw (a0, a1) (b0, b1) (c0, c1) (d0, d1), orE_sw (a0, a1) (b0, b1) (c0, c1) (d0, d1)] at o3
  rw [me_fl (a0, a1) (b0, b1) (c0, c1) (d0, d1), orE_fl (a0, a1) (b0, b1) (c0, c1) (d0, d1)] at o4
  generalize meI (a0, a1) (b0, b1) (c0, c1) (d0, d1) = s at *
  generalize orE [(a0, a1), (b0, b1), (c0, c1), (d0, d1)] = E at *
  simp only [pV] at *
  go_enter Try.func4, Try.ntmps4
  go_wp2_with fail
  obtain ⟨W0, hW0⟩ : ∃ W0, lay w [(#[.int .i64 a0, .int .i64 a1, .int .i64 b0, .int .i64 b1], 31), (#[.int .i64 c0, .int .i64 c1, .int .i64 d0, .int .i64 d1], 31)] = W0 := ⟨_, rfl⟩
  have hB : Below w.heap.size w W0 := hW0 ▸ lay_below _ _
  have B0 : Blk W0 (w.heap.size) #[.int .i64 a0, .int .i64 a1, .int .i64 b0, .int .i64 b1] 31 := hW0 ▸ lay_blk _ w 0 _ _ rfl
  have B1 : Blk W0 (w.heap.size + 1) #[.int .i64 c0, .int .i64 c1, .int .i64 d0, .int .i64 d1] 31 := hW0 ▸ lay_blk _ w 1 _ _ rfl
  rw [show ((w.alloc _).alloc _) = W0 from hW0]
  clear hW0
  refine (o1 _).mono ?_
  rintro e w1 ⟨rfl, hb1⟩
  replace B0 := B0.after hb1
  replace B1 := B1.after hb1
  replace hB := below_next hB (Nat.le_refl _) hb1
  clear hb1 o1
  have k0_0 := B0.cell 0 rfl
  have k0_1 := B0.cell 1 rfl
  have k0_2 := B0.cell 2 rfl
  have k0_3 := B0.cell 3 rfl
  have k1_0 := B1.cell 0 rfl
  have k1_1 := B1.cell 1 rfl
  have k1_2 := B1.cell 2 rfl
  have k1_3 := B1.cell 3 rfl
  go_wp2_with fail
  refine (o2 _).mono ?_
  rintro e w2 ⟨rfl, hb2⟩
  clear k0_0 k0_1 k0_2 k0_3 k1_0 k1_1 k1_2 k1_3
  replace B0 := B0.after hb2
  replace B1 := B1.after hb2
  replace hB := below_next hB (Nat.le_refl _) hb2
  clear hb2 o2
  have k0_0 := B0.cell 0 rfl
  have k0_1 := B0.cell 1 rfl
  have k0_2 := B0.cell 2 rfl
  have k0_3 := B0.cell 3 rfl
  have k1_0 := B1.cell 0 rfl
  have k1_1 := B1.cell 1 rfl
  have k1_2 := B1.cell 2 rfl
  have k1_3 := B1.cell 3 rfl
  go_wp2_with fail
  refine (o3 _).mono ?_
  rintro e w3 ⟨rfl, hb3⟩
  clear k0_0 k0_1 k0_2 k0_3 k1_0 k1_1 k1_2 k1_3
  replace B0 := B0.after hb3
  replace B1 := B1.after hb3
  replace hB := below_next hB (Nat.le_refl _) hb3
  clear hb3 o3
  have k0_0 := B0.cell 0 rfl
  have k0_1 := B0.cell 1 rfl
  have k0_2 := B0.cell 2 rfl
  have k0_3 := B0.cell 3 rfl
  have k1_0 := B1.cell 0 rfl
  have k1_1 := B1.cell 1 rfl
  have k1_2 := B1.cell 2 rfl
  have k1_3 := B1.cell 3 rfl
  go_wp2_with fail
  refine (o4 _).mono ?_
  rintro e w4 ⟨rfl, hb4⟩
  clear k0_0 k0_1 k0_2 k0_3 k1_0 k1_1 k1_2 k1_3
  replace B0 := B0.after hb4
  replace B1 := B1.after hb4
  replace hB := below_next hB (Nat.le_refl _) hb4
  clear hb4 o4
  have k0_0 := B0.cell 0 rfl
  have k0_1 := B0.cell 1 rfl
  have k0_2 := B0.cell 2 rfl
  have k0_3 := B0.cell 3 rfl
  have k1_0 := B1.cell 0 rfl
  have k1_1 := B1.cell 1 rfl
  have k1_2 := B1.cell 2 rfl
  have k1_3 := B1.cell 3 rfl
  go_wp2_with fail
  refine (AW _).mono ?_
  rintro e w9 ⟨rfl, hb9⟩
  replace hB := below_next hB (Nat.le_refl _) hb9
  clear hb9
  go_wp2_with fail
  go_ret
  exact ⟨ret_bool (by simp), hB⟩
theorem GeoMeets_walk (v u : Value) (w : World) (hv : ∃ a b : Pt, v = sV a b) (hu : ∃ a b : Pt, u = sV a b) : Calls Try.prog 4 #[v, u] w fun e w' => e = .returned (.bool true) ∧ Below w.heap.size w w' := by
  obtain ⟨a, b, rfl⟩ := hv
  obtain ⟨c, d, rfl⟩ := hu
  exact meets_walk _ _ _ _ _ _ _ _ w
set_option maxHeartbeats 4000000 in
theorem touches_walk (a0 a1 b0 b1 x0 x1 y0 y1 : Int) (w : World) : Calls Try.prog 7 #[.agg #[.int .i64 a0, .int .i64 a1, .int .i64 b0, .int .i64 b1], .agg #[.int .i64 x0, .int .i64 x1, .int .i64 y0, .int .i64 y1]] w fun e w' => e = .returned (.bool true) ∧ Below w.heap.size w w' := by
  have AW := awake_any
  have o1 := touches_any (a0, a1) (b0, b1) (x0, x1) (y0, y1)
  have o2 := rtouches_any (a0, a1) (b0, b1) (x0, x1) (y0, y1)
  generalize toI (a0, a1) (b0, b1) (x0, x1) (y0, y1) = s at *
  generalize toE (a0, a1) (b0, b1) (x0, x1) (y0, y1) = E at *
  simp only [pV] at *
  go_enter Try.func7, Try.ntmps7
  go_wp2_with fail
  obtain ⟨W0, hW0⟩ : ∃ W0, lay w [(#[.int .i64 a0, .int .i64 a1, .int .i64 b0, .int .i64 b1], 31), (#[.int .i64 x0, .int .i64 x1, .int .i64 y0, .int .i64 y1], 46)] = W0 := ⟨_, rfl⟩
  have hB : Below w.heap.size w W0 := hW0 ▸ lay_below _ _
  have B0 : Blk W0 (w.heap.size) #[.int .i64 a0, .int .i64 a1, .int .i64 b0, .int .i64 b1] 31 := hW0 ▸ lay_blk _ w 0 _ _ rfl
  have B1 : Blk W0 (w.heap.size + 1) #[.int .i64 x0, .int .i64 x1, .int .i64 y0, .int .i64 y1] 46 := hW0 ▸ lay_blk _ w 1 _ _ rfl
  rw [show ((w.alloc _).alloc _) = W0 from hW0]
  clear hW0
  refine (o1 _).mono ?_
  rintro e w1 ⟨rfl, hb1⟩
  replace B0 := B0.after hb1
  replace B1 := B1.after hb1
  replace hB := below_next hB (Nat.le_refl _) hb1
  clear hb1 o1
  have k0_0 := B0.cell 0 rfl
  have k0_1 := B0.cell 1 rfl
  have k0_2 := B0.cell 2 rfl
  have k0_3 := B0.cell 3 rfl
  have k1_0 := B1.cell 0 rfl
  have k1_1 := B1.cell 1 rfl
  have k1_2 := B1.cell 2 rfl
  have k1_3 := B1.cell 3 rfl
  go_wp2_with fail
  refine (o2 _).mono ?_
  rintro e w2 ⟨rfl, hb2⟩
  clear k0_0 k0_1 k0_2 k0_3 k1_0 k1_1 k1_2 k1_3
  replace B0 := B0.after hb2
  replace B1 := B1.after hb2
  replace hB := below_next hB (Nat.le_refl _) hb2
  clear hb2 o2
  have k0_0 := B0.cell 0 rfl
  have k0_1 := B0.cell 1 rfl
  have k0_2 := B0.cell 2 rfl
  have k0_3 := B0.cell 3 rfl
  have k1_0 := B1.cell 0 rfl
  have k1_1 := B1.cell 1 rfl
  have k1_2 := B1.cell 2 rfl
  have k1_3 := B1.cell 3 rfl
  go_wp2_with fail
  refine (AW _).mono ?_
  rintro e w9 ⟨rfl, hb9⟩
  replace hB := below_next hB (Nat.le_refl _) hb9
  clear hb9
  go_wp2_with fail
  go_ret
  exact ⟨ret_bool (by simp), hB⟩
theorem GeoTouches_walk (v u : Value) (w : World) (hv : ∃ a b : Pt, v = sV a b) (hu : ∃ a b : Pt, u = sV a b) : Calls Try.prog 7 #[v, u] w fun e w' => e = .returned (.bool true) ∧ Below w.heap.size w w' := by
  obtain ⟨a, b, rfl⟩ := hv
  obtain ⟨c, d, rfl⟩ := hu
  exact touches_walk _ _ _ _ _ _ _ _ w
end Go.Proofs.Ytblbpcjeaomlmaa
