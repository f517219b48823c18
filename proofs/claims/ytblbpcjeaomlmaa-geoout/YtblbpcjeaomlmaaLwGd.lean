/- GeoDiagonals. -/
import Derived.Test.YtblbpcjeaomlmaaLwGa
namespace Go.Proofs.Ytblbpcjeaomlmaa
open Go.RowKit Go.Great

theorem at_below (x y : Int) (w : World) : Calls Try.prog 32 #[.int .i64 x, .int .i64 y] w fun e w' => e = .returned (.agg #[.int .i64 x, .int .i64 y]) ∧ Below w.heap.size w w' := (at_any x y w).mono fun _ _ ⟨h, e⟩ => ⟨h, e ▸ below_alloc _ _⟩
theorem to_bad (a b x y : Pt) (h : toE a b x y ≠ 0) : toI a b x y = false ∧ (toE a b x y = 5 ∨ (toE a b x y = 1 ∧ (decide (x.2 < x.1) || decide (y.2 < y.1)) = true)) := by
  unfold toI toE at *
  split
  · rename_i h1
    rw [if_pos h1] at h
    split
    · rename_i h2
      exact ⟨rfl, .inr ⟨rfl, h2⟩⟩
    · rename_i h2
      rw [if_neg h2] at h
      exact absurd rfl h
  · exact ⟨rfl, .inl rfl⟩
theorem to_good (a b x y : Pt) (h : toE a b x y = 0) : toI a b x y = (inB x y a || inB x y b || meI a b (x.1, y.1) (x.2, y.2) || meI a b (x.1, y.2) (x.2, y.1)) ∧ orE [a, b, (x.1, y.1), (x.2, y.2)] = 0 ∧ orE [a, b, (x.1, y.2), (x.2, y.1)] = 0 := by
  have hf : [a, b, (x.1, y.1), (x.2, y.2)].all fitB = true := by
    unfold toE at h
    split at h
    · assumption
    · omega
  have hn : (decide (x.2 < x.1) || decide (y.2 < y.1)) = false := by
    unfold toE at h
    rw [if_pos hf] at h
    split at h
    · omega
    · rename_i h2
      exact Bool.eq_false_iff.2 h2
  have hf2 : [a, b, (x.1, y.2), (x.2, y.1)].all fitB = true := by
    simp [fitB, inB] at hf ⊢
    omega
  rw [toI_eq, if_pos hf, hn]
  unfold meI orE
  rw [if_pos hf, if_pos hf2, if_pos hf, if_pos hf2]
  exact ⟨rfl, rfl, rfl⟩
set_option maxRecDepth 100000 in
set_option maxHeartbeats 8000000 in
theorem diagonals_walk (a0 a1 b0 b1 x0 x1 y0 y1 : Int) (w : World) : Calls Try.prog 9 #[.agg #[.int .i64 a0, .int .i64 a1, .int .i64 b0, .int .i64 b1], .agg #[.int .i64 x0, .int .i64 x1, .int .i64 y0, .int .i64 y1]] w fun e w' => e = .returned (.bool true) ∧ Below w.heap.size w w' := by
  have AW := awake_any
  have o1 := touches_any (a0, a1) (b0, b1) (x0, x1) (y0, y1)
  have bad := hide (to_bad (a0, a1) (b0, b1) (x0, x1) (y0, y1))
  have good := hide (to_good (a0, a1) (b0, b1) (x0, x1) (y0, y1))
  have i1 := rin_any (a0, a1) (x0, x1) (y0, y1)
  have i2 := rin_any (b0, b1) (x0, x1) (y0, y1)
  have m1 := meetF_any (a0, a1) (b0, b1) (x0, y0) (x1, y1)
  have m2 := meetF_any (a0, a1) (b0, b1) (x0, y1) (x1, y0)
  simp only at good bad
  generalize toI (a0, a1) (b0, b1) (x0, x1) (y0, y1) = s at *
  generalize toE (a0, a1) (b0, b1) (x0, x1) (y0, y1) = E at *
  generalize inB (x0, x1) (y0, y1) (a0, a1) = r1 at *
  generalize inB (x0, x1) (y0, y1) (b0, b1) = r2 at *
  generalize meI (a0, a1) (b0, b1) (x0, y0) (x1, y1) = r3 at *
  generalize meI (a0, a1) (b0, b1) (x0, y1) (x1, y0) = r4 at *
  generalize orE [(a0, a1), (b0, b1), (x0, y0), (x1, y1)] = E3 at *
  generalize orE [(a0, a1), (b0, b1), (x0, y1), (x1, y0)] = E4 at *
  simp only [pV] at o1 i1 i2 m1 m2
  go_enter Try.func9, Try.ntmps9
  go_wp2_with fail
  obtain ⟨W0, hW0⟩ : ∃ W0, lay w [(#[.int .i64 a0, .int .i64 a1, .int .i64 b0, .int .i64 b1], 31), (#[.int .i64 x0, .int .i64 x1, .int .i64 y0, .int .i64 y1], 46)] = W0 := ⟨_, rfl⟩
  have hB : Below w.heap.size w W0 := hW0 ▸ lay_below _ _
  have B0 : Blk W0 (w.heap.size) #[.int .i64 a0, .int .i64 a1, .int .i64 b0, .int .i64 b1] 31 := hW0 ▸ lay_blk _ w 0 _ _ rfl
  have B1 : Blk W0 (w.heap.size + 1) #[.int .i64 x0, .int .i64 x1, .int .i64 y0, .int .i64 y1] 46 := hW0 ▸ lay_blk _ w 1 _ _ rfl
  rw [show ((w.alloc _).alloc _) = W0 from hW0]
  clear hW0
  refine (o1 _).mono ?_
  rintro e w1 ⟨rfl, hb1⟩
  replace B0 := B0.after hb1
  replace B1 := B1.after hb1
  replace hB := below_next hB (Nat.le_refl _) hb1
  clear hb1 o1
  have k0_0 := B0.cell 0 rfl
  have k0_1 := B0.cell 1 rfl
  have k0_2 := B0.cell 2 rfl
  have k0_3 := B0.cell 3 rfl
  have k1_0 := B1.cell 0 rfl
  have k1_1 := B1.cell 1 rfl
  have k1_2 := B1.cell 2 rfl
  have k1_3 := B1.cell 3 rfl
  by_cases hE : E = 0
  · obtain ⟨g1, g2, g3⟩ := good.out hE
    subst hE g2 g3
    have G1 := hide g1
    clear g1 good bad
    go_wp2_with fail
    refine (i1 _).mono ?_
    rintro e w2 ⟨rfl, hb2⟩
    clear k0_0 k0_1 k0_2 k0_3 k1_0 k1_1 k1_2 k1_3
    replace B0 := B0.after hb2
    replace B1 := B1.after hb2
    replace hB := below_next hB (Nat.le_refl _) hb2
    clear hb2 i1
    have k0_0 := B0.cell 0 rfl
    have k0_1 := B0.cell 1 rfl
    have k0_2 := B0.cell 2 rfl
    have k0_3 := B0.cell 3 rfl
    have k1_0 := B1.cell 0 rfl
    have k1_1 := B1.cell 1 rfl
    have k1_2 := B1.cell 2 rfl
    have k1_3 := B1.cell 3 rfl
    cases r1
    · go_wp2_with fail
      refine (i2 _).mono ?_
      rintro e w3 ⟨rfl, hb3⟩
      clear k0_0 k0_1 k0_2 k0_3 k1_0 k1_1 k1_2 k1_3
      replace B0 := B0.after hb3
      replace B1 := B1.after hb3
      replace hB := below_next hB (Nat.le_refl _) hb3
      clear hb3 i2
      have k0_0 := B0.cell 0 rfl
      have k0_1 := B0.cell 1 rfl
      have k0_2 := B0.cell 2 rfl
      have k0_3 := B0.cell 3 rfl
      have k1_0 := B1.cell 0 rfl
      have k1_1 := B1.cell 1 rfl
      have k1_2 := B1.cell 2 rfl
      have k1_3 := B1.cell 3 rfl
      go_wp2_with fail
      clear k0_0 k0_1 k0_2 k0_3 k1_0 k1_1 k1_2 k1_3
      have k0_0 := B0.at 0 rfl
      have k0_1 := B0.at 1 rfl
      have k0_2 := B0.at 2 rfl
      have k0_3 := B0.at 3 rfl
      have k1_0 := B1.at 0 rfl
      have k1_1 := B1.at 1 rfl
      have k1_2 := B1.at 2 rfl
      have k1_3 := B1.at 3 rfl
      have hne : Nonempty (BelowW w3) := ⟨⟨_, Below.refl _ _⟩⟩
      refine wp_region_calm (by kernel_rfl) (by kernel_rfl) ?_
      repeat (go_big_quiet_step (first | (go_at_call_of 32 (x0); exact calm_of (at_below x0 y0 _)) | (go_at_call_of 32 (x1); exact calm_of (at_below x1 y1 _)) | (go_at_call 20; exact calm_of (m1 _))))
      refine wpQuiet_nil ?_
      rintro w3' ⟨⟨q3, hq⟩, e3⟩
      have e4 : w3' = q3 := e3
      clear e3
      subst e4
      clear hne k0_0 k0_1 k0_2 k0_3 k1_0 k1_1 k1_2 k1_3
      replace B0 := B0.after hq
      replace B1 := B1.after hq
      replace hB := below_next hB (Nat.le_refl _) hq
      clear hq
      have k0_0 := B0.cell 0 rfl
      have k0_1 := B0.cell 1 rfl
      have k0_2 := B0.cell 2 rfl
      have k0_3 := B0.cell 3 rfl
      have k1_0 := B1.cell 0 rfl
      have k1_1 := B1.cell 1 rfl
      have k1_2 := B1.cell 2 rfl
      have k1_3 := B1.cell 3 rfl
      go_wp2_with fail
      clear k0_0 k0_1 k0_2 k0_3 k1_0 k1_1 k1_2 k1_3
      have k0_0 := B0.at 0 rfl
      have k0_1 := B0.at 1 rfl
      have k0_2 := B0.at 2 rfl
      have k0_3 := B0.at 3 rfl
      have k1_0 := B1.at 0 rfl
      have k1_1 := B1.at 1 rfl
      have k1_2 := B1.at 2 rfl
      have k1_3 := B1.at 3 rfl
      have hne : Nonempty (BelowW w3') := ⟨⟨_, Below.refl _ _⟩⟩
      refine wp_region_calm (by kernel_rfl) (by kernel_rfl) ?_
      repeat (go_big_quiet_step (first | (go_at_call_of 32 (x0); exact calm_of (at_below x0 y1 _)) | (go_at_call_of 32 (x1); exact calm_of (at_below x1 y0 _)) | (go_at_call 20; exact calm_of (m2 _))))
      refine wpQuiet_nil ?_
      rintro w3'' ⟨⟨q3, hq⟩, e3⟩
      have e4 : w3'' = q3 := e3
      clear e3
      subst e4
      clear hne k0_0 k0_1 k0_2 k0_3 k1_0 k1_1 k1_2 k1_3
      replace B0 := B0.after hq
      replace B1 := B1.after hq
      replace hB := below_next hB (Nat.le_refl _) hq
      clear hq
      have k0_0 := B0.cell 0 rfl
      have k0_1 := B0.cell 1 rfl
      have k0_2 := B0.cell 2 rfl
      have k0_3 := B0.cell 3 rfl
      have k1_0 := B1.cell 0 rfl
      have k1_1 := B1.cell 1 rfl
      have k1_2 := B1.cell 2 rfl
      have k1_3 := B1.cell 3 rfl
      go_wp2_with fail
      refine (AW _).mono ?_
      rintro e w9 ⟨rfl, hb9⟩
      replace hB := below_next hB (Nat.le_refl _) hb9
      have g1 := G1.out
      cases r2 <;> cases r3 <;> cases r4 <;> subst g1
      all_goals (go_wp2_with fail; go_ret; first | exact ⟨rfl, hB⟩ | exact ⟨ret_bool (by simp), hB⟩)
    · go_wp2_with fail
      clear k0_0 k0_1 k0_2 k0_3 k1_0 k1_1 k1_2 k1_3
      have k0_0 := B0.at 0 rfl
      have k0_1 := B0.at 1 rfl
      have k0_2 := B0.at 2 rfl
      have k0_3 := B0.at 3 rfl
      have k1_0 := B1.at 0 rfl
      have k1_1 := B1.at 1 rfl
      have k1_2 := B1.at 2 rfl
      have k1_3 := B1.at 3 rfl
      have hne : Nonempty (BelowW w2) := ⟨⟨_, Below.refl _ _⟩⟩
      refine wp_region_calm (by kernel_rfl) (by kernel_rfl) ?_
      repeat (go_big_quiet_step (first | (go_at_call_of 32 (x0); exact calm_of (at_below x0 y0 _)) | (go_at_call_of 32 (x1); exact calm_of (at_below x1 y1 _)) | (go_at_call 20; exact calm_of (m1 _))))
      refine wpQuiet_nil ?_
      rintro w2' ⟨⟨q3, hq⟩, e3⟩
      have e4 : w2' = q3 := e3
      clear e3
      subst e4
      clear hne k0_0 k0_1 k0_2 k0_3 k1_0 k1_1 k1_2 k1_3
      replace B0 := B0.after hq
      replace B1 := B1.after hq
      replace hB := below_next hB (Nat.le_refl _) hq
      clear hq
      have k0_0 := B0.cell 0 rfl
      have k0_1 := B0.cell 1 rfl
      have k0_2 := B0.cell 2 rfl
      have k0_3 := B0.cell 3 rfl
      have k1_0 := B1.cell 0 rfl
      have k1_1 := B1.cell 1 rfl
      have k1_2 := B1.cell 2 rfl
      have k1_3 := B1.cell 3 rfl
      go_wp2_with fail
      clear k0_0 k0_1 k0_2 k0_3 k1_0 k1_1 k1_2 k1_3
      have k0_0 := B0.at 0 rfl
      have k0_1 := B0.at 1 rfl
      have k0_2 := B0.at 2 rfl
      have k0_3 := B0.at 3 rfl
      have k1_0 := B1.at 0 rfl
      have k1_1 := B1.at 1 rfl
      have k1_2 := B1.at 2 rfl
      have k1_3 := B1.at 3 rfl
      have hne : Nonempty (BelowW w2') := ⟨⟨_, Below.refl _ _⟩⟩
      refine wp_region_calm (by kernel_rfl) (by kernel_rfl) ?_
      repeat (go_big_quiet_step (first | (go_at_call_of 32 (x0); exact calm_of (at_below x0 y1 _)) | (go_at_call_of 32 (x1); exact calm_of (at_below x1 y0 _)) | (go_at_call 20; exact calm_of (m2 _))))
      refine wpQuiet_nil ?_
      rintro w2'' ⟨⟨q3, hq⟩, e3⟩
      have e4 : w2'' = q3 := e3
      clear e3
      subst e4
      clear hne k0_0 k0_1 k0_2 k0_3 k1_0 k1_1 k1_2 k1_3
      replace B0 := B0.after hq
      replace B1 := B1.after hq
      replace hB := below_next hB (Nat.le_refl _) hq
      clear hq
      have k0_0 := B0.cell 0 rfl
      have k0_1 := B0.cell 1 rfl
      have k0_2 := B0.cell 2 rfl
      have k0_3 := B0.cell 3 rfl
      have k1_0 := B1.cell 0 rfl
      have k1_1 := B1.cell 1 rfl
      have k1_2 := B1.cell 2 rfl
      have k1_3 := B1.cell 3 rfl
      go_wp2_with fail
      refine (AW _).mono ?_
      rintro e w9 ⟨rfl, hb9⟩
      replace hB := below_next hB (Nat.le_refl _) hb9
      have g1 := G1.out
      simp only [Bool.true_or] at g1
      subst g1
      go_wp2_with fail
      go_ret
      first | exact ⟨rfl, hB⟩ | exact ⟨ret_bool (by simp), hB⟩
  · obtain ⟨rfl, h⟩ := bad.out hE
    clear good bad
    go_wp2_with fail
    refine (AW _).mono ?_
    rintro e w9 ⟨rfl, hb9⟩
    clear k0_0 k0_1 k0_2 k0_3 k1_0 k1_1 k1_2 k1_3
    replace B0 := B0.after hb9
    replace B1 := B1.after hb9
    replace hB := below_next hB (Nat.le_refl _) hb9
    have k0_0 := B0.cell 0 rfl
    have k0_1 := B0.cell 1 rfl
    have k0_2 := B0.cell 2 rfl
    have k0_3 := B0.cell 3 rfl
    have k1_0 := B1.cell 0 rfl
    have k1_1 := B1.cell 1 rfl
    have k1_2 := B1.cell 2 rfl
    have k1_3 := B1.cell 3 rfl
    have HH := hide h
    clear h
    rcases HH.out with rfl | ⟨rfl, h⟩
    · go_wp2_with fail
      go_ret
      exact ⟨rfl, hB⟩
    · clear HH
      have HH := hide h
      clear h
      go_wp2_with fail
      all_goals go_ret
      all_goals refine ⟨ret_bool ?_, hB⟩
      all_goals (have h := HH.out; simp at h; first | rfl | (simp; omega))
theorem GeoDiagonals_walk (v u : Value) (w : World) (hv : ∃ a b : Pt, v = sV a b) (hu : ∃ a b : Pt, u = sV a b) : Calls Try.prog 9 #[v, u] w fun e w' => e = .returned (.bool true) ∧ Below w.heap.size w w' := by
  obtain ⟨a, b, rfl⟩ := hv
  obtain ⟨c, d, rfl⟩ := hu
  exact diagonals_walk _ _ _ _ _ _ _ _ w
end Go.Proofs.Ytblbpcjeaomlmaa
