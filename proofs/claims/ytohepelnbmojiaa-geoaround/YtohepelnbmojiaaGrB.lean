/- The document's Common. -/
import Derived.Test.YtohepelnbmojiaaGrA
namespace Go.Proofs.Ytohepelnbmojiaa
open Go.RowKit Go.Great

set_option maxHeartbeats 8000000 in
theorem rcommon_any (a b c d : Pt) (ha : Fit a) (hb : Fit b) (hc : Fit c) (hd : Fit d) (w : World) : Calls Try.prog 41 #[pV a, pV b, pV c, pV d] w fun e w' => e = .returned (.bool (comB a b c d)) ∧ Below w.heap.size w w' := by
  have o1 := ron_any a b c ha hb hc
  have o2 := ron_any a b d ha hb hd
  have o3 := ron_any c d a hc hd ha
  have o4 := ron_any c d b hc hd hb
  have C1 := rcross_any a b c ha hb hc
  have C2 := rcross_any a b d ha hb hd
  have C3 := rcross_any c d a hc hd ha
  have C4 := rcross_any c d b hc hd hb
  have g1 := rsign_any (cross a b c)
  have g2 := rsign_any (cross a b d)
  have g3 := rsign_any (cross c d a)
  have g4 := rsign_any (cross c d b)
  have s1 := sg2 (cross a b c) (cross a b d)
  have s2 := sg2 (cross c d a) (cross c d b)
  unfold comB
  generalize onB a b c = x1 at o1 ⊢
  generalize onB a b d = x2 at o2 ⊢
  generalize onB c d a = x3 at o3 ⊢
  generalize onB c d b = x4 at o4 ⊢
  generalize sg (cross a b c) = k1 at g1 s1 ⊢
  generalize sg (cross a b d) = k2 at g2 s1 ⊢
  generalize sg (cross c d a) = k3 at g3 s2 ⊢
  generalize sg (cross c d b) = k4 at g4 s2 ⊢
  generalize cross a b c = j1 at C1 g1
  generalize cross a b d = j2 at C2 g2
  generalize cross c d a = j3 at C3 g3
  generalize cross c d b = j4 at C4 g4
  obtain ⟨ax, ay⟩ := a
  obtain ⟨bx, by'⟩ := b
  obtain ⟨cx, cy⟩ := c
  obtain ⟨dx, dy⟩ := d
  clear ha hb hc hd
  simp only [pV] at *
  go_enter Try.func41, Try.ntmps41
  go_wp2_with fail
  obtain ⟨W0, hW0⟩ : ∃ W0, lay w [(#[.int .i64 ax, .int .i64 ay], 23), (#[.int .i64 bx, .int .i64 by'], 23), (#[.int .i64 cx, .int .i64 cy], 23), (#[.int .i64 dx, .int .i64 dy], 23)] = W0 := ⟨_, rfl⟩
  have hB : Below w.heap.size w W0 := hW0 ▸ lay_below _ _
  have hz : W0.heap.size = w.heap.size + 4 := by rw [← hW0, lay_size]; rfl
  have B0 : Blk W0 (w.heap.size) #[.int .i64 ax, .int .i64 ay] 23 := hW0 ▸ lay_blk _ w 0 _ _ rfl
  have B1 : Blk W0 (w.heap.size + 1) #[.int .i64 bx, .int .i64 by'] 23 := hW0 ▸ lay_blk _ w 1 _ _ rfl
  have B2 : Blk W0 (w.heap.size + 1 + 1) #[.int .i64 cx, .int .i64 cy] 23 := hW0 ▸ lay_blk _ w 2 _ _ rfl
  have B3 : Blk W0 (w.heap.size + 1 + 1 + 1) #[.int .i64 dx, .int .i64 dy] 23 := hW0 ▸ lay_blk _ w 3 _ _ rfl
  rw [show ((((w.alloc _).alloc _).alloc _).alloc _) = W0 from hW0]
  clear hW0
  refine (o1 _).mono ?_
  rintro e w1 ⟨rfl, hb1⟩
  replace B0 := B0.after hb1
  replace B1 := B1.after hb1
  replace B2 := B2.after hb1
  replace B3 := B3.after hb1
  replace hB := below_next hB (Nat.le_refl _) hb1
  clear o1 hb1
  have k00 := B0.cell 0 rfl
  have k01 := B0.cell 1 rfl
  have k10 := B1.cell 0 rfl
  have k11 := B1.cell 1 rfl
  have k20 := B2.cell 0 rfl
  have k21 := B2.cell 1 rfl
  have k30 := B3.cell 0 rfl
  have k31 := B3.cell 1 rfl
  cases x1
  rotate_left
  · go_wp2_with fail
    go_ret
    exact ⟨by simp, hB⟩
  go_wp2_with fail
  clear k00 k01 k10 k11 k20 k21 k30 k31
  refine (o2 _).mono ?_
  rintro e w2 ⟨rfl, hb2⟩
  replace B0 := B0.after hb2
  replace B1 := B1.after hb2
  replace B2 := B2.after hb2
  replace B3 := B3.after hb2
  replace hB := below_next hB (Nat.le_refl _) hb2
  clear o2 hb2
  have k00 := B0.cell 0 rfl
  have k01 := B0.cell 1 rfl
  have k10 := B1.cell 0 rfl
  have k11 := B1.cell 1 rfl
  have k20 := B2.cell 0 rfl
  have k21 := B2.cell 1 rfl
  have k30 := B3.cell 0 rfl
  have k31 := B3.cell 1 rfl
  cases x2
  rotate_left
  · go_wp2_with fail
    go_ret
    exact ⟨by simp, hB⟩
  go_wp2_with fail
  clear k00 k01 k10 k11 k20 k21 k30 k31
  refine (o3 _).mono ?_
  rintro e w3 ⟨rfl, hb3⟩
  replace B0 := B0.after hb3
  replace B1 := B1.after hb3
  replace B2 := B2.after hb3
  replace B3 := B3.after hb3
  replace hB := below_next hB (Nat.le_refl _) hb3
  clear o3 hb3
  have k00 := B0.cell 0 rfl
  have k01 := B0.cell 1 rfl
  have k10 := B1.cell 0 rfl
  have k11 := B1.cell 1 rfl
  have k20 := B2.cell 0 rfl
  have k21 := B2.cell 1 rfl
  have k30 := B3.cell 0 rfl
  have k31 := B3.cell 1 rfl
  cases x3
  rotate_left
  · go_wp2_with fail
    go_ret
    exact ⟨by simp, hB⟩
  go_wp2_with fail
  clear k00 k01 k10 k11 k20 k21 k30 k31
  refine (o4 _).mono ?_
  rintro e w4 ⟨rfl, hb4⟩
  replace B0 := B0.after hb4
  replace B1 := B1.after hb4
  replace B2 := B2.after hb4
  replace B3 := B3.after hb4
  replace hB := below_next hB (Nat.le_refl _) hb4
  clear o4 hb4
  have k00 := B0.cell 0 rfl
  have k01 := B0.cell 1 rfl
  have k10 := B1.cell 0 rfl
  have k11 := B1.cell 1 rfl
  have k20 := B2.cell 0 rfl
  have k21 := B2.cell 1 rfl
  have k30 := B3.cell 0 rfl
  have k31 := B3.cell 1 rfl
  cases x4
  rotate_left
  · go_wp2_with fail
    go_ret
    exact ⟨by simp, hB⟩
  go_wp2_with fail
  clear k00 k01 k10 k11 k20 k21 k30 k31
  have q00 := B0.at 0 rfl
  have q01 := B0.at 1 rfl
  have q10 := B1.at 0 rfl
  have q11 := B1.at 1 rfl
  have q20 := B2.at 0 rfl
  have q21 := B2.at 1 rfl
  have q30 := B3.at 0 rfl
  have q31 := B3.at 1 rfl
  have hne : Nonempty (BelowW w4) := ⟨⟨w4, Below.refl _ _⟩⟩
  by_cases h1 : k1 * k2 < 0
  · have d1 : decide (k1 * k2 < 0) = true := decide_eq_true h1
    by_cases h2 : k3 * k4 < 0
    · have d2 : decide (k3 * k4 < 0) = true := decide_eq_true h2
      refine wp_region_calm (by kernel_rfl) (by kernel_rfl) ?_
      repeat (go_big_quiet_step (first | (go_at_call_of 38 (Value.agg #[Value.int IntKind.i64 ax, Value.int IntKind.i64 ay]); go_at_call_of 38 (Value.agg #[Value.int IntKind.i64 bx, Value.int IntKind.i64 by']); go_at_call_of 38 (Value.agg #[Value.int IntKind.i64 cx, Value.int IntKind.i64 cy]); exact calm_of (C1 _)) | (go_at_call_of 38 (Value.agg #[Value.int IntKind.i64 ax, Value.int IntKind.i64 ay]); go_at_call_of 38 (Value.agg #[Value.int IntKind.i64 bx, Value.int IntKind.i64 by']); go_at_call_of 38 (Value.agg #[Value.int IntKind.i64 dx, Value.int IntKind.i64 dy]); exact calm_of (C2 _)) | (go_at_call_of 37 j1; exact calm_same (g1 _)) | (go_at_call_of 37 j2; exact calm_same (g2 _)) | (go_at_call_of 38 (Value.agg #[Value.int IntKind.i64 cx, Value.int IntKind.i64 cy]); go_at_call_of 38 (Value.agg #[Value.int IntKind.i64 dx, Value.int IntKind.i64 dy]); go_at_call_of 38 (Value.agg #[Value.int IntKind.i64 ax, Value.int IntKind.i64 ay]); exact calm_of (C3 _)) | (go_at_call_of 38 (Value.agg #[Value.int IntKind.i64 cx, Value.int IntKind.i64 cy]); go_at_call_of 38 (Value.agg #[Value.int IntKind.i64 dx, Value.int IntKind.i64 dy]); go_at_call_of 38 (Value.agg #[Value.int IntKind.i64 bx, Value.int IntKind.i64 by']); exact calm_of (C4 _)) | (go_at_call_of 37 j3; exact calm_same (g3 _)) | (go_at_call_of 37 j4; exact calm_same (g4 _))))
      refine wpQuiet_nil ?_
      rintro _ ⟨x, rfl⟩
      go_wp2_with fail
      go_ret
      exact ⟨by simp [*], below_next hB (Nat.le_refl _) x.h⟩
    · have d2 : decide (k3 * k4 < 0) = false := decide_eq_false h2
      refine wp_region_calm (by kernel_rfl) (by kernel_rfl) ?_
      repeat (go_big_quiet_step (first | (go_at_call_of 38 (Value.agg #[Value.int IntKind.i64 ax, Value.int IntKind.i64 ay]); go_at_call_of 38 (Value.agg #[Value.int IntKind.i64 bx, Value.int IntKind.i64 by']); go_at_call_of 38 (Value.agg #[Value.int IntKind.i64 cx, Value.int IntKind.i64 cy]); exact calm_of (C1 _)) | (go_at_call_of 38 (Value.agg #[Value.int IntKind.i64 ax, Value.int IntKind.i64 ay]); go_at_call_of 38 (Value.agg #[Value.int IntKind.i64 bx, Value.int IntKind.i64 by']); go_at_call_of 38 (Value.agg #[Value.int IntKind.i64 dx, Value.int IntKind.i64 dy]); exact calm_of (C2 _)) | (go_at_call_of 37 j1; exact calm_same (g1 _)) | (go_at_call_of 37 j2; exact calm_same (g2 _)) | (go_at_call_of 38 (Value.agg #[Value.int IntKind.i64 cx, Value.int IntKind.i64 cy]); go_at_call_of 38 (Value.agg #[Value.int IntKind.i64 dx, Value.int IntKind.i64 dy]); go_at_call_of 38 (Value.agg #[Value.int IntKind.i64 ax, Value.int IntKind.i64 ay]); exact calm_of (C3 _)) | (go_at_call_of 38 (Value.agg #[Value.int IntKind.i64 cx, Value.int IntKind.i64 cy]); go_at_call_of 38 (Value.agg #[Value.int IntKind.i64 dx, Value.int IntKind.i64 dy]); go_at_call_of 38 (Value.agg #[Value.int IntKind.i64 bx, Value.int IntKind.i64 by']); exact calm_of (C4 _)) | (go_at_call_of 37 j3; exact calm_same (g3 _)) | (go_at_call_of 37 j4; exact calm_same (g4 _))))
      refine wpQuiet_nil ?_
      rintro _ ⟨x, rfl⟩
      go_wp2_with fail
      go_ret
      exact ⟨by simp [*], below_next hB (Nat.le_refl _) x.h⟩
  · have d1 : decide (k1 * k2 < 0) = false := decide_eq_false h1
    refine wp_region_calm (by kernel_rfl) (by kernel_rfl) ?_
    repeat (go_big_quiet_step (first | (go_at_call_of 38 (Value.agg #[Value.int IntKind.i64 ax, Value.int IntKind.i64 ay]); go_at_call_of 38 (Value.agg #[Value.int IntKind.i64 bx, Value.int IntKind.i64 by']); go_at_call_of 38 (Value.agg #[Value.int IntKind.i64 cx, Value.int IntKind.i64 cy]); exact calm_of (C1 _)) | (go_at_call_of 38 (Value.agg #[Value.int IntKind.i64 ax, Value.int IntKind.i64 ay]); go_at_call_of 38 (Value.agg #[Value.int IntKind.i64 bx, Value.int IntKind.i64 by']); go_at_call_of 38 (Value.agg #[Value.int IntKind.i64 dx, Value.int IntKind.i64 dy]); exact calm_of (C2 _)) | (go_at_call_of 37 j1; exact calm_same (g1 _)) | (go_at_call_of 37 j2; exact calm_same (g2 _))))
    refine wpQuiet_nil ?_
    rintro _ ⟨x, rfl⟩
    go_wp2_with fail
    go_ret
    exact ⟨by simp [*], below_next hB (Nat.le_refl _) x.h⟩
end Go.Proofs.Ytohepelnbmojiaa
