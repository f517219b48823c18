/- The document's Orient, Meet, Far, In, Touch, Touches. -/
import Derived.Test.YtohepelnbmojiaaGrB
namespace Go.Proofs.Ytohepelnbmojiaa
open Go.RowKit Go.Great

set_option maxHeartbeats 4000000 in
theorem rorient_any (a b p : Pt) (w : World) : Calls Try.prog 15 #[pV a, pV b, pV p] w fun e w' => e = .returned (.tuple #[.int .i64 (orI a b p), .int .i64 (orE [a, b, p])]) ∧ Below w.heap.size w w' := by
  have o1 := rfits_any a
  have o2 := rfits_any b
  have o3 := rfits_any p
  have T : fitB a = true → fitB b = true → fitB p = true → ∀ w, _ := fun h1 h2 h3 => rcross_any a b p (fit_of h1) (fit_of h2) (fit_of h3)
  have g1 := rsign_any (cross a b p)
  unfold orI orE
  simp only [List.all_cons, List.all_nil, Bool.and_true]
  generalize fitB a = x1 at o1 T ⊢
  generalize fitB b = x2 at o2 T ⊢
  generalize fitB p = x3 at o3 T ⊢
  generalize cross a b p = j at T g1 ⊢
  generalize sg j = k at g1 ⊢
  obtain ⟨ax, ay⟩ := a
  obtain ⟨bx, by'⟩ := b
  obtain ⟨px, py⟩ := p
  simp only [pV] at *
  go_enter Try.func15, Try.ntmps15
  go_wp2_with fail
  obtain ⟨W0, hW0⟩ : ∃ W0, lay w [(#[.int .i64 ax, .int .i64 ay], 23), (#[.int .i64 bx, .int .i64 by'], 23), (#[.int .i64 px, .int .i64 py], 23)] = W0 := ⟨_, rfl⟩
  have hB : Below w.heap.size w W0 := hW0 ▸ lay_below _ _
  have hz : W0.heap.size = w.heap.size + 3 := by rw [← hW0, lay_size]; rfl
  have B0 : Blk W0 (w.heap.size) #[.int .i64 ax, .int .i64 ay] 23 := hW0 ▸ lay_blk _ w 0 _ _ rfl
  have B1 : Blk W0 (w.heap.size + 1) #[.int .i64 bx, .int .i64 by'] 23 := hW0 ▸ lay_blk _ w 1 _ _ rfl
  have B2 : Blk W0 (w.heap.size + 1 + 1) #[.int .i64 px, .int .i64 py] 23 := hW0 ▸ lay_blk _ w 2 _ _ rfl
  rw [show (((w.alloc _).alloc _).alloc _) = W0 from hW0]
  clear hW0
  refine (o1 _).mono ?_
  rintro e w1 ⟨rfl, hb1⟩
  replace B0 := B0.after hb1
  replace B1 := B1.after hb1
  replace B2 := B2.after hb1
  replace hB := below_next hB (Nat.le_refl _) hb1
  clear o1 hb1
  have k00 := B0.cell 0 rfl
  have k01 := B0.cell 1 rfl
  have k10 := B1.cell 0 rfl
  have k11 := B1.cell 1 rfl
  have k20 := B2.cell 0 rfl
  have k21 := B2.cell 1 rfl
  cases x1
  · go_wp2_with fail
    go_ret2
    exact ⟨by simp, hB⟩
  go_wp2_with fail
  clear k00 k01 k10 k11 k20 k21
  refine (o2 _).mono ?_
  rintro e w2 ⟨rfl, hb2⟩
  replace B0 := B0.after hb2
  replace B1 := B1.after hb2
  replace B2 := B2.after hb2
  replace hB := below_next hB (Nat.le_refl _) hb2
  clear o2 hb2
  have k00 := B0.cell 0 rfl
  have k01 := B0.cell 1 rfl
  have k10 := B1.cell 0 rfl
  have k11 := B1.cell 1 rfl
  have k20 := B2.cell 0 rfl
  have k21 := B2.cell 1 rfl
  cases x2
  · go_wp2_with fail
    go_ret2
    exact ⟨by simp, hB⟩
  go_wp2_with fail
  clear k00 k01 k10 k11 k20 k21
  refine (o3 _).mono ?_
  rintro e w3 ⟨rfl, hb3⟩
  replace B0 := B0.after hb3
  replace B1 := B1.after hb3
  replace B2 := B2.after hb3
  replace hB := below_next hB (Nat.le_refl _) hb3
  clear o3 hb3
  have k00 := B0.cell 0 rfl
  have k01 := B0.cell 1 rfl
  have k10 := B1.cell 0 rfl
  have k11 := B1.cell 1 rfl
  have k20 := B2.cell 0 rfl
  have k21 := B2.cell 1 rfl
  cases x3
  · go_wp2_with fail
    go_ret2
    exact ⟨by simp, hB⟩
  go_wp2_with fail
  refine (T (by trivial) (by trivial) (by trivial) _).mono ?_
  rintro e w4 ⟨rfl, hb4⟩
  replace hB := below_next hB (Nat.le_refl _) hb4
  go_wp2_with fail
  refine (g1 _).mono ?_
  rintro e w5 ⟨rfl, rfl⟩
  go_wp2_with fail
  go_ret2
  exact ⟨by simp, hB⟩
set_option maxHeartbeats 4000000 in
theorem rmeet_any (a b c d : Pt) (w : World) : Calls Try.prog 19 #[pV a, pV b, pV c, pV d] w fun e w' => e = .returned (.tuple #[.bool (meI a b c d), .int .i64 (orE [a, b, c, d])]) ∧ Below w.heap.size w w' := by
  have o1 := rfits_any a
  have o2 := rfits_any b
  have o3 := rfits_any c
  have o4 := rfits_any d
  have T : fitB a = true → fitB b = true → fitB c = true → fitB d = true → ∀ w, _ := fun h1 h2 h3 h4 => rcommon_any a b c d (fit_of h1) (fit_of h2) (fit_of h3) (fit_of h4)
  unfold meI orE
  rw [meet_eq]
  simp only [List.all_cons, List.all_nil, Bool.and_true]
  generalize fitB a = x1 at o1 T ⊢
  generalize fitB b = x2 at o2 T ⊢
  generalize fitB c = x3 at o3 T ⊢
  generalize fitB d = x4 at o4 T ⊢
  generalize comB a b c d = j at T ⊢
  obtain ⟨ax, ay⟩ := a
  obtain ⟨bx, by'⟩ := b
  obtain ⟨cx, cy⟩ := c
  obtain ⟨dx, dy⟩ := d
  simp only [pV] at *
  go_enter Try.func19, Try.ntmps19
  go_wp2_with fail
  obtain ⟨W0, hW0⟩ : ∃ W0, lay w [(#[.int .i64 ax, .int .i64 ay], 23), (#[.int .i64 bx, .int .i64 by'], 23), (#[.int .i64 cx, .int .i64 cy], 23), (#[.int .i64 dx, .int .i64 dy], 23)] = W0 := ⟨_, rfl⟩
  have hB : Below w.heap.size w W0 := hW0 ▸ lay_below _ _
  have hz : W0.heap.size = w.heap.size + 4 := by rw [← hW0, lay_size]; rfl
  have B0 : Blk W0 (w.heap.size) #[.int .i64 ax, .int .i64 ay] 23 := hW0 ▸ lay_blk _ w 0 _ _ rfl
  have B1 : Blk W0 (w.heap.size + 1) #[.int .i64 bx, .int .i64 by'] 23 := hW0 ▸ lay_blk _ w 1 _ _ rfl
  have B2 : Blk W0 (w.heap.size + 1 + 1) #[.int .i64 cx, .int .i64 cy] 23 := hW0 ▸ lay_blk _ w 2 _ _ rfl
  have B3 : Blk W0 (w.heap.size + 1 + 1 + 1) #[.int .i64 dx, .int .i64 dy] 23 := hW0 ▸ lay_blk _ w 3 _ _ rfl
  rw [show ((((w.alloc _).alloc _).alloc _).alloc _) = W0 from hW0]
  clear hW0
  refine (o1 _).mono ?_
  rintro e w1 ⟨rfl, hb1⟩
  replace B0 := B0.after hb1
  replace B1 := B1.after hb1
  replace B2 := B2.after hb1
  replace B3 := B3.after hb1
  replace hB := below_next hB (Nat.le_refl _) hb1
  clear o1 hb1
  have k00 := B0.cell 0 rfl
  have k01 := B0.cell 1 rfl
  have k10 := B1.cell 0 rfl
  have k11 := B1.cell 1 rfl
  have k20 := B2.cell 0 rfl
  have k21 := B2.cell 1 rfl
  have k30 := B3.cell 0 rfl
  have k31 := B3.cell 1 rfl
  cases x1
  · go_wp2_with fail
    go_ret2
    exact ⟨by simp, hB⟩
  go_wp2_with fail
  clear k00 k01 k10 k11 k20 k21 k30 k31
  refine (o2 _).mono ?_
  rintro e w2 ⟨rfl, hb2⟩
  replace B0 := B0.after hb2
  replace B1 := B1.after hb2
  replace B2 := B2.after hb2
  replace B3 := B3.after hb2
  replace hB := below_next hB (Nat.le_refl _) hb2
  clear o2 hb2
  have k00 := B0.cell 0 rfl
  have k01 := B0.cell 1 rfl
  have k10 := B1.cell 0 rfl
  have k11 := B1.cell 1 rfl
  have k20 := B2.cell 0 rfl
  have k21 := B2.cell 1 rfl
  have k30 := B3.cell 0 rfl
  have k31 := B3.cell 1 rfl
  cases x2
  · go_wp2_with fail
    go_ret2
    exact ⟨by simp, hB⟩
  go_wp2_with fail
  clear k00 k01 k10 k11 k20 k21 k30 k31
  refine (o3 _).mono ?_
  rintro e w3 ⟨rfl, hb3⟩
  replace B0 := B0.after hb3
  replace B1 := B1.after hb3
  replace B2 := B2.after hb3
  replace B3 := B3.after hb3
  replace hB := below_next hB (Nat.le_refl _) hb3
  clear o3 hb3
  have k00 := B0.cell 0 rfl
  have k01 := B0.cell 1 rfl
  have k10 := B1.cell 0 rfl
  have k11 := B1.cell 1 rfl
  have k20 := B2.cell 0 rfl
  have k21 := B2.cell 1 rfl
  have k30 := B3.cell 0 rfl
  have k31 := B3.cell 1 rfl
  cases x3
  · go_wp2_with fail
    go_ret2
    exact ⟨by simp, hB⟩
  go_wp2_with fail
  clear k00 k01 k10 k11 k20 k21 k30 k31
  refine (o4 _).mono ?_
  rintro e w4 ⟨rfl, hb4⟩
  replace B0 := B0.after hb4
  replace B1 := B1.after hb4
  replace B2 := B2.after hb4
  replace B3 := B3.after hb4
  replace hB := below_next hB (Nat.le_refl _) hb4
  clear o4 hb4
  have k00 := B0.cell 0 rfl
  have k01 := B0.cell 1 rfl
  have k10 := B1.cell 0 rfl
  have k11 := B1.cell 1 rfl
  have k20 := B2.cell 0 rfl
  have k21 := B2.cell 1 rfl
  have k30 := B3.cell 0 rfl
  have k31 := B3.cell 1 rfl
  cases x4
  · go_wp2_with fail
    go_ret2
    exact ⟨by simp, hB⟩
  go_wp2_with fail
  refine (T (by trivial) (by trivial) (by trivial) (by trivial) _).mono ?_
  rintro e w5 ⟨rfl, hb4⟩
  replace hB := below_next hB (Nat.le_refl _) hb4
  go_wp2_with fail
  go_ret2
  exact ⟨by simp, hB⟩
set_option maxHeartbeats 4000000 in
theorem rfar_any (a b : Pt) (w : World) : Calls Try.prog 17 #[pV a, pV b] w fun e w' => e = .returned (.tuple #[.int .i64 (farI a b), .int .i64 (orE [a, b])]) ∧ Below w.heap.size w w' := by
  have o1 := rfits_any a
  have o2 := rfits_any b
  have T : fitB a = true → fitB b = true → Fit a ∧ Fit b := fun h1 h2 => ⟨fit_of h1, fit_of h2⟩
  unfold farI orE
  simp only [List.all_cons, List.all_nil, Bool.and_true]
  generalize fitB a = x1 at o1 T ⊢
  generalize fitB b = x2 at o2 T ⊢
  obtain ⟨ax, ay⟩ := a
  obtain ⟨bx, by'⟩ := b
  simp only [pV] at *
  go_enter Try.func17, Try.ntmps17
  go_wp2_with fail
  obtain ⟨W0, hW0⟩ : ∃ W0, lay w [(#[.int .i64 ax, .int .i64 ay], 23), (#[.int .i64 bx, .int .i64 by'], 23)] = W0 := ⟨_, rfl⟩
  have hB : Below w.heap.size w W0 := hW0 ▸ lay_below _ _
  have hz : W0.heap.size = w.heap.size + 2 := by rw [← hW0, lay_size]; rfl
  have B0 : Blk W0 (w.heap.size) #[.int .i64 ax, .int .i64 ay] 23 := hW0 ▸ lay_blk _ w 0 _ _ rfl
  have B1 : Blk W0 (w.heap.size + 1) #[.int .i64 bx, .int .i64 by'] 23 := hW0 ▸ lay_blk _ w 1 _ _ rfl
  rw [show ((w.alloc _).alloc _) = W0 from hW0]
  clear hW0
  refine (o1 _).mono ?_
  rintro e w1 ⟨rfl, hb1⟩
  replace B0 := B0.after hb1
  replace B1 := B1.after hb1
  replace hB := below_next hB (Nat.le_refl _) hb1
  clear o1 hb1
  have k00 := B0.cell 0 rfl
  have k01 := B0.cell 1 rfl
  have k10 := B1.cell 0 rfl
  have k11 := B1.cell 1 rfl
  cases x1
  · go_wp2_with fail
    go_ret2
    exact ⟨by simp, hB⟩
  go_wp2_with fail
  clear k00 k01 k10 k11
  refine (o2 _).mono ?_
  rintro e w2 ⟨rfl, hb2⟩
  replace B0 := B0.after hb2
  replace B1 := B1.after hb2
  replace hB := below_next hB (Nat.le_refl _) hb2
  clear o2 hb2
  have k00 := B0.cell 0 rfl
  have k01 := B0.cell 1 rfl
  have k10 := B1.cell 0 rfl
  have k11 := B1.cell 1 rfl
  cases x2
  · go_wp2_with fail
    go_ret2
    exact ⟨by simp, hB⟩
  obtain ⟨⟨a1, a2, a3, a4⟩, b1, b2, b3', b4⟩ := T (by trivial) (by trivial)
  have m1 := dd_bound a1 a2 b1 b2 a1 a2 b1 b2
  have m2 := dd_bound a3 a4 b3' b4 a3 a4 b3' b4
  simp only at m1 m2 a1 a2 a3 a4 b1 b2 b3' b4
  clear T
  go_wp2_with fail
  go_ret2
  exact ⟨ret_two (by first | grind | (simp; grind)) (by first | rfl | simp), hB⟩
set_option maxHeartbeats 1000000 in
theorem rin_any (p x y : Pt) (w : World) : Calls Try.prog 31 #[pV p, pV x, pV y] w fun e w' => e = .returned (.bool (inB x y p)) ∧ Below w.heap.size w w' := by
  obtain ⟨x1, x2⟩ := x
  obtain ⟨y1, y2⟩ := y
  obtain ⟨p1, p2⟩ := p
  simp only [pV, inB]
  go_enter Try.func31, Try.ntmps31
  go_wp2
  all_goals (go_ret; refine ⟨ret_bool ?_, b3 _ _ _ _⟩)
  all_goals (simp; try omega)
def touchB (a b x y : Pt) : Bool := inB x y a || inB x y b || comB a b (x.1, y.1) (x.2, y.1) || comB a b (x.2, y.1) (x.2, y.2) || comB a b (x.2, y.2) (x.1, y.2) || comB a b (x.1, y.2) (x.1, y.1)
set_option maxHeartbeats 8000000 in
theorem rtouch_any (a b x y : Pt) (ha : Fit a) (hb : Fit b) (hl : Fit (x.1, y.1)) (hh : Fit (x.2, y.2)) (w : World) : Calls Try.prog 52 #[pV a, pV b, pV x, pV y] w fun e w' => e = .returned (.bool (touchB a b x y)) ∧ Below w.heap.size w w' := by
  have h1 : Fit (x.2, y.1) := ⟨hh.1, hh.2.1, hl.2.2.1, hl.2.2.2⟩
  have h2 : Fit (x.1, y.2) := ⟨hl.1, hl.2.1, hh.2.2.1, hh.2.2.2⟩
  have o1 := rin_any a x y
  have o2 := rin_any b x y
  have o3 := rcommon_any a b (x.1, y.1) (x.2, y.1) ha hb hl h1
  have o4 := rcommon_any a b (x.2, y.1) (x.2, y.2) ha hb h1 hh
  have o5 := rcommon_any a b (x.2, y.2) (x.1, y.2) ha hb hh h2
  have o6 := rcommon_any a b (x.1, y.2) (x.1, y.1) ha hb h2 hl
  unfold touchB
  generalize inB x y a = x1 at o1 ⊢
  generalize inB x y b = x2 at o2 ⊢
  generalize comB a b (x.1, y.1) (x.2, y.1) = x3 at o3 ⊢
  generalize comB a b (x.2, y.1) (x.2, y.2) = x4 at o4 ⊢
  generalize comB a b (x.2, y.2) (x.1, y.2) = x5 at o5 ⊢
  generalize comB a b (x.1, y.2) (x.1, y.1) = x6 at o6 ⊢
  clear ha hb hl hh h1 h2
  obtain ⟨ax, ay⟩ := a
  obtain ⟨bx, by'⟩ := b
  obtain ⟨xx, xy⟩ := x
  obtain ⟨yx, yy⟩ := y
  simp only [pV] at *
  go_enter Try.func52, Try.ntmps52
  go_wp2_with fail
  obtain ⟨W0, hW0⟩ : ∃ W0, lay w [(#[.int .i64 ax, .int .i64 ay], 23), (#[.int .i64 bx, .int .i64 by'], 23), (#[.int .i64 xx, .int .i64 xy], 44), (#[.int .i64 yx, .int .i64 yy], 44), (#[.int .i64 xx, .int .i64 yx], 23), (#[.int .i64 xy, .int .i64 yx], 23), (#[.int .i64 xy, .int .i64 yy], 23), (#[.int .i64 xx, .int .i64 yy], 23)] = W0 := ⟨_, rfl⟩
  have hB : Below w.heap.size w W0 := hW0 ▸ lay_below _ _
  have hz : W0.heap.size = w.heap.size + 8 := by rw [← hW0, lay_size]; rfl
  have B0 : Blk W0 (w.heap.size) #[.int .i64 ax, .int .i64 ay] 23 := hW0 ▸ lay_blk _ w 0 _ _ rfl
  have B1 : Blk W0 (w.heap.size + 1) #[.int .i64 bx, .int .i64 by'] 23 := hW0 ▸ lay_blk _ w 1 _ _ rfl
  have B2 : Blk W0 (w.heap.size + 1 + 1) #[.int .i64 xx, .int .i64 xy] 44 := hW0 ▸ lay_blk _ w 2 _ _ rfl
  have B3 : Blk W0 (w.heap.size + 1 + 1 + 1) #[.int .i64 yx, .int .i64 yy] 44 := hW0 ▸ lay_blk _ w 3 _ _ rfl
  have B4 : Blk W0 (w.heap.size + 1 + 1 + 1 + 1) #[.int .i64 xx, .int .i64 yx] 23 := hW0 ▸ lay_blk _ w 4 _ _ rfl
  have B5 : Blk W0 (w.heap.size + 1 + 1 + 1 + 1 + 1) #[.int .i64 xy, .int .i64 yx] 23 := hW0 ▸ lay_blk _ w 5 _ _ rfl
  have B6 : Blk W0 (w.heap.size + 1 + 1 + 1 + 1 + 1 + 1) #[.int .i64 xy, .int .i64 yy] 23 := hW0 ▸ lay_blk _ w 6 _ _ rfl
  have B7 : Blk W0 (w.heap.size + 1 + 1 + 1 + 1 + 1 + 1 + 1) #[.int .i64 xx, .int .i64 yy] 23 := hW0 ▸ lay_blk _ w 7 _ _ rfl
  rw [show ((((((((w.alloc _).alloc _).alloc _).alloc _).alloc _).alloc _).alloc _).alloc _) = W0 from hW0]
  clear hW0
  refine (o1 _).mono ?_
  rintro e w1 ⟨rfl, hb1⟩
  replace B0 := B0.after hb1
  replace B1 := B1.after hb1
  replace B2 := B2.after hb1
  replace B3 := B3.after hb1
  replace B4 := B4.after hb1
  replace B5 := B5.after hb1
  replace B6 := B6.after hb1
  replace B7 := B7.after hb1
  replace hB := below_next hB (Nat.le_refl _) hb1
  clear o1 hb1
  have k00 := B0.cell 0 rfl
  have k01 := B0.cell 1 rfl
  have k10 := B1.cell 0 rfl
  have k11 := B1.cell 1 rfl
  have k20 := B2.cell 0 rfl
  have k21 := B2.cell 1 rfl
  have k30 := B3.cell 0 rfl
  have k31 := B3.cell 1 rfl
  have k40 := B4.cell 0 rfl
  have k41 := B4.cell 1 rfl
  have k50 := B5.cell 0 rfl
  have k51 := B5.cell 1 rfl
  have k60 := B6.cell 0 rfl
  have k61 := B6.cell 1 rfl
  have k70 := B7.cell 0 rfl
  have k71 := B7.cell 1 rfl
  cases x1
  rotate_left
  · go_wp2_with fail
    go_ret
    exact ⟨by simp, hB⟩
  go_wp2_with fail
  clear k00 k01 k10 k11 k20 k21 k30 k31 k40 k41 k50 k51 k60 k61 k70 k71
  refine (o2 _).mono ?_
  rintro e w2 ⟨rfl, hb2⟩
  replace B0 := B0.after hb2
  replace B1 := B1.after hb2
  replace B2 := B2.after hb2
  replace B3 := B3.after hb2
  replace B4 := B4.after hb2
  replace B5 := B5.after hb2
  replace B6 := B6.after hb2
  replace B7 := B7.after hb2
  replace hB := below_next hB (Nat.le_refl _) hb2
  clear o2 hb2
  have k00 := B0.cell 0 rfl
  have k01 := B0.cell 1 rfl
  have k10 := B1.cell 0 rfl
  have k11 := B1.cell 1 rfl
  have k20 := B2.cell 0 rfl
  have k21 := B2.cell 1 rfl
  have k30 := B3.cell 0 rfl
  have k31 := B3.cell 1 rfl
  have k40 := B4.cell 0 rfl
  have k41 := B4.cell 1 rfl
  have k50 := B5.cell 0 rfl
  have k51 := B5.cell 1 rfl
  have k60 := B6.cell 0 rfl
  have k61 := B6.cell 1 rfl
  have k70 := B7.cell 0 rfl
  have k71 := B7.cell 1 rfl
  cases x2
  rotate_left
  · go_wp2_with fail
    go_ret
    exact ⟨by simp, hB⟩
  go_wp2_with fail
  clear k00 k01 k10 k11 k20 k21 k30 k31 k40 k41 k50 k51 k60 k61 k70 k71
  refine (o3 _).mono ?_
  rintro e w3 ⟨rfl, hb3⟩
  replace B0 := B0.after hb3
  replace B1 := B1.after hb3
  replace B2 := B2.after hb3
  replace B3 := B3.after hb3
  replace B4 := B4.after hb3
  replace B5 := B5.after hb3
  replace B6 := B6.after hb3
  replace B7 := B7.after hb3
  replace hB := below_next hB (Nat.le_refl _) hb3
  clear o3 hb3
  have k00 := B0.cell 0 rfl
  have k01 := B0.cell 1 rfl
  have k10 := B1.cell 0 rfl
  have k11 := B1.cell 1 rfl
  have k20 := B2.cell 0 rfl
  have k21 := B2.cell 1 rfl
  have k30 := B3.cell 0 rfl
  have k31 := B3.cell 1 rfl
  have k40 := B4.cell 0 rfl
  have k41 := B4.cell 1 rfl
  have k50 := B5.cell 0 rfl
  have k51 := B5.cell 1 rfl
  have k60 := B6.cell 0 rfl
  have k61 := B6.cell 1 rfl
  have k70 := B7.cell 0 rfl
  have k71 := B7.cell 1 rfl
  cases x3
  rotate_left
  · go_wp2_with fail
    go_ret
    exact ⟨by simp, hB⟩
  go_wp2_with fail
  clear k00 k01 k10 k11 k20 k21 k30 k31 k40 k41 k50 k51 k60 k61 k70 k71
  refine (o4 _).mono ?_
  rintro e w4 ⟨rfl, hb4⟩
  replace B0 := B0.after hb4
  replace B1 := B1.after hb4
  replace B2 := B2.after hb4
  replace B3 := B3.after hb4
  replace B4 := B4.after hb4
  replace B5 := B5.after hb4
  replace B6 := B6.after hb4
  replace B7 := B7.after hb4
  replace hB := below_next hB (Nat.le_refl _) hb4
  clear o4 hb4
  have k00 := B0.cell 0 rfl
  have k01 := B0.cell 1 rfl
  have k10 := B1.cell 0 rfl
  have k11 := B1.cell 1 rfl
  have k20 := B2.cell 0 rfl
  have k21 := B2.cell 1 rfl
  have k30 := B3.cell 0 rfl
  have k31 := B3.cell 1 rfl
  have k40 := B4.cell 0 rfl
  have k41 := B4.cell 1 rfl
  have k50 := B5.cell 0 rfl
  have k51 := B5.cell 1 rfl
  have k60 := B6.cell 0 rfl
  have k61 := B6.cell 1 rfl
  have k70 := B7.cell 0 rfl
  have k71 := B7.cell 1 rfl
  cases x4
  rotate_left
  · go_wp2_with fail
    go_ret
    exact ⟨by simp, hB⟩
  go_wp2_with fail
  clear k00 k01 k10 k11 k20 k21 k30 k31 k40 k41 k50 k51 k60 k61 k70 k71
  refine (o5 _).mono ?_
  rintro e w5 ⟨rfl, hb5⟩
  replace B0 := B0.after hb5
  replace B1 := B1.after hb5
  replace B2 := B2.after hb5
  replace B3 := B3.after hb5
  replace B4 := B4.after hb5
  replace B5 := B5.after hb5
  replace B6 := B6.after hb5
  replace B7 := B7.after hb5
  replace hB := below_next hB (Nat.le_refl _) hb5
  clear o5 hb5
  have k00 := B0.cell 0 rfl
  have k01 := B0.cell 1 rfl
  have k10 := B1.cell 0 rfl
  have k11 := B1.cell 1 rfl
  have k20 := B2.cell 0 rfl
  have k21 := B2.cell 1 rfl
  have k30 := B3.cell 0 rfl
  have k31 := B3.cell 1 rfl
  have k40 := B4.cell 0 rfl
  have k41 := B4.cell 1 rfl
  have k50 := B5.cell 0 rfl
  have k51 := B5.cell 1 rfl
  have k60 := B6.cell 0 rfl
  have k61 := B6.cell 1 rfl
  have k70 := B7.cell 0 rfl
  have k71 := B7.cell 1 rfl
  cases x5
  rotate_left
  · go_wp2_with fail
    go_ret
    exact ⟨by simp, hB⟩
  go_wp2_with fail
  clear k00 k01 k10 k11 k20 k21 k30 k31 k40 k41 k50 k51 k60 k61 k70 k71
  refine (o6 _).mono ?_
  rintro e w6 ⟨rfl, hb6⟩
  replace B0 := B0.after hb6
  replace B1 := B1.after hb6
  replace B2 := B2.after hb6
  replace B3 := B3.after hb6
  replace B4 := B4.after hb6
  replace B5 := B5.after hb6
  replace B6 := B6.after hb6
  replace B7 := B7.after hb6
  replace hB := below_next hB (Nat.le_refl _) hb6
  clear o6 hb6
  have k00 := B0.cell 0 rfl
  have k01 := B0.cell 1 rfl
  have k10 := B1.cell 0 rfl
  have k11 := B1.cell 1 rfl
  have k20 := B2.cell 0 rfl
  have k21 := B2.cell 1 rfl
  have k30 := B3.cell 0 rfl
  have k31 := B3.cell 1 rfl
  have k40 := B4.cell 0 rfl
  have k41 := B4.cell 1 rfl
  have k50 := B5.cell 0 rfl
  have k51 := B5.cell 1 rfl
  have k60 := B6.cell 0 rfl
  have k61 := B6.cell 1 rfl
  have k70 := B7.cell 0 rfl
  have k71 := B7.cell 1 rfl
  cases x6
  rotate_left
  · go_wp2_with fail
    go_ret
    exact ⟨by simp, hB⟩
  go_wp2_with fail
  go_ret
  exact ⟨by simp, hB⟩
def toE (a b x y : Pt) : Int := if [a, b, (x.1, y.1), (x.2, y.2)].all fitB then (if decide (x.2 < x.1) || decide (y.2 < y.1) then 1 else 0) else 5
def toI (a b x y : Pt) : Bool := if [a, b, (x.1, y.1), (x.2, y.2)].all fitB then (if decide (x.2 < x.1) || decide (y.2 < y.1) then false else touchB a b x y) else false
set_option maxHeartbeats 8000000 in
theorem rtouches_any (a b x y : Pt) (w : World) : Calls Try.prog 30 #[pV a, pV b, pV x, pV y] w fun e w' => e = .returned (.tuple #[.bool (toI a b x y), .int .i64 (toE a b x y)]) ∧ Below w.heap.size w w' := by
  have o1 := rfits_any a
  have o2 := rfits_any b
  have o3 := rfits_any (x.1, y.1)
  have o4 := rfits_any (x.2, y.2)
  have T : fitB a = true → fitB b = true → fitB (x.1, y.1) = true → fitB (x.2, y.2) = true → ∀ w, _ := fun h1 h2 h3 h4 => rtouch_any a b x y (fit_of h1) (fit_of h2) (fit_of h3) (fit_of h4)
  unfold toI toE
  simp only [List.all_cons, List.all_nil, Bool.and_true]
  generalize fitB a = x1 at o1 T ⊢
  generalize fitB b = x2 at o2 T ⊢
  generalize fitB (x.1, y.1) = x3 at o3 T ⊢
  generalize fitB (x.2, y.2) = x4 at o4 T ⊢
  generalize touchB a b x y = j at T ⊢
  obtain ⟨ax, ay⟩ := a
  obtain ⟨bx, by'⟩ := b
  obtain ⟨xx, xy⟩ := x
  obtain ⟨yx, yy⟩ := y
  simp only [pV] at *
  go_enter Try.func30, Try.ntmps30
  go_wp2_with fail
  obtain ⟨W0, hW0⟩ : ∃ W0, lay w [(#[.int .i64 ax, .int .i64 ay], 23), (#[.int .i64 bx, .int .i64 by'], 23), (#[.int .i64 xx, .int .i64 xy], 44), (#[.int .i64 yx, .int .i64 yy], 44), (#[.int .i64 xx, .int .i64 yx], 23), (#[.int .i64 xy, .int .i64 yy], 23)] = W0 := ⟨_, rfl⟩
  have hB : Below w.heap.size w W0 := hW0 ▸ lay_below _ _
  have hz : W0.heap.size = w.heap.size + 6 := by rw [← hW0, lay_size]; rfl
  have B0 : Blk W0 (w.heap.size) #[.int .i64 ax, .int .i64 ay] 23 := hW0 ▸ lay_blk _ w 0 _ _ rfl
  have B1 : Blk W0 (w.heap.size + 1) #[.int .i64 bx, .int .i64 by'] 23 := hW0 ▸ lay_blk _ w 1 _ _ rfl
  have B2 : Blk W0 (w.heap.size + 1 + 1) #[.int .i64 xx, .int .i64 xy] 44 := hW0 ▸ lay_blk _ w 2 _ _ rfl
  have B3 : Blk W0 (w.heap.size + 1 + 1 + 1) #[.int .i64 yx, .int .i64 yy] 44 := hW0 ▸ lay_blk _ w 3 _ _ rfl
  have B4 : Blk W0 (w.heap.size + 1 + 1 + 1 + 1) #[.int .i64 xx, .int .i64 yx] 23 := hW0 ▸ lay_blk _ w 4 _ _ rfl
  have B5 : Blk W0 (w.heap.size + 1 + 1 + 1 + 1 + 1) #[.int .i64 xy, .int .i64 yy] 23 := hW0 ▸ lay_blk _ w 5 _ _ rfl
  rw [show ((((((w.alloc _).alloc _).alloc _).alloc _).alloc _).alloc _) = W0 from hW0]
  clear hW0
  refine (o1 _).mono ?_
  rintro e w1 ⟨rfl, hb1⟩
  replace B0 := B0.after hb1
  replace B1 := B1.after hb1
  replace B2 := B2.after hb1
  replace B3 := B3.after hb1
  replace B4 := B4.after hb1
  replace B5 := B5.after hb1
  replace hB := below_next hB (Nat.le_refl _) hb1
  clear o1 hb1
  have k00 := B0.cell 0 rfl
  have k01 := B0.cell 1 rfl
  have k10 := B1.cell 0 rfl
  have k11 := B1.cell 1 rfl
  have k20 := B2.cell 0 rfl
  have k21 := B2.cell 1 rfl
  have k30 := B3.cell 0 rfl
  have k31 := B3.cell 1 rfl
  have k40 := B4.cell 0 rfl
  have k41 := B4.cell 1 rfl
  have k50 := B5.cell 0 rfl
  have k51 := B5.cell 1 rfl
  cases x1
  · go_wp2_with fail
    go_ret2
    exact ⟨by simp, hB⟩
  go_wp2_with fail
  clear k00 k01 k10 k11 k20 k21 k30 k31 k40 k41 k50 k51
  refine (o2 _).mono ?_
  rintro e w2 ⟨rfl, hb2⟩
  replace B0 := B0.after hb2
  replace B1 := B1.after hb2
  replace B2 := B2.after hb2
  replace B3 := B3.after hb2
  replace B4 := B4.after hb2
  replace B5 := B5.after hb2
  replace hB := below_next hB (Nat.le_refl _) hb2
  clear o2 hb2
  have k00 := B0.cell 0 rfl
  have k01 := B0.cell 1 rfl
  have k10 := B1.cell 0 rfl
  have k11 := B1.cell 1 rfl
  have k20 := B2.cell 0 rfl
  have k21 := B2.cell 1 rfl
  have k30 := B3.cell 0 rfl
  have k31 := B3.cell 1 rfl
  have k40 := B4.cell 0 rfl
  have k41 := B4.cell 1 rfl
  have k50 := B5.cell 0 rfl
  have k51 := B5.cell 1 rfl
  cases x2
  · go_wp2_with fail
    go_ret2
    exact ⟨by simp, hB⟩
  go_wp2_with fail
  clear k00 k01 k10 k11 k20 k21 k30 k31 k40 k41 k50 k51
  refine (o3 _).mono ?_
  rintro e w3 ⟨rfl, hb3⟩
  replace B0 := B0.after hb3
  replace B1 := B1.after hb3
  replace B2 := B2.after hb3
  replace B3 := B3.after hb3
  replace B4 := B4.after hb3
  replace B5 := B5.after hb3
  replace hB := below_next hB (Nat.le_refl _) hb3
  clear o3 hb3
  have k00 := B0.cell 0 rfl
  have k01 := B0.cell 1 rfl
  have k10 := B1.cell 0 rfl
  have k11 := B1.cell 1 rfl
  have k20 := B2.cell 0 rfl
  have k21 := B2.cell 1 rfl
  have k30 := B3.cell 0 rfl
  have k31 := B3.cell 1 rfl
  have k40 := B4.cell 0 rfl
  have k41 := B4.cell 1 rfl
  have k50 := B5.cell 0 rfl
  have k51 := B5.cell 1 rfl
  cases x3
  · go_wp2_with fail
    go_ret2
    exact ⟨by simp, hB⟩
  go_wp2_with fail
  clear k00 k01 k10 k11 k20 k21 k30 k31 k40 k41 k50 k51
  refine (o4 _).mono ?_
  rintro e w4 ⟨rfl, hb4⟩
  replace B0 := B0.after hb4
  replace B1 := B1.after hb4
  replace B2 := B2.after hb4
  replace B3 := B3.after hb4
  replace B4 := B4.after hb4
  replace B5 := B5.after hb4
  replace hB := below_next hB (Nat.le_refl _) hb4
  clear o4 hb4
  have k00 := B0.cell 0 rfl
  have k01 := B0.cell 1 rfl
  have k10 := B1.cell 0 rfl
  have k11 := B1.cell 1 rfl
  have k20 := B2.cell 0 rfl
  have k21 := B2.cell 1 rfl
  have k30 := B3.cell 0 rfl
  have k31 := B3.cell 1 rfl
  have k40 := B4.cell 0 rfl
  have k41 := B4.cell 1 rfl
  have k50 := B5.cell 0 rfl
  have k51 := B5.cell 1 rfl
  cases x4
  · go_wp2_with fail
    go_ret2
    exact ⟨by simp, hB⟩
  have T' := T (by trivial) (by trivial) (by trivial) (by trivial)
  clear T
  by_cases h1 : xy < xx
  · go_wp2_with fail
    go_ret2
    exact ⟨by simp, hB⟩
  by_cases h2 : yy < yx
  · go_wp2_with fail
    go_ret2
    exact ⟨by simp, hB⟩
  go_wp2_with fail
  refine (T' _).mono ?_
  rintro e w5 ⟨rfl, hb5⟩
  replace hB := below_next hB (Nat.le_refl _) hb5
  go_wp2_with fail
  go_ret2
  exact ⟨by simp; omega, hB⟩
end Go.Proofs.Ytohepelnbmojiaa
