/- Touches. -/
import Derived.Test.YtohepelnbmojiaaGeN
import Derived.Deep.DeepCutAuto
namespace Go.Proofs.Ytohepelnbmojiaa
open Go.RowKit Go.Great

theorem toI_eq (a b x y : Pt) : toI a b x y = if [a, b, (x.1, y.1), (x.2, y.2)].all fitB then (if decide (x.2 < x.1) || decide (y.2 < y.1) then false else (inB x y a || inB x y b || meetB a b (x.1, y.1) (x.2, y.2) || meetB a b (x.1, y.2) (x.2, y.1))) else false := by
  unfold toI
  by_cases h : x.2 < x.1 ∨ y.2 < y.1
  · simp only [Bool.or_eq_true, decide_eq_true_eq, h, if_true]
  · rw [touch_eq _ _ _ _ (by omega) (by omega)]
set_option maxHeartbeats 8000000 in
theorem touches_any (a b x y : Pt) (w : World) : Calls Try.prog 29 #[pV a, pV b, pV x, pV y] w fun e w' => e = .returned (.tuple #[.bool (toI a b x y), .int .i64 (toE a b x y)]) ∧ Below w.heap.size w w' := by
  have M := fun v w => mayBe_any [a, b, (x.1, y.1), (x.2, y.2)] v w
  have HL := fun (W : World) g (h : Blk W g #[.int .i64 a.1, .int .i64 a.2, .int .i64 b.1, .int .i64 b.2, .int .i64 x.1, .int .i64 y.1, .int .i64 x.2, .int .i64 y.2] 23) => pts_new h [a, b, (x.1, y.1), (x.2, y.2)] rfl 4 4 rfl
  have o1 := holds_any x y a
  have o2 := holds_any x y b
  have T : [a, b, (x.1, y.1), (x.2, y.2)].all fitB = true → (∀ w, _) ∧ (∀ w, _) := fun h => by
    have f1 := fit_of (at_all h (j := 0) (by simp))
    have f2 := fit_of (at_all h (j := 1) (by simp))
    have f3 := fit_of (at_all h (j := 2) (by simp))
    have f4 := fit_of (at_all h (j := 3) (by simp))
    simp at f1 f2 f3 f4
    exact ⟨meet_any a b (x.1, y.1) (x.2, y.2) f1 f2 f3 f4, meet_any a b (x.1, y.2) (x.2, y.1) f1 f2 ⟨f3.1, f3.2.1, f4.2.2.1, f4.2.2.2⟩ ⟨f4.1, f4.2.1, f3.2.2.1, f3.2.2.2⟩⟩
  rw [toI_eq]
  unfold toE
  generalize [a, b, (x.1, y.1), (x.2, y.2)].all fitB = r at M T ⊢
  generalize inB x y a = x1 at o1 ⊢
  generalize inB x y b = x2 at o2 ⊢
  generalize meetB a b (x.1, y.1) (x.2, y.2) = x3 at T ⊢
  generalize meetB a b (x.1, y.2) (x.2, y.1) = x4 at T ⊢
  obtain ⟨ax, ay⟩ := a
  obtain ⟨bx, by'⟩ := b
  obtain ⟨xx, xy⟩ := x
  obtain ⟨yx, yy⟩ := y
  simp only [pV, sV] at *
  go_enter Try.func29, Try.ntmps29
  go_wp2_with fail
  obtain ⟨W0, hW0⟩ : ∃ W0, lay w [(#[.int .i64 ax, .int .i64 ay], 23), (#[.int .i64 bx, .int .i64 by'], 23), (#[.int .i64 xx, .int .i64 xy], 44), (#[.int .i64 yx, .int .i64 yy], 44)] = W0 := ⟨_, rfl⟩
  have hB : Below w.heap.size w W0 := hW0 ▸ lay_below _ _
  have hz : W0.heap.size = w.heap.size + 4 := by rw [← hW0, lay_size]; rfl
  have B0 : Blk W0 (w.heap.size) #[.int .i64 ax, .int .i64 ay] 23 := hW0 ▸ lay_blk _ w 0 _ _ rfl
  have B1 : Blk W0 (w.heap.size + 1) #[.int .i64 bx, .int .i64 by'] 23 := hW0 ▸ lay_blk _ w 1 _ _ rfl
  have B2 : Blk W0 (w.heap.size + 1 + 1) #[.int .i64 xx, .int .i64 xy] 44 := hW0 ▸ lay_blk _ w 2 _ _ rfl
  have B3 : Blk W0 (w.heap.size + 1 + 1 + 1) #[.int .i64 yx, .int .i64 yy] 44 := hW0 ▸ lay_blk _ w 3 _ _ rfl
  rw [show ((((w.alloc _).alloc _).alloc _).alloc _) = W0 from hW0]
  clear hW0
  have hT := hide T
  clear T
  have k00 := B0.cell 0 rfl
  have k01 := B0.cell 1 rfl
  have k10 := B1.cell 0 rfl
  have k11 := B1.cell 1 rfl
  have k20 := B2.cell 0 rfl
  have k21 := B2.cell 1 rfl
  have k30 := B3.cell 0 rfl
  have k31 := B3.cell 1 rfl
  go_cut [10, 11] (fun u v wx => ∃ g1 g2, u = .pointer (some ⟨g1, 0, none⟩) ∧ v = .pointer (some ⟨g2, 0, none⟩) ∧ Blk wx g1 #[.int .i64 xx, .int .i64 yx] 23 ∧ Blk wx g2 #[.int .i64 xy, .int .i64 yy] 23 ∧ Below W0.heap.size W0 wx)
  case first =>
    clear M HL o1 o2 hT
    go_region
    all_goals go_wp2_with fail
    · go_meet
      obtain ⟨W1, h, b, c1, c2, _⟩ := two_boxes W0 #[.int .i64 xx, .int .i64 yx] #[.int .i64 xy, .int .i64 yy] 23 23
      rw [hz] at c1 c2
      subst h
      exact ⟨_, _, rfl, rfl, c1, c2, b.drew⟩
    · go_meet
      obtain ⟨W1, h, b, c1, c2, _⟩ := two_boxes W0 #[.int .i64 xy, .int .i64 yy] #[.int .i64 xx, .int .i64 yx] 23 23
      rw [hz] at c1 c2
      subst h
      exact ⟨_, _, rfl, rfl, c2, c1, b.drew⟩
  case rest =>
    obtain ⟨g1, g2, rfl, rfl, B4, B5, hb0⟩ := hcut
    clear k00 k01 k10 k11 k20 k21 k30 k31
    replace B0 := B0.after hb0
    replace B1 := B1.after hb0
    replace B2 := B2.after hb0
    replace B3 := B3.after hb0
    replace hB := below_next hB (Nat.le_refl _) hb0
    clear hb0 hz
    have k00 := B0.cell 0 rfl
    have k01 := B0.cell 1 rfl
    have k10 := B1.cell 0 rfl
    have k11 := B1.cell 1 rfl
    have k20 := B2.cell 0 rfl
    have k21 := B2.cell 1 rfl
    have k30 := B3.cell 0 rfl
    have k31 := B3.cell 1 rfl
    have k40 := B4.cell 0 rfl
    have k41 := B4.cell 1 rfl
    have k50 := B5.cell 0 rfl
    have k51 := B5.cell 1 rfl
    go_wp2_with fail
    refine (M _ _ (HL _ _ (Blk.new _ _ _)) (by simp)).mono ?_
    rintro e w1 ⟨rfl, hb1'⟩
    have hb1 := below_over hb1'
    clear k00 k01 k10 k11 k20 k21 k30 k31 k40 k41 k50 k51
    replace B0 := B0.after hb1
    replace B1 := B1.after hb1
    replace B2 := B2.after hb1
    replace B3 := B3.after hb1
    replace B4 := B4.after hb1
    replace B5 := B5.after hb1
    replace hB := below_next hB (Nat.le_refl _) hb1
    clear hb1 hb1' M HL
    have k00 := B0.cell 0 rfl
    have k01 := B0.cell 1 rfl
    have k10 := B1.cell 0 rfl
    have k11 := B1.cell 1 rfl
    have k20 := B2.cell 0 rfl
    have k21 := B2.cell 1 rfl
    have k30 := B3.cell 0 rfl
    have k31 := B3.cell 1 rfl
    have k40 := B4.cell 0 rfl
    have k41 := B4.cell 1 rfl
    have k50 := B5.cell 0 rfl
    have k51 := B5.cell 1 rfl
    cases r
    · go_wp2_with fail
      go_ret2
      exact ⟨by simp, hB⟩
    obtain ⟨T1, T2⟩ := hT.out (by trivial)
    clear hT
    by_cases h1 : xy < xx
    · go_wp2_with fail
      go_ret2
      exact ⟨by simp, hB⟩
    by_cases h2 : yy < yx
    · go_wp2_with fail
      go_ret2
      exact ⟨by simp, hB⟩
    go_wp2_with fail
    refine (o1 _).mono ?_
    rintro e w2 ⟨rfl, hb2⟩
    clear k00 k01 k10 k11 k20 k21 k30 k31 k40 k41 k50 k51
    replace B0 := B0.after hb2
    replace B1 := B1.after hb2
    replace B2 := B2.after hb2
    replace B3 := B3.after hb2
    replace B4 := B4.after hb2
    replace B5 := B5.after hb2
    replace hB := below_next hB (Nat.le_refl _) hb2
    clear hb2 o1
    have k00 := B0.cell 0 rfl
    have k01 := B0.cell 1 rfl
    have k10 := B1.cell 0 rfl
    have k11 := B1.cell 1 rfl
    have k20 := B2.cell 0 rfl
    have k21 := B2.cell 1 rfl
    have k30 := B3.cell 0 rfl
    have k31 := B3.cell 1 rfl
    have k40 := B4.cell 0 rfl
    have k41 := B4.cell 1 rfl
    have k50 := B5.cell 0 rfl
    have k51 := B5.cell 1 rfl
    have hg : decide (xy < xx) = false ∧ decide (yy < yx) = false := ⟨decide_eq_false (by omega), decide_eq_false (by omega)⟩
    have HG := hide hg
    clear hg
    cases x1
    rotate_left
    · go_wp2_with fail
      go_ret2
      exact ⟨by simp [HG.out], hB⟩
    go_wp2_with fail
    refine (o2 _).mono ?_
    rintro e w3 ⟨rfl, hb3⟩
    clear k00 k01 k10 k11 k20 k21 k30 k31 k40 k41 k50 k51
    replace B0 := B0.after hb3
    replace B1 := B1.after hb3
    replace B2 := B2.after hb3
    replace B3 := B3.after hb3
    replace B4 := B4.after hb3
    replace B5 := B5.after hb3
    replace hB := below_next hB (Nat.le_refl _) hb3
    clear hb3 o2
    have k00 := B0.cell 0 rfl
    have k01 := B0.cell 1 rfl
    have k10 := B1.cell 0 rfl
    have k11 := B1.cell 1 rfl
    have k20 := B2.cell 0 rfl
    have k21 := B2.cell 1 rfl
    have k30 := B3.cell 0 rfl
    have k31 := B3.cell 1 rfl
    have k40 := B4.cell 0 rfl
    have k41 := B4.cell 1 rfl
    have k50 := B5.cell 0 rfl
    have k51 := B5.cell 1 rfl
    cases x2
    rotate_left
    · go_wp2_with fail
      go_ret2
      exact ⟨by simp [HG.out], hB⟩
    have l0 := B0.lt
    have l1 := B1.lt
    have l2 := B2.lt
    have l3 := B3.lt
    have l4 := B4.lt
    have l5 := B5.lt
    go_wp2_with fail
    clear l0 l1 l2 l3 l4 l5
    obtain ⟨W6, hW6⟩ : ∃ W6, lay w3 [(#[.int .i64 ax, .int .i64 ay, .int .i64 bx, .int .i64 by'], 60), (#[.int .i64 xx, .int .i64 yx, .int .i64 xy, .int .i64 yy], 60), (#[.int .i64 xx, .int .i64 yy, .int .i64 xy, .int .i64 yx], 60)] = W6 := ⟨_, rfl⟩
    have hb6 : Below w3.heap.size w3 W6 := hW6 ▸ lay_below _ _
    have S0 : Blk W6 w3.heap.size #[.int .i64 ax, .int .i64 ay, .int .i64 bx, .int .i64 by'] 60 := hW6 ▸ lay_blk _ w3 0 _ _ rfl
    have S2 : Blk W6 (w3.heap.size + 1 + 1) #[.int .i64 xx, .int .i64 yy, .int .i64 xy, .int .i64 yx] 60 := hW6 ▸ lay_blk _ w3 2 _ _ rfl
    rw [show (((w3.alloc _).alloc _).alloc _) = W6 from hW6]
    clear hW6
    clear k00 k01 k10 k11 k20 k21 k30 k31 k40 k41 k50 k51
    replace hB := below_next hB (Nat.le_refl _) hb6
    clear B0 B1 B2 B3 B4 B5 hb6
    refine (T1 _).mono ?_
    rintro e w4 ⟨rfl, hb4⟩
    replace S0 := S0.after hb4
    replace S2 := S2.after hb4
    replace hB := below_next hB (Nat.le_refl _) hb4
    clear hb4 T1
    have s00 := S0.cell 0 rfl
    have s01 := S0.cell 1 rfl
    have s02 := S0.cell 2 rfl
    have s03 := S0.cell 3 rfl
    have s20 := S2.cell 0 rfl
    have s21 := S2.cell 1 rfl
    have s22 := S2.cell 2 rfl
    have s23 := S2.cell 3 rfl
    cases x3
    rotate_left
    · go_wp2_with fail
      go_ret2
      exact ⟨by simp [HG.out], hB⟩
    go_wp2_with fail
    refine (T2 _).mono ?_
    rintro e w5 ⟨rfl, hb5⟩
    replace hB := below_next hB (Nat.le_refl _) hb5
    go_wp2_with fail
    go_ret2
    exact ⟨by simp [HG.out], hB⟩
end Go.Proofs.Ytohepelnbmojiaa
