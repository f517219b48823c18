/- The chapter's examples. -/
import Derived.Test.YtnenbbkkhnlgbaaFl2
namespace Go.Proofs.Ytnenbbkkhnlgbaa
open Go.RowKit Go.Great

theorem ex_h1 {W : World} {p r : Value} (hp : Pts W p smP) (hr : Pts W r smR) : Calls Try.prog 21 #[fV p (-5) 50 r, bV (1, 99) (1, 99) (-5, 50)] W fun e w' => e = .returned (.tuple #[.bool true, .int .i64 0]) ∧ Below W.heap.size W w' := by
  have h := holds_fn smP smR (-5) 50 p r (1, 99) (1, 99) (-5, 50) W hp hr (by decide) (by decide)
  rw [show holI smP (-5) 50 smR (1, 99) (1, 99) (-5, 50) = true by decide +kernel, show holE smP (-5) 50 smR (1, 99) (1, 99) (-5, 50) = 0 by decide +kernel] at h
  exact h
theorem ex_h2 {W : World} {p r : Value} (hp : Pts W p smP) (hr : Pts W r smR) : Calls Try.prog 21 #[fV p (-5) 50 r, bV (0, 99) (1, 99) (-5, 50)] W fun e w' => e = .returned (.tuple #[.bool false, .int .i64 0]) ∧ Below W.heap.size W w' := by
  have h := holds_fn smP smR (-5) 50 p r (0, 99) (1, 99) (-5, 50) W hp hr (by decide) (by decide)
  rw [show holI smP (-5) 50 smR (0, 99) (1, 99) (-5, 50) = false by decide +kernel, show holE smP (-5) 50 smR (0, 99) (1, 99) (-5, 50) = 0 by decide +kernel] at h
  exact h
theorem ex_l1 {W : World} {p r : Value} (hp : Pts W p smP) (hr : Pts W r smR) : Calls Try.prog 23 #[fV p (-5) 50 r, .agg #[.int .i64 10, .int .i64 10], .agg #[.int .i64 90, .int .i64 90], .int .i64 9] W fun e w' => e = .returned (.tuple #[.bool true, .int .i64 0]) ∧ Below W.heap.size W w' := by
  have h := laneF_any smP smR (-5) 50 p r (10, 10) (90, 90) 9 W hp hr (by decide) (by decide)
  rw [show lanI smP (-5) 50 smR (10, 10) (90, 90) 9 = true by decide +kernel, show wayE smP (-5) 50 smR [(10, 10), (90, 90)] 9 = 0 by decide +kernel] at h
  exact h
theorem ex_l2 {W : World} {p r : Value} (hp : Pts W p smP) (hr : Pts W r smR) : Calls Try.prog 23 #[fV p (-5) 50 r, .agg #[.int .i64 10, .int .i64 10], .agg #[.int .i64 90, .int .i64 90], .int .i64 10] W fun e w' => e = .returned (.tuple #[.bool false, .int .i64 0]) ∧ Below W.heap.size W w' := by
  have h := laneF_any smP smR (-5) 50 p r (10, 10) (90, 90) 10 W hp hr (by decide) (by decide)
  rw [show lanI smP (-5) 50 smR (10, 10) (90, 90) 10 = false by decide +kernel, show wayE smP (-5) 50 smR [(10, 10), (90, 90)] 10 = 0 by decide +kernel] at h
  exact h
theorem ex_r {W : World} {p r : Value} (hp : Pts W p smP) (hr : Pts W r smR) : Calls Try.prog 25 #[fV p (-5) 50 r, .agg #[.int .i64 70, .int .i64 70], .int .i64 15] W fun e w' => e = .returned (.tuple #[.int .i64 2, .int .i64 0]) ∧ Below W.heap.size W w' := by
  have h := rallyF_any smP smR (-5) 50 p r (70, 70) 15 W hp hr (by decide) (by decide)
  rw [show ralI smP (-5) 50 smR (70, 70) 15 = 2 by decide +kernel, show wayE smP (-5) 50 smR [(70, 70)] 15 = 0 by decide +kernel] at h
  exact h
theorem ex_e {W : World} {p r : Value} (hp : Pts W p smP) (hr : Pts W r smR) : Calls Try.prog 27 #[fV p (-5) 50 r] W fun e w' => e = .returned (.tuple #[.string (bs (encF smP (-5) 50 smR)), .int .i64 0]) ∧ Below W.heap.size W w' := by
  have h := encode_any smP smR (-5) 50 p r W hp hr (by decide) (by decide)
  have e : chk smP (-5) 50 smR = 0 := by decide +kernel
  unfold encI at h
  rw [e, if_pos rfl] at h
  exact h
theorem ex_d (W : World) : Calls Try.prog 29 #[.string (bs (encF smP (-5) 50 smR))] W fun e w' => ∃ p r, e = .returned (.tuple #[fV p (-5) 50 r, .int .i64 0]) ∧ Pts w' p smP ∧ Pts w' r smR ∧ Below W.heap.size W w' := by
  have h := decode_any (bs (encF smP (-5) 50 smR)) (by rw [bs_size]; decide +kernel) W
  rw [bs_list] at h
  have e1 : decE (encF smP (-5) 50 smR) = 0 := by decide +kernel
  have e2 : (decA (encF smP (-5) 50 smR)).P = smP := by decide +kernel
  have e3 : (decA (encF smP (-5) 50 smR)).fl = -5 := by decide +kernel
  have e4 : (decA (encF smP (-5) 50 smR)).ce = 50 := by decide +kernel
  have e5 : (decA (encF smP (-5) 50 smR)).R = smR := by decide +kernel
  rw [e1, e2, e3, e4, e5] at h
  exact h.mono fun _ _ ⟨p, r, h1, h2, h3, _, h4⟩ => ⟨p, r, h1, h2.pts, h3.pts, h4⟩
theorem ex_none (W : World) : Calls Try.prog 18 #[.agg #[.slice none 0 0, .int .i64 0, .int .i64 0, .slice none 0 0]] W fun e w' => e = .returned (.int .i64 90) ∧ Below W.heap.size W w' := by
  have h := check_any [] [] 0 0 (.slice none 0 0) (.slice none 0 0) W ⟨none, 0, rfl, fun h => absurd h (by simp)⟩ ⟨none, 0, rfl, fun h => absurd h (by simp)⟩ (by decide) (by decide)
  rw [show chk [] 0 0 [] = 90 by decide +kernel] at h
  exact h
set_option maxRecDepth 100000 in
set_option maxHeartbeats 8000000 in
theorem awakeF_any (w : World) : Calls Try.prog 17 #[] w fun e w' => e = .returned (.bool true) ∧ Below w.heap.size w w' := by
  have hB : Below w.heap.size w w := Below.refl _ _
  have ED := ex_d
  have EE := fun W p r hp hr => ex_e (W := W) (p := p) (r := r) hp hr
  have hlen : (bs (encF smP (-5) 50 smR)).size = 66 := by rw [bs_size]; decide +kernel
  generalize bs (encF smP (-5) 50 smR) = E at *
  go_enter Try.func17, Try.ntmps17
  go_wp2_with fail
  refine (small_any _).mono ?_
  rintro e a1 ⟨p, r, rfl, hp, hr, hb⟩
  replace hB := below_next hB (Nat.le_refl _) hb
  obtain ⟨ap, cp, rfl⟩ : ∃ a c, p = .slice a 4 c := by obtain ⟨a, c, e, _⟩ := hp; exact ⟨a, c, e⟩
  obtain ⟨ar, cr, rfl⟩ : ∃ a c, r = .slice a 3 c := by obtain ⟨a, c, e, _⟩ := hr; exact ⟨a, c, e⟩
  clear hb
  go_wp2_with fail
  refine (box_any _ _ _ _ _ _ _).mono ?_
  rintro e b1 ⟨rfl, hb⟩
  replace hB := below_next hB (Nat.le_refl _) hb
  replace hp := hp.below hb
  replace hr := hr.below hb
  clear hb
  go_wp2_with fail
  refine (ex_h1 hp hr).mono ?_
  rintro e c1 ⟨rfl, hb⟩
  replace hB := below_next hB (Nat.le_refl _) hb
  clear hb hp hr
  go_wp2_with fail
  refine (small_any _).mono ?_
  rintro e a2 ⟨p, r, rfl, hp, hr, hb⟩
  replace hB := below_next hB (Nat.le_refl _) hb
  obtain ⟨ap, cp, rfl⟩ : ∃ a c, p = .slice a 4 c := by obtain ⟨a, c, e, _⟩ := hp; exact ⟨a, c, e⟩
  obtain ⟨ar, cr, rfl⟩ : ∃ a c, r = .slice a 3 c := by obtain ⟨a, c, e, _⟩ := hr; exact ⟨a, c, e⟩
  clear hb
  go_wp2_with fail
  refine (box_any _ _ _ _ _ _ _).mono ?_
  rintro e b2 ⟨rfl, hb⟩
  replace hB := below_next hB (Nat.le_refl _) hb
  replace hp := hp.below hb
  replace hr := hr.below hb
  clear hb
  go_wp2_with fail
  refine (ex_h2 hp hr).mono ?_
  rintro e c2 ⟨rfl, hb⟩
  replace hB := below_next hB (Nat.le_refl _) hb
  clear hb hp hr
  go_wp2_with fail
  refine (small_any _).mono ?_
  rintro e a3 ⟨p, r, rfl, hp, hr, hb⟩
  replace hB := below_next hB (Nat.le_refl _) hb
  obtain ⟨ap, cp, rfl⟩ : ∃ a c, p = .slice a 4 c := by obtain ⟨a, c, e, _⟩ := hp; exact ⟨a, c, e⟩
  obtain ⟨ar, cr, rfl⟩ : ∃ a c, r = .slice a 3 c := by obtain ⟨a, c, e, _⟩ := hr; exact ⟨a, c, e⟩
  clear hb
  go_wp2_with fail
  refine (atF_below _ _ _).mono ?_
  rintro e b3 ⟨rfl, hb⟩
  replace hB := below_next hB (Nat.le_refl _) hb
  replace hp := hp.below hb
  replace hr := hr.below hb
  clear hb
  go_wp2_with fail
  refine (atF_below _ _ _).mono ?_
  rintro e b3' ⟨rfl, hb⟩
  replace hB := below_next hB (Nat.le_refl _) hb
  replace hp := hp.below hb
  replace hr := hr.below hb
  clear hb
  go_wp2_with fail
  refine (ex_l1 hp hr).mono ?_
  rintro e c3 ⟨rfl, hb⟩
  replace hB := below_next hB (Nat.le_refl _) hb
  clear hb hp hr
  go_wp2_with fail
  refine (small_any _).mono ?_
  rintro e a4 ⟨p, r, rfl, hp, hr, hb⟩
  replace hB := below_next hB (Nat.le_refl _) hb
  obtain ⟨ap, cp, rfl⟩ : ∃ a c, p = .slice a 4 c := by obtain ⟨a, c, e, _⟩ := hp; exact ⟨a, c, e⟩
  obtain ⟨ar, cr, rfl⟩ : ∃ a c, r = .slice a 3 c := by obtain ⟨a, c, e, _⟩ := hr; exact ⟨a, c, e⟩
  clear hb
  go_wp2_with fail
  refine (atF_below _ _ _).mono ?_
  rintro e b4 ⟨rfl, hb⟩
  replace hB := below_next hB (Nat.le_refl _) hb
  replace hp := hp.below hb
  replace hr := hr.below hb
  clear hb
  go_wp2_with fail
  refine (atF_below _ _ _).mono ?_
  rintro e b4' ⟨rfl, hb⟩
  replace hB := below_next hB (Nat.le_refl _) hb
  replace hp := hp.below hb
  replace hr := hr.below hb
  clear hb
  go_wp2_with fail
  refine (ex_l2 hp hr).mono ?_
  rintro e c4 ⟨rfl, hb⟩
  replace hB := below_next hB (Nat.le_refl _) hb
  clear hb hp hr
  go_wp2_with fail
  refine (small_any _).mono ?_
  rintro e a5 ⟨p, r, rfl, hp, hr, hb⟩
  replace hB := below_next hB (Nat.le_refl _) hb
  obtain ⟨ap, cp, rfl⟩ : ∃ a c, p = .slice a 4 c := by obtain ⟨a, c, e, _⟩ := hp; exact ⟨a, c, e⟩
  obtain ⟨ar, cr, rfl⟩ : ∃ a c, r = .slice a 3 c := by obtain ⟨a, c, e, _⟩ := hr; exact ⟨a, c, e⟩
  clear hb
  go_wp2_with fail
  refine (atF_below _ _ _).mono ?_
  rintro e b5 ⟨rfl, hb⟩
  replace hB := below_next hB (Nat.le_refl _) hb
  replace hp := hp.below hb
  replace hr := hr.below hb
  clear hb
  go_wp2_with fail
  refine (ex_r hp hr).mono ?_
  rintro e c5 ⟨rfl, hb⟩
  replace hB := below_next hB (Nat.le_refl _) hb
  clear hb hp hr
  go_wp2_with fail
  refine (small_any _).mono ?_
  rintro e a6 ⟨p, r, rfl, hp, hr, hb⟩
  replace hB := below_next hB (Nat.le_refl _) hb
  obtain ⟨ap, cp, rfl⟩ : ∃ a c, p = .slice a 4 c := by obtain ⟨a, c, e, _⟩ := hp; exact ⟨a, c, e⟩
  obtain ⟨ar, cr, rfl⟩ : ∃ a c, r = .slice a 3 c := by obtain ⟨a, c, e, _⟩ := hr; exact ⟨a, c, e⟩
  clear hb
  go_wp2_with fail
  refine (EE _ _ _ hp hr).mono ?_
  rintro e c6 ⟨rfl, hb⟩
  replace hB := below_next hB (Nat.le_refl _) hb
  clear hb hp hr
  go_wp2_with fail
  refine (ED _).mono ?_
  rintro e c7 ⟨p, r, rfl, hp, hr, hb⟩
  replace hB := below_next hB (Nat.le_refl _) hb
  obtain ⟨ap, cp, rfl⟩ : ∃ a c, p = .slice a 4 c := by obtain ⟨a, c, e, _⟩ := hp; exact ⟨a, c, e⟩
  obtain ⟨ar, cr, rfl⟩ : ∃ a c, r = .slice a 3 c := by obtain ⟨a, c, e, _⟩ := hr; exact ⟨a, c, e⟩
  clear hb
  simp only [fV]
  have B0 := Blk.new c7 #[.slice ap 4 cp, .int .i64 (-5), .int .i64 50, .slice ar 3 cr] 24
  have hb7 := below_alloc c7 (.cells #[.slice ap 4 cp, .int .i64 (-5), .int .i64 50, .slice ar 3 cr] 24)
  replace hp := hp.below hb7
  replace hr := hr.below hb7
  replace hB := below_next hB (Nat.le_refl _) hb7
  obtain ⟨V, hV⟩ : ∃ V, c7.alloc (.cells #[.slice ap 4 cp, .int .i64 (-5), .int .i64 50, .slice ar 3 cr] 24) = V := ⟨_, rfl⟩
  rw [hV] at B0 hp hr hB
  clear hb7
  generalize hG : c7.heap.size = G at *
  go_wp2_with fail
  try rw [hV]
  clear hV hG ED EE
  have m0 := B0.cell 0 rfl
  have m1 := B0.cell 1 rfl
  have m2 := B0.cell 2 rfl
  have m3 := B0.cell 3 rfl
  have HB := hide hB
  have HP := hide hp
  have HR := hide hr
  have HB0 := hide B0
  clear hB hp hr B0
  refine wp_region_held_drew (S := fun wx => wx.cell? ⟨G, 0, none⟩ = some (.slice ap 4 cp) ∧ wx.cell? ⟨G, 1, none⟩ = some (.int .i64 (-5)) ∧ wx.cell? ⟨G, 2, none⟩ = some (.int .i64 50) ∧ wx.cell? ⟨G, 3, none⟩ = some (.slice ar 3 cr)) (by kernel_rfl) (by exact ⟨m0, m1, m2, m3⟩) (fun hHeld => ?_)
  refine take_at (i := 0) (v := .bool true) (d := some 84) rfl rfl (by kernel_rfl) (by kernel_rfl) (by kernel_rfl) (fun _ _ _ h => h) (Or.inl ⟨by rfl, fun wS ⟨hS0, hS1, hS2, hS3⟩ => by go_simp; all_goals (rw [IntKind.wrap_i64]; omega)⟩) (by assumption) ?_
  simp only [Act.put, List.setIfInBounds_toArray, List.set_cons_zero, List.set_cons_succ]
  refine take_at (i := 1) (v := .bool true) (d := some 85) rfl rfl (by kernel_rfl) (by kernel_rfl) (by kernel_rfl) (fun _ _ _ h => h) (Or.inl ⟨by rfl, fun wS ⟨hS0, hS1, hS2, hS3⟩ => by go_simp; all_goals (rw [IntKind.wrap_i64]; omega)⟩) (by assumption) ?_
  simp only [Act.put, List.setIfInBounds_toArray, List.set_cons_zero, List.set_cons_succ]
  refine take_at (i := 2) (v := .bool true) (d := some 86) rfl rfl (by kernel_rfl) (by kernel_rfl) (by kernel_rfl) (fun _ _ _ h => h) (Or.inl ⟨by rfl, fun wS ⟨hS0, hS1, hS2, hS3⟩ => by go_simp; all_goals (rw [IntKind.wrap_i64]; omega)⟩) (by assumption) ?_
  simp only [Act.put, List.setIfInBounds_toArray, List.set_cons_zero, List.set_cons_succ]
  refine take_at (i := 3) (v := .bool true) (d := some 87) rfl rfl (by kernel_rfl) (by kernel_rfl) (by kernel_rfl) (fun _ _ _ h => h) (Or.inl ⟨by rfl, fun wS ⟨hS0, hS1, hS2, hS3⟩ => by go_simp; all_goals (rw [IntKind.wrap_i64]; omega)⟩) (by assumption) ?_
  simp only [Act.put, List.setIfInBounds_toArray, List.set_cons_zero, List.set_cons_succ]
  refine take_at (i := 4) (v := .bool true) (d := some 88) rfl rfl (by kernel_rfl) (by kernel_rfl) (by kernel_rfl) (fun _ _ _ h => h) (Or.inl ⟨by rfl, fun wS ⟨hS0, hS1, hS2, hS3⟩ => by go_simp; all_goals (rw [IntKind.wrap_i64]; omega)⟩) (by assumption) ?_
  simp only [Act.put, List.setIfInBounds_toArray, List.set_cons_zero, List.set_cons_succ]
  refine take_at (i := 5) (v := .bool false) (d := some 89) rfl rfl (by kernel_rfl) (by kernel_rfl) (by kernel_rfl) (fun _ _ _ h => h) (Or.inl ⟨by rfl, fun wS ⟨hS0, hS1, hS2, hS3⟩ => by go_simp; all_goals (rw [IntKind.wrap_i64]; omega)⟩) (by assumption) ?_
  simp only [Act.put, List.setIfInBounds_toArray, List.set_cons_zero, List.set_cons_succ]
  refine take_at (i := 6) (v := .bool true) (d := some 90) rfl rfl (by kernel_rfl) (by kernel_rfl) (by kernel_rfl) (fun _ _ _ h => h) (Or.inl ⟨by rfl, fun wS ⟨hS0, hS1, hS2, hS3⟩ => by go_simp; all_goals (rw [IntKind.wrap_i64]; omega)⟩) (by assumption) ?_
  simp only [Act.put, List.setIfInBounds_toArray, List.set_cons_zero, List.set_cons_succ]
  refine take_at (i := 7) (v := .bool true) (d := some 91) rfl rfl (by kernel_rfl) (by kernel_rfl) (by kernel_rfl) (fun _ _ _ h => h) (Or.inl ⟨by rfl, fun wS ⟨hS0, hS1, hS2, hS3⟩ => by go_simp; all_goals (rw [IntKind.wrap_i64]; omega)⟩) (by assumption) ?_
  simp only [Act.put, List.setIfInBounds_toArray, List.set_cons_zero, List.set_cons_succ]
  refine take_at (i := 8) (v := .bool true) (d := some 92) rfl rfl (by kernel_rfl) (by kernel_rfl) (by kernel_rfl) (fun _ _ _ h => h) (Or.inl ⟨by rfl, fun wS ⟨hS0, hS1, hS2, hS3⟩ => by go_simp; all_goals (rw [IntKind.wrap_i64]; omega)⟩) (by assumption) ?_
  simp only [Act.put, List.setIfInBounds_toArray, List.set_cons_zero, List.set_cons_succ]
  refine take_at (i := 9) (v := .bool true) (d := some 93) rfl rfl (by kernel_rfl) (by kernel_rfl) (by kernel_rfl) (fun _ _ _ h => h) (Or.inl ⟨by rfl, fun wS ⟨hS0, hS1, hS2, hS3⟩ => by go_simp; all_goals (rw [IntKind.wrap_i64]; omega)⟩) (by assumption) ?_
  simp only [Act.put, List.setIfInBounds_toArray, List.set_cons_zero, List.set_cons_succ]
  refine take_at (i := 10) (v := .bool true) (d := some 94) rfl rfl (by kernel_rfl) (by kernel_rfl) (by kernel_rfl) (fun _ _ _ h => h) (Or.inl ⟨by rfl, fun wS ⟨hS0, hS1, hS2, hS3⟩ => by go_simp; all_goals (rw [IntKind.wrap_i64]; omega)⟩) (by assumption) ?_
  simp only [Act.put, List.setIfInBounds_toArray, List.set_cons_zero, List.set_cons_succ]
  refine take_at (i := 11) (v := .bool true) (d := some 95) rfl rfl (by kernel_rfl) (by kernel_rfl) (by kernel_rfl) (fun _ _ _ h => h) (Or.inl ⟨by rfl, fun wS ⟨hS0, hS1, hS2, hS3⟩ => by go_simp; all_goals (rw [IntKind.wrap_i64]; omega)⟩) (by assumption) ?_
  simp only [Act.put, List.setIfInBounds_toArray, List.set_cons_zero, List.set_cons_succ]
  refine take_at (i := 12) (v := .bool false) (d := some 96) rfl rfl (by kernel_rfl) (by kernel_rfl) (by kernel_rfl) (fun _ _ _ h => h) (Or.inl ⟨by rfl, fun wS ⟨hS0, hS1, hS2, hS3⟩ => by go_simp; all_goals (rw [IntKind.wrap_i64]; omega)⟩) (by assumption) ?_
  simp only [Act.put, List.setIfInBounds_toArray, List.set_cons_zero, List.set_cons_succ]
  refine take_at (i := 13) (v := .bool true) (d := some 97) rfl rfl (by kernel_rfl) (by kernel_rfl) (by kernel_rfl) (fun _ _ _ h => h) (Or.inl ⟨by rfl, fun wS ⟨hS0, hS1, hS2, hS3⟩ => by go_simp; all_goals (rw [IntKind.wrap_i64]; omega)⟩) (by assumption) ?_
  simp only [Act.put, List.setIfInBounds_toArray, List.set_cons_zero, List.set_cons_succ]
  refine take_at (i := 14) (v := .bool true) (d := some 98) rfl rfl (by kernel_rfl) (by kernel_rfl) (by kernel_rfl) (fun _ _ _ h => h) (Or.inl ⟨by rfl, fun wS ⟨hS0, hS1, hS2, hS3⟩ => by go_simp; all_goals (rw [IntKind.wrap_i64]; omega)⟩) (by assumption) ?_
  simp only [Act.put, List.setIfInBounds_toArray, List.set_cons_zero, List.set_cons_succ]
  refine take_at (i := 15) (v := .bool true) (d := some 99) rfl rfl (by kernel_rfl) (by kernel_rfl) (by kernel_rfl) (fun _ _ _ h => h) (Or.inl ⟨by rfl, fun wS ⟨hS0, hS1, hS2, hS3⟩ => by go_simp; all_goals (rw [IntKind.wrap_i64]; omega)⟩) (by assumption) ?_
  simp only [Act.put, List.setIfInBounds_toArray, List.set_cons_zero, List.set_cons_succ]
  refine take_at (i := 16) (v := .int .i64 2) (d := some 100) rfl rfl (by kernel_rfl) (by kernel_rfl) (by kernel_rfl) (fun _ _ _ h => h) (Or.inl ⟨by rfl, fun wS ⟨hS0, hS1, hS2, hS3⟩ => by go_simp; all_goals (rw [IntKind.wrap_i64]; omega)⟩) (by assumption) ?_
  simp only [Act.put, List.setIfInBounds_toArray, List.set_cons_zero, List.set_cons_succ]
  refine take_at (i := 17) (v := .bool true) (d := some 101) rfl rfl (by kernel_rfl) (by kernel_rfl) (by kernel_rfl) (fun _ _ _ h => h) (Or.inl ⟨by rfl, fun wS ⟨hS0, hS1, hS2, hS3⟩ => by go_simp; all_goals (rw [IntKind.wrap_i64]; omega)⟩) (by assumption) ?_
  simp only [Act.put, List.setIfInBounds_toArray, List.set_cons_zero, List.set_cons_succ]
  refine take_at (i := 18) (v := .bool true) (d := some 102) rfl rfl (by kernel_rfl) (by kernel_rfl) (by kernel_rfl) (fun _ _ _ h => h) (Or.inl ⟨by rfl, fun wS ⟨hS0, hS1, hS2, hS3⟩ => by go_simp; all_goals (rw [IntKind.wrap_i64]; omega)⟩) (by assumption) ?_
  simp only [Act.put, List.setIfInBounds_toArray, List.set_cons_zero, List.set_cons_succ]
  refine take_at (i := 19) (v := .bool true) (d := some 103) rfl rfl (by kernel_rfl) (by kernel_rfl) (by kernel_rfl) (fun _ _ _ h => h) (Or.inl ⟨by rfl, fun wS ⟨hS0, hS1, hS2, hS3⟩ => by go_simp; all_goals (rw [IntKind.wrap_i64]; omega)⟩) (by assumption) ?_
  simp only [Act.put, List.setIfInBounds_toArray, List.set_cons_zero, List.set_cons_succ]
  refine take_at (i := 20) (v := .string E) (d := some 104) rfl rfl (by kernel_rfl) (by kernel_rfl) (by kernel_rfl) (fun _ _ _ h => h) (Or.inl ⟨by rfl, fun wS ⟨hS0, hS1, hS2, hS3⟩ => by go_simp; all_goals (rw [IntKind.wrap_i64]; omega)⟩) (by assumption) ?_
  simp only [Act.put, List.setIfInBounds_toArray, List.set_cons_zero, List.set_cons_succ]
  refine take_at (i := 21) (v := .int .i64 66) (d := some 105) rfl rfl (by kernel_rfl) (by kernel_rfl) (by kernel_rfl) (fun _ _ _ h => h) (Or.inl ⟨by rfl, fun wS ⟨hS0, hS1, hS2, hS3⟩ => by go_simp; all_goals (rw [IntKind.wrap_i64]; omega)⟩) (by assumption) ?_
  simp only [Act.put, List.setIfInBounds_toArray, List.set_cons_zero, List.set_cons_succ]
  refine take_at (i := 22) (v := .bool true) (d := some 106) rfl rfl (by kernel_rfl) (by kernel_rfl) (by kernel_rfl) (fun _ _ _ h => h) (Or.inl ⟨by rfl, fun wS ⟨hS0, hS1, hS2, hS3⟩ => by go_simp; all_goals (rw [IntKind.wrap_i64]; omega)⟩) (by assumption) ?_
  simp only [Act.put, List.setIfInBounds_toArray, List.set_cons_zero, List.set_cons_succ]
  refine take_at (i := 23) (v := .bool true) (d := some 107) rfl rfl (by kernel_rfl) (by kernel_rfl) (by kernel_rfl) (fun _ _ _ h => h) (Or.inl ⟨by rfl, fun wS ⟨hS0, hS1, hS2, hS3⟩ => by go_simp; all_goals (rw [IntKind.wrap_i64]; omega)⟩) (by assumption) ?_
  simp only [Act.put, List.setIfInBounds_toArray, List.set_cons_zero, List.set_cons_succ]
  refine take_at (i := 24) (v := .bool true) (d := some 108) rfl rfl (by kernel_rfl) (by kernel_rfl) (by kernel_rfl) (fun _ _ _ h => h) (Or.inl ⟨by rfl, fun wS ⟨hS0, hS1, hS2, hS3⟩ => by go_simp; all_goals (rw [IntKind.wrap_i64]; omega)⟩) (by assumption) ?_
  simp only [Act.put, List.setIfInBounds_toArray, List.set_cons_zero, List.set_cons_succ]
  refine take_at (i := 25) (v := .agg #[.slice ap 4 cp, .int .i64 (-5), .int .i64 50, .slice ar 3 cr]) (d := some 109) rfl rfl (by kernel_rfl) (by kernel_rfl) (by kernel_rfl) (fun _ _ _ h => h) (Or.inl ⟨by rfl, fun wS ⟨hS0, hS1, hS2, hS3⟩ => by go_simp; all_goals (rw [IntKind.wrap_i64]; omega)⟩) (by assumption) ?_
  simp only [Act.put, List.setIfInBounds_toArray, List.set_cons_zero, List.set_cons_succ]
  refine wpAnyH_ready (rs := [26]) (by kernel_rfl) (by simp) ?_
  refine AllReadyH.cons rfl (fun K hK => ?_) AllReadyH.nil
  go_simp
  refine (small_any _).mono ?_
  rintro e d1 ⟨p, r, rfl, hp, hr, hb⟩
  have hb1 : Below V.heap.size V d1 := below_undrew hb
  obtain ⟨ap', cp', rfl⟩ : ∃ a c, p = .slice a 4 c := by obtain ⟨a, c, e, _⟩ := hp; exact ⟨a, c, e⟩
  obtain ⟨ar', cr', rfl⟩ : ∃ a c, r = .slice a 3 c := by obtain ⟨a, c, e, _⟩ := hr; exact ⟨a, c, e⟩
  have B1 := HB0.out.after hb1
  have hp1 := HP.out.below hb1
  have hr1 := HR.out.below hb1
  clear hHeld hb
  simp only [fV]
  refine hK.out _ _ (⟨B1.cell 0 rfl, B1.cell 1 rfl, B1.cell 2 rfl, B1.cell 3 rfl⟩) (fun hHeld => ?_)
  clear hK K
  refine wpAnyH_ready (rs := [27]) (by kernel_rfl) (by simp) ?_
  refine AllReadyH.cons rfl (fun K hK => ?_) AllReadyH.nil
  go_simp
  refine (same_true smP smR (-5) 50 _ _ _ _ d1 hp1 hr1 hp hr (by decide) (by decide)).mono ?_
  rintro e d2 ⟨rfl, hb⟩
  have hb2 := below_next hb1 (Nat.le_refl _) hb
  have B2 := HB0.out.after hb2
  clear hHeld hb hp hr hp1 hr1
  refine hK.out _ _ (⟨B2.cell 0 rfl, B2.cell 1 rfl, B2.cell 2 rfl, B2.cell 3 rfl⟩) (fun hHeld => ?_)
  clear hK K
  refine take_at (i := 28) (v := .bool true) (d := some 112) rfl rfl (by kernel_rfl) (by kernel_rfl) (by kernel_rfl) (fun _ _ _ h => h) (Or.inl ⟨by rfl, fun wS ⟨hS0, hS1, hS2, hS3⟩ => by go_simp; all_goals (rw [IntKind.wrap_i64]; omega)⟩) (by assumption) ?_
  simp only [Act.put, List.setIfInBounds_toArray, List.set_cons_zero, List.set_cons_succ]
  refine take_at (i := 29) (v := .bool true) (d := some 113) rfl rfl (by kernel_rfl) (by kernel_rfl) (by kernel_rfl) (fun _ _ _ h => h) (Or.inl ⟨by rfl, fun wS ⟨hS0, hS1, hS2, hS3⟩ => by go_simp; all_goals (rw [IntKind.wrap_i64]; omega)⟩) (by assumption) ?_
  simp only [Act.put, List.setIfInBounds_toArray, List.set_cons_zero, List.set_cons_succ]
  refine take_at (i := 30) (v := .agg #[.slice none 0 0, .int .i64 0, .int .i64 0, .slice none 0 0]) (d := some 114) rfl rfl (by kernel_rfl) (by kernel_rfl) (by kernel_rfl) (fun _ _ _ h => h) (Or.inl ⟨by rfl, fun wS ⟨hS0, hS1, hS2, hS3⟩ => by go_simp; all_goals (rw [IntKind.wrap_i64]; omega)⟩) (by assumption) ?_
  simp only [Act.put, List.setIfInBounds_toArray, List.set_cons_zero, List.set_cons_succ]
  refine wpAnyH_ready (rs := [31]) (by kernel_rfl) (by simp) ?_
  refine AllReadyH.cons rfl (fun K hK => ?_) AllReadyH.nil
  go_simp
  refine (ex_none d2).mono ?_
  rintro e d3 ⟨rfl, hb⟩
  have hb3 := below_next hb2 (Nat.le_refl _) hb
  have B3 := HB0.out.after hb3
  clear hHeld hb
  refine hK.out _ _ (⟨B3.cell 0 rfl, B3.cell 1 rfl, B3.cell 2 rfl, B3.cell 3 rfl⟩) (fun hHeld => ?_)
  clear hK K
  refine take_at (i := 32) (v := .bool true) (d := some 116) rfl rfl (by kernel_rfl) (by kernel_rfl) (by kernel_rfl) (fun _ _ _ h => h) (Or.inl ⟨by rfl, fun wS ⟨hS0, hS1, hS2, hS3⟩ => by go_simp; all_goals (rw [IntKind.wrap_i64]; omega)⟩) (by assumption) ?_
  simp only [Act.put, List.setIfInBounds_toArray, List.set_cons_zero, List.set_cons_succ]
  refine take_at (i := 33) (v := .bool true) (d := some 117) rfl rfl (by kernel_rfl) (by kernel_rfl) (by kernel_rfl) (fun _ _ _ h => h) (Or.inl ⟨by rfl, fun wS ⟨hS0, hS1, hS2, hS3⟩ => by go_simp; all_goals (rw [IntKind.wrap_i64]; omega)⟩) (by assumption) ?_
  simp only [Act.put, List.setIfInBounds_toArray, List.set_cons_zero, List.set_cons_succ]
  refine take_at (i := 34) (v := .bool true) (d := some 0) rfl rfl (by kernel_rfl) (by kernel_rfl) (by kernel_rfl) (fun _ _ _ h => h) (Or.inl ⟨by rfl, fun wS ⟨hS0, hS1, hS2, hS3⟩ => by go_simp; all_goals (rw [IntKind.wrap_i64]; omega)⟩) (by assumption) ?_
  simp only [Act.put, List.setIfInBounds_toArray, List.set_cons_zero]
  refine wpAnyH_done (by kernel_rfl) ?_ _
  go_wp2_with fail
  go_ret
  exact ⟨rfl, below_next HB.out (Nat.le_refl _) hb3⟩
end Go.Proofs.Ytnenbbkkhnlgbaa
