/- FenceMeans. -/
import Derived.Test.YtnenbbkkhnlgbaaFlO
import Derived.Test.YtnenbbkkhnlgbaaFeP
namespace Go.Proofs.Ytnenbbkkhnlgbaa
open Go.RowKit Go.Great

theorem between_any (n : Int) (x : Pt) (w : World) : Calls Try.prog 38 #[.int .i64 n, pV x] w fun e w' => e = .returned (.bool (decide (x.1 ≤ n) && decide (n ≤ x.2))) ∧ Below w.heap.size w w' := by
  obtain ⟨x1, x2⟩ := x
  simp only [pV]
  go_enter Try.func38, Try.ntmps38
  go_wp2
  all_goals (go_ret; refine ⟨ret_bool ?_, below_alloc _ _⟩)
  all_goals (simp; try omega)
set_option maxRecDepth 100000 in
set_option maxHeartbeats 8000000 in
theorem means_core (v : Value) (x0 x1 y0 y1 z0 z1 q0 q1 q2 : Int) (w : World) (h : FenIn w v) : Calls Try.prog 10 #[v, .agg #[.int .i64 x0, .int .i64 x1, .int .i64 y0, .int .i64 y1, .int .i64 z0, .int .i64 z1], .agg #[.int .i64 q0, .int .i64 q1, .int .i64 q2]] w fun e w' => e = .returned (.bool true) ∧ Below w.heap.size w w' := by
  obtain ⟨P, R, fl, ce, p, r, rfl, hp, hr⟩ := h
  have hP := long_ok hp
  have hR := long_ok hr
  have AW := awakeF_any
  have LE := fun W (hb : Below w.heap.size w W) => lentF_any P R fl ce p r W ⟨hp.1.below hb, hp.2⟩ ⟨hr.1.below hb, hr.2⟩
  have CO := fun W p' r' (h1 : Lnt W p' P) (h2 : Lnt W r' R) => holds_fn P R fl ce p' r' (x0, x1) (y0, y1) (z0, z1) W h1.pts h2.pts hP hR
  have SPR := fun W (hb : Below w.heap.size w W) => spare_any P p W ⟨hp.1.below hb, hp.2⟩
  have SI := fun W p' (h1 : Lnt W p' P) => callsIn_wide.1 (side_any P p' (q0, q1) W h1.pts hP)
  have BX := between_any q0 (x0, x1)
  have BY := between_any q1 (y0, y1)
  have BZ := between_any q2 (z0, z1)
  have HNO : Hid (holE P fl ce R (x0, x1) (y0, y1) (z0, z1) ≠ 0 → holI P fl ce R (x0, x1) (y0, y1) (z0, z1) = false) := hol_none
  have HME : Hid (holI P fl ce R (x0, x1) (y0, y1) (z0, z1) = true → (x0 ≤ q0 ∧ q0 ≤ x1) → (y0 ≤ q1 ∧ q1 ≤ y1) → (z0 ≤ q2 ∧ q2 ≤ z1) → sdI P (q0, q1) = 1 ∧ sdE P (q0, q1) = 0 ∧ fl ≤ q2 ∧ q2 ≤ ce) := fun h1 h2 h3 h4 => hol_means h1 ((in_iff _ _ _).2 ⟨h2.1, h2.2, h3.1, h3.2⟩) h4.1 h4.2
  generalize holI P fl ce R (x0, x1) (y0, y1) (z0, z1) = I at *
  generalize holE P fl ce R (x0, x1) (y0, y1) (z0, z1) = E at *
  generalize sdI P (q0, q1) = S at *
  generalize sdE P (q0, q1) = SE at *
  obtain ⟨ap, cp, rfl, hcl⟩ := hp.1
  obtain ⟨ar, cr, rfl, hcl'⟩ := hr.1
  clear hcl hcl' hp hr hP hR
  generalize hn1 : P.length = n1 at *
  generalize hn2 : R.length = n2 at *
  have HN1 := hide hn1
  have HN2 := hide hn2
  clear hn1 hn2
  simp only [fV, bV, pV] at *
  go_enter Try.func10, Try.ntmps10
  go_wp2_with fail
  obtain ⟨W0, hW0, hB, B0, B1, B2, hz⟩ := three_boxes w #[.slice ap n1 cp, .int .i64 fl, .int .i64 ce, .slice ar n2 cr] #[.int .i64 x0, .int .i64 x1, .int .i64 y0, .int .i64 y1, .int .i64 z0, .int .i64 z1] #[.int .i64 q0, .int .i64 q1, .int .i64 q2] 24 34 60
  rw [hW0]
  clear hW0
  refine wp_region_held_drew (S := fun wx => wx.cell? ⟨w.heap.size, 0, none⟩ = some (.slice ap n1 cp) ∧ wx.cell? ⟨w.heap.size, 1, none⟩ = some (.int .i64 fl) ∧ wx.cell? ⟨w.heap.size, 2, none⟩ = some (.int .i64 ce) ∧ wx.cell? ⟨w.heap.size, 3, none⟩ = some (.slice ar n2 cr) ∧ wx.cell? ⟨w.heap.size + 1, 0, none⟩ = some (.int .i64 x0) ∧ wx.cell? ⟨w.heap.size + 1, 1, none⟩ = some (.int .i64 x1) ∧ wx.cell? ⟨w.heap.size + 1, 2, none⟩ = some (.int .i64 y0) ∧ wx.cell? ⟨w.heap.size + 1, 3, none⟩ = some (.int .i64 y1) ∧ wx.cell? ⟨w.heap.size + 1, 4, none⟩ = some (.int .i64 z0) ∧ wx.cell? ⟨w.heap.size + 1, 5, none⟩ = some (.int .i64 z1)) (by kernel_rfl) (by exact ⟨(B0).cell 0 rfl, (B0).cell 1 rfl, (B0).cell 2 rfl, (B0).cell 3 rfl, (B1).cell 0 rfl, (B1).cell 1 rfl, (B1).cell 2 rfl, (B1).cell 3 rfl, (B1).cell 4 rfl, (B1).cell 5 rfl⟩) (fun hHeld => ?_)
  refine take_at (i := 0) (v := .agg #[.slice ap n1 cp, .int .i64 fl, .int .i64 ce, .slice ar n2 cr]) (d := some 12) rfl rfl (by kernel_rfl) (by kernel_rfl) (by kernel_rfl) (fun _ _ _ h => h) (Or.inl ⟨by rfl, fun wS ⟨hS0, hS1, hS2, hS3, hS4, hS5, hS6, hS7, hS8, hS9⟩ => by go_simp; all_goals (rw [IntKind.wrap_i64]; omega)⟩) (by assumption) ?_
  simp only [Act.put, List.setIfInBounds_toArray, List.set_cons_zero, List.set_cons_succ]
  refine take_at (i := 2) (v := .agg #[.int .i64 x0, .int .i64 x1, .int .i64 y0, .int .i64 y1, .int .i64 z0, .int .i64 z1]) (d := some 14) rfl rfl (by kernel_rfl) (by kernel_rfl) (by kernel_rfl) (fun _ _ _ h => h) (Or.inl ⟨by rfl, fun wS ⟨hS0, hS1, hS2, hS3, hS4, hS5, hS6, hS7, hS8, hS9⟩ => by go_simp; all_goals (rw [IntKind.wrap_i64]; omega)⟩) (by assumption) ?_
  simp only [Act.put, List.setIfInBounds_toArray, List.set_cons_zero, List.set_cons_succ]
  refine wpAnyH_ready (rs := [1]) (by kernel_rfl) (by simp) ?_
  refine AllReadyH.cons rfl (fun K hK => ?_) AllReadyH.nil
  go_simp
  refine (LE _ (hB).drew).mono ?_
  rintro e u1 ⟨p', r', rfl, h1, h2, hb1⟩
  replace hb1 := below_undrew hb1
  obtain ⟨g1, c1, e1⟩ := h1.slice
  obtain ⟨g2, c2, e2⟩ := h2.slice
  rw [HN1.out] at e1
  rw [HN2.out] at e2
  subst e1 e2
  clear hHeld
  refine hK.out _ _ (⟨(B0.after hb1).cell 0 rfl, (B0.after hb1).cell 1 rfl, (B0.after hb1).cell 2 rfl, (B0.after hb1).cell 3 rfl, (B1.after hb1).cell 0 rfl, (B1.after hb1).cell 1 rfl, (B1.after hb1).cell 2 rfl, (B1.after hb1).cell 3 rfl, (B1.after hb1).cell 4 rfl, (B1.after hb1).cell 5 rfl⟩) (fun hHeld => ?_)
  clear hK K
  refine wpAnyH_ready (rs := [3]) (by kernel_rfl) (by simp) ?_
  refine AllReadyH.cons rfl (fun K hK => ?_) AllReadyH.nil
  go_simp
  refine (CO _ _ _ h1 h2).mono ?_
  rintro e u2 ⟨rfl, hb2⟩
  replace hb2 := below_next hb1 (Nat.le_refl _) hb2
  clear hHeld h1 h2 hb1
  refine hK.out _ _ (⟨(B0.after hb2).cell 0 rfl, (B0.after hb2).cell 1 rfl, (B0.after hb2).cell 2 rfl, (B0.after hb2).cell 3 rfl, (B1.after hb2).cell 0 rfl, (B1.after hb2).cell 1 rfl, (B1.after hb2).cell 2 rfl, (B1.after hb2).cell 3 rfl, (B1.after hb2).cell 4 rfl, (B1.after hb2).cell 5 rfl⟩) (fun hHeld => ?_)
  clear hK K
  refine take_at (i := 4) (v := .tuple #[.bool I, .int .i64 E]) (d := some 11) rfl rfl (by kernel_rfl) (by kernel_rfl) (by kernel_rfl) (fun _ _ _ h => h) (Or.inl ⟨by rfl, fun wS ⟨hS0, hS1, hS2, hS3, hS4, hS5, hS6, hS7, hS8, hS9⟩ => by go_simp; all_goals (rw [IntKind.wrap_i64]; omega)⟩) (by assumption) ?_
  simp only [Act.put, List.setIfInBounds_toArray, List.set_cons_zero, List.set_cons_succ]
  refine take_at (i := 5) (v := .bool I) (d := some 16) rfl rfl (by kernel_rfl) (by kernel_rfl) (by kernel_rfl) (fun _ _ _ h => h) (Or.inl ⟨by rfl, fun wS ⟨hS0, hS1, hS2, hS3, hS4, hS5, hS6, hS7, hS8, hS9⟩ => by go_simp; all_goals (rw [IntKind.wrap_i64]; omega)⟩) (by assumption) ?_
  simp only [Act.put, List.setIfInBounds_toArray, List.set_cons_zero, List.set_cons_succ]
  refine take_at (i := 6) (v := .int .i64 E) (d := some 17) rfl rfl (by kernel_rfl) (by kernel_rfl) (by kernel_rfl) (fun _ _ _ h => h) (Or.inl ⟨by rfl, fun wS ⟨hS0, hS1, hS2, hS3, hS4, hS5, hS6, hS7, hS8, hS9⟩ => by go_simp; all_goals (rw [IntKind.wrap_i64]; omega)⟩) (by assumption) ?_
  simp only [Act.put, List.setIfInBounds_toArray, List.set_cons_zero, List.set_cons_succ]
  refine take_at (i := 7) (v := .bool I) (d := some 7) rfl rfl (by kernel_rfl) (by kernel_rfl) (by kernel_rfl) (fun _ _ _ h => h) (Or.inl ⟨by rfl, fun wS ⟨hS0, hS1, hS2, hS3, hS4, hS5, hS6, hS7, hS8, hS9⟩ => by go_simp; all_goals (rw [IntKind.wrap_i64]; omega)⟩) (by assumption) ?_
  simp only [Act.put, List.setIfInBounds_toArray, List.set_cons_zero, List.set_cons_succ]
  refine take_at (i := 8) (v := .int .i64 E) (d := some 8) rfl rfl (by kernel_rfl) (by kernel_rfl) (by kernel_rfl) (fun _ _ _ h => h) (Or.inl ⟨by rfl, fun wS ⟨hS0, hS1, hS2, hS3, hS4, hS5, hS6, hS7, hS8, hS9⟩ => by go_simp; all_goals (rw [IntKind.wrap_i64]; omega)⟩) (by assumption) ?_
  simp only [Act.put, List.setIfInBounds_toArray, List.set_cons_zero, List.set_cons_succ]
  refine wpAnyH_done (by kernel_rfl) ?_ _
  clear hHeld
  replace B0 := B0.after hb2
  replace B1 := B1.after hb2
  replace B2 := B2.after hb2
  replace hB := below_next hB (Nat.le_refl _) hb2
  clear hb2
  clear CO LE
  by_cases hE : E = 0 ∧ I = true
  · obtain ⟨rfl, rfl⟩ := hE
    have HM2 := hide (HME.out (by trivial))
    clear HNO HME
    have k0 := B1.cell 0 rfl
    have k1 := B1.cell 1 rfl
    have k2 := B1.cell 2 rfl
    have k3 := B1.cell 3 rfl
    have k4 := B1.cell 4 rfl
    have k5 := B1.cell 5 rfl
    have j0 := B2.cell 0 rfl
    have j1 := B2.cell 1 rfl
    have j2 := B2.cell 2 rfl
    go_wp2_with fail
    refine (BX _).mono ?_
    rintro e w3 ⟨rfl, hb⟩
    replace B0 := B0.after hb
    replace B1 := B1.after hb
    replace B2 := B2.after hb
    replace hB := below_next hB (Nat.le_refl _) hb
    clear hb BX k0 k1 k2 k3 k4 k5 j0 j1 j2
    have k0 := B1.cell 0 rfl
    have k1 := B1.cell 1 rfl
    have k2 := B1.cell 2 rfl
    have k3 := B1.cell 3 rfl
    have k4 := B1.cell 4 rfl
    have k5 := B1.cell 5 rfl
    have j0 := B2.cell 0 rfl
    have j1 := B2.cell 1 rfl
    have j2 := B2.cell 2 rfl
    by_cases hx : x0 ≤ q0 ∧ q0 ≤ x1
    · have dx : (decide (x0 ≤ q0) && decide (q0 ≤ x1)) = true := by simp [hx]
      have HX := hide hx
      rw [dx]
      clear hx dx
      go_wp2_with fail
      refine (BY _).mono ?_
      rintro e w4 ⟨rfl, hb⟩
      replace B0 := B0.after hb
      replace B1 := B1.after hb
      replace B2 := B2.after hb
      replace hB := below_next hB (Nat.le_refl _) hb
      clear hb BY k0 k1 k2 k3 k4 k5 j0 j1 j2
      have k0 := B1.cell 0 rfl
      have k1 := B1.cell 1 rfl
      have k2 := B1.cell 2 rfl
      have k3 := B1.cell 3 rfl
      have k4 := B1.cell 4 rfl
      have k5 := B1.cell 5 rfl
      have j0 := B2.cell 0 rfl
      have j1 := B2.cell 1 rfl
      have j2 := B2.cell 2 rfl
      by_cases hy : y0 ≤ q1 ∧ q1 ≤ y1
      · have dy : (decide (y0 ≤ q1) && decide (q1 ≤ y1)) = true := by simp [hy]
        have HY := hide hy
        rw [dy]
        clear hy dy
        go_wp2_with fail
        refine (BZ _).mono ?_
        rintro e w5 ⟨rfl, hb⟩
        replace B0 := B0.after hb
        replace B1 := B1.after hb
        replace B2 := B2.after hb
        replace hB := below_next hB (Nat.le_refl _) hb
        clear hb BZ k0 k1 k2 k3 k4 k5 j0 j1 j2
        by_cases hz' : z0 ≤ q2 ∧ q2 ≤ z1
        · have dz : (decide (z0 ≤ q2) && decide (q2 ≤ z1)) = true := by simp [hz']
          rw [dz]
          obtain ⟨rfl, rfl, hf, hc⟩ := HM2.out HX.out HY.out hz'
          have HF := hide hf
          have HC := hide hc
          clear HM2 HX HY hz' dz hf hc
          have j0 := B0.cell 0 rfl
          go_wp2_with fail
          clear j0
          refine wp_region_held_drew (S := fun wx => wx.cell? ⟨w.heap.size, 0, none⟩ = some (.slice ap n1 cp) ∧ wx.cell? ⟨w.heap.size, 1, none⟩ = some (.int .i64 fl) ∧ wx.cell? ⟨w.heap.size, 2, none⟩ = some (.int .i64 ce) ∧ wx.cell? ⟨w.heap.size, 3, none⟩ = some (.slice ar n2 cr) ∧ wx.cell? ⟨w.heap.size + 1 + 1, 0, none⟩ = some (.int .i64 q0) ∧ wx.cell? ⟨w.heap.size + 1 + 1, 1, none⟩ = some (.int .i64 q1) ∧ wx.cell? ⟨w.heap.size + 1 + 1, 2, none⟩ = some (.int .i64 q2)) (by kernel_rfl) (by exact ⟨(B0).cell 0 rfl, (B0).cell 1 rfl, (B0).cell 2 rfl, (B0).cell 3 rfl, (B2).cell 0 rfl, (B2).cell 1 rfl, (B2).cell 2 rfl⟩) (fun hHeld => ?_)
          refine take_at (i := 0) (v := .pointer (some ⟨w.heap.size, 0, none⟩)) (d := some 53) rfl rfl (by kernel_rfl) (by kernel_rfl) (by kernel_rfl) (fun _ _ _ h => h) (Or.inl ⟨by rfl, fun wS ⟨hS0, hS1, hS2, hS3, hS4, hS5, hS6⟩ => by go_simp; all_goals (rw [IntKind.wrap_i64]; omega)⟩) (by assumption) ?_
          simp only [Act.put, List.setIfInBounds_toArray, List.set_cons_zero, List.set_cons_succ]
          refine take_at (i := 1) (v := .slice ap n1 cp) (d := some 54) rfl rfl (by kernel_rfl) (by kernel_rfl) (by kernel_rfl) (fun _ _ _ h => h) (Or.inl ⟨by rfl, fun wS ⟨hS0, hS1, hS2, hS3, hS4, hS5, hS6⟩ => by go_simp; all_goals (rw [IntKind.wrap_i64]; omega)⟩) (by assumption) ?_
          simp only [Act.put, List.setIfInBounds_toArray, List.set_cons_zero, List.set_cons_succ]
          refine take_at (i := 3) (v := .pointer (some ⟨w.heap.size + 1 + 1, 0, none⟩)) (d := some 56) rfl rfl (by kernel_rfl) (by kernel_rfl) (by kernel_rfl) (fun _ _ _ h => h) (Or.inl ⟨by rfl, fun wS ⟨hS0, hS1, hS2, hS3, hS4, hS5, hS6⟩ => by go_simp; all_goals (rw [IntKind.wrap_i64]; omega)⟩) (by assumption) ?_
          simp only [Act.put, List.setIfInBounds_toArray, List.set_cons_zero, List.set_cons_succ]
          refine take_at (i := 4) (v := .int .i64 q0) (d := some 57) rfl rfl (by kernel_rfl) (by kernel_rfl) (by kernel_rfl) (fun _ _ _ h => h) (Or.inl ⟨by rfl, fun wS ⟨hS0, hS1, hS2, hS3, hS4, hS5, hS6⟩ => by go_simp; all_goals (rw [IntKind.wrap_i64]; omega)⟩) (by assumption) ?_
          simp only [Act.put, List.setIfInBounds_toArray, List.set_cons_zero, List.set_cons_succ]
          refine take_at (i := 5) (v := .pointer (some ⟨w.heap.size + 1 + 1, 1, none⟩)) (d := some 58) rfl rfl (by kernel_rfl) (by kernel_rfl) (by kernel_rfl) (fun _ _ _ h => h) (Or.inl ⟨by rfl, fun wS ⟨hS0, hS1, hS2, hS3, hS4, hS5, hS6⟩ => by go_simp; all_goals (rw [IntKind.wrap_i64]; omega)⟩) (by assumption) ?_
          simp only [Act.put, List.setIfInBounds_toArray, List.set_cons_zero, List.set_cons_succ]
          refine take_at (i := 6) (v := .int .i64 q1) (d := some 59) rfl rfl (by kernel_rfl) (by kernel_rfl) (by kernel_rfl) (fun _ _ _ h => h) (Or.inl ⟨by rfl, fun wS ⟨hS0, hS1, hS2, hS3, hS4, hS5, hS6⟩ => by go_simp; all_goals (rw [IntKind.wrap_i64]; omega)⟩) (by assumption) ?_
          simp only [Act.put, List.setIfInBounds_toArray, List.set_cons_zero, List.set_cons_succ]
          refine wpAnyH_ready (rs := [2]) (by kernel_rfl) (by simp) ?_
          refine AllReadyH.cons rfl (fun K hK => ?_) AllReadyH.nil
          go_simp
          refine (SPR _ hB.drew).mono ?_
          rintro e u6 ⟨p', rfl, h1, _, hb1⟩
          replace hb1 := below_undrew hb1
          obtain ⟨g1, c1, e1⟩ := h1.slice
          rw [HN1.out] at e1
          subst e1
          clear hHeld
          refine hK.out _ _ (⟨(B0.after hb1).cell 0 rfl, (B0.after hb1).cell 1 rfl, (B0.after hb1).cell 2 rfl, (B0.after hb1).cell 3 rfl, (B2.after hb1).cell 0 rfl, (B2.after hb1).cell 1 rfl, (B2.after hb1).cell 2 rfl⟩) (fun hHeld => ?_)
          clear hK K
          refine wpAnyH_ready (rs := [7]) (by kernel_rfl) (by simp) ?_
          refine AllReadyH.cons rfl (fun K hK => ?_) AllReadyH.nil
          go_simp
          refine (atF_below _ _ _).mono ?_
          rintro e u7 ⟨rfl, hb2⟩
          replace h1 := h1.below hb2
          replace hb2 := below_next hb1 (Nat.le_refl _) hb2
          clear hHeld hb1
          refine hK.out _ _ (⟨(B0.after hb2).cell 0 rfl, (B0.after hb2).cell 1 rfl, (B0.after hb2).cell 2 rfl, (B0.after hb2).cell 3 rfl, (B2.after hb2).cell 0 rfl, (B2.after hb2).cell 1 rfl, (B2.after hb2).cell 2 rfl⟩) (fun hHeld => ?_)
          clear hK K
          refine wpAnyH_ready (rs := [8]) (by kernel_rfl) (by simp) ?_
          refine AllReadyH.cons rfl (fun K hK => ?_) AllReadyH.nil
          go_simp
          refine (SI _ _ h1).mono ?_
          rintro e u8 ⟨rfl, hb3⟩
          replace hb3 := below_next hb2 (Nat.le_refl _) hb3
          clear hHeld hb2 h1
          refine hK.out _ _ (⟨(B0.after hb3).cell 0 rfl, (B0.after hb3).cell 1 rfl, (B0.after hb3).cell 2 rfl, (B0.after hb3).cell 3 rfl, (B2.after hb3).cell 0 rfl, (B2.after hb3).cell 1 rfl, (B2.after hb3).cell 2 rfl⟩) (fun hHeld => ?_)
          clear hK K
          refine take_at (i := 9) (v := .tuple #[.int .i64 1, .int .i64 0]) (d := some 52) rfl rfl (by kernel_rfl) (by kernel_rfl) (by kernel_rfl) (fun _ _ _ h => h) (Or.inl ⟨by rfl, fun wS ⟨hS0, hS1, hS2, hS3, hS4, hS5, hS6⟩ => by go_simp; all_goals (rw [IntKind.wrap_i64]; omega)⟩) (by assumption) ?_
          simp only [Act.put, List.setIfInBounds_toArray, List.set_cons_zero, List.set_cons_succ]
          refine take_at (i := 10) (v := .int .i64 1) (d := some 62) rfl rfl (by kernel_rfl) (by kernel_rfl) (by kernel_rfl) (fun _ _ _ h => h) (Or.inl ⟨by rfl, fun wS ⟨hS0, hS1, hS2, hS3, hS4, hS5, hS6⟩ => by go_simp; all_goals (rw [IntKind.wrap_i64]; omega)⟩) (by assumption) ?_
          simp only [Act.put, List.setIfInBounds_toArray, List.set_cons_zero, List.set_cons_succ]
          refine take_at (i := 11) (v := .int .i64 0) (d := some 63) rfl rfl (by kernel_rfl) (by kernel_rfl) (by kernel_rfl) (fun _ _ _ h => h) (Or.inl ⟨by rfl, fun wS ⟨hS0, hS1, hS2, hS3, hS4, hS5, hS6⟩ => by go_simp; all_goals (rw [IntKind.wrap_i64]; omega)⟩) (by assumption) ?_
          simp only [Act.put, List.setIfInBounds_toArray, List.set_cons_zero, List.set_cons_succ]
          refine take_at (i := 12) (v := .int .i64 1) (d := some 9) rfl rfl (by kernel_rfl) (by kernel_rfl) (by kernel_rfl) (fun _ _ _ h => h) (Or.inl ⟨by rfl, fun wS ⟨hS0, hS1, hS2, hS3, hS4, hS5, hS6⟩ => by go_simp; all_goals (rw [IntKind.wrap_i64]; omega)⟩) (by assumption) ?_
          simp only [Act.put, List.setIfInBounds_toArray, List.set_cons_zero, List.set_cons_succ]
          refine take_at (i := 13) (v := .int .i64 0) (d := some 10) rfl rfl (by kernel_rfl) (by kernel_rfl) (by kernel_rfl) (fun _ _ _ h => h) (Or.inl ⟨by rfl, fun wS ⟨hS0, hS1, hS2, hS3, hS4, hS5, hS6⟩ => by go_simp; all_goals (rw [IntKind.wrap_i64]; omega)⟩) (by assumption) ?_
          simp only [Act.put, List.setIfInBounds_toArray, List.set_cons_zero, List.set_cons_succ]
          refine wpAnyH_done (by kernel_rfl) ?_ _
          clear hHeld
          replace B0 := B0.after hb3
          replace B2 := B2.after hb3
          replace hB := below_next hB (Nat.le_refl _) hb3
          clear hb3
          have k1 := B0.cell 1 rfl
          have k2 := B0.cell 2 rfl
          have k3 := B2.cell 2 rfl
          go_wp2_with fail
          refine (AW _).mono ?_
          rintro e w9 ⟨rfl, hb⟩
          replace B0 := B0.after hb
          replace B2 := B2.after hb
          replace hB := below_next hB (Nat.le_refl _) hb
          clear hb k1 k2 k3
          have k1 := B0.cell 1 rfl
          have k2 := B0.cell 2 rfl
          have k3 := B2.cell 2 rfl
          have d1 : decide (fl ≤ q2) = true := by simpa using HF.out
          have d2 : decide (q2 ≤ ce) = true := by simpa using HC.out
          go_wp2_with fail
          go_ret
          exact ⟨by first | rfl | exact ret_bool (by simp), hB⟩
        · have dz : (decide (z0 ≤ q2) && decide (q2 ≤ z1)) = false := by simpa using hz'
          rw [dz]
          clear hz' dz HM2
          go_wp2_with fail
          refine (AW _).mono ?_
          rintro e w9 ⟨rfl, hb⟩
          go_wp2_with fail
          go_ret
          exact ⟨rfl, below_next hB (Nat.le_refl _) hb⟩
      · have dy : (decide (y0 ≤ q1) && decide (q1 ≤ y1)) = false := by simpa using hy
        rw [dy]
        clear hy dy HM2
        go_wp2_with fail
        refine (AW _).mono ?_
        rintro e w9 ⟨rfl, hb⟩
        go_wp2_with fail
        go_ret
        exact ⟨rfl, below_next hB (Nat.le_refl _) hb⟩
    · have dx : (decide (x0 ≤ q0) && decide (q0 ≤ x1)) = false := by simpa using hx
      rw [dx]
      clear hx dx HM2
      go_wp2_with fail
      refine (AW _).mono ?_
      rintro e w9 ⟨rfl, hb⟩
      go_wp2_with fail
      go_ret
      exact ⟨rfl, below_next hB (Nat.le_refl _) hb⟩
  · have hI : I = false := by
      by_cases h0 : E = 0
      · cases I
        · rfl
        · exact absurd ⟨h0, rfl⟩ hE
      · exact HNO.out h0
    subst hI
    clear HNO HME hE
    by_cases h0 : E = 0
    · subst h0
      go_wp2_with fail
      refine (AW _).mono ?_
      rintro e w9 ⟨rfl, hb⟩
      go_wp2_with fail
      go_ret
      exact ⟨rfl, below_next hB (Nat.le_refl _) hb⟩
    · go_wp2_with fail
      all_goals refine (AW _).mono ?_
      all_goals rintro e w9 ⟨rfl, hb⟩
      all_goals go_wp2_with fail
      all_goals go_ret
      all_goals exact ⟨rfl, below_next hB (Nat.le_refl _) hb⟩
theorem FenceMeans_walk (v u : Value) (q0 q1 q2 : Int) (w : World) (h : FenIn w v) (hu : ∃ x y z : Pt, u = bV x y z) : Calls Try.prog 10 #[v, u, .agg #[.int .i64 q0, .int .i64 q1, .int .i64 q2]] w fun e w' => e = .returned (.bool true) ∧ Below w.heap.size w w' := by
  obtain ⟨x, y, z, rfl⟩ := hu
  exact means_core v x.1 x.2 y.1 y.2 z.1 z.2 q0 q1 q2 w h
end Go.Proofs.Ytnenbbkkhnlgbaa
