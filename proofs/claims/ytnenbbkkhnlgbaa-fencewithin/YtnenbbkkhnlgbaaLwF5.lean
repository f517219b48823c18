/- FenceWithin. -/
import Derived.Test.YtnenbbkkhnlgbaaLwF4
import Derived.Deep.DeepCutAuto
namespace Go.Proofs.Ytnenbbkkhnlgbaa
open Go.RowKit Go.Great

def btB (n : Int) (x : Pt) : Bool := decide (x.1 ≤ n) && decide (n ≤ x.2)
theorem bt_iff (n : Int) (x : Pt) : btB n x = true ↔ x.1 ≤ n ∧ n ≤ x.2 := by simp [btB]
theorem within_corner {P : List Pt} {fl ce : Int} {R : List Pt} {x y z : Pt} (h : holI P fl ce R x y z = true) {k : Nat} (hk : k < P.length) (h1 : btB (ptx P k) x = true) : btB (pty P k) y = false := by
  have := wi_corner hk (hol_yes h).2.2.2.2.2.2
  rw [bt_iff] at h1
  cases e : btB (pty P k) y with
  | false => rfl
  | true =>
    rw [bt_iff] at e
    have hin : inB x y (pt P k) = true := (in_iff _ _ _).2 ⟨h1.1, h1.2, e.1, e.2⟩
    rw [hin] at this
    cases this
set_option maxRecDepth 100000 in
set_option maxHeartbeats 8000000 in
theorem within_core (v : Value) (x0 x1 y0 y1 z0 z1 u0 u1 v0 v1 t0 t1 : Int) (w : World) (h : FenIn w v) : Calls Try.prog 11 #[v, .agg #[.int .i64 x0, .int .i64 x1, .int .i64 y0, .int .i64 y1, .int .i64 z0, .int .i64 z1], .agg #[.int .i64 u0, .int .i64 u1, .int .i64 v0, .int .i64 v1, .int .i64 t0, .int .i64 t1]] w fun e w' => e = .returned (.bool true) ∧ Below w.heap.size w w' := by
  obtain ⟨P, R, fl, ce, p, r, rfl, hp, hr⟩ := h
  have hP := long_ok hp
  have hR := long_ok hr
  have AW := awakeF_any
  have LE := fun W (hb : Below w.heap.size w W) => lentF_any P R fl ce p r W ⟨hp.1.below hb, hp.2⟩ ⟨hr.1.below hb, hr.2⟩
  have CB := fun W p' r' (h1 : Lnt W p' P) (h2 : Lnt W r' R) => holds_fn P R fl ce p' r' (x0, x1) (y0, y1) (z0, z1) W h1.pts h2.pts hP hR
  have CC := fun W p' r' (h1 : Lnt W p' P) (h2 : Lnt W r' R) => holds_fn P R fl ce p' r' (u0, u1) (v0, v1) (t0, t1) W h1.pts h2.pts hP hR
  have HN1' : Hid (holE P fl ce R (x0, x1) (y0, y1) (z0, z1) ≠ 0 → holI P fl ce R (x0, x1) (y0, y1) (z0, z1) = false) := hol_none
  have HN2' : Hid (holE P fl ce R (u0, u1) (v0, v1) (t0, t1) ≠ 0 → holI P fl ce R (u0, u1) (v0, v1) (t0, t1) = false) := hol_none
  have HL : Hid (holI P fl ce R (x0, x1) (y0, y1) (z0, z1) = true → P.length ≤ 64) := fun h => (sim_len (chk_ok (hol_yes h).1).1).2.1
  have HCO : Hid (holI P fl ce R (x0, x1) (y0, y1) (z0, z1) = true → ∀ k, k < P.length → btB (ptx P k) (x0, x1) = true → btB (pty P k) (y0, y1) = false) := fun h k hk => within_corner h hk
  have HWI : Hid (holI P fl ce R (x0, x1) (y0, y1) (z0, z1) = true → holE P fl ce R (u0, u1) (v0, v1) (t0, t1) = 0 → btB u0 (x0, x1) = true → btB u1 (x0, x1) = true → btB v0 (y0, y1) = true → btB v1 (y0, y1) = true → btB t0 (z0, z1) = true → btB t1 (z0, z1) = true → holI P fl ce R (u0, u1) (v0, v1) (t0, t1) = true) := by
    intro h e h1 h2 h3 h4 h5 h6
    rw [bt_iff] at h1 h2 h3 h4 h5 h6
    exact hol_within h e h1.1 h2.2 h3.1 h4.2 h5.1 h6.2
  have BX := fun n => between_any n (x0, x1)
  have BY := fun n => between_any n (y0, y1)
  have K0 : ∀ W, Calls Try.prog 38 #[.int .i64 u0, pV (x0, x1)] W fun e w' => e = .returned (.bool (btB u0 (x0, x1))) ∧ Below W.heap.size W w' := between_any u0 (x0, x1)
  have K1 : ∀ W, Calls Try.prog 38 #[.int .i64 u1, pV (x0, x1)] W fun e w' => e = .returned (.bool (btB u1 (x0, x1))) ∧ Below W.heap.size W w' := between_any u1 (x0, x1)
  have K2 : ∀ W, Calls Try.prog 38 #[.int .i64 v0, pV (y0, y1)] W fun e w' => e = .returned (.bool (btB v0 (y0, y1))) ∧ Below W.heap.size W w' := between_any v0 (y0, y1)
  have K3 : ∀ W, Calls Try.prog 38 #[.int .i64 v1, pV (y0, y1)] W fun e w' => e = .returned (.bool (btB v1 (y0, y1))) ∧ Below W.heap.size W w' := between_any v1 (y0, y1)
  have K4 : ∀ W, Calls Try.prog 38 #[.int .i64 t0, pV (z0, z1)] W fun e w' => e = .returned (.bool (btB t0 (z0, z1))) ∧ Below W.heap.size W w' := between_any t0 (z0, z1)
  have K5 : ∀ W, Calls Try.prog 38 #[.int .i64 t1, pV (z0, z1)] W fun e w' => e = .returned (.bool (btB t1 (z0, z1))) ∧ Below W.heap.size W w' := between_any t1 (z0, z1)
  replace BX : ∀ n W, Calls Try.prog 38 #[.int .i64 n, pV (x0, x1)] W fun e w' => e = .returned (.bool (btB n (x0, x1))) ∧ Below W.heap.size W w' := BX
  replace BY : ∀ n W, Calls Try.prog 38 #[.int .i64 n, pV (y0, y1)] W fun e w' => e = .returned (.bool (btB n (y0, y1))) ∧ Below W.heap.size W w' := BY
  obtain ⟨d0, hd0⟩ : ∃ d, btB u0 (x0, x1) = d := ⟨_, rfl⟩
  rw [hd0] at K0 HWI
  clear hd0
  obtain ⟨d1, hd1⟩ : ∃ d, btB u1 (x0, x1) = d := ⟨_, rfl⟩
  rw [hd1] at K1 HWI
  clear hd1
  obtain ⟨d2, hd2⟩ : ∃ d, btB v0 (y0, y1) = d := ⟨_, rfl⟩
  rw [hd2] at K2 HWI
  clear hd2
  obtain ⟨d3, hd3⟩ : ∃ d, btB v1 (y0, y1) = d := ⟨_, rfl⟩
  rw [hd3] at K3 HWI
  clear hd3
  obtain ⟨d4, hd4⟩ : ∃ d, btB t0 (z0, z1) = d := ⟨_, rfl⟩
  rw [hd4] at K4 HWI
  clear hd4
  obtain ⟨d5, hd5⟩ : ∃ d, btB t1 (z0, z1) = d := ⟨_, rfl⟩
  rw [hd5] at K5 HWI
  clear hd5
  generalize holI P fl ce R (x0, x1) (y0, y1) (z0, z1) = I at *
  generalize holE P fl ce R (x0, x1) (y0, y1) (z0, z1) = E at *
  generalize holI P fl ce R (u0, u1) (v0, v1) (t0, t1) = I' at *
  generalize holE P fl ce R (u0, u1) (v0, v1) (t0, t1) = E' at *
  obtain ⟨ap, cp, rfl, hcl⟩ := hp.1
  obtain ⟨ar, cr, rfl, hcl'⟩ := hr.1
  have HPT := hide hcl
  clear hcl hcl' hp hr hP hR
  generalize hn1 : P.length = n1 at *
  generalize hn2 : R.length = n2 at *
  have HN1 := hide hn1
  have HN2 := hide hn2
  clear hn1 hn2
  simp only [fV, bV, pV] at *
  go_enter Try.func11, Try.ntmps11
  go_wp2_with fail
  obtain ⟨W0, hW0, hB, B0, B1, B2, hz⟩ := three_boxes w #[.slice ap n1 cp, .int .i64 fl, .int .i64 ce, .slice ar n2 cr] #[.int .i64 x0, .int .i64 x1, .int .i64 y0, .int .i64 y1, .int .i64 z0, .int .i64 z1] #[.int .i64 u0, .int .i64 u1, .int .i64 v0, .int .i64 v1, .int .i64 t0, .int .i64 t1] 24 34 34
  rw [hW0]
  clear hW0 hz
  refine wp_region_held_drew (S := fun wx => wx.cell? ⟨w.heap.size, 0, none⟩ = some (.slice ap n1 cp) ∧ wx.cell? ⟨w.heap.size, 1, none⟩ = some (.int .i64 fl) ∧ wx.cell? ⟨w.heap.size, 2, none⟩ = some (.int .i64 ce) ∧ wx.cell? ⟨w.heap.size, 3, none⟩ = some (.slice ar n2 cr) ∧ wx.cell? ⟨w.heap.size + 1, 0, none⟩ = some (.int .i64 x0) ∧ wx.cell? ⟨w.heap.size + 1, 1, none⟩ = some (.int .i64 x1) ∧ wx.cell? ⟨w.heap.size + 1, 2, none⟩ = some (.int .i64 y0) ∧ wx.cell? ⟨w.heap.size + 1, 3, none⟩ = some (.int .i64 y1) ∧ wx.cell? ⟨w.heap.size + 1, 4, none⟩ = some (.int .i64 z0) ∧ wx.cell? ⟨w.heap.size + 1, 5, none⟩ = some (.int .i64 z1)) (by kernel_rfl) (by exact ⟨(B0).cell 0 rfl, (B0).cell 1 rfl, (B0).cell 2 rfl, (B0).cell 3 rfl, (B1).cell 0 rfl, (B1).cell 1 rfl, (B1).cell 2 rfl, (B1).cell 3 rfl, (B1).cell 4 rfl, (B1).cell 5 rfl⟩) (fun hHeld => ?_)
  refine take_at (i := 0) (v := .agg #[.slice ap n1 cp, .int .i64 fl, .int .i64 ce, .slice ar n2 cr]) (d := some 14) rfl rfl (by kernel_rfl) (by kernel_rfl) (by kernel_rfl) (fun _ _ _ h => h) (Or.inl ⟨by rfl, fun wS ⟨hS0, hS1, hS2, hS3, hS4, hS5, hS6, hS7, hS8, hS9⟩ => by go_simp; all_goals (rw [IntKind.wrap_i64]; omega)⟩) (by assumption) ?_
  simp only [Act.put, List.setIfInBounds_toArray, List.set_cons_zero, List.set_cons_succ]
  refine take_at (i := 2) (v := .agg #[.int .i64 x0, .int .i64 x1, .int .i64 y0, .int .i64 y1, .int .i64 z0, .int .i64 z1]) (d := some 16) rfl rfl (by kernel_rfl) (by kernel_rfl) (by kernel_rfl) (fun _ _ _ h => h) (Or.inl ⟨by rfl, fun wS ⟨hS0, hS1, hS2, hS3, hS4, hS5, hS6, hS7, hS8, hS9⟩ => by go_simp; all_goals (rw [IntKind.wrap_i64]; omega)⟩) (by assumption) ?_
  simp only [Act.put, List.setIfInBounds_toArray, List.set_cons_zero, List.set_cons_succ]
  refine wpAnyH_ready (rs := [1]) (by kernel_rfl) (by simp) ?_
  refine AllReadyH.cons rfl (fun K hK => ?_) AllReadyH.nil
  go_simp
  refine (LE _ (hB).drew).mono ?_
  rintro e a1 ⟨p', r', rfl, h1, h2, hb1⟩
  replace hb1 := below_undrew hb1
  obtain ⟨g1, c1, e1⟩ := h1.slice
  obtain ⟨g2, c2, e2⟩ := h2.slice
  rw [HN1.out] at e1
  rw [HN2.out] at e2
  subst e1 e2
  clear hHeld
  refine hK.out _ _ (⟨(B0.after hb1).cell 0 rfl, (B0.after hb1).cell 1 rfl, (B0.after hb1).cell 2 rfl, (B0.after hb1).cell 3 rfl, (B1.after hb1).cell 0 rfl, (B1.after hb1).cell 1 rfl, (B1.after hb1).cell 2 rfl, (B1.after hb1).cell 3 rfl, (B1.after hb1).cell 4 rfl, (B1.after hb1).cell 5 rfl⟩) (fun hHeld => ?_)
  clear hK K
  refine wpAnyH_ready (rs := [3]) (by kernel_rfl) (by simp) ?_
  refine AllReadyH.cons rfl (fun K hK => ?_) AllReadyH.nil
  go_simp
  refine (CB _ _ _ h1 h2).mono ?_
  rintro e a2 ⟨rfl, hb2⟩
  replace hb2 := below_next hb1 (Nat.le_refl _) hb2
  clear hHeld h1 h2 hb1
  refine hK.out _ _ (⟨(B0.after hb2).cell 0 rfl, (B0.after hb2).cell 1 rfl, (B0.after hb2).cell 2 rfl, (B0.after hb2).cell 3 rfl, (B1.after hb2).cell 0 rfl, (B1.after hb2).cell 1 rfl, (B1.after hb2).cell 2 rfl, (B1.after hb2).cell 3 rfl, (B1.after hb2).cell 4 rfl, (B1.after hb2).cell 5 rfl⟩) (fun hHeld => ?_)
  clear hK K
  refine take_at (i := 4) (v := .tuple #[.bool I, .int .i64 E]) (d := some 13) rfl rfl (by kernel_rfl) (by kernel_rfl) (by kernel_rfl) (fun _ _ _ h => h) (Or.inl ⟨by rfl, fun wS ⟨hS0, hS1, hS2, hS3, hS4, hS5, hS6, hS7, hS8, hS9⟩ => by go_simp; all_goals (rw [IntKind.wrap_i64]; omega)⟩) (by assumption) ?_
  simp only [Act.put, List.setIfInBounds_toArray, List.set_cons_zero, List.set_cons_succ]
  refine take_at (i := 5) (v := .bool I) (d := some 18) rfl rfl (by kernel_rfl) (by kernel_rfl) (by kernel_rfl) (fun _ _ _ h => h) (Or.inl ⟨by rfl, fun wS ⟨hS0, hS1, hS2, hS3, hS4, hS5, hS6, hS7, hS8, hS9⟩ => by go_simp; all_goals (rw [IntKind.wrap_i64]; omega)⟩) (by assumption) ?_
  simp only [Act.put, List.setIfInBounds_toArray, List.set_cons_zero, List.set_cons_succ]
  refine take_at (i := 6) (v := .int .i64 E) (d := some 19) rfl rfl (by kernel_rfl) (by kernel_rfl) (by kernel_rfl) (fun _ _ _ h => h) (Or.inl ⟨by rfl, fun wS ⟨hS0, hS1, hS2, hS3, hS4, hS5, hS6, hS7, hS8, hS9⟩ => by go_simp; all_goals (rw [IntKind.wrap_i64]; omega)⟩) (by assumption) ?_
  simp only [Act.put, List.setIfInBounds_toArray, List.set_cons_zero, List.set_cons_succ]
  refine take_at (i := 7) (v := .bool I) (d := some 7) rfl rfl (by kernel_rfl) (by kernel_rfl) (by kernel_rfl) (fun _ _ _ h => h) (Or.inl ⟨by rfl, fun wS ⟨hS0, hS1, hS2, hS3, hS4, hS5, hS6, hS7, hS8, hS9⟩ => by go_simp; all_goals (rw [IntKind.wrap_i64]; omega)⟩) (by assumption) ?_
  simp only [Act.put, List.setIfInBounds_toArray, List.set_cons_zero, List.set_cons_succ]
  refine take_at (i := 8) (v := .int .i64 E) (d := some 8) rfl rfl (by kernel_rfl) (by kernel_rfl) (by kernel_rfl) (fun _ _ _ h => h) (Or.inl ⟨by rfl, fun wS ⟨hS0, hS1, hS2, hS3, hS4, hS5, hS6, hS7, hS8, hS9⟩ => by go_simp; all_goals (rw [IntKind.wrap_i64]; omega)⟩) (by assumption) ?_
  simp only [Act.put, List.setIfInBounds_toArray, List.set_cons_zero, List.set_cons_succ]
  refine wpAnyH_done (by kernel_rfl) ?_ _
  clear hHeld
  replace B0 := B0.after hb2
  replace B1 := B1.after hb2
  replace B2 := B2.after hb2
  replace hB := below_next hB (Nat.le_refl _) hb2
  clear hb2
  go_wp2_with fail
  refine wp_region_held_drew (S := fun wx => wx.cell? ⟨w.heap.size, 0, none⟩ = some (.slice ap n1 cp) ∧ wx.cell? ⟨w.heap.size, 1, none⟩ = some (.int .i64 fl) ∧ wx.cell? ⟨w.heap.size, 2, none⟩ = some (.int .i64 ce) ∧ wx.cell? ⟨w.heap.size, 3, none⟩ = some (.slice ar n2 cr) ∧ wx.cell? ⟨w.heap.size + 1 + 1, 0, none⟩ = some (.int .i64 u0) ∧ wx.cell? ⟨w.heap.size + 1 + 1, 1, none⟩ = some (.int .i64 u1) ∧ wx.cell? ⟨w.heap.size + 1 + 1, 2, none⟩ = some (.int .i64 v0) ∧ wx.cell? ⟨w.heap.size + 1 + 1, 3, none⟩ = some (.int .i64 v1) ∧ wx.cell? ⟨w.heap.size + 1 + 1, 4, none⟩ = some (.int .i64 t0) ∧ wx.cell? ⟨w.heap.size + 1 + 1, 5, none⟩ = some (.int .i64 t1)) (by kernel_rfl) (by exact ⟨(B0).cell 0 rfl, (B0).cell 1 rfl, (B0).cell 2 rfl, (B0).cell 3 rfl, (B2).cell 0 rfl, (B2).cell 1 rfl, (B2).cell 2 rfl, (B2).cell 3 rfl, (B2).cell 4 rfl, (B2).cell 5 rfl⟩) (fun hHeld => ?_)
  refine take_at (i := 0) (v := .agg #[.slice ap n1 cp, .int .i64 fl, .int .i64 ce, .slice ar n2 cr]) (d := some 21) rfl rfl (by kernel_rfl) (by kernel_rfl) (by kernel_rfl) (fun _ _ _ h => h) (Or.inl ⟨by rfl, fun wS ⟨hS0, hS1, hS2, hS3, hS4, hS5, hS6, hS7, hS8, hS9⟩ => by go_simp; all_goals (rw [IntKind.wrap_i64]; omega)⟩) (by assumption) ?_
  simp only [Act.put, List.setIfInBounds_toArray, List.set_cons_zero, List.set_cons_succ]
  refine take_at (i := 2) (v := .agg #[.int .i64 u0, .int .i64 u1, .int .i64 v0, .int .i64 v1, .int .i64 t0, .int .i64 t1]) (d := some 23) rfl rfl (by kernel_rfl) (by kernel_rfl) (by kernel_rfl) (fun _ _ _ h => h) (Or.inl ⟨by rfl, fun wS ⟨hS0, hS1, hS2, hS3, hS4, hS5, hS6, hS7, hS8, hS9⟩ => by go_simp; all_goals (rw [IntKind.wrap_i64]; omega)⟩) (by assumption) ?_
  simp only [Act.put, List.setIfInBounds_toArray, List.set_cons_zero, List.set_cons_succ]
  refine wpAnyH_ready (rs := [1]) (by kernel_rfl) (by simp) ?_
  refine AllReadyH.cons rfl (fun K hK => ?_) AllReadyH.nil
  go_simp
  refine (LE _ (hB).drew).mono ?_
  rintro e b1 ⟨p', r', rfl, h1, h2, hb1⟩
  replace hb1 := below_undrew hb1
  obtain ⟨g1, c1, e1⟩ := h1.slice
  obtain ⟨g2, c2, e2⟩ := h2.slice
  rw [HN1.out] at e1
  rw [HN2.out] at e2
  subst e1 e2
  clear hHeld
  refine hK.out _ _ (⟨(B0.after hb1).cell 0 rfl, (B0.after hb1).cell 1 rfl, (B0.after hb1).cell 2 rfl, (B0.after hb1).cell 3 rfl, (B2.after hb1).cell 0 rfl, (B2.after hb1).cell 1 rfl, (B2.after hb1).cell 2 rfl, (B2.after hb1).cell 3 rfl, (B2.after hb1).cell 4 rfl, (B2.after hb1).cell 5 rfl⟩) (fun hHeld => ?_)
  clear hK K
  refine wpAnyH_ready (rs := [3]) (by kernel_rfl) (by simp) ?_
  refine AllReadyH.cons rfl (fun K hK => ?_) AllReadyH.nil
  go_simp
  refine (CC _ _ _ h1 h2).mono ?_
  rintro e b2 ⟨rfl, hb2⟩
  replace hb2 := below_next hb1 (Nat.le_refl _) hb2
  clear hHeld h1 h2 hb1
  refine hK.out _ _ (⟨(B0.after hb2).cell 0 rfl, (B0.after hb2).cell 1 rfl, (B0.after hb2).cell 2 rfl, (B0.after hb2).cell 3 rfl, (B2.after hb2).cell 0 rfl, (B2.after hb2).cell 1 rfl, (B2.after hb2).cell 2 rfl, (B2.after hb2).cell 3 rfl, (B2.after hb2).cell 4 rfl, (B2.after hb2).cell 5 rfl⟩) (fun hHeld => ?_)
  clear hK K
  refine take_at (i := 4) (v := .tuple #[.bool I', .int .i64 E']) (d := some 20) rfl rfl (by kernel_rfl) (by kernel_rfl) (by kernel_rfl) (fun _ _ _ h => h) (Or.inl ⟨by rfl, fun wS ⟨hS0, hS1, hS2, hS3, hS4, hS5, hS6, hS7, hS8, hS9⟩ => by go_simp; all_goals (rw [IntKind.wrap_i64]; omega)⟩) (by assumption) ?_
  simp only [Act.put, List.setIfInBounds_toArray, List.set_cons_zero, List.set_cons_succ]
  refine take_at (i := 5) (v := .bool I') (d := some 25) rfl rfl (by kernel_rfl) (by kernel_rfl) (by kernel_rfl) (fun _ _ _ h => h) (Or.inl ⟨by rfl, fun wS ⟨hS0, hS1, hS2, hS3, hS4, hS5, hS6, hS7, hS8, hS9⟩ => by go_simp; all_goals (rw [IntKind.wrap_i64]; omega)⟩) (by assumption) ?_
  simp only [Act.put, List.setIfInBounds_toArray, List.set_cons_zero, List.set_cons_succ]
  refine take_at (i := 6) (v := .int .i64 E') (d := some 26) rfl rfl (by kernel_rfl) (by kernel_rfl) (by kernel_rfl) (fun _ _ _ h => h) (Or.inl ⟨by rfl, fun wS ⟨hS0, hS1, hS2, hS3, hS4, hS5, hS6, hS7, hS8, hS9⟩ => by go_simp; all_goals (rw [IntKind.wrap_i64]; omega)⟩) (by assumption) ?_
  simp only [Act.put, List.setIfInBounds_toArray, List.set_cons_zero, List.set_cons_succ]
  refine take_at (i := 7) (v := .bool I') (d := some 9) rfl rfl (by kernel_rfl) (by kernel_rfl) (by kernel_rfl) (fun _ _ _ h => h) (Or.inl ⟨by rfl, fun wS ⟨hS0, hS1, hS2, hS3, hS4, hS5, hS6, hS7, hS8, hS9⟩ => by go_simp; all_goals (rw [IntKind.wrap_i64]; omega)⟩) (by assumption) ?_
  simp only [Act.put, List.setIfInBounds_toArray, List.set_cons_zero, List.set_cons_succ]
  refine take_at (i := 8) (v := .int .i64 E') (d := some 10) rfl rfl (by kernel_rfl) (by kernel_rfl) (by kernel_rfl) (fun _ _ _ h => h) (Or.inl ⟨by rfl, fun wS ⟨hS0, hS1, hS2, hS3, hS4, hS5, hS6, hS7, hS8, hS9⟩ => by go_simp; all_goals (rw [IntKind.wrap_i64]; omega)⟩) (by assumption) ?_
  simp only [Act.put, List.setIfInBounds_toArray, List.set_cons_zero, List.set_cons_succ]
  refine wpAnyH_done (by kernel_rfl) ?_ _
  clear hHeld
  replace B0 := B0.after hb2
  replace B1 := B1.after hb2
  replace B2 := B2.after hb2
  replace hB := below_next hB (Nat.le_refl _) hb2
  clear hb2
  clear CB CC LE
  by_cases hE : E = 0
  · subst hE
    by_cases hE' : E' = 0
    · subst hE'
      cases I
      · clear HN1' HN2' HCO HWI HL
        go_wp2_with fail
        refine (AW _).mono ?_
        rintro e w9 ⟨rfl, hb⟩
        go_wp2_with fail
        go_ret
        exact ⟨by first | rfl | exact ret_bool (by simp), below_next hB (Nat.le_refl _) hb⟩
      · have HCO2 := hide (HCO.out (by trivial))
        have HWI2 := hide (HWI.out (by trivial) (by trivial))
        have h64 := HL.out (by trivial)
        clear HN1' HN2' HCO HWI HL
        have j0 := B0.cell 0 rfl
        go_wp2_with fail
        go_loopw [11] (fun i wx => ∃ k : Nat, k ≤ n1 ∧ i = .int .i64 k ∧ Hid (Below w.heap.size w wx) ∧ Hid (Blk wx w.heap.size #[.slice ap n1 cp, .int .i64 fl, .int .i64 ce, .slice ar n2 cr] 24) ∧ Hid (Blk wx (w.heap.size + 1) #[.int .i64 x0, .int .i64 x1, .int .i64 y0, .int .i64 y1, .int .i64 z0, .int .i64 z1] 34) ∧ Hid (Blk wx (w.heap.size + 1 + 1) #[.int .i64 u0, .int .i64 u1, .int .i64 v0, .int .i64 v1, .int .i64 t0, .int .i64 t1] 34)) (fun i _ => n1 - (intOf i).toNat)
        case atStart => exact ⟨0, Nat.zero_le _, rfl, hide hB, hide B0, hide B1, hide B2⟩
        case round =>
          clear j0 hB B0 B1 B2
          obtain ⟨k, hk, rfl, hB, hB0, hB1, hB2⟩ := hrel
          have gb := hB.out.size
          have j0 := hB0.out.cell 0 rfl
          by_cases hlt : k < n1
          · obtain ⟨g, o, rfl, hg, hcc⟩ := HPT.out (by omega)
            obtain ⟨c0, c1⟩ := hcc k hlt
            have gw : g < wr.heap.size := by omega
            have p0 := fun z : BelowW wr => z.cell ((hB.out.cell (p := ⟨g, o + k * 2, none⟩) hg).trans c0) gw
            have p1 := fun z : BelowW wr => z.cell ((hB.out.cell (p := ⟨g, o + k * 2 + 1, none⟩) hg).trans c1) gw
            have a0 := hB0.out.at 0 rfl
            have b0 := hB1.out.at 0 rfl
            have b1 := hB1.out.at 1 rfl
            have b2' := hB1.out.at 2 rfl
            have b3' := hB1.out.at 3 rfl
            have M1 := fun z : BelowW wr => BX (P.getD k (0, 0)).1 z.q
            have M2 := fun z : BelowW wr => BY (P.getD k (0, 0)).2 z.q
            have HQ : Hid (btB (P.getD k (0, 0)).1 (x0, x1) = true → btB (P.getD k (0, 0)).2 (y0, y1) = false) := HCO2.out k hlt
            generalize (P.getD k (0, 0)).1 = px at *
            generalize (P.getD k (0, 0)).2 = py at *
            generalize btB px (x0, x1) = d1 at *
            generalize btB py (y0, y1) = d2 at *
            have hne : Nonempty (BelowW wr) := ⟨⟨wr, Below.refl _ _⟩⟩
            clear hcc c0 c1
            cases d1
            · go_wp2_with fail
              refine wp_region_calm (by kernel_rfl) (by kernel_rfl) ?_
              repeat (go_big_quiet_step (first | (go_at_call_of 38 (Value.int IntKind.i64 px); exact calm_of (M1 _)) | (go_at_call_of 38 (Value.int IntKind.i64 py); exact calm_of (M2 _))))
              refine wpQuiet_nil ?_
              rintro w6 ⟨⟨q3, hq⟩, e3⟩
              have e4 : w6 = q3 := e3
              clear e3
              subst e4
              clear p0 p1 a0 b0 b1 b2' b3' hne M1 M2
              go_wp2_with fail
              go_roundw
              case rel => exact ⟨k + 1, by omega, by go_num, hide (below_next hB.out (Nat.le_refl _) hq), hide (hB0.out.after hq), hide (hB1.out.after hq), hide (hB2.out.after hq)⟩
              case measure => simp [intOf]; omega
            · have hd2 : d2 = false := HQ.out (by trivial)
              subst hd2
              go_wp2_with fail
              refine wp_region_calm (by kernel_rfl) (by kernel_rfl) ?_
              repeat (go_big_quiet_step (first | (go_at_call_of 38 (Value.int IntKind.i64 px); exact calm_of (M1 _)) | (go_at_call_of 38 (Value.int IntKind.i64 py); exact calm_of (M2 _))))
              refine wpQuiet_nil ?_
              rintro w6 ⟨⟨q3, hq⟩, e3⟩
              have e4 : w6 = q3 := e3
              clear e3
              subst e4
              clear p0 p1 a0 b0 b1 b2' b3' hne M1 M2
              go_wp2_with fail
              go_roundw
              case rel => exact ⟨k + 1, by omega, by go_num, hide (below_next hB.out (Nat.le_refl _) hq), hide (hB0.out.after hq), hide (hB1.out.after hq), hide (hB2.out.after hq)⟩
              case measure => simp [intOf]; omega
          · replace hB := hB.out
            have B0 := hB0.out
            have B1 := hB1.out
            have B2 := hB2.out
            clear hB0 hB1 hB2
            go_upto_region 12 with fail
            go_cut [12] (fun x wx => ∃ b : Bool, x = .bool b ∧ Hid (b = true → I' = true) ∧ Hid (Below w.heap.size w wx))
            case first =>
              have r0 := B1.cell 0 rfl
              have r1 := B1.cell 1 rfl
              have r2 := B2.cell 0 rfl
              go_wp2_with fail
              refine (K0 _).mono ?_
              rintro e y0 ⟨rfl, hb⟩
              replace B1 := B1.after hb
              replace B2 := B2.after hb
              replace hB := below_next hB (Nat.le_refl _) hb
              clear hb r0 r1 r2 K0
              cases d0
              · go_wp2_with fail
                go_meet
                exact ⟨false, rfl, hide (fun h => by cases h), hide hB⟩
              · skip
                have r0 := B1.cell 0 rfl
                have r1 := B1.cell 1 rfl
                have r2 := B2.cell 1 rfl
                go_wp2_with fail
                refine (K1 _).mono ?_
                rintro e y1 ⟨rfl, hb⟩
                replace B1 := B1.after hb
                replace B2 := B2.after hb
                replace hB := below_next hB (Nat.le_refl _) hb
                clear hb r0 r1 r2 K1
                cases d1
                · go_wp2_with fail
                  go_meet
                  exact ⟨false, rfl, hide (fun h => by cases h), hide hB⟩
                · skip
                  have r0 := B1.cell 2 rfl
                  have r1 := B1.cell 3 rfl
                  have r2 := B2.cell 2 rfl
                  go_wp2_with fail
                  refine (K2 _).mono ?_
                  rintro e y2 ⟨rfl, hb⟩
                  replace B1 := B1.after hb
                  replace B2 := B2.after hb
                  replace hB := below_next hB (Nat.le_refl _) hb
                  clear hb r0 r1 r2 K2
                  cases d2
                  · go_wp2_with fail
                    go_meet
                    exact ⟨false, rfl, hide (fun h => by cases h), hide hB⟩
                  · skip
                    have r0 := B1.cell 2 rfl
                    have r1 := B1.cell 3 rfl
                    have r2 := B2.cell 3 rfl
                    go_wp2_with fail
                    refine (K3 _).mono ?_
                    rintro e y3 ⟨rfl, hb⟩
                    replace B1 := B1.after hb
                    replace B2 := B2.after hb
                    replace hB := below_next hB (Nat.le_refl _) hb
                    clear hb r0 r1 r2 K3
                    cases d3
                    · go_wp2_with fail
                      go_meet
                      exact ⟨false, rfl, hide (fun h => by cases h), hide hB⟩
                    · skip
                      have r0 := B1.cell 4 rfl
                      have r1 := B1.cell 5 rfl
                      have r2 := B2.cell 4 rfl
                      go_wp2_with fail
                      refine (K4 _).mono ?_
                      rintro e y4 ⟨rfl, hb⟩
                      replace B1 := B1.after hb
                      replace B2 := B2.after hb
                      replace hB := below_next hB (Nat.le_refl _) hb
                      clear hb r0 r1 r2 K4
                      cases d4
                      · go_wp2_with fail
                        go_meet
                        exact ⟨false, rfl, hide (fun h => by cases h), hide hB⟩
                      · skip
                        have r0 := B1.cell 4 rfl
                        have r1 := B1.cell 5 rfl
                        have r2 := B2.cell 5 rfl
                        go_wp2_with fail
                        refine (K5 _).mono ?_
                        rintro e y5 ⟨rfl, hb⟩
                        replace B1 := B1.after hb
                        replace B2 := B2.after hb
                        replace hB := below_next hB (Nat.le_refl _) hb
                        clear hb r0 r1 r2 K5
                        cases d5
                        · go_wp2_with fail
                          go_meet
                          exact ⟨false, rfl, hide (fun h => by cases h), hide hB⟩
                        · go_wp2_with fail
                          go_meet
                          exact ⟨true, rfl, hide (fun _ => HWI2.out (by trivial) (by trivial) (by trivial) (by trivial) (by trivial) (by trivial)), hide hB⟩
            case rest =>
              obtain ⟨b, rfl, HI, hBc⟩ := hcut
              cases b
              · go_wp2_with fail
                refine (AW _).mono ?_
                rintro e w9 ⟨rfl, hb⟩
                go_wp2_with fail
                go_ret
                exact ⟨by first | rfl | exact ret_bool (by simp), below_next hBc.out (Nat.le_refl _) hb⟩
              · have hI' : I' = true := HI.out (by trivial)
                subst hI'
                clear HI
                go_wp2_with fail
                refine (AW _).mono ?_
                rintro e w9 ⟨rfl, hb⟩
                go_wp2_with fail
                go_ret
                exact ⟨by first | rfl | exact ret_bool (by simp), below_next hBc.out (Nat.le_refl _) hb⟩
    · have hI' : I' = false := HN2'.out hE'
      subst hI'
      clear HN1' HN2' HCO HWI HL
      cases I
      · go_wp2_with fail
        refine (AW _).mono ?_
        rintro e w9 ⟨rfl, hb⟩
        go_wp2_with fail
        all_goals go_ret
        all_goals exact ⟨by first | rfl | exact ret_bool (by simp), below_next hB (Nat.le_refl _) hb⟩
      · go_wp2_with fail
        refine (AW _).mono ?_
        rintro e w9 ⟨rfl, hb⟩
        go_wp2_with fail
        all_goals go_ret
        all_goals exact ⟨by first | rfl | exact ret_bool (by simp), below_next hB (Nat.le_refl _) hb⟩
  · have hI : I = false := HN1'.out hE
    subst hI
    by_cases hE' : E' = 0
    · subst hE'
      clear HN1' HN2' HCO HWI HL
      cases I'
      · go_wp2_with fail
        refine (AW _).mono ?_
        rintro e w9 ⟨rfl, hb⟩
        go_wp2_with fail
        go_ret
        exact ⟨by first | rfl | exact ret_bool (by simp), below_next hB (Nat.le_refl _) hb⟩
      · go_wp2_with fail
        refine (AW _).mono ?_
        rintro e w9 ⟨rfl, hb⟩
        go_wp2_with fail
        go_ret
        exact ⟨by first | rfl | exact ret_bool (by simp), below_next hB (Nat.le_refl _) hb⟩
    · have hI' : I' = false := HN2'.out hE'
      subst hI'
      clear HN1' HN2' HCO HWI HL
      go_wp2_with fail
      refine (AW _).mono ?_
      rintro e w9 ⟨rfl, hb⟩
      go_wp2_with fail
      go_ret
      exact ⟨by first | rfl | exact ret_bool (by simp), below_next hB (Nat.le_refl _) hb⟩
theorem FenceWithin_walk (v b c : Value) (w : World) (h : FenIn w v) (hb : ∃ x y z : Pt, b = bV x y z) (hc : ∃ x y z : Pt, c = bV x y z) : Calls Try.prog 11 #[v, b, c] w fun e w' => e = .returned (.bool true) ∧ Below w.heap.size w w' := by
  obtain ⟨x, y, z, rfl⟩ := hb
  obtain ⟨x', y', z', rfl⟩ := hc
  exact within_core v x.1 x.2 y.1 y.2 z.1 z.2 x'.1 x'.2 y'.1 y'.2 z'.1 z'.2 w h
end Go.Proofs.Ytnenbbkkhnlgbaa
