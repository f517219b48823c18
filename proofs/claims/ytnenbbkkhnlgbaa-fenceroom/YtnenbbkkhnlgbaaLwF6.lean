/- FenceRoom. -/
import Derived.Test.YtnenbbkkhnlgbaaLwF4
import Derived.Deep.DeepCutAuto
namespace Go.Proofs.Ytnenbbkkhnlgbaa
open Go.RowKit Go.Great

theorem way_swap (P : List Pt) (fl ce : Int) (R : List Pt) (a b : Pt) (r : Int) : wayE P fl ce R [b, a] r = wayE P fl ce R [a, b] r := by
  unfold wayE
  simp only [List.all_cons, List.all_nil, Bool.and_true]
  rw [Bool.and_comm (fitB b)]
theorem lan_swap (P : List Pt) (fl ce : Int) (R : List Pt) (a b : Pt) (r : Int) : lanI P fl ce R b a r = lanI P fl ce R a b r := by
  unfold lanI
  rw [way_swap, la_swap]
theorem lan_yes {P : List Pt} {fl ce : Int} {R : List Pt} {a b : Pt} {r : Int} (h : lanI P fl ce R a b r = true) : wayE P fl ce R [a, b] r = 0 ∧ laB P a b r = true := by
  unfold lanI at h
  simpa using h
theorem lan_half {P : List Pt} {fl ce : Int} {R : List Pt} {a b : Pt} {r r' : Int} (h : lanI P fl ce R a b r = true) (h0 : 0 ≤ r') (h1 : r' ≤ r) : lanI P fl ce R a b r' = true ∧ wayE P fl ce R [a, b] r' = 0 := by
  obtain ⟨e, l⟩ := lan_yes h
  obtain ⟨c, f, _⟩ := way_ok e
  have e' : wayE P fl ce R [a, b] r' = 0 := by
    unfold wayE
    rw [if_pos c, if_pos f, if_neg (by omega)]
  refine ⟨?_, e'⟩
  unfold lanI
  rw [e', la_less (chk_ok c).1 h0 h1 l]
  rfl
theorem lan_point {P : List Pt} {fl ce : Int} {R : List Pt} {a b q : Pt} {r : Int} (h : lanI P fl ce R a b r = true) (hx : min a.1 b.1 - r ≤ q.1 ∧ q.1 ≤ max a.1 b.1 + r) (hy : min a.2 b.2 - r ≤ q.2 ∧ q.2 ≤ max a.2 b.2 + r) : sdI P q = 1 ∧ sdE P q = 0 := by
  obtain ⟨e, l⟩ := lan_yes h
  obtain ⟨c, f, _⟩ := way_ok e
  exact wi_point (chk_ok c).1 l ((in_iff _ _ _).2 ⟨hx.1, hx.2, hy.1, hy.2⟩)
theorem lan_bound {P : List Pt} {fl ce : Int} {R : List Pt} {a b : Pt} {r : Int} (h : lanI P fl ce R a b r = true) : Fit a ∧ Fit b ∧ 0 ≤ r ∧ r ≤ 536870912 := by
  obtain ⟨e, l⟩ := lan_yes h
  obtain ⟨c, f, r0⟩ := way_ok e
  obtain ⟨m1, m2, _⟩ := la_may l
  rw [mayB_iff] at m1 m2
  exact ⟨fit_of (List.all_eq_true.1 f a (by simp)), fit_of (List.all_eq_true.1 f b (by simp)), r0, by omega⟩
set_option maxRecDepth 100000 in
set_option maxHeartbeats 8000000 in
theorem room_core (v : Value) (a0 a1 b0 b1 rm q0 q1 : Int) (w : World) (h : FenIn w v) : Calls Try.prog 12 #[v, .agg #[.int .i64 a0, .int .i64 a1, .int .i64 b0, .int .i64 b1, .int .i64 rm], .agg #[.int .i64 q0, .int .i64 q1]] w fun e w' => e = .returned (.bool true) ∧ Below w.heap.size w w' := by
  obtain ⟨P, R, fl, ce, p, r, rfl, hp, hr⟩ := h
  have hP := long_ok hp
  have hR := long_ok hr
  have AW := awakeF_any
  have LE := fun W (hb : Below w.heap.size w W) => lentF_any P R fl ce p r W ⟨hp.1.below hb, hp.2⟩ ⟨hr.1.below hb, hr.2⟩
  have C1 := fun W p' r' (h1 : Lnt W p' P) (h2 : Lnt W r' R) => laneF_any P R fl ce p' r' (a0, a1) (b0, b1) rm W h1.pts h2.pts hP hR
  have C2 := fun W p' r' (h1 : Lnt W p' P) (h2 : Lnt W r' R) => laneF_any P R fl ce p' r' (b0, b1) (a0, a1) rm W h1.pts h2.pts hP hR
  have C3 := fun W p' r' (h1 : Lnt W p' P) (h2 : Lnt W r' R) => laneF_any P R fl ce p' r' (a0, a1) (b0, b1) (rm.tdiv 2) W h1.pts h2.pts hP hR
  rw [lan_swap, way_swap] at C2
  have SPR := fun W (hb : Below w.heap.size w W) => spare_any P p W ⟨hp.1.below hb, hp.2⟩
  have SI := fun W p' (h1 : Lnt W p' P) => callsIn_wide.1 (side_any P p' (q0, q1) W h1.pts hP)
  have HHA : Hid (lanI P fl ce R (a0, a1) (b0, b1) rm = true → lanI P fl ce R (a0, a1) (b0, b1) (rm.tdiv 2) = true ∧ wayE P fl ce R [(a0, a1), (b0, b1)] (rm.tdiv 2) = 0) := fun h => by
    have hb := (lan_bound h).2.2
    have e2 : rm.tdiv 2 = rm / 2 := Int.tdiv_eq_ediv_of_nonneg hb.1
    exact lan_half h (by omega) (by omega)
  have HPO : Hid (lanI P fl ce R (a0, a1) (b0, b1) rm = true → (min a0 b0 - rm ≤ q0 ∧ q0 ≤ max a0 b0 + rm) → (min a1 b1 - rm ≤ q1 ∧ q1 ≤ max a1 b1 + rm) → sdI P (q0, q1) = 1 ∧ sdE P (q0, q1) = 0) := fun h h1 h2 => lan_point h h1 h2
  have HBO : Hid (lanI P fl ce R (a0, a1) (b0, b1) rm = true → Fit (a0, a1) ∧ Fit (b0, b1) ∧ 0 ≤ rm ∧ rm ≤ 536870912) := lan_bound
  generalize lanI P fl ce R (a0, a1) (b0, b1) rm = I at *
  generalize wayE P fl ce R [(a0, a1), (b0, b1)] rm = E at *
  generalize lanI P fl ce R (a0, a1) (b0, b1) (rm.tdiv 2) = I3 at *
  generalize wayE P fl ce R [(a0, a1), (b0, b1)] (rm.tdiv 2) = E3 at *
  generalize sdI P (q0, q1) = S at *
  generalize sdE P (q0, q1) = SE at *
  obtain ⟨ap, cp, rfl, hcl⟩ := hp.1
  obtain ⟨ar, cr, rfl, hcl'⟩ := hr.1
  clear hcl hcl' hp hr hP hR
  generalize hn1 : P.length = n1 at *
  generalize hn2 : R.length = n2 at *
  have HN1 := hide hn1
  have HN2 := hide hn2
  clear hn1 hn2
  simp only [fV, pV] at *
  go_enter Try.func12, Try.ntmps12
  go_wp2_with fail
  obtain ⟨W0, hW0, hB, B0, B1, B2, hz⟩ := three_boxes w #[.slice ap n1 cp, .int .i64 fl, .int .i64 ce, .slice ar n2 cr] #[.int .i64 a0, .int .i64 a1, .int .i64 b0, .int .i64 b1, .int .i64 rm] #[.int .i64 q0, .int .i64 q1] 24 41 39
  rw [hW0]
  clear hW0 hz
  refine wp_region_held_drew (S := fun wx => wx.cell? ⟨w.heap.size, 0, none⟩ = some (.slice ap n1 cp) ∧ wx.cell? ⟨w.heap.size, 1, none⟩ = some (.int .i64 fl) ∧ wx.cell? ⟨w.heap.size, 2, none⟩ = some (.int .i64 ce) ∧ wx.cell? ⟨w.heap.size, 3, none⟩ = some (.slice ar n2 cr) ∧ wx.cell? ⟨w.heap.size + 1, 0, none⟩ = some (.int .i64 a0) ∧ wx.cell? ⟨w.heap.size + 1, 1, none⟩ = some (.int .i64 a1) ∧ wx.cell? ⟨w.heap.size + 1, 2, none⟩ = some (.int .i64 b0) ∧ wx.cell? ⟨w.heap.size + 1, 3, none⟩ = some (.int .i64 b1) ∧ wx.cell? ⟨w.heap.size + 1, 4, none⟩ = some (.int .i64 rm)) (by kernel_rfl) (by exact ⟨(B0).cell 0 rfl, (B0).cell 1 rfl, (B0).cell 2 rfl, (B0).cell 3 rfl, (B1).cell 0 rfl, (B1).cell 1 rfl, (B1).cell 2 rfl, (B1).cell 3 rfl, (B1).cell 4 rfl⟩) (fun hHeld => ?_)
  refine take_at (i := 0) (v := .agg #[.slice ap n1 cp, .int .i64 fl, .int .i64 ce, .slice ar n2 cr]) (d := some 18) rfl rfl (by kernel_rfl) (by kernel_rfl) (by kernel_rfl) (fun _ _ _ h => h) (Or.inl ⟨by rfl, fun wS ⟨hS0, hS1, hS2, hS3, hS4, hS5, hS6, hS7, hS8⟩ => by go_simp; all_goals (rw [IntKind.wrap_i64]; omega)⟩) (by assumption) ?_
  simp only [Act.put, List.setIfInBounds_toArray, List.set_cons_zero, List.set_cons_succ]
  refine take_at (i := 2) (v := .pointer (some ⟨w.heap.size + 1, 0, none⟩)) (d := some 20) rfl rfl (by kernel_rfl) (by kernel_rfl) (by kernel_rfl) (fun _ _ _ h => h) (Or.inl ⟨by rfl, fun wS ⟨hS0, hS1, hS2, hS3, hS4, hS5, hS6, hS7, hS8⟩ => by go_simp; all_goals (rw [IntKind.wrap_i64]; omega)⟩) (by assumption) ?_
  simp only [Act.put, List.setIfInBounds_toArray, List.set_cons_zero, List.set_cons_succ]
  refine take_at (i := 3) (v := .agg #[.int .i64 a0, .int .i64 a1]) (d := some 21) rfl rfl (by kernel_rfl) (by kernel_rfl) (by kernel_rfl) (fun _ _ _ h => h) (Or.inl ⟨by rfl, fun wS ⟨hS0, hS1, hS2, hS3, hS4, hS5, hS6, hS7, hS8⟩ => by go_simp; all_goals (rw [IntKind.wrap_i64]; omega)⟩) (by assumption) ?_
  simp only [Act.put, List.setIfInBounds_toArray, List.set_cons_zero, List.set_cons_succ]
  refine take_at (i := 4) (v := .pointer (some ⟨w.heap.size + 1, 2, none⟩)) (d := some 22) rfl rfl (by kernel_rfl) (by kernel_rfl) (by kernel_rfl) (fun _ _ _ h => h) (Or.inl ⟨by rfl, fun wS ⟨hS0, hS1, hS2, hS3, hS4, hS5, hS6, hS7, hS8⟩ => by go_simp; all_goals (rw [IntKind.wrap_i64]; omega)⟩) (by assumption) ?_
  simp only [Act.put, List.setIfInBounds_toArray, List.set_cons_zero, List.set_cons_succ]
  refine take_at (i := 5) (v := .agg #[.int .i64 b0, .int .i64 b1]) (d := some 23) rfl rfl (by kernel_rfl) (by kernel_rfl) (by kernel_rfl) (fun _ _ _ h => h) (Or.inl ⟨by rfl, fun wS ⟨hS0, hS1, hS2, hS3, hS4, hS5, hS6, hS7, hS8⟩ => by go_simp; all_goals (rw [IntKind.wrap_i64]; omega)⟩) (by assumption) ?_
  simp only [Act.put, List.setIfInBounds_toArray, List.set_cons_zero, List.set_cons_succ]
  refine take_at (i := 6) (v := .pointer (some ⟨w.heap.size + 1, 4, none⟩)) (d := some 24) rfl rfl (by kernel_rfl) (by kernel_rfl) (by kernel_rfl) (fun _ _ _ h => h) (Or.inl ⟨by rfl, fun wS ⟨hS0, hS1, hS2, hS3, hS4, hS5, hS6, hS7, hS8⟩ => by go_simp; all_goals (rw [IntKind.wrap_i64]; omega)⟩) (by assumption) ?_
  simp only [Act.put, List.setIfInBounds_toArray, List.set_cons_zero, List.set_cons_succ]
  refine take_at (i := 7) (v := .int .i64 rm) (d := some 25) rfl rfl (by kernel_rfl) (by kernel_rfl) (by kernel_rfl) (fun _ _ _ h => h) (Or.inl ⟨by rfl, fun wS ⟨hS0, hS1, hS2, hS3, hS4, hS5, hS6, hS7, hS8⟩ => by go_simp; all_goals (rw [IntKind.wrap_i64]; omega)⟩) (by assumption) ?_
  simp only [Act.put, List.setIfInBounds_toArray, List.set_cons_zero, List.set_cons_succ]
  refine wpAnyH_ready (rs := [1]) (by kernel_rfl) (by simp) ?_
  refine AllReadyH.cons rfl (fun K hK => ?_) AllReadyH.nil
  go_simp
  refine (LE _ (hB).drew).mono ?_
  rintro e wa1 ⟨p', r', rfl, h1, h2, hb1⟩
  replace hb1 := below_undrew hb1
  obtain ⟨g1, c1, e1⟩ := h1.slice
  obtain ⟨g2, c2, e2⟩ := h2.slice
  rw [HN1.out] at e1
  rw [HN2.out] at e2
  subst e1 e2
  clear hHeld
  refine hK.out _ _ (⟨(B0.after hb1).cell 0 rfl, (B0.after hb1).cell 1 rfl, (B0.after hb1).cell 2 rfl, (B0.after hb1).cell 3 rfl, (B1.after hb1).cell 0 rfl, (B1.after hb1).cell 1 rfl, (B1.after hb1).cell 2 rfl, (B1.after hb1).cell 3 rfl, (B1.after hb1).cell 4 rfl⟩) (fun hHeld => ?_)
  clear hK K
  refine wpAnyH_ready (rs := [8]) (by kernel_rfl) (by simp) ?_
  refine AllReadyH.cons rfl (fun K hK => ?_) AllReadyH.nil
  go_simp
  refine (C1 _ _ _ h1 h2).mono ?_
  rintro e wa2 ⟨rfl, hb2⟩
  replace hb2 := below_next hb1 (Nat.le_refl _) hb2
  clear hHeld h1 h2 hb1
  refine hK.out _ _ (⟨(B0.after hb2).cell 0 rfl, (B0.after hb2).cell 1 rfl, (B0.after hb2).cell 2 rfl, (B0.after hb2).cell 3 rfl, (B1.after hb2).cell 0 rfl, (B1.after hb2).cell 1 rfl, (B1.after hb2).cell 2 rfl, (B1.after hb2).cell 3 rfl, (B1.after hb2).cell 4 rfl⟩) (fun hHeld => ?_)
  clear hK K
  refine take_at (i := 9) (v := .tuple #[.bool I, .int .i64 E]) (d := some 17) rfl rfl (by kernel_rfl) (by kernel_rfl) (by kernel_rfl) (fun _ _ _ h => h) (Or.inl ⟨by rfl, fun wS ⟨hS0, hS1, hS2, hS3, hS4, hS5, hS6, hS7, hS8⟩ => by go_simp; all_goals (rw [IntKind.wrap_i64]; omega)⟩) (by assumption) ?_
  simp only [Act.put, List.setIfInBounds_toArray, List.set_cons_zero, List.set_cons_succ]
  refine take_at (i := 10) (v := .bool I) (d := some 27) rfl rfl (by kernel_rfl) (by kernel_rfl) (by kernel_rfl) (fun _ _ _ h => h) (Or.inl ⟨by rfl, fun wS ⟨hS0, hS1, hS2, hS3, hS4, hS5, hS6, hS7, hS8⟩ => by go_simp; all_goals (rw [IntKind.wrap_i64]; omega)⟩) (by assumption) ?_
  simp only [Act.put, List.setIfInBounds_toArray, List.set_cons_zero, List.set_cons_succ]
  refine take_at (i := 11) (v := .int .i64 E) (d := some 28) rfl rfl (by kernel_rfl) (by kernel_rfl) (by kernel_rfl) (fun _ _ _ h => h) (Or.inl ⟨by rfl, fun wS ⟨hS0, hS1, hS2, hS3, hS4, hS5, hS6, hS7, hS8⟩ => by go_simp; all_goals (rw [IntKind.wrap_i64]; omega)⟩) (by assumption) ?_
  simp only [Act.put, List.setIfInBounds_toArray, List.set_cons_zero, List.set_cons_succ]
  refine take_at (i := 12) (v := .bool I) (d := some 7) rfl rfl (by kernel_rfl) (by kernel_rfl) (by kernel_rfl) (fun _ _ _ h => h) (Or.inl ⟨by rfl, fun wS ⟨hS0, hS1, hS2, hS3, hS4, hS5, hS6, hS7, hS8⟩ => by go_simp; all_goals (rw [IntKind.wrap_i64]; omega)⟩) (by assumption) ?_
  simp only [Act.put, List.setIfInBounds_toArray, List.set_cons_zero, List.set_cons_succ]
  refine take_at (i := 13) (v := .int .i64 E) (d := some 8) rfl rfl (by kernel_rfl) (by kernel_rfl) (by kernel_rfl) (fun _ _ _ h => h) (Or.inl ⟨by rfl, fun wS ⟨hS0, hS1, hS2, hS3, hS4, hS5, hS6, hS7, hS8⟩ => by go_simp; all_goals (rw [IntKind.wrap_i64]; omega)⟩) (by assumption) ?_
  simp only [Act.put, List.setIfInBounds_toArray, List.set_cons_zero, List.set_cons_succ]
  refine wpAnyH_done (by kernel_rfl) ?_ _
  clear hHeld
  replace B0 := B0.after hb2
  replace B1 := B1.after hb2
  replace B2 := B2.after hb2
  replace hB := below_next hB (Nat.le_refl _) hb2
  clear hb2
  go_wp2_with fail
  refine wp_region_held_drew (S := fun wx => wx.cell? ⟨w.heap.size, 0, none⟩ = some (.slice ap n1 cp) ∧ wx.cell? ⟨w.heap.size, 1, none⟩ = some (.int .i64 fl) ∧ wx.cell? ⟨w.heap.size, 2, none⟩ = some (.int .i64 ce) ∧ wx.cell? ⟨w.heap.size, 3, none⟩ = some (.slice ar n2 cr) ∧ wx.cell? ⟨w.heap.size + 1, 0, none⟩ = some (.int .i64 a0) ∧ wx.cell? ⟨w.heap.size + 1, 1, none⟩ = some (.int .i64 a1) ∧ wx.cell? ⟨w.heap.size + 1, 2, none⟩ = some (.int .i64 b0) ∧ wx.cell? ⟨w.heap.size + 1, 3, none⟩ = some (.int .i64 b1) ∧ wx.cell? ⟨w.heap.size + 1, 4, none⟩ = some (.int .i64 rm)) (by kernel_rfl) (by exact ⟨(B0).cell 0 rfl, (B0).cell 1 rfl, (B0).cell 2 rfl, (B0).cell 3 rfl, (B1).cell 0 rfl, (B1).cell 1 rfl, (B1).cell 2 rfl, (B1).cell 3 rfl, (B1).cell 4 rfl⟩) (fun hHeld => ?_)
  refine take_at (i := 0) (v := .agg #[.slice ap n1 cp, .int .i64 fl, .int .i64 ce, .slice ar n2 cr]) (d := some 30) rfl rfl (by kernel_rfl) (by kernel_rfl) (by kernel_rfl) (fun _ _ _ h => h) (Or.inl ⟨by rfl, fun wS ⟨hS0, hS1, hS2, hS3, hS4, hS5, hS6, hS7, hS8⟩ => by go_simp; all_goals (rw [IntKind.wrap_i64]; omega)⟩) (by assumption) ?_
  simp only [Act.put, List.setIfInBounds_toArray, List.set_cons_zero, List.set_cons_succ]
  refine take_at (i := 2) (v := .pointer (some ⟨w.heap.size + 1, 2, none⟩)) (d := some 32) rfl rfl (by kernel_rfl) (by kernel_rfl) (by kernel_rfl) (fun _ _ _ h => h) (Or.inl ⟨by rfl, fun wS ⟨hS0, hS1, hS2, hS3, hS4, hS5, hS6, hS7, hS8⟩ => by go_simp; all_goals (rw [IntKind.wrap_i64]; omega)⟩) (by assumption) ?_
  simp only [Act.put, List.setIfInBounds_toArray, List.set_cons_zero, List.set_cons_succ]
  refine take_at (i := 3) (v := .agg #[.int .i64 b0, .int .i64 b1]) (d := some 33) rfl rfl (by kernel_rfl) (by kernel_rfl) (by kernel_rfl) (fun _ _ _ h => h) (Or.inl ⟨by rfl, fun wS ⟨hS0, hS1, hS2, hS3, hS4, hS5, hS6, hS7, hS8⟩ => by go_simp; all_goals (rw [IntKind.wrap_i64]; omega)⟩) (by assumption) ?_
  simp only [Act.put, List.setIfInBounds_toArray, List.set_cons_zero, List.set_cons_succ]
  refine take_at (i := 4) (v := .pointer (some ⟨w.heap.size + 1, 0, none⟩)) (d := some 34) rfl rfl (by kernel_rfl) (by kernel_rfl) (by kernel_rfl) (fun _ _ _ h => h) (Or.inl ⟨by rfl, fun wS ⟨hS0, hS1, hS2, hS3, hS4, hS5, hS6, hS7, hS8⟩ => by go_simp; all_goals (rw [IntKind.wrap_i64]; omega)⟩) (by assumption) ?_
  simp only [Act.put, List.setIfInBounds_toArray, List.set_cons_zero, List.set_cons_succ]
  refine take_at (i := 5) (v := .agg #[.int .i64 a0, .int .i64 a1]) (d := some 35) rfl rfl (by kernel_rfl) (by kernel_rfl) (by kernel_rfl) (fun _ _ _ h => h) (Or.inl ⟨by rfl, fun wS ⟨hS0, hS1, hS2, hS3, hS4, hS5, hS6, hS7, hS8⟩ => by go_simp; all_goals (rw [IntKind.wrap_i64]; omega)⟩) (by assumption) ?_
  simp only [Act.put, List.setIfInBounds_toArray, List.set_cons_zero, List.set_cons_succ]
  refine take_at (i := 6) (v := .pointer (some ⟨w.heap.size + 1, 4, none⟩)) (d := some 36) rfl rfl (by kernel_rfl) (by kernel_rfl) (by kernel_rfl) (fun _ _ _ h => h) (Or.inl ⟨by rfl, fun wS ⟨hS0, hS1, hS2, hS3, hS4, hS5, hS6, hS7, hS8⟩ => by go_simp; all_goals (rw [IntKind.wrap_i64]; omega)⟩) (by assumption) ?_
  simp only [Act.put, List.setIfInBounds_toArray, List.set_cons_zero, List.set_cons_succ]
  refine take_at (i := 7) (v := .int .i64 rm) (d := some 37) rfl rfl (by kernel_rfl) (by kernel_rfl) (by kernel_rfl) (fun _ _ _ h => h) (Or.inl ⟨by rfl, fun wS ⟨hS0, hS1, hS2, hS3, hS4, hS5, hS6, hS7, hS8⟩ => by go_simp; all_goals (rw [IntKind.wrap_i64]; omega)⟩) (by assumption) ?_
  simp only [Act.put, List.setIfInBounds_toArray, List.set_cons_zero, List.set_cons_succ]
  refine wpAnyH_ready (rs := [1]) (by kernel_rfl) (by simp) ?_
  refine AllReadyH.cons rfl (fun K hK => ?_) AllReadyH.nil
  go_simp
  refine (LE _ (hB).drew).mono ?_
  rintro e wb1 ⟨p', r', rfl, h1, h2, hb1⟩
  replace hb1 := below_undrew hb1
  obtain ⟨g1, c1, e1⟩ := h1.slice
  obtain ⟨g2, c2, e2⟩ := h2.slice
  rw [HN1.out] at e1
  rw [HN2.out] at e2
  subst e1 e2
  clear hHeld
  refine hK.out _ _ (⟨(B0.after hb1).cell 0 rfl, (B0.after hb1).cell 1 rfl, (B0.after hb1).cell 2 rfl, (B0.after hb1).cell 3 rfl, (B1.after hb1).cell 0 rfl, (B1.after hb1).cell 1 rfl, (B1.after hb1).cell 2 rfl, (B1.after hb1).cell 3 rfl, (B1.after hb1).cell 4 rfl⟩) (fun hHeld => ?_)
  clear hK K
  refine wpAnyH_ready (rs := [8]) (by kernel_rfl) (by simp) ?_
  refine AllReadyH.cons rfl (fun K hK => ?_) AllReadyH.nil
  go_simp
  refine (C2 _ _ _ h1 h2).mono ?_
  rintro e wb2 ⟨rfl, hb2⟩
  replace hb2 := below_next hb1 (Nat.le_refl _) hb2
  clear hHeld h1 h2 hb1
  refine hK.out _ _ (⟨(B0.after hb2).cell 0 rfl, (B0.after hb2).cell 1 rfl, (B0.after hb2).cell 2 rfl, (B0.after hb2).cell 3 rfl, (B1.after hb2).cell 0 rfl, (B1.after hb2).cell 1 rfl, (B1.after hb2).cell 2 rfl, (B1.after hb2).cell 3 rfl, (B1.after hb2).cell 4 rfl⟩) (fun hHeld => ?_)
  clear hK K
  refine take_at (i := 9) (v := .tuple #[.bool I, .int .i64 E]) (d := some 29) rfl rfl (by kernel_rfl) (by kernel_rfl) (by kernel_rfl) (fun _ _ _ h => h) (Or.inl ⟨by rfl, fun wS ⟨hS0, hS1, hS2, hS3, hS4, hS5, hS6, hS7, hS8⟩ => by go_simp; all_goals (rw [IntKind.wrap_i64]; omega)⟩) (by assumption) ?_
  simp only [Act.put, List.setIfInBounds_toArray, List.set_cons_zero, List.set_cons_succ]
  refine take_at (i := 10) (v := .bool I) (d := some 39) rfl rfl (by kernel_rfl) (by kernel_rfl) (by kernel_rfl) (fun _ _ _ h => h) (Or.inl ⟨by rfl, fun wS ⟨hS0, hS1, hS2, hS3, hS4, hS5, hS6, hS7, hS8⟩ => by go_simp; all_goals (rw [IntKind.wrap_i64]; omega)⟩) (by assumption) ?_
  simp only [Act.put, List.setIfInBounds_toArray, List.set_cons_zero, List.set_cons_succ]
  refine take_at (i := 11) (v := .int .i64 E) (d := some 40) rfl rfl (by kernel_rfl) (by kernel_rfl) (by kernel_rfl) (fun _ _ _ h => h) (Or.inl ⟨by rfl, fun wS ⟨hS0, hS1, hS2, hS3, hS4, hS5, hS6, hS7, hS8⟩ => by go_simp; all_goals (rw [IntKind.wrap_i64]; omega)⟩) (by assumption) ?_
  simp only [Act.put, List.setIfInBounds_toArray, List.set_cons_zero, List.set_cons_succ]
  refine take_at (i := 12) (v := .bool I) (d := some 9) rfl rfl (by kernel_rfl) (by kernel_rfl) (by kernel_rfl) (fun _ _ _ h => h) (Or.inl ⟨by rfl, fun wS ⟨hS0, hS1, hS2, hS3, hS4, hS5, hS6, hS7, hS8⟩ => by go_simp; all_goals (rw [IntKind.wrap_i64]; omega)⟩) (by assumption) ?_
  simp only [Act.put, List.setIfInBounds_toArray, List.set_cons_zero, List.set_cons_succ]
  refine take_at (i := 13) (v := .int .i64 E) (d := some 10) rfl rfl (by kernel_rfl) (by kernel_rfl) (by kernel_rfl) (fun _ _ _ h => h) (Or.inl ⟨by rfl, fun wS ⟨hS0, hS1, hS2, hS3, hS4, hS5, hS6, hS7, hS8⟩ => by go_simp; all_goals (rw [IntKind.wrap_i64]; omega)⟩) (by assumption) ?_
  simp only [Act.put, List.setIfInBounds_toArray, List.set_cons_zero, List.set_cons_succ]
  refine wpAnyH_done (by kernel_rfl) ?_ _
  clear hHeld
  replace B0 := B0.after hb2
  replace B1 := B1.after hb2
  replace B2 := B2.after hb2
  replace hB := below_next hB (Nat.le_refl _) hb2
  clear hb2
  clear C1 C2
  have hEE : (E != E) = false := by simp
  have hII : (I != I) = false := by simp
  by_cases hE : E = 0
  · subst hE
    cases I
    · clear HHA HPO HBO C3
      go_wp2_with fail
      refine (AW _).mono ?_
      rintro e w9 ⟨rfl, hb⟩
      go_wp2_with fail
      go_ret
      exact ⟨by first | rfl | exact ret_bool (by simp), below_next hB (Nat.le_refl _) hb⟩
    · obtain ⟨rfl, rfl⟩ := HHA.out (by trivial)
      obtain ⟨⟨f1, f2, f3, f4⟩, ⟨f5, f6, f7, f8⟩, r0, r1⟩ := HBO.out (by trivial)
      have HPO2 := hide (HPO.out (by trivial))
      simp only at f1 f2 f3 f4 f5 f6 f7 f8
      have ht : 0 ≤ rm.tdiv 2 ∧ rm.tdiv 2 ≤ rm := by
        have e2 : rm.tdiv 2 = rm / 2 := Int.tdiv_eq_ediv_of_nonneg r0
        omega
      clear HHA HBO HPO
      go_wp2_with fail
      refine wp_region_held_drew (S := fun wx => wx.cell? ⟨w.heap.size, 0, none⟩ = some (.slice ap n1 cp) ∧ wx.cell? ⟨w.heap.size, 1, none⟩ = some (.int .i64 fl) ∧ wx.cell? ⟨w.heap.size, 2, none⟩ = some (.int .i64 ce) ∧ wx.cell? ⟨w.heap.size, 3, none⟩ = some (.slice ar n2 cr) ∧ wx.cell? ⟨w.heap.size + 1, 0, none⟩ = some (.int .i64 a0) ∧ wx.cell? ⟨w.heap.size + 1, 1, none⟩ = some (.int .i64 a1) ∧ wx.cell? ⟨w.heap.size + 1, 2, none⟩ = some (.int .i64 b0) ∧ wx.cell? ⟨w.heap.size + 1, 3, none⟩ = some (.int .i64 b1) ∧ wx.cell? ⟨w.heap.size + 1, 4, none⟩ = some (.int .i64 rm)) (by kernel_rfl) (by exact ⟨(B0).cell 0 rfl, (B0).cell 1 rfl, (B0).cell 2 rfl, (B0).cell 3 rfl, (B1).cell 0 rfl, (B1).cell 1 rfl, (B1).cell 2 rfl, (B1).cell 3 rfl, (B1).cell 4 rfl⟩) (fun hHeld => ?_)
      refine take_at (i := 0) (v := .agg #[.slice ap n1 cp, .int .i64 fl, .int .i64 ce, .slice ar n2 cr]) (d := some 57) rfl rfl (by kernel_rfl) (by kernel_rfl) (by kernel_rfl) (fun _ _ _ h => h) (Or.inl ⟨by rfl, fun wS ⟨hS0, hS1, hS2, hS3, hS4, hS5, hS6, hS7, hS8⟩ => by go_simp; all_goals (rw [IntKind.wrap_i64]; omega)⟩) (by assumption) ?_
      simp only [Act.put, List.setIfInBounds_toArray, List.set_cons_zero, List.set_cons_succ]
      refine take_at (i := 2) (v := .pointer (some ⟨w.heap.size + 1, 0, none⟩)) (d := some 59) rfl rfl (by kernel_rfl) (by kernel_rfl) (by kernel_rfl) (fun _ _ _ h => h) (Or.inl ⟨by rfl, fun wS ⟨hS0, hS1, hS2, hS3, hS4, hS5, hS6, hS7, hS8⟩ => by go_simp; all_goals (rw [IntKind.wrap_i64]; omega)⟩) (by assumption) ?_
      simp only [Act.put, List.setIfInBounds_toArray, List.set_cons_zero, List.set_cons_succ]
      refine take_at (i := 3) (v := .agg #[.int .i64 a0, .int .i64 a1]) (d := some 60) rfl rfl (by kernel_rfl) (by kernel_rfl) (by kernel_rfl) (fun _ _ _ h => h) (Or.inl ⟨by rfl, fun wS ⟨hS0, hS1, hS2, hS3, hS4, hS5, hS6, hS7, hS8⟩ => by go_simp; all_goals (rw [IntKind.wrap_i64]; omega)⟩) (by assumption) ?_
      simp only [Act.put, List.setIfInBounds_toArray, List.set_cons_zero, List.set_cons_succ]
      refine take_at (i := 4) (v := .pointer (some ⟨w.heap.size + 1, 2, none⟩)) (d := some 61) rfl rfl (by kernel_rfl) (by kernel_rfl) (by kernel_rfl) (fun _ _ _ h => h) (Or.inl ⟨by rfl, fun wS ⟨hS0, hS1, hS2, hS3, hS4, hS5, hS6, hS7, hS8⟩ => by go_simp; all_goals (rw [IntKind.wrap_i64]; omega)⟩) (by assumption) ?_
      simp only [Act.put, List.setIfInBounds_toArray, List.set_cons_zero, List.set_cons_succ]
      refine take_at (i := 5) (v := .agg #[.int .i64 b0, .int .i64 b1]) (d := some 62) rfl rfl (by kernel_rfl) (by kernel_rfl) (by kernel_rfl) (fun _ _ _ h => h) (Or.inl ⟨by rfl, fun wS ⟨hS0, hS1, hS2, hS3, hS4, hS5, hS6, hS7, hS8⟩ => by go_simp; all_goals (rw [IntKind.wrap_i64]; omega)⟩) (by assumption) ?_
      simp only [Act.put, List.setIfInBounds_toArray, List.set_cons_zero, List.set_cons_succ]
      refine take_at (i := 6) (v := .pointer (some ⟨w.heap.size + 1, 4, none⟩)) (d := some 63) rfl rfl (by kernel_rfl) (by kernel_rfl) (by kernel_rfl) (fun _ _ _ h => h) (Or.inl ⟨by rfl, fun wS ⟨hS0, hS1, hS2, hS3, hS4, hS5, hS6, hS7, hS8⟩ => by go_simp; all_goals (rw [IntKind.wrap_i64]; omega)⟩) (by assumption) ?_
      simp only [Act.put, List.setIfInBounds_toArray, List.set_cons_zero, List.set_cons_succ]
      refine take_at (i := 7) (v := .int .i64 rm) (d := some 64) rfl rfl (by kernel_rfl) (by kernel_rfl) (by kernel_rfl) (fun _ _ _ h => h) (Or.inl ⟨by rfl, fun wS ⟨hS0, hS1, hS2, hS3, hS4, hS5, hS6, hS7, hS8⟩ => by go_simp; all_goals (rw [IntKind.wrap_i64]; omega)⟩) (by assumption) ?_
      simp only [Act.put, List.setIfInBounds_toArray, List.set_cons_zero, List.set_cons_succ]
      refine take_at (i := 8) (v := .int .i64 (rm.tdiv 2)) (d := some 65) rfl rfl (by kernel_rfl) (by kernel_rfl) (by kernel_rfl) (fun _ _ _ h => h) (Or.inl ⟨by rfl, fun wS ⟨hS0, hS1, hS2, hS3, hS4, hS5, hS6, hS7, hS8⟩ => by go_simp; all_goals (rw [IntKind.wrap_i64]; omega)⟩) (by assumption) ?_
      simp only [Act.put, List.setIfInBounds_toArray, List.set_cons_zero, List.set_cons_succ]
      refine wpAnyH_ready (rs := [1]) (by kernel_rfl) (by simp) ?_
      refine AllReadyH.cons rfl (fun K hK => ?_) AllReadyH.nil
      go_simp
      refine (LE _ (hB).drew).mono ?_
      rintro e wd1 ⟨p', r', rfl, h1, h2, hb1⟩
      replace hb1 := below_undrew hb1
      obtain ⟨g1, c1, e1⟩ := h1.slice
      obtain ⟨g2, c2, e2⟩ := h2.slice
      rw [HN1.out] at e1
      rw [HN2.out] at e2
      subst e1 e2
      clear hHeld
      refine hK.out _ _ (⟨(B0.after hb1).cell 0 rfl, (B0.after hb1).cell 1 rfl, (B0.after hb1).cell 2 rfl, (B0.after hb1).cell 3 rfl, (B1.after hb1).cell 0 rfl, (B1.after hb1).cell 1 rfl, (B1.after hb1).cell 2 rfl, (B1.after hb1).cell 3 rfl, (B1.after hb1).cell 4 rfl⟩) (fun hHeld => ?_)
      clear hK K
      refine wpAnyH_ready (rs := [9]) (by kernel_rfl) (by simp) ?_
      refine AllReadyH.cons rfl (fun K hK => ?_) AllReadyH.nil
      go_simp
      refine (C3 _ _ _ h1 h2).mono ?_
      rintro e wd2 ⟨rfl, hb2⟩
      replace hb2 := below_next hb1 (Nat.le_refl _) hb2
      clear hHeld h1 h2 hb1
      refine hK.out _ _ (⟨(B0.after hb2).cell 0 rfl, (B0.after hb2).cell 1 rfl, (B0.after hb2).cell 2 rfl, (B0.after hb2).cell 3 rfl, (B1.after hb2).cell 0 rfl, (B1.after hb2).cell 1 rfl, (B1.after hb2).cell 2 rfl, (B1.after hb2).cell 3 rfl, (B1.after hb2).cell 4 rfl⟩) (fun hHeld => ?_)
      clear hK K
      refine take_at (i := 10) (v := .tuple #[.bool true, .int .i64 0]) (d := some 56) rfl rfl (by kernel_rfl) (by kernel_rfl) (by kernel_rfl) (fun _ _ _ h => h) (Or.inl ⟨by rfl, fun wS ⟨hS0, hS1, hS2, hS3, hS4, hS5, hS6, hS7, hS8⟩ => by go_simp; all_goals (rw [IntKind.wrap_i64]; omega)⟩) (by assumption) ?_
      simp only [Act.put, List.setIfInBounds_toArray, List.set_cons_zero, List.set_cons_succ]
      refine take_at (i := 11) (v := .bool true) (d := some 67) rfl rfl (by kernel_rfl) (by kernel_rfl) (by kernel_rfl) (fun _ _ _ h => h) (Or.inl ⟨by rfl, fun wS ⟨hS0, hS1, hS2, hS3, hS4, hS5, hS6, hS7, hS8⟩ => by go_simp; all_goals (rw [IntKind.wrap_i64]; omega)⟩) (by assumption) ?_
      simp only [Act.put, List.setIfInBounds_toArray, List.set_cons_zero, List.set_cons_succ]
      refine take_at (i := 12) (v := .int .i64 0) (d := some 68) rfl rfl (by kernel_rfl) (by kernel_rfl) (by kernel_rfl) (fun _ _ _ h => h) (Or.inl ⟨by rfl, fun wS ⟨hS0, hS1, hS2, hS3, hS4, hS5, hS6, hS7, hS8⟩ => by go_simp; all_goals (rw [IntKind.wrap_i64]; omega)⟩) (by assumption) ?_
      simp only [Act.put, List.setIfInBounds_toArray, List.set_cons_zero, List.set_cons_succ]
      refine take_at (i := 13) (v := .bool true) (d := some 11) rfl rfl (by kernel_rfl) (by kernel_rfl) (by kernel_rfl) (fun _ _ _ h => h) (Or.inl ⟨by rfl, fun wS ⟨hS0, hS1, hS2, hS3, hS4, hS5, hS6, hS7, hS8⟩ => by go_simp; all_goals (rw [IntKind.wrap_i64]; omega)⟩) (by assumption) ?_
      simp only [Act.put, List.setIfInBounds_toArray, List.set_cons_zero, List.set_cons_succ]
      refine take_at (i := 14) (v := .int .i64 0) (d := some 12) rfl rfl (by kernel_rfl) (by kernel_rfl) (by kernel_rfl) (fun _ _ _ h => h) (Or.inl ⟨by rfl, fun wS ⟨hS0, hS1, hS2, hS3, hS4, hS5, hS6, hS7, hS8⟩ => by go_simp; all_goals (rw [IntKind.wrap_i64]; omega)⟩) (by assumption) ?_
      simp only [Act.put, List.setIfInBounds_toArray, List.set_cons_zero, List.set_cons_succ]
      refine wpAnyH_done (by kernel_rfl) ?_ _
      clear hHeld
      replace B0 := B0.after hb2
      replace B1 := B1.after hb2
      replace B2 := B2.after hb2
      replace hB := below_next hB (Nat.le_refl _) hb2
      clear hb2
      clear C3 LE
      have k0 := B1.cell 0 rfl
      have k1 := B1.cell 1 rfl
      have k2 := B1.cell 2 rfl
      have k3 := B1.cell 3 rfl
      have k4 := B1.cell 4 rfl
      have j0 := B2.cell 0 rfl
      have j1 := B2.cell 1 rfl
      go_upto_region 10 with fail
      obtain ⟨W7, hW7⟩ : ∃ W7, W7 = wd2 := ⟨_, rfl⟩
      subst hW7
      go_cut [13] (fun x wx => ∃ bx : Bool, x = .bool bx ∧ Hid (bx = true → min a0 b0 - rm ≤ q0 ∧ q0 ≤ max a0 b0 + rm) ∧ wx = W7)
      case first =>
        by_cases g1 : a0 ≤ b0
        · by_cases g2 : a0 - rm ≤ q0
          · by_cases g3 : q0 ≤ b0 + rm
            · go_wp2_with fail
              all_goals go_meet
              all_goals exact ⟨true, by first | rfl | (simp; omega) | simp, hide (fun _ => by omega), rfl⟩
            · go_wp2_with fail
              all_goals go_meet
              all_goals exact ⟨false, by first | rfl | (simp; omega) | simp, hide (fun h => by cases h), rfl⟩
          · go_wp2_with fail
            all_goals go_meet
            all_goals exact ⟨false, by first | rfl | (simp; omega) | simp, hide (fun h => by cases h), rfl⟩
        · by_cases g2 : b0 - rm ≤ q0
          · by_cases g3 : q0 ≤ a0 + rm
            · go_wp2_with fail
              all_goals go_meet
              all_goals exact ⟨true, by first | rfl | (simp; omega) | simp, hide (fun _ => by omega), rfl⟩
            · go_wp2_with fail
              all_goals go_meet
              all_goals exact ⟨false, by first | rfl | (simp; omega) | simp, hide (fun h => by cases h), rfl⟩
          · go_wp2_with fail
            all_goals go_meet
            all_goals exact ⟨false, by first | rfl | (simp; omega) | simp, hide (fun h => by cases h), rfl⟩
      case rest =>
        obtain ⟨bx, rfl, HX, hwc⟩ := hcut
        subst hwc
        go_upto_region 11 with fail
        go_cut [14] (fun x wx => ∃ bx : Bool, x = .bool bx ∧ Hid (bx = true → min a1 b1 - rm ≤ q1 ∧ q1 ≤ max a1 b1 + rm) ∧ wx = wc)
        case first =>
          by_cases g1 : a1 ≤ b1
          · by_cases g2 : a1 - rm ≤ q1
            · by_cases g3 : q1 ≤ b1 + rm
              · go_wp2_with fail
                all_goals go_meet
                all_goals exact ⟨true, by first | rfl | (simp; omega) | simp, hide (fun _ => by omega), rfl⟩
              · go_wp2_with fail
                all_goals go_meet
                all_goals exact ⟨false, by first | rfl | (simp; omega) | simp, hide (fun h => by cases h), rfl⟩
            · go_wp2_with fail
              all_goals go_meet
              all_goals exact ⟨false, by first | rfl | (simp; omega) | simp, hide (fun h => by cases h), rfl⟩
          · by_cases g2 : b1 - rm ≤ q1
            · by_cases g3 : q1 ≤ a1 + rm
              · go_wp2_with fail
                all_goals go_meet
                all_goals exact ⟨true, by first | rfl | (simp; omega) | simp, hide (fun _ => by omega), rfl⟩
              · go_wp2_with fail
                all_goals go_meet
                all_goals exact ⟨false, by first | rfl | (simp; omega) | simp, hide (fun h => by cases h), rfl⟩
            · go_wp2_with fail
              all_goals go_meet
              all_goals exact ⟨false, by first | rfl | (simp; omega) | simp, hide (fun h => by cases h), rfl⟩
        case rest =>
          obtain ⟨by', rfl, HY, hwc⟩ := hcut
          subst hwc
          cases bx
          · clear HX HY HPO2
            go_wp2_with fail
            refine (AW _).mono ?_
            rintro e w9 ⟨rfl, hb⟩
            go_wp2_with fail
            go_ret
            exact ⟨by first | rfl | exact ret_bool (by simp), below_next hB (Nat.le_refl _) hb⟩
          · cases by'
            · clear HX HY HPO2
              go_wp2_with fail
              refine (AW _).mono ?_
              rintro e w9 ⟨rfl, hb⟩
              go_wp2_with fail
              go_ret
              exact ⟨by first | rfl | exact ret_bool (by simp), below_next hB (Nat.le_refl _) hb⟩
            · obtain ⟨rfl, rfl⟩ := HPO2.out (HX.out (by trivial)) (HY.out (by trivial))
              clear HX HY HPO2 k0 k1 k2 k3 k4 j0 j1
              go_wp2_with fail
              refine wp_region_held_drew (S := fun wx => wx.cell? ⟨w.heap.size, 0, none⟩ = some (.slice ap n1 cp) ∧ wx.cell? ⟨w.heap.size, 1, none⟩ = some (.int .i64 fl) ∧ wx.cell? ⟨w.heap.size, 2, none⟩ = some (.int .i64 ce) ∧ wx.cell? ⟨w.heap.size, 3, none⟩ = some (.slice ar n2 cr) ∧ wx.cell? ⟨w.heap.size + 1 + 1, 0, none⟩ = some (.int .i64 q0) ∧ wx.cell? ⟨w.heap.size + 1 + 1, 1, none⟩ = some (.int .i64 q1)) (by kernel_rfl) (by exact ⟨(B0).cell 0 rfl, (B0).cell 1 rfl, (B0).cell 2 rfl, (B0).cell 3 rfl, (B2).cell 0 rfl, (B2).cell 1 rfl⟩) (fun hHeld => ?_)
              refine take_at (i := 0) (v := .pointer (some ⟨w.heap.size, 0, none⟩)) (d := some 139) rfl rfl (by kernel_rfl) (by kernel_rfl) (by kernel_rfl) (fun _ _ _ h => h) (Or.inl ⟨by rfl, fun wS ⟨hS0, hS1, hS2, hS3, hS4, hS5⟩ => by go_simp; all_goals (rw [IntKind.wrap_i64]; omega)⟩) (by assumption) ?_
              simp only [Act.put, List.setIfInBounds_toArray, List.set_cons_zero, List.set_cons_succ]
              refine take_at (i := 1) (v := .slice ap n1 cp) (d := some 140) rfl rfl (by kernel_rfl) (by kernel_rfl) (by kernel_rfl) (fun _ _ _ h => h) (Or.inl ⟨by rfl, fun wS ⟨hS0, hS1, hS2, hS3, hS4, hS5⟩ => by go_simp; all_goals (rw [IntKind.wrap_i64]; omega)⟩) (by assumption) ?_
              simp only [Act.put, List.setIfInBounds_toArray, List.set_cons_zero, List.set_cons_succ]
              refine take_at (i := 3) (v := .agg #[.int .i64 q0, .int .i64 q1]) (d := some 142) rfl rfl (by kernel_rfl) (by kernel_rfl) (by kernel_rfl) (fun _ _ _ h => h) (Or.inl ⟨by rfl, fun wS ⟨hS0, hS1, hS2, hS3, hS4, hS5⟩ => by go_simp; all_goals (rw [IntKind.wrap_i64]; omega)⟩) (by assumption) ?_
              simp only [Act.put, List.setIfInBounds_toArray, List.set_cons_zero, List.set_cons_succ]
              refine wpAnyH_ready (rs := [2]) (by kernel_rfl) (by simp) ?_
              refine AllReadyH.cons rfl (fun K hK => ?_) AllReadyH.nil
              go_simp
              refine (SPR _ hB.drew).mono ?_
              rintro e u6 ⟨p', rfl, h1, _, hb1⟩
              replace hb1 := below_undrew hb1
              obtain ⟨g1, c1, e1⟩ := h1.slice
              rw [HN1.out] at e1
              subst e1
              clear hHeld
              refine hK.out _ _ (⟨(B0.after hb1).cell 0 rfl, (B0.after hb1).cell 1 rfl, (B0.after hb1).cell 2 rfl, (B0.after hb1).cell 3 rfl, (B2.after hb1).cell 0 rfl, (B2.after hb1).cell 1 rfl⟩) (fun hHeld => ?_)
              clear hK K
              refine wpAnyH_ready (rs := [4]) (by kernel_rfl) (by simp) ?_
              refine AllReadyH.cons rfl (fun K hK => ?_) AllReadyH.nil
              go_simp
              refine (SI _ _ h1).mono ?_
              rintro e u8 ⟨rfl, hb3⟩
              replace hb3 := below_next hb1 (Nat.le_refl _) hb3
              clear hHeld hb1 h1
              refine hK.out _ _ (⟨(B0.after hb3).cell 0 rfl, (B0.after hb3).cell 1 rfl, (B0.after hb3).cell 2 rfl, (B0.after hb3).cell 3 rfl, (B2.after hb3).cell 0 rfl, (B2.after hb3).cell 1 rfl⟩) (fun hHeld => ?_)
              clear hK K
              refine take_at (i := 5) (v := .tuple #[.int .i64 1, .int .i64 0]) (d := some 138) rfl rfl (by kernel_rfl) (by kernel_rfl) (by kernel_rfl) (fun _ _ _ h => h) (Or.inl ⟨by rfl, fun wS ⟨hS0, hS1, hS2, hS3, hS4, hS5⟩ => by go_simp; all_goals (rw [IntKind.wrap_i64]; omega)⟩) (by assumption) ?_
              simp only [Act.put, List.setIfInBounds_toArray, List.set_cons_zero, List.set_cons_succ]
              refine take_at (i := 6) (v := .int .i64 1) (d := some 144) rfl rfl (by kernel_rfl) (by kernel_rfl) (by kernel_rfl) (fun _ _ _ h => h) (Or.inl ⟨by rfl, fun wS ⟨hS0, hS1, hS2, hS3, hS4, hS5⟩ => by go_simp; all_goals (rw [IntKind.wrap_i64]; omega)⟩) (by assumption) ?_
              simp only [Act.put, List.setIfInBounds_toArray, List.set_cons_zero, List.set_cons_succ]
              refine take_at (i := 7) (v := .int .i64 0) (d := some 145) rfl rfl (by kernel_rfl) (by kernel_rfl) (by kernel_rfl) (fun _ _ _ h => h) (Or.inl ⟨by rfl, fun wS ⟨hS0, hS1, hS2, hS3, hS4, hS5⟩ => by go_simp; all_goals (rw [IntKind.wrap_i64]; omega)⟩) (by assumption) ?_
              simp only [Act.put, List.setIfInBounds_toArray, List.set_cons_zero, List.set_cons_succ]
              refine take_at (i := 8) (v := .int .i64 1) (d := some 15) rfl rfl (by kernel_rfl) (by kernel_rfl) (by kernel_rfl) (fun _ _ _ h => h) (Or.inl ⟨by rfl, fun wS ⟨hS0, hS1, hS2, hS3, hS4, hS5⟩ => by go_simp; all_goals (rw [IntKind.wrap_i64]; omega)⟩) (by assumption) ?_
              simp only [Act.put, List.setIfInBounds_toArray, List.set_cons_zero, List.set_cons_succ]
              refine take_at (i := 9) (v := .int .i64 0) (d := some 16) rfl rfl (by kernel_rfl) (by kernel_rfl) (by kernel_rfl) (fun _ _ _ h => h) (Or.inl ⟨by rfl, fun wS ⟨hS0, hS1, hS2, hS3, hS4, hS5⟩ => by go_simp; all_goals (rw [IntKind.wrap_i64]; omega)⟩) (by assumption) ?_
              simp only [Act.put, List.setIfInBounds_toArray, List.set_cons_zero, List.set_cons_succ]
              refine wpAnyH_done (by kernel_rfl) ?_ _
              clear hHeld
              replace hB := below_next hB (Nat.le_refl _) hb3
              clear hb3
              go_wp2_with fail
              refine (AW _).mono ?_
              rintro e w9 ⟨rfl, hb⟩
              go_wp2_with fail
              go_ret
              exact ⟨by first | rfl | exact ret_bool (by simp), below_next hB (Nat.le_refl _) hb⟩
  · clear HPO HBO HHA C3
    go_wp2_with fail
    all_goals refine (AW _).mono ?_
    all_goals rintro e w9 ⟨rfl, hb⟩
    all_goals go_wp2_with fail
    all_goals go_ret
    all_goals exact ⟨by first | rfl | exact ret_bool (by simp), below_next hB (Nat.le_refl _) hb⟩
theorem FenceRoom_walk (v u : Value) (q0 q1 : Int) (w : World) (h : FenIn w v) (hu : ∃ (a b : Pt) (r : Int), u = wV a b r) : Calls Try.prog 12 #[v, u, .agg #[.int .i64 q0, .int .i64 q1]] w fun e w' => e = .returned (.bool true) ∧ Below w.heap.size w w' := by
  obtain ⟨a, b, r, rfl⟩ := hu
  exact room_core v a.1 a.2 b.1 b.2 r q0 q1 w h
end Go.Proofs.Ytnenbbkkhnlgbaa
