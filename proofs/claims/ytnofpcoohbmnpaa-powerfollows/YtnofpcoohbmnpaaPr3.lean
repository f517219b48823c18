/- Margins by the reference. -/
import Derived.Test.YtnofpcoohbmnpaaPa7
import Derived.Deep.DeepCutAuto
namespace Go.Proofs.Ytnofpcoohbmnpaa
open Go.RowKit Go.Great

/-- the world within the reference's Margins: the result's block N, the block M of what is made -/
structure RM (w : World) (g o cap : Nat) (l : List Int) (M : Nat) (c : Array Value) (wx : World) : Prop where
  bel : Below w.heap.size w wx
  res : Mb wx w.heap.size zero6
  own : Mb wx M c
  val : ∀ i, i < 24 → wx.cell? ⟨g, o + i, none⟩ = some (.int .i64 (l.getD i 0))
  gl : g < w.heap.size
  ml : w.heap.size < M
theorem RM.drewN {w : World} {g o cap : Nat} {l : List Int} {M : Nat} {c : Array Value} {wx : World} (h : RM w g o cap l M c wx) (q : Nat) : RM w g o cap l M c (wx.drewN q) :=
  ⟨below_drewN h.bel q, by unfold Mb; rw [drewN_heap]; exact h.res, by unfold Mb; rw [drewN_heap]; exact h.own, fun i hi => by rw [drewN_cell]; exact h.val i hi, h.gl, h.ml⟩
theorem RM.set {w : World} {g o cap : Nat} {l : List Int} {M : Nat} {c : Array Value} {wx : World} (h : RM w g o cap l M c wx) (i : Nat) (u : Value) : RM w g o cap l M (c.setIfInBounds i u) (wx.setCell ⟨M, i, none⟩ u) := by
  have h1 := h.gl
  have h2 := h.ml
  refine ⟨h.bel.setCell (p := ⟨M, i, none⟩) (by show w.heap.size ≤ M; omega) u, ?_, h.own.set i u, fun j hj => ?_, h.gl, h.ml⟩
  · unfold Mb
    rw [Below.heap_setCell _ _ _ _ (by show w.heap.size ≠ M; omega)]
    exact h.res
  · rw [World.cell?_of_block (a := ⟨g, o + j, none⟩) (Below.heap_setCell _ _ _ _ (show g ≠ M by omega))]
    exact h.val j hj
set_option maxRecDepth 100000 in
set_option maxHeartbeats 8000000 in
theorem rmargins_ok (l : List Int) (h : Sound l) (v : Value) (w : World) (hv : Ints w v l) : Calls Try.prog 19 #[v] w fun e w' => e = .returned (.tuple #[marV (marL l), .int .i64 0]) ∧ Below w.heap.size w w' := by
  have HV := hide hv
  obtain ⟨b0, b1, b2, b3, b4, b5, b6, b7, b8, b9, b10, b11, b12, b19, b20⟩ := h.inr.bounds
  obtain ⟨e0, e1⟩ := h.inr.errs
  have hva := hv.below (below_alloc w (.cells #[.int .i64 0, .int .i64 0, .int .i64 0, .int .i64 0, .int .i64 0, .int .i64 0] 54))
  have HCK := hide (rcheck_any l v _ hva)
  rw [h.chk] at HCK
  obtain ⟨g, o, cap, rfl, hg, hcc⟩ := hv.open24 h.len
  have HC := hide hcc
  clear hcc hv hva
  go_enter Try.func19, Try.ntmps19
  go_wp2_with fail
  refine HCK.out.mono ?_
  rintro e w1 ⟨rfl, hB1⟩
  have HN1 : Hid (Mb w1 w.heap.size zero6) := by
    show _ = _
    rw [hB1.block w.heap.size (by rw [size_alloc]; omega)]; exact heap_alloc_new _ _
  have HB1 : Hid (Below w.heap.size w w1) := below_over hB1
  have hsz1 : w.heap.size < w1.heap.size := by have := hB1.size; rw [size_alloc] at this; omega
  have HV1 : Hid (∀ i, i < 24 → w1.cell? ⟨g, o + i, none⟩ = some (.int .i64 (l.getD i 0))) := fun i hi => (HB1.out.cell (p := ⟨g, o + i, none⟩) hg).trans (HC.out i hi)
  clear hB1 HCK HC HV
  have d0 : w1.cell? ⟨g, o, none⟩ = some (.int .i64 (l.getD 0 0)) := HV1.out 0 (by omega)
  obtain ⟨se, HSE⟩ : ∃ x, Hid (speE l = x) := ⟨_, rfl⟩
  obtain ⟨pe, HPE⟩ : ∃ x, Hid (plaE l = x) := ⟨_, rfl⟩
  obtain ⟨p0, H0⟩ : ∃ x, Hid (l.getD 0 0 = x) := ⟨_, rfl⟩
  rw [H0.out] at b0
  obtain ⟨p1, H1⟩ : ∃ x, Hid (l.getD 1 0 = x) := ⟨_, rfl⟩
  rw [H1.out] at b1
  obtain ⟨p2, H2⟩ : ∃ x, Hid (l.getD 2 0 = x) := ⟨_, rfl⟩
  rw [H2.out] at b2
  obtain ⟨p3, H3⟩ : ∃ x, Hid (l.getD 3 0 = x) := ⟨_, rfl⟩
  rw [H3.out] at b3
  obtain ⟨p4, H4⟩ : ∃ x, Hid (l.getD 4 0 = x) := ⟨_, rfl⟩
  rw [H4.out] at b4
  obtain ⟨p5, H5⟩ : ∃ x, Hid (l.getD 5 0 = x) := ⟨_, rfl⟩
  rw [H5.out] at b5
  obtain ⟨p7, H7⟩ : ∃ x, Hid (l.getD 7 0 = x) := ⟨_, rfl⟩
  rw [H7.out] at b7
  obtain ⟨p8, H8⟩ : ∃ x, Hid (l.getD 8 0 = x) := ⟨_, rfl⟩
  rw [H8.out] at b8
  obtain ⟨p9, H9⟩ : ∃ x, Hid (l.getD 9 0 = x) := ⟨_, rfl⟩
  rw [H9.out] at b9
  obtain ⟨p19, H19⟩ : ∃ x, Hid (l.getD 19 0 = x) := ⟨_, rfl⟩
  rw [H19.out] at b19
  obtain ⟨p20, H20⟩ : ∃ x, Hid (l.getD 20 0 = x) := ⟨_, rfl⟩
  rw [H20.out] at b20
  rw [H0.out] at d0
  rw [HSE.out] at e0
  rw [HPE.out] at e1
  have HM2 : Hid ((if p2 < p4 then p4 else p2) = se) := by
    show _ = _
    rw [← HSE.out]; unfold speE; rw [H2.out, H4.out]; split <;> omega
  have HM1 : Hid ((if p1 < p3 then p3 else p1) = pe) := by
    show _ = _
    rw [← HPE.out]; unfold plaE; rw [H1.out, H3.out]; split <;> omega
  go_upto_region 5 with fail
  have HB2 := hide (below_alloc w1 (.cells #[.int .i64 (64 - p0), .int .i64 0, .int .i64 0, .int .i64 0, .int .i64 0, .int .i64 0] 54))
  have HR0 : Hid (RM w g o cap l w1.heap.size (arr6 (.int .i64 (64 - p0)) (.int .i64 0) (.int .i64 0) (.int .i64 0) (.int .i64 0) (.int .i64 0)) (w1.alloc (.cells #[.int .i64 (64 - p0), .int .i64 0, .int .i64 0, .int .i64 0, .int .i64 0, .int .i64 0] 54))) :=
    ⟨below_next HB1.out (Nat.le_refl _) HB2.out, HN1.out.below HB2.out, heap_alloc_new _ _, fun i hi => (HB2.out.cell (p := ⟨g, o + i, none⟩) (show g < _ by omega)).trans (HV1.out i hi), hg, hsz1⟩
  generalize w1.alloc (.cells #[.int .i64 (64 - p0), .int .i64 0, .int .i64 0, .int .i64 0, .int .i64 0, .int .i64 0] 54) = w2 at HR0 ⊢
  generalize w1.heap.size = M at HR0 ⊢
  obtain ⟨br, HBR⟩ : ∃ x, Hid (64 - p0 = x) := ⟨_, rfl⟩
  rw [HBR.out] at HR0 ⊢
  have c1 : 48 ≤ br ∧ br ≤ 64 := by have := HBR.out; omega
  clear d0 HN1 HB1 HV1 HB2 hsz1
  have x0 : _ = some (Value.int .i64 (l.getD 0 0)) := HR0.out.val 0 (by omega)
  rw [H0.out, Nat.add_zero] at x0
  have x2 := HR0.out.val 2 (by omega)
  rw [H2.out] at x2
  have x4 := HR0.out.val 4 (by omega)
  rw [H4.out] at x4
  refine wp_region_held_drew (S := fun wx => wx.cell? ⟨g, o, none⟩ = some (.int .i64 p0) ∧ wx.cell? ⟨g, o + 2, none⟩ = some (.int .i64 p2) ∧ wx.cell? ⟨g, o + 4, none⟩ = some (.int .i64 p4)) (by kernel_rfl) (by exact ⟨x0, x2, x4⟩) (fun hHeld => ?_)
  have hmx := HM2.out
  refine take_at (i := 0) (v := .slice (some ⟨g, o, none⟩) 24 cap) (d := some 17) rfl rfl (by kernel_rfl) (by kernel_rfl) (by kernel_rfl) (fun _ _ _ h => h) (Or.inl ⟨by rfl, fun wS ⟨hS0, hS1, hS2⟩ => by go_simp; all_goals (rw [IntKind.wrap_i64]; omega)⟩) (by assumption) ?_
  simp only [Act.put, List.setIfInBounds_toArray, List.set_cons_zero, List.set_cons_succ]
  refine take_at (i := 1) (v := .pointer (some ⟨g, o, none⟩)) (d := some 18) rfl rfl (by kernel_rfl) (by kernel_rfl) (by kernel_rfl) (fun _ _ _ h => h) (Or.inl ⟨by rfl, fun wS ⟨hS0, hS1, hS2⟩ => by go_simp; all_goals (rw [IntKind.wrap_i64]; omega)⟩) (by assumption) ?_
  simp only [Act.put, List.setIfInBounds_toArray, List.set_cons_zero, List.set_cons_succ]
  refine take_at (i := 2) (v := .int .i64 (p0)) (d := some 19) rfl rfl (by kernel_rfl) (by kernel_rfl) (by kernel_rfl) (fun _ _ _ h => h) (Or.inl ⟨by rfl, fun wS ⟨hS0, hS1, hS2⟩ => by go_simp; all_goals (rw [IntKind.wrap_i64]; omega)⟩) (by assumption) ?_
  simp only [Act.put, List.setIfInBounds_toArray, List.set_cons_zero, List.set_cons_succ]
  refine take_at (i := 3) (v := .slice (some ⟨g, o, none⟩) 24 cap) (d := some 20) rfl rfl (by kernel_rfl) (by kernel_rfl) (by kernel_rfl) (fun _ _ _ h => h) (Or.inl ⟨by rfl, fun wS ⟨hS0, hS1, hS2⟩ => by go_simp; all_goals (rw [IntKind.wrap_i64]; omega)⟩) (by assumption) ?_
  simp only [Act.put, List.setIfInBounds_toArray, List.set_cons_zero, List.set_cons_succ]
  refine take_at (i := 4) (v := .pointer (some ⟨g, o + 2, none⟩)) (d := some 21) rfl rfl (by kernel_rfl) (by kernel_rfl) (by kernel_rfl) (fun _ _ _ h => h) (Or.inl ⟨by rfl, fun wS ⟨hS0, hS1, hS2⟩ => by go_simp; all_goals (rw [IntKind.wrap_i64]; omega)⟩) (by assumption) ?_
  simp only [Act.put, List.setIfInBounds_toArray, List.set_cons_zero, List.set_cons_succ]
  refine take_at (i := 5) (v := .int .i64 (p2)) (d := some 22) rfl rfl (by kernel_rfl) (by kernel_rfl) (by kernel_rfl) (fun _ _ _ h => h) (Or.inl ⟨by rfl, fun wS ⟨hS0, hS1, hS2⟩ => by go_simp; all_goals (rw [IntKind.wrap_i64]; omega)⟩) (by assumption) ?_
  simp only [Act.put, List.setIfInBounds_toArray, List.set_cons_zero, List.set_cons_succ]
  refine take_at (i := 6) (v := .slice (some ⟨g, o, none⟩) 24 cap) (d := some 23) rfl rfl (by kernel_rfl) (by kernel_rfl) (by kernel_rfl) (fun _ _ _ h => h) (Or.inl ⟨by rfl, fun wS ⟨hS0, hS1, hS2⟩ => by go_simp; all_goals (rw [IntKind.wrap_i64]; omega)⟩) (by assumption) ?_
  simp only [Act.put, List.setIfInBounds_toArray, List.set_cons_zero, List.set_cons_succ]
  refine take_at (i := 7) (v := .pointer (some ⟨g, o + 4, none⟩)) (d := some 24) rfl rfl (by kernel_rfl) (by kernel_rfl) (by kernel_rfl) (fun _ _ _ h => h) (Or.inl ⟨by rfl, fun wS ⟨hS0, hS1, hS2⟩ => by go_simp; all_goals (rw [IntKind.wrap_i64]; omega)⟩) (by assumption) ?_
  simp only [Act.put, List.setIfInBounds_toArray, List.set_cons_zero, List.set_cons_succ]
  refine take_at (i := 8) (v := .int .i64 (p4)) (d := some 25) rfl rfl (by kernel_rfl) (by kernel_rfl) (by kernel_rfl) (fun _ _ _ h => h) (Or.inl ⟨by rfl, fun wS ⟨hS0, hS1, hS2⟩ => by go_simp; all_goals (rw [IntKind.wrap_i64]; omega)⟩) (by assumption) ?_
  simp only [Act.put, List.setIfInBounds_toArray, List.set_cons_zero, List.set_cons_succ]
  refine take_at (i := 9) (v := .int .i64 (se)) (d := some 26) rfl rfl (by kernel_rfl) (by kernel_rfl) (by kernel_rfl) (fun _ _ _ h => h) (Or.inl ⟨by rfl, fun wS ⟨hS0, hS1, hS2⟩ => by go_simp; all_goals (rw [IntKind.wrap_i64]; omega)⟩) (by assumption) ?_
  simp only [Act.put, List.setIfInBounds_toArray, List.set_cons_zero, List.set_cons_succ]
  refine take_at (i := 10) (v := .int .i64 (p0 + se)) (d := some 27) rfl rfl (by kernel_rfl) (by kernel_rfl) (by kernel_rfl) (fun _ _ _ h => h) (Or.inl ⟨by rfl, fun wS ⟨hS0, hS1, hS2⟩ => by go_simp; all_goals (rw [IntKind.wrap_i64]; omega)⟩) (by assumption) ?_
  simp only [Act.put, List.setIfInBounds_toArray, List.set_cons_zero, List.set_cons_succ]
  refine take_at (i := 11) (v := .int .i64 (p0 + se + 2)) (d := some 28) rfl rfl (by kernel_rfl) (by kernel_rfl) (by kernel_rfl) (fun _ _ _ h => h) (Or.inl ⟨by rfl, fun wS ⟨hS0, hS1, hS2⟩ => by go_simp; all_goals (rw [IntKind.wrap_i64]; omega)⟩) (by assumption) ?_
  simp only [Act.put, List.setIfInBounds_toArray, List.set_cons_zero, List.set_cons_succ]
  refine take_at (i := 12) (v := .pointer (some ⟨M, 1, none⟩)) (d := some 29) rfl rfl (by kernel_rfl) (by kernel_rfl) (by kernel_rfl) (fun _ _ _ h => h) (Or.inl ⟨by rfl, fun wS ⟨hS0, hS1, hS2⟩ => by go_simp; all_goals (rw [IntKind.wrap_i64]; omega)⟩) (by assumption) ?_
  simp only [Act.put, List.setIfInBounds_toArray, List.set_cons_zero, List.set_cons_succ]
  have q1 := HR0.out.own.at 1 (.int .i64 0) rfl
  have fz := HR0.out.own.fz 1
  have HR1 := hide ((HR0.out.set 1 (.int .i64 (p0 + se + 2))).drewN 1)
  have y0 : _ = some (Value.int .i64 (l.getD 0 0)) := HR1.out.val 0 (by omega)
  rw [H0.out, Nat.add_zero] at y0
  have y2 := HR1.out.val 2 (by omega)
  rw [H2.out] at y2
  have y4 := HR1.out.val 4 (by omega)
  rw [H4.out] at y4
  refine wpAnyH_ready (rs := [13]) (by kernel_rfl) (by simp) ?_
  refine AllReadyH.cons rfl (fun K hK => ?_) AllReadyH.nil
  go_simp
  refine hK.out _ _ (⟨y0, y2, y4⟩) (fun hHeld => ?_)
  clear hK K
  refine wpAnyH_done (by kernel_rfl) ?_ _
  go_simp
  obtain ⟨dr, HDR⟩ : ∃ x, Hid (p0 + se + 2 = x) := ⟨_, rfl⟩
  rw [HDR.out] at HR1 ⊢
  have c2 : 2 ≤ dr ∧ dr ≤ 34 := by have := HDR.out; omega
  have HR2 : Hid (RM w g o cap l M (arr6 (.int .i64 br) (.int .i64 dr) (.int .i64 0) (.int .i64 0) (.int .i64 0) (.int .i64 0)) (w2.setCell ⟨M, 1, none⟩ (.int .i64 dr)).drew) := HR1.out
  clear x0 x2 x4 y0 y2 y4 hHeld HR0 HR1 hmx q1 fz
  go_upto_region 6 with fail
  generalize (w2.setCell ⟨M, 1, none⟩ (.int .i64 dr)).drew = w3 at HR2 ⊢
  have q2 := HR2.out.own.at 2 (.int .i64 0) rfl
  have fz := HR2.out.own.fz 2
  have x5 := HR2.out.val 5 (by omega)
  rw [H5.out] at x5
  
  go_upto_region 7 with fail
  have HR3 : Hid (RM w g o cap l M (arr6 (.int .i64 br) (.int .i64 dr) (.int .i64 (86 * (p5 + 1))) (.int .i64 0) (.int .i64 0) (.int .i64 0)) (w3.setCell ⟨M, 2, none⟩ (.int .i64 (86 * (p5 + 1))))) := HR2.out.set 2 _
  obtain ⟨jo, HJO⟩ : ∃ x, Hid (86 * (p5 + 1) = x) := ⟨_, rfl⟩
  rw [HJO.out] at HR3 ⊢
  have c3 : 86 ≤ jo ∧ jo ≤ 430 := by have := HJO.out; omega
  generalize w3.setCell ⟨M, 2, none⟩ (.int .i64 jo) = w4 at HR3 ⊢
  clear HR2 q2 fz x5
  have hmx := run_max3 p7 p8 p9
  obtain ⟨mx, HMX⟩ : ∃ x, Hid (max (max p7 p8) p9 = x) := ⟨_, rfl⟩
  rw [HMX.out] at hmx
  have hmb : 2000 ≤ mx ∧ mx ≤ 64000 := by have := HMX.out; omega
  have q1 := HR3.out.own.at 1 _ rfl
  have q2 := HR3.out.own.at 2 _ rfl
  have x7 := HR3.out.val 7 (by omega)
  rw [H7.out] at x7
  have x8 := HR3.out.val 8 (by omega)
  rw [H8.out] at x8
  have x9 := HR3.out.val 9 (by omega)
  rw [H9.out] at x9
  refine wp_region_held_drew (S := fun wx => wx.cell? ⟨g, o + 7, none⟩ = some (.int .i64 p7) ∧ wx.cell? ⟨g, o + 8, none⟩ = some (.int .i64 p8) ∧ wx.cell? ⟨g, o + 9, none⟩ = some (.int .i64 p9) ∧ wx.cell? ⟨M, 1, none⟩ = some (.int .i64 dr) ∧ wx.cell? ⟨M, 2, none⟩ = some (.int .i64 jo)) (by kernel_rfl) (by exact ⟨x7, x8, x9, q1, q2⟩) (fun hHeld => ?_)
  refine take_at (i := 0) (v := .slice (some ⟨g, o, none⟩) 24 cap) (d := some 36) rfl rfl (by kernel_rfl) (by kernel_rfl) (by kernel_rfl) (fun _ _ _ h => h) (Or.inl ⟨by rfl, fun wS ⟨hS0, hS1, hS2, hS3, hS4⟩ => by go_simp; all_goals (rw [IntKind.wrap_i64]; omega)⟩) (by assumption) ?_
  simp only [Act.put, List.setIfInBounds_toArray, List.set_cons_zero, List.set_cons_succ]
  refine take_at (i := 1) (v := .pointer (some ⟨g, o + 7, none⟩)) (d := some 37) rfl rfl (by kernel_rfl) (by kernel_rfl) (by kernel_rfl) (fun _ _ _ h => h) (Or.inl ⟨by rfl, fun wS ⟨hS0, hS1, hS2, hS3, hS4⟩ => by go_simp; all_goals (rw [IntKind.wrap_i64]; omega)⟩) (by assumption) ?_
  simp only [Act.put, List.setIfInBounds_toArray, List.set_cons_zero, List.set_cons_succ]
  refine take_at (i := 2) (v := .int .i64 (p7)) (d := some 38) rfl rfl (by kernel_rfl) (by kernel_rfl) (by kernel_rfl) (fun _ _ _ h => h) (Or.inl ⟨by rfl, fun wS ⟨hS0, hS1, hS2, hS3, hS4⟩ => by go_simp; all_goals (rw [IntKind.wrap_i64]; omega)⟩) (by assumption) ?_
  simp only [Act.put, List.setIfInBounds_toArray, List.set_cons_zero, List.set_cons_succ]
  refine take_at (i := 3) (v := .slice (some ⟨g, o, none⟩) 24 cap) (d := some 39) rfl rfl (by kernel_rfl) (by kernel_rfl) (by kernel_rfl) (fun _ _ _ h => h) (Or.inl ⟨by rfl, fun wS ⟨hS0, hS1, hS2, hS3, hS4⟩ => by go_simp; all_goals (rw [IntKind.wrap_i64]; omega)⟩) (by assumption) ?_
  simp only [Act.put, List.setIfInBounds_toArray, List.set_cons_zero, List.set_cons_succ]
  refine take_at (i := 4) (v := .pointer (some ⟨g, o + 8, none⟩)) (d := some 40) rfl rfl (by kernel_rfl) (by kernel_rfl) (by kernel_rfl) (fun _ _ _ h => h) (Or.inl ⟨by rfl, fun wS ⟨hS0, hS1, hS2, hS3, hS4⟩ => by go_simp; all_goals (rw [IntKind.wrap_i64]; omega)⟩) (by assumption) ?_
  simp only [Act.put, List.setIfInBounds_toArray, List.set_cons_zero, List.set_cons_succ]
  refine take_at (i := 5) (v := .int .i64 (p8)) (d := some 41) rfl rfl (by kernel_rfl) (by kernel_rfl) (by kernel_rfl) (fun _ _ _ h => h) (Or.inl ⟨by rfl, fun wS ⟨hS0, hS1, hS2, hS3, hS4⟩ => by go_simp; all_goals (rw [IntKind.wrap_i64]; omega)⟩) (by assumption) ?_
  simp only [Act.put, List.setIfInBounds_toArray, List.set_cons_zero, List.set_cons_succ]
  refine take_at (i := 6) (v := .slice (some ⟨g, o, none⟩) 24 cap) (d := some 42) rfl rfl (by kernel_rfl) (by kernel_rfl) (by kernel_rfl) (fun _ _ _ h => h) (Or.inl ⟨by rfl, fun wS ⟨hS0, hS1, hS2, hS3, hS4⟩ => by go_simp; all_goals (rw [IntKind.wrap_i64]; omega)⟩) (by assumption) ?_
  simp only [Act.put, List.setIfInBounds_toArray, List.set_cons_zero, List.set_cons_succ]
  refine take_at (i := 7) (v := .pointer (some ⟨g, o + 9, none⟩)) (d := some 43) rfl rfl (by kernel_rfl) (by kernel_rfl) (by kernel_rfl) (fun _ _ _ h => h) (Or.inl ⟨by rfl, fun wS ⟨hS0, hS1, hS2, hS3, hS4⟩ => by go_simp; all_goals (rw [IntKind.wrap_i64]; omega)⟩) (by assumption) ?_
  simp only [Act.put, List.setIfInBounds_toArray, List.set_cons_zero, List.set_cons_succ]
  refine take_at (i := 8) (v := .int .i64 (p9)) (d := some 44) rfl rfl (by kernel_rfl) (by kernel_rfl) (by kernel_rfl) (fun _ _ _ h => h) (Or.inl ⟨by rfl, fun wS ⟨hS0, hS1, hS2, hS3, hS4⟩ => by go_simp; all_goals (rw [IntKind.wrap_i64]; omega)⟩) (by assumption) ?_
  simp only [Act.put, List.setIfInBounds_toArray, List.set_cons_zero, List.set_cons_succ]
  refine take_at (i := 9) (v := .int .i64 (mx)) (d := some 45) rfl rfl (by kernel_rfl) (by kernel_rfl) (by kernel_rfl) (fun _ _ _ h => h) (Or.inl ⟨by rfl, fun wS ⟨hS0, hS1, hS2, hS3, hS4⟩ => by go_simp; all_goals (rw [IntKind.wrap_i64]; omega)⟩) (by assumption) ?_
  simp only [Act.put, List.setIfInBounds_toArray, List.set_cons_zero, List.set_cons_succ]
  refine take_at (i := 10) (v := .int .i64 (mx + 128)) (d := some 46) rfl rfl (by kernel_rfl) (by kernel_rfl) (by kernel_rfl) (fun _ _ _ h => h) (Or.inl ⟨by rfl, fun wS ⟨hS0, hS1, hS2, hS3, hS4⟩ => by go_simp; all_goals (rw [IntKind.wrap_i64]; omega)⟩) (by assumption) ?_
  simp only [Act.put, List.setIfInBounds_toArray, List.set_cons_zero, List.set_cons_succ]
  refine take_at (i := 11) (v := .pointer (some ⟨M, 2, none⟩)) (d := some 47) rfl rfl (by kernel_rfl) (by kernel_rfl) (by kernel_rfl) (fun _ _ _ h => h) (Or.inl ⟨by rfl, fun wS ⟨hS0, hS1, hS2, hS3, hS4⟩ => by go_simp; all_goals (rw [IntKind.wrap_i64]; omega)⟩) (by assumption) ?_
  simp only [Act.put, List.setIfInBounds_toArray, List.set_cons_zero, List.set_cons_succ]
  refine take_at (i := 12) (v := .int .i64 (jo)) (d := some 48) rfl rfl (by kernel_rfl) (by kernel_rfl) (by kernel_rfl) (fun _ _ _ h => h) (Or.inl ⟨by rfl, fun wS ⟨hS0, hS1, hS2, hS3, hS4⟩ => by go_simp; all_goals (rw [IntKind.wrap_i64]; omega)⟩) (by assumption) ?_
  simp only [Act.put, List.setIfInBounds_toArray, List.set_cons_zero, List.set_cons_succ]
  refine take_at (i := 13) (v := .int .i64 (mx + 128 + jo)) (d := some 49) rfl rfl (by kernel_rfl) (by kernel_rfl) (by kernel_rfl) (fun _ _ _ h => h) (Or.inl ⟨by rfl, fun wS ⟨hS0, hS1, hS2, hS3, hS4⟩ => by go_simp; all_goals (rw [IntKind.wrap_i64]; omega)⟩) (by assumption) ?_
  simp only [Act.put, List.setIfInBounds_toArray, List.set_cons_zero, List.set_cons_succ]
  refine take_at (i := 14) (v := .pointer (some ⟨M, 1, none⟩)) (d := some 50) rfl rfl (by kernel_rfl) (by kernel_rfl) (by kernel_rfl) (fun _ _ _ h => h) (Or.inl ⟨by rfl, fun wS ⟨hS0, hS1, hS2, hS3, hS4⟩ => by go_simp; all_goals (rw [IntKind.wrap_i64]; omega)⟩) (by assumption) ?_
  simp only [Act.put, List.setIfInBounds_toArray, List.set_cons_zero, List.set_cons_succ]
  refine take_at (i := 15) (v := .int .i64 (dr)) (d := some 51) rfl rfl (by kernel_rfl) (by kernel_rfl) (by kernel_rfl) (fun _ _ _ h => h) (Or.inl ⟨by rfl, fun wS ⟨hS0, hS1, hS2, hS3, hS4⟩ => by go_simp; all_goals (rw [IntKind.wrap_i64]; omega)⟩) (by assumption) ?_
  simp only [Act.put, List.setIfInBounds_toArray, List.set_cons_zero, List.set_cons_succ]
  refine take_at (i := 16) (v := .int .i64 (mx + 128 + jo + dr)) (d := some 52) rfl rfl (by kernel_rfl) (by kernel_rfl) (by kernel_rfl) (fun _ _ _ h => h) (Or.inl ⟨by rfl, fun wS ⟨hS0, hS1, hS2, hS3, hS4⟩ => by go_simp; all_goals (rw [IntKind.wrap_i64]; omega)⟩) (by assumption) ?_
  simp only [Act.put, List.setIfInBounds_toArray, List.set_cons_zero, List.set_cons_succ]
  refine take_at (i := 17) (v := .pointer (some ⟨M, 3, none⟩)) (d := some 53) rfl rfl (by kernel_rfl) (by kernel_rfl) (by kernel_rfl) (fun _ _ _ h => h) (Or.inl ⟨by rfl, fun wS ⟨hS0, hS1, hS2, hS3, hS4⟩ => by go_simp; all_goals (rw [IntKind.wrap_i64]; omega)⟩) (by assumption) ?_
  simp only [Act.put, List.setIfInBounds_toArray, List.set_cons_zero, List.set_cons_succ]
  have q3 := HR3.out.own.at 3 (.int .i64 0) rfl
  have fz := HR3.out.own.fz 3
  have HR4 := hide ((HR3.out.set 3 (.int .i64 (mx + 128 + jo + dr))).drewN 1)
  have r1 := HR4.out.own.at 1 (.int .i64 dr) rfl
  have r2 := HR4.out.own.at 2 (.int .i64 jo) rfl
  have y7 := HR4.out.val 7 (by omega)
  rw [H7.out] at y7
  have y8 := HR4.out.val 8 (by omega)
  rw [H8.out] at y8
  have y9 := HR4.out.val 9 (by omega)
  rw [H9.out] at y9
  refine wpAnyH_ready (rs := [18]) (by kernel_rfl) (by simp) ?_
  refine AllReadyH.cons rfl (fun K hK => ?_) AllReadyH.nil
  go_simp
  refine hK.out _ _ (⟨y7, y8, y9, r1, r2⟩) (fun hHeld => ?_)
  clear hK K
  refine wpAnyH_done (by kernel_rfl) ?_ _
  go_simp
  obtain ⟨fa, HFA⟩ : ∃ x, Hid (mx + 128 + jo + dr = x) := ⟨_, rfl⟩
  rw [HFA.out] at HR4 ⊢
  have c4 : 2000 ≤ fa ∧ fa ≤ 65000 := by have := HFA.out; omega
  have HR5 : Hid (RM w g o cap l M (arr6 (.int .i64 br) (.int .i64 dr) (.int .i64 jo) (.int .i64 fa) (.int .i64 0) (.int .i64 0)) (w4.setCell ⟨M, 3, none⟩ (.int .i64 fa)).drew) := HR4.out
  clear x7 x8 x9 y7 y8 y9 hHeld HR3 HR4 hmx q1 q2 q3 fz r1 r2
  go_upto_region 8 with fail
  generalize (w4.setCell ⟨M, 3, none⟩ (.int .i64 fa)).drew = w5 at HR5 ⊢
  have hwb := way_in fa br (by omega) (by omega) (by omega) (by omega)
  have HWay := fun W => hide (rway_any fa br W (by omega) (by omega) (by omega) (by omega))
  obtain ⟨wy, HWY⟩ : ∃ x, Hid (wayI fa br = x) := ⟨_, rfl⟩
  rw [HWY.out] at hwb HWay
  have HUp := fun W => hide (rup_any wy 6400 W (by omega) (by omega))
  have hub := upI_in wy 6400 (by omega) hwb.1
  obtain ⟨up, HUP⟩ : ∃ x, Hid (upI wy 6400 = x) := ⟨_, rfl⟩
  rw [HUP.out] at hub HUp
  have q0 := HR5.out.own.at 0 _ rfl
  have q3 := HR5.out.own.at 3 _ rfl
  have hmx := HM1.out
  have x1 := HR5.out.val 1 (by omega)
  rw [H1.out] at x1
  have x3 := HR5.out.val 3 (by omega)
  rw [H3.out] at x3
  refine wp_region_held_drew (S := fun wx => wx.cell? ⟨g, o + 1, none⟩ = some (.int .i64 p1) ∧ wx.cell? ⟨g, o + 3, none⟩ = some (.int .i64 p3) ∧ wx.cell? ⟨M, 0, none⟩ = some (.int .i64 br) ∧ wx.cell? ⟨M, 3, none⟩ = some (.int .i64 fa)) (by kernel_rfl) (by exact ⟨x1, x3, q0, q3⟩) (fun hHeld => ?_)
  refine take_at (i := 0) (v := .pointer (some ⟨M, 3, none⟩)) (d := some 54) rfl rfl (by kernel_rfl) (by kernel_rfl) (by kernel_rfl) (fun _ _ _ h => h) (Or.inl ⟨by rfl, fun wS ⟨hS0, hS1, hS2, hS3⟩ => by go_simp; all_goals (rw [IntKind.wrap_i64]; omega)⟩) (by assumption) ?_
  simp only [Act.put, List.setIfInBounds_toArray, List.set_cons_zero, List.set_cons_succ]
  refine take_at (i := 1) (v := .int .i64 (fa)) (d := some 55) rfl rfl (by kernel_rfl) (by kernel_rfl) (by kernel_rfl) (fun _ _ _ h => h) (Or.inl ⟨by rfl, fun wS ⟨hS0, hS1, hS2, hS3⟩ => by go_simp; all_goals (rw [IntKind.wrap_i64]; omega)⟩) (by assumption) ?_
  simp only [Act.put, List.setIfInBounds_toArray, List.set_cons_zero, List.set_cons_succ]
  refine take_at (i := 2) (v := .pointer (some ⟨M, 0, none⟩)) (d := some 56) rfl rfl (by kernel_rfl) (by kernel_rfl) (by kernel_rfl) (fun _ _ _ h => h) (Or.inl ⟨by rfl, fun wS ⟨hS0, hS1, hS2, hS3⟩ => by go_simp; all_goals (rw [IntKind.wrap_i64]; omega)⟩) (by assumption) ?_
  simp only [Act.put, List.setIfInBounds_toArray, List.set_cons_zero, List.set_cons_succ]
  refine take_at (i := 3) (v := .int .i64 (br)) (d := some 57) rfl rfl (by kernel_rfl) (by kernel_rfl) (by kernel_rfl) (fun _ _ _ h => h) (Or.inl ⟨by rfl, fun wS ⟨hS0, hS1, hS2, hS3⟩ => by go_simp; all_goals (rw [IntKind.wrap_i64]; omega)⟩) (by assumption) ?_
  simp only [Act.put, List.setIfInBounds_toArray, List.set_cons_zero, List.set_cons_succ]
  refine take_at (i := 6) (v := .slice (some ⟨g, o, none⟩) 24 cap) (d := some 60) rfl rfl (by kernel_rfl) (by kernel_rfl) (by kernel_rfl) (fun _ _ _ h => h) (Or.inl ⟨by rfl, fun wS ⟨hS0, hS1, hS2, hS3⟩ => by go_simp; all_goals (rw [IntKind.wrap_i64]; omega)⟩) (by assumption) ?_
  simp only [Act.put, List.setIfInBounds_toArray, List.set_cons_zero, List.set_cons_succ]
  refine take_at (i := 7) (v := .pointer (some ⟨g, o + 1, none⟩)) (d := some 61) rfl rfl (by kernel_rfl) (by kernel_rfl) (by kernel_rfl) (fun _ _ _ h => h) (Or.inl ⟨by rfl, fun wS ⟨hS0, hS1, hS2, hS3⟩ => by go_simp; all_goals (rw [IntKind.wrap_i64]; omega)⟩) (by assumption) ?_
  simp only [Act.put, List.setIfInBounds_toArray, List.set_cons_zero, List.set_cons_succ]
  refine take_at (i := 8) (v := .int .i64 (p1)) (d := some 62) rfl rfl (by kernel_rfl) (by kernel_rfl) (by kernel_rfl) (fun _ _ _ h => h) (Or.inl ⟨by rfl, fun wS ⟨hS0, hS1, hS2, hS3⟩ => by go_simp; all_goals (rw [IntKind.wrap_i64]; omega)⟩) (by assumption) ?_
  simp only [Act.put, List.setIfInBounds_toArray, List.set_cons_zero, List.set_cons_succ]
  refine take_at (i := 9) (v := .slice (some ⟨g, o, none⟩) 24 cap) (d := some 63) rfl rfl (by kernel_rfl) (by kernel_rfl) (by kernel_rfl) (fun _ _ _ h => h) (Or.inl ⟨by rfl, fun wS ⟨hS0, hS1, hS2, hS3⟩ => by go_simp; all_goals (rw [IntKind.wrap_i64]; omega)⟩) (by assumption) ?_
  simp only [Act.put, List.setIfInBounds_toArray, List.set_cons_zero, List.set_cons_succ]
  refine take_at (i := 10) (v := .pointer (some ⟨g, o + 3, none⟩)) (d := some 64) rfl rfl (by kernel_rfl) (by kernel_rfl) (by kernel_rfl) (fun _ _ _ h => h) (Or.inl ⟨by rfl, fun wS ⟨hS0, hS1, hS2, hS3⟩ => by go_simp; all_goals (rw [IntKind.wrap_i64]; omega)⟩) (by assumption) ?_
  simp only [Act.put, List.setIfInBounds_toArray, List.set_cons_zero, List.set_cons_succ]
  refine take_at (i := 11) (v := .int .i64 (p3)) (d := some 65) rfl rfl (by kernel_rfl) (by kernel_rfl) (by kernel_rfl) (fun _ _ _ h => h) (Or.inl ⟨by rfl, fun wS ⟨hS0, hS1, hS2, hS3⟩ => by go_simp; all_goals (rw [IntKind.wrap_i64]; omega)⟩) (by assumption) ?_
  simp only [Act.put, List.setIfInBounds_toArray, List.set_cons_zero, List.set_cons_succ]
  refine take_at (i := 12) (v := .int .i64 (pe)) (d := some 66) rfl rfl (by kernel_rfl) (by kernel_rfl) (by kernel_rfl) (fun _ _ _ h => h) (Or.inl ⟨by rfl, fun wS ⟨hS0, hS1, hS2, hS3⟩ => by go_simp; all_goals (rw [IntKind.wrap_i64]; omega)⟩) (by assumption) ?_
  simp only [Act.put, List.setIfInBounds_toArray, List.set_cons_zero, List.set_cons_succ]
  refine take_at (i := 13) (v := .int .i64 (12 * pe)) (d := some 67) rfl rfl (by kernel_rfl) (by kernel_rfl) (by kernel_rfl) (fun _ _ _ h => h) (Or.inl ⟨by rfl, fun wS ⟨hS0, hS1, hS2, hS3⟩ => by go_simp; all_goals (rw [IntKind.wrap_i64]; omega)⟩) (by assumption) ?_
  simp only [Act.put, List.setIfInBounds_toArray, List.set_cons_zero, List.set_cons_succ]
  refine wpAnyH_ready (rs := [4]) (by kernel_rfl) (by simp) ?_
  refine AllReadyH.cons rfl (fun K hK => ?_) AllReadyH.nil
  go_simp
  refine (HWay _).out.mono ?_
  rintro e w6 ⟨rfl, hw6⟩
  obtain rfl := hw6.symm
  refine hK.out _ _ (by exact ⟨x1, x3, q0, q3⟩) (fun hHeld => ?_)
  clear hK K
  refine wpAnyH_ready (rs := [5]) (by kernel_rfl) (by simp) ?_
  refine AllReadyH.cons rfl (fun K hK => ?_) AllReadyH.nil
  go_simp
  refine (HUp _).out.mono ?_
  rintro e w6 ⟨rfl, hw6⟩
  obtain rfl := hw6.symm
  refine hK.out _ _ (by exact ⟨x1, x3, q0, q3⟩) (fun hHeld => ?_)
  clear hK K
  refine take_at (i := 14) (v := .int .i64 (up + 12 * pe)) (d := some 68) rfl rfl (by kernel_rfl) (by kernel_rfl) (by kernel_rfl) (fun _ _ _ h => h) (Or.inl ⟨by rfl, fun wS ⟨hS0, hS1, hS2, hS3⟩ => by go_simp; all_goals (rw [IntKind.wrap_i64]; omega)⟩) (by assumption) ?_
  simp only [Act.put, List.setIfInBounds_toArray, List.set_cons_zero, List.set_cons_succ]
  refine take_at (i := 15) (v := .int .i64 (up + 12 * pe + 100)) (d := some 69) rfl rfl (by kernel_rfl) (by kernel_rfl) (by kernel_rfl) (fun _ _ _ h => h) (Or.inl ⟨by rfl, fun wS ⟨hS0, hS1, hS2, hS3⟩ => by go_simp; all_goals (rw [IntKind.wrap_i64]; omega)⟩) (by assumption) ?_
  simp only [Act.put, List.setIfInBounds_toArray, List.set_cons_zero, List.set_cons_succ]
  refine take_at (i := 16) (v := .pointer (some ⟨M, 4, none⟩)) (d := some 70) rfl rfl (by kernel_rfl) (by kernel_rfl) (by kernel_rfl) (fun _ _ _ h => h) (Or.inl ⟨by rfl, fun wS ⟨hS0, hS1, hS2, hS3⟩ => by go_simp; all_goals (rw [IntKind.wrap_i64]; omega)⟩) (by assumption) ?_
  simp only [Act.put, List.setIfInBounds_toArray, List.set_cons_zero, List.set_cons_succ]
  have q4 := HR5.out.own.at 4 (.int .i64 0) rfl
  have fz := HR5.out.own.fz 4
  have HR6 := hide ((HR5.out.set 4 (.int .i64 (up + 12 * pe + 100))).drewN 1)
  have r0 := HR6.out.own.at 0 (.int .i64 br) rfl
  have r3 := HR6.out.own.at 3 (.int .i64 fa) rfl
  have y1 := HR6.out.val 1 (by omega)
  rw [H1.out] at y1
  have y3 := HR6.out.val 3 (by omega)
  rw [H3.out] at y3
  refine wpAnyH_ready (rs := [17]) (by kernel_rfl) (by simp) ?_
  refine AllReadyH.cons rfl (fun K hK => ?_) AllReadyH.nil
  go_simp
  refine hK.out _ _ (⟨y1, y3, r0, r3⟩) (fun hHeld => ?_)
  clear hK K
  refine wpAnyH_done (by kernel_rfl) ?_ _
  go_simp
  obtain ⟨la, HLA⟩ : ∃ x, Hid (up + 12 * pe + 100 = x) := ⟨_, rfl⟩
  rw [HLA.out] at HR6 ⊢
  have HR7 : Hid (RM w g o cap l M (arr6 (.int .i64 br) (.int .i64 dr) (.int .i64 jo) (.int .i64 fa) (.int .i64 la) (.int .i64 0)) (w5.setCell ⟨M, 4, none⟩ (.int .i64 la)).drew) := HR6.out
  clear x1 x3 y1 y3 hHeld HR5 HR6 hmx q0 q3 q4 fz r0 r3
  go_upto_region 9 with fail
  generalize (w5.setCell ⟨M, 4, none⟩ (.int .i64 la)).drew = w6 at HR7 ⊢
  have htd : (1824 * p20).tdiv 1024 = 1824 * p20 / 1024 := Int.tdiv_eq_ediv_of_nonneg (by omega)
  obtain ⟨dn, HDN⟩ : ∃ x, Hid (1824 * p20 / 1024 = x) := ⟨_, rfl⟩
  have hdb : 0 ≤ dn ∧ dn ≤ 1824000 := by have := HDN.out; omega
  rw [HDN.out] at htd
  have x19 := HR7.out.val 19 (by omega)
  rw [H19.out] at x19
  have x20 := HR7.out.val 20 (by omega)
  rw [H20.out] at x20
  refine wp_region_held_drew (S := fun wx => wx.cell? ⟨g, o + 19, none⟩ = some (.int .i64 p19) ∧ wx.cell? ⟨g, o + 20, none⟩ = some (.int .i64 p20)) (by kernel_rfl) (by exact ⟨x19, x20⟩) (fun hHeld => ?_)
  refine take_at (i := 0) (v := .slice (some ⟨g, o, none⟩) 24 cap) (d := some 71) rfl rfl (by kernel_rfl) (by kernel_rfl) (by kernel_rfl) (fun _ _ _ h => h) (Or.inl ⟨by rfl, fun wS ⟨hS0, hS1⟩ => by go_simp; all_goals (rw [IntKind.wrap_i64]; omega)⟩) (by assumption) ?_
  simp only [Act.put, List.setIfInBounds_toArray, List.set_cons_zero, List.set_cons_succ]
  refine take_at (i := 1) (v := .pointer (some ⟨g, o + 19, none⟩)) (d := some 72) rfl rfl (by kernel_rfl) (by kernel_rfl) (by kernel_rfl) (fun _ _ _ h => h) (Or.inl ⟨by rfl, fun wS ⟨hS0, hS1⟩ => by go_simp; all_goals (rw [IntKind.wrap_i64]; omega)⟩) (by assumption) ?_
  simp only [Act.put, List.setIfInBounds_toArray, List.set_cons_zero, List.set_cons_succ]
  refine take_at (i := 2) (v := .int .i64 (p19)) (d := some 73) rfl rfl (by kernel_rfl) (by kernel_rfl) (by kernel_rfl) (fun _ _ _ h => h) (Or.inl ⟨by rfl, fun wS ⟨hS0, hS1⟩ => by go_simp; all_goals (rw [IntKind.wrap_i64]; omega)⟩) (by assumption) ?_
  simp only [Act.put, List.setIfInBounds_toArray, List.set_cons_zero, List.set_cons_succ]
  refine take_at (i := 3) (v := .slice (some ⟨g, o, none⟩) 24 cap) (d := some 74) rfl rfl (by kernel_rfl) (by kernel_rfl) (by kernel_rfl) (fun _ _ _ h => h) (Or.inl ⟨by rfl, fun wS ⟨hS0, hS1⟩ => by go_simp; all_goals (rw [IntKind.wrap_i64]; omega)⟩) (by assumption) ?_
  simp only [Act.put, List.setIfInBounds_toArray, List.set_cons_zero, List.set_cons_succ]
  refine take_at (i := 4) (v := .pointer (some ⟨g, o + 20, none⟩)) (d := some 75) rfl rfl (by kernel_rfl) (by kernel_rfl) (by kernel_rfl) (fun _ _ _ h => h) (Or.inl ⟨by rfl, fun wS ⟨hS0, hS1⟩ => by go_simp; all_goals (rw [IntKind.wrap_i64]; omega)⟩) (by assumption) ?_
  simp only [Act.put, List.setIfInBounds_toArray, List.set_cons_zero, List.set_cons_succ]
  refine take_at (i := 5) (v := .int .i64 (p20)) (d := some 76) rfl rfl (by kernel_rfl) (by kernel_rfl) (by kernel_rfl) (fun _ _ _ h => h) (Or.inl ⟨by rfl, fun wS ⟨hS0, hS1⟩ => by go_simp; all_goals (rw [IntKind.wrap_i64]; omega)⟩) (by assumption) ?_
  simp only [Act.put, List.setIfInBounds_toArray, List.set_cons_zero, List.set_cons_succ]
  refine take_at (i := 6) (v := .int .i64 (1824 * p20)) (d := some 77) rfl rfl (by kernel_rfl) (by kernel_rfl) (by kernel_rfl) (fun _ _ _ h => h) (Or.inl ⟨by rfl, fun wS ⟨hS0, hS1⟩ => by go_simp; all_goals (rw [IntKind.wrap_i64]; omega)⟩) (by assumption) ?_
  simp only [Act.put, List.setIfInBounds_toArray, List.set_cons_zero, List.set_cons_succ]
  refine take_at (i := 7) (v := .int .i64 (dn)) (d := some 78) rfl rfl (by kernel_rfl) (by kernel_rfl) (by kernel_rfl) (fun _ _ _ h => h) (Or.inl ⟨by rfl, fun wS ⟨hS0, hS1⟩ => by go_simp; all_goals (rw [IntKind.wrap_i64]; omega)⟩) (by assumption) ?_
  simp only [Act.put, List.setIfInBounds_toArray, List.set_cons_zero, List.set_cons_succ]
  refine take_at (i := 8) (v := .int .i64 (p19 + dn)) (d := some 79) rfl rfl (by kernel_rfl) (by kernel_rfl) (by kernel_rfl) (fun _ _ _ h => h) (Or.inl ⟨by rfl, fun wS ⟨hS0, hS1⟩ => by go_simp; all_goals (rw [IntKind.wrap_i64]; omega)⟩) (by assumption) ?_
  simp only [Act.put, List.setIfInBounds_toArray, List.set_cons_zero, List.set_cons_succ]
  refine take_at (i := 9) (v := .pointer (some ⟨M, 5, none⟩)) (d := some 80) rfl rfl (by kernel_rfl) (by kernel_rfl) (by kernel_rfl) (fun _ _ _ h => h) (Or.inl ⟨by rfl, fun wS ⟨hS0, hS1⟩ => by go_simp; all_goals (rw [IntKind.wrap_i64]; omega)⟩) (by assumption) ?_
  simp only [Act.put, List.setIfInBounds_toArray, List.set_cons_zero, List.set_cons_succ]
  have q5 := HR7.out.own.at 5 (.int .i64 0) rfl
  have fz := HR7.out.own.fz 5
  have HR8 := hide ((HR7.out.set 5 (.int .i64 (p19 + dn))).drewN 1)
  have y19 := HR8.out.val 19 (by omega)
  rw [H19.out] at y19
  have y20 := HR8.out.val 20 (by omega)
  rw [H20.out] at y20
  refine wpAnyH_ready (rs := [10]) (by kernel_rfl) (by simp) ?_
  refine AllReadyH.cons rfl (fun K hK => ?_) AllReadyH.nil
  go_simp
  refine hK.out _ _ (⟨y19, y20⟩) (fun hHeld => ?_)
  clear hK K
  refine wpAnyH_done (by kernel_rfl) ?_ _
  go_simp
  have HR9 : Hid (RM w g o cap l M (arr6 (.int .i64 br) (.int .i64 dr) (.int .i64 jo) (.int .i64 fa) (.int .i64 la) (.int .i64 (p19 + dn))) (w6.setCell ⟨M, 5, none⟩ (.int .i64 (p19 + dn))).drew) := HR8.out
  clear x19 x20 y19 y20 hHeld HR7 HR8 htd q5 fz
  go_upto_region 10 with fail
  generalize (w6.setCell ⟨M, 5, none⟩ (.int .i64 (p19 + dn))).drew = w7 at HR9 ⊢
  have q0 := HR9.out.own.at 0 (.int .i64 br) rfl
  have q1 := HR9.out.own.at 1 (.int .i64 dr) rfl
  have q2 := HR9.out.own.at 2 (.int .i64 jo) rfl
  have q3 := HR9.out.own.at 3 (.int .i64 fa) rfl
  have q4 := HR9.out.own.at 4 (.int .i64 la) rfl
  have q5 := HR9.out.own.at 5 (.int .i64 (p19 + dn)) rfl
  have z0 := HR9.out.res.at 0 (.int .i64 0) rfl
  have z1 := HR9.out.res.at 1 (.int .i64 0) rfl
  have z2 := HR9.out.res.at 2 (.int .i64 0) rfl
  have z3 := HR9.out.res.at 3 (.int .i64 0) rfl
  have z4 := HR9.out.res.at 4 (.int .i64 0) rfl
  have z5 := HR9.out.res.at 5 (.int .i64 0) rfl
  have fz := HR9.out.res.fz
  go_wp2_with fail
  refine bodyPost_ret (mar_back Try.results19 _ _ w.heap.size _ _ _ _ _ _ _ rfl rfl (HR9.out.res.set6 _ _ _ _ _ _)) rfl ?_
  refine ⟨?_, below_set6 HR9.out.bel (Nat.le_refl _) _ _ _ _ _ _⟩
  unfold marV marL
  simp only
  rw [H0.out, HSE.out, H5.out, H7.out, H8.out, H9.out, HMX.out, HBR.out, HDR.out, HJO.out, HFA.out, HWY.out, HUP.out, HPE.out, H19.out, H20.out, HDN.out, HLA.out]
  rfl
set_option maxHeartbeats 1000000 in
theorem rmargins_no (l : List Int) (h : chk l ≠ 0) (v : Value) (w : World) (hv : Ints w v l) : Calls Try.prog 19 #[v] w fun e w' => e = .returned (.tuple #[marV marZ, .int .i64 (chk l)]) ∧ Below w.heap.size w w' := by
  have hva := hv.below (below_alloc w (.cells zero6 54))
  have hck := rcheck_any l v _ hva
  obtain ⟨a, cap, rfl, _⟩ := hv
  generalize chk l = c at hck h ⊢
  generalize l.length = n at hck ⊢
  have hne : (c != 0) = true := by simp [h]
  unfold zero6 arr6 at hck hva
  clear h hva
  go_enter Try.func19, Try.ntmps19
  go_wp2_with fail
  refine hck.mono ?_
  rintro e w1 ⟨rfl, hB1⟩
  have HM1 : Hid (Mb w1 w.heap.size zero6) := by
    show _ = _
    rw [hB1.block w.heap.size (by rw [size_alloc]; omega)]; exact heap_alloc_new _ _
  have HB1 : Hid (Below w.heap.size w w1) := below_over hB1
  have z0 := HM1.out.at 0 (.int .i64 0) rfl
  have z1 := HM1.out.at 1 (.int .i64 0) rfl
  have z2 := HM1.out.at 2 (.int .i64 0) rfl
  have z3 := HM1.out.at 3 (.int .i64 0) rfl
  have z4 := HM1.out.at 4 (.int .i64 0) rfl
  have z5 := HM1.out.at 5 (.int .i64 0) rfl
  have fz := HM1.out.fz
  clear hB1 hck
  go_wp2_with fail
  refine bodyPost_ret (mar_back Try.results19 _ _ w.heap.size _ _ _ _ _ _ _ rfl rfl (HM1.out.set6 _ _ _ _ _ _)) rfl ?_
  exact ⟨rfl, below_set6 HB1.out (Nat.le_refl _) _ _ _ _ _ _⟩
theorem rmargins_any (l : List Int) (v : Value) (w : World) (hv : Ints w v l) : Calls Try.prog 19 #[v] w fun e w' => e = .returned (.tuple #[marV (marE l), .int .i64 (chk l)]) ∧ Below w.heap.size w w' := by
  unfold marE
  by_cases h : chk l = 0
  · rw [if_pos h, h]; exact rmargins_ok l (sound_of h) v w hv
  · rw [if_neg h]; exact rmargins_no l h v w hv
end Go.Proofs.Ytnofpcoohbmnpaa
