/- Package vote: a tick. -/
import Derived.Test.YtmglcmhofcejiaaVo3
namespace Go.Proofs.Ytmglcmhofcejiaa
open Go.RowKit Go.Great

theorem len_nought (a : Option Addr) (cap : Nat) (w : World) : (Builtin.len_ #[55] 3 #[.slice a 0 cap]).run Try.prog w = .ok (.int .i64 0) w := by kernel_rfl
theorem NRow.setOther {w : World} {g cap n B : Nat} {f : Nat → Int} (h : NRow w g cap n f) (hne : g ≠ B) (i : Nat) (u : Value) : NRow (w.setCell ⟨B, i, none⟩ u) g cap n f := by
  obtain ⟨cur, hb, r⟩ := h.blk
  exact ⟨⟨cur, hb.setOther hne i u, r⟩, h.le⟩
set_option maxHeartbeats 1000000 in
set_option maxRecDepth 100000 in
theorem step_any (w : World) (B : Nat) (t : Vt) (u : Un) (hB : Blk w B (vC t) 53) (ht : VOk t) (hu : UOk u) : Calls Try.prog 14 #[.pointer (some ⟨B, 0, none⟩), uV u] w fun e w' => e = .returned (.agg #[.bool (sok u t), .int .i64 (sx u t)]) ∧ Blk w' B (vC (stp u t)) 53 ∧ w.grownBy w' (some B) := by
  obtain ⟨W0, hW0, b0, U0, B2, hz0⟩ := two_boxes w #[.bool (u.o 0), .int .i64 (u.x 0), .bool (u.o 1), .int .i64 (u.x 1), .bool (u.o 2), .int .i64 (u.x 2)] #[.bool false, .int .i64 0] 38 36
  have hlB := hB.lt
  have HB := hide (hB.below b0 hlB)
  have q0 : W0.cell? ⟨w.heap.size, 0, none⟩ = some (.bool (u.o 0)) := U0.cell 0 rfl
  have q1 : W0.cell? ⟨w.heap.size, 1, none⟩ = some (.int .i64 (u.x 0)) := U0.cell 1 rfl
  have q2 : W0.cell? ⟨w.heap.size, 2, none⟩ = some (.bool (u.o 1)) := U0.cell 2 rfl
  have q3 : W0.cell? ⟨w.heap.size, 3, none⟩ = some (.int .i64 (u.x 1)) := U0.cell 3 rfl
  have q4 : W0.cell? ⟨w.heap.size, 4, none⟩ = some (.bool (u.o 2)) := U0.cell 4 rfl
  have q5 : W0.cell? ⟨w.heap.size, 5, none⟩ = some (.int .i64 (u.x 2)) := U0.cell 5 rfl
  have G0 := hide (grown_below b0 (some B))
  have HB2 := hide B2
  have HT := hide (hr_ok hu ht 3 (by omega))
  have hsp := (hr_st u t 3).2.1
  clear B2 b0 U0 hB
  unfold uV
  go_enter Try.func14, Try.ntmps14
  go_wp2_with (go_at_call 19; refine (hear_any W0 B t u HB.out ht hu).mono ?_; rintro e w1 ⟨rfl, hB1, hG1⟩)
  obtain ⟨t1, ht1⟩ : ∃ t1, Hid (hr u t 3 = t1) := ⟨_, hide rfl⟩
  rw [ht1.out] at HT hB1 hsp
  have G1 := hide (grown_then G0.out hG1 (fun k e => .inl (by injection e with e; exact e.symm)))
  have HR1 := hide (HB2.out.grown hG1 (fun e => by injection e with e; omega))
  have H1 := hide hB1
  clear hB1 hG1 HB2 HB G0 q0 q1 q2 q3 q4 q5
  go_wp2_with (go_at_call 20; refine (valid_any w1 B t1 H1.out).mono ?_; rintro e w2 ⟨v, rfl, hS, hb2⟩)
  have hl1 := H1.out.lt
  have H2 := hide (H1.out.after hb2)
  have HR2 := hide (HR1.out.after hb2)
  have G2 := hide (grown_then G1.out (grown_below hb2 none) (fun _ e => by cases e))
  have hz1 : w.heap.size + 1 < w1.heap.size := HR1.out.lt
  clear hb2 G1 H1 HR1
  rcases hS with ⟨he, a, cap, rfl⟩ | ⟨hne, g, cap, rfl, hg, hN⟩
  · have hok : Hid (sok u t = false) := hide (by unfold sok; rw [ht1.out, he]; rfl)
    have hx : Hid (sx u t = 0) := hide (by unfold sx; rw [ht1.out, he]; rfl)
    have hst : Hid (stp u t = t1) := hide (by
      have h := HT.out.sp0
      rw [stp_near u t (by rw [ht1.out, he]; show ¬ t.sp < 0; omega), ht1.out])
    have r0 : w2.cell? ⟨w.heap.size + 1, 0, none⟩ = some (.bool false) := HR2.out.cell 0 rfl
    have r1 : w2.cell? ⟨w.heap.size + 1, 1, none⟩ = some (.int .i64 0) := HR2.out.cell 1 rfl
    have f0 := HR2.out.frozen 0
    have f1 := HR2.out.frozen 1
    have hne : ¬ B = w.heap.size + 1 := by omega
    clear he HT hsp
    have hln := len_nought a cap
    simp only [hln, Result.andThen]
    go_wp2_with fail
    all_goals refine bodyPost_ret (read_back (p := 4) (by kernel_rfl) _ _ (w.heap.size + 1) _ _ rfl (HR2.out.set2 _ _)) rfl ⟨by rw [hok.out, hx.out], ?_, ?_⟩
    all_goals first
      | (rw [hst.out]; exact (H2.out.setOther hne _ _).setOther hne _ _)
      | exact grown_then (grown_then G2.out (grown_set _ _ _ _) (fun q e => .inr (by injection e with e; omega))) (grown_set _ _ _ _) (fun q e => .inr (by injection e with e; omega))
  · have hok : Hid (sok u t = true) := hide (by
      unfold sok; rw [ht1.out]
      cases hv : vl t1 3 with
      | nil => exact absurd hv hne
      | cons a b => rfl)
    have hlen := vl_len t1 3
    obtain ⟨hm, hf⟩ := srt_mid (vl t1 3) hlen hne
    have hI := srt_ok hlen (vl_ok HT.out 3 (Nat.le_refl _))
    have hx : Hid (sx u t = midL (vl t1 3)) := hide (by unfold sx; rw [ht1.out])
    have hn0 : 1 ≤ (vl t1 3).length := List.length_pos_iff.2 hne
    have h0 := farL_nonneg (vl t1 3)
    have hfar := stp_far u t
    have hnear := stp_near u t
    rw [ht1.out] at hfar hnear
    rw [← hm] at hx
    have HFar := hide hfar
    have HNear := hide hnear
    have HF := hide hf
    rw [← hf] at h0
    have H0 := hide h0
    have HI := hide hI
    have HN := hide hN
    have hsp0 := HT.out.sp0
    have hsp1 := HT.out.sp1
    have hn8 := HT.out.n
    rw [hsp] at hsp0 hsp1
    have HSP := hide hsp
    clear hm hf h0 hI hN hfar hnear hne HT hsp
    obtain ⟨f, hff⟩ : ∃ f, Hid (srt (vl t1 3) = f) := ⟨_, hide rfl⟩
    rw [hff.out] at HF H0 HI HN hx
    obtain ⟨n, hn⟩ : ∃ n, Hid ((vl t1 3).length = n) := ⟨_, hide rfl⟩
    rw [hn.out] at HF H0 HI HN hx hn0 hlen ⊢
    have s0 := vc1 H2.out
    rw [HSP.out] at s0
    obtain rfl | rfl | rfl : n = 1 ∨ n = 2 ∨ n = 3 := by omega
    · have c0 := HN.out.cell 0 (by omega)
      have i0 := hide (HI.out 0 (by omega))
      have hst : Hid (stp u t = t1) := hide (HNear.out (by rw [← HF.out]; show ¬ t.sp < f 0 - f 0; omega))
      go_wp2_with fail
      go_quiet ((go_at_call 21; exact Calls.quiet_of_same (apart_any _ _ i0.out i0.out (Int.le_refl _) _)))
      have H3 := hide (H2.out.drewN nq)
      have HR3 := hide (HR2.out.drewN nq)
      have HN3 := hide (HN.out.drewN nq)
      have G3 := hide (grown_drewN G2.out nq)
      clear H2 HR2 HN G2 c0 s0
      generalize w2.drewN nq = w3 at *
      · skip
        have H4 := H3
        have HN4 := HN3
        have HR4 := HR3
        have G4 := G3
        clear H3 HN3 HR3 G3
        have HS : Hid (vC (stp u t) = vC t1) := hide (by rw [hst.out])
        have r0 : w3.cell? ⟨w.heap.size + 1, 0, none⟩ = some (.bool false) := HR4.out.cell 0 rfl
        have r1 : w3.cell? ⟨w.heap.size + 1, 1, none⟩ = some (.int .i64 0) := HR4.out.cell 1 rfl
        have f0 := HR4.out.frozen 0
        have f1 := HR4.out.frozen 1
        go_wp2_with (go_at_call 23; refine (mid_fn w3 g cap 1 f HN4.out (by omega) (by omega) HI.out).mono ?_; rintro e w5 ⟨rfl, k, rfl⟩)
        have H5 := hide (H4.out.drewN k)
        have HR5 := hide (HR4.out.drewN k)
        have G5 := hide (grown_drewN G4.out k)
        clear H4 HR4 G4 HN4 r0 r1 f0 f1
        generalize w3.drewN k = w6 at *
        have hne : ¬ B = w.heap.size + 1 := by omega
        have HX : Hid (sx u t = hlf (f ((1 - 1) / 2)) (f (1 / 2))) := hx
        refine bodyPost_ret (read_back (p := 4) (by kernel_rfl) _ _ (w.heap.size + 1) _ _ rfl (HR5.out.set2 _ _)) rfl ⟨by rw [hok.out, HX.out], ?_, ?_⟩
        · rw [HS.out]; exact (H5.out.setOther hne _ _).setOther hne _ _
        · exact grown_then (grown_then G5.out (grown_set _ _ _ _) (fun q e => .inr (by injection e with e; omega))) (grown_set _ _ _ _) (fun q e => .inr (by injection e with e; omega))
    · have c0 := HN.out.cell 0 (by omega)
      have c1 := HN.out.cell 1 (by omega)
      have i0 := hide (HI.out 0 (by omega))
      have i1 := hide (HI.out 1 (by omega))
      have hle : Hid (f 0 ≤ f 1) := hide (by have := H0.out; simp only [Nat.reduceSub] at this; omega)
      have HFm : Hid (f 1 - f 0 = farL (vl t1 3)) := HF
      by_cases hd : t.sp < f 1 - f 0
      · have hdd : decide (t.sp < f 1 - f 0) = true := by simpa using hd
        have hst : Hid (stp u t = { t1 with n := cnt t1.n }) := hide (HFar.out (by rw [← HFm.out]; exact hd))
        clear hd
        go_wp2_with fail
        go_quiet ((go_at_call 21; exact Calls.quiet_of_same (apart_any _ _ i0.out i1.out hle.out _)))
        have H3 := hide (H2.out.drewN nq)
        have HR3 := hide (HR2.out.drewN nq)
        have HN3 := hide (HN.out.drewN nq)
        have G3 := hide (grown_drewN G2.out nq)
        clear H2 HR2 HN G2 c0 c1 s0
        generalize w2.drewN nq = w3 at *
        have k8 := vc8 H3.out
        have kf := H3.out.frozen 8
        go_wp2_with (go_at_call 22; refine (count_any _ hn8 _).mono ?_; rintro e w' ⟨rfl, hw'⟩; obtain rfl := hw'.symm)
        have H4 := hide (H3.out.set 8 (.int .i64 (cnt t1.n)))
        have HN4 := hide (HN3.out.setOther (B := B) (by omega) 8 (.int .i64 (cnt t1.n)))
        have HR4 := hide (HR3.out.setOther (C := B) (by omega) 8 (.int .i64 (cnt t1.n)))
        have G4 := hide (grown_then G3.out (grown_set w3 B 8 (.int .i64 (cnt t1.n))) (fun q e => .inl (by injection e with e; exact e.symm)))
        clear H3 HN3 HR3 G3 k8 kf
        generalize w3.setCell ⟨B, 8, none⟩ (.int .i64 (cnt t1.n)) = w4 at *
        have HS : Hid (vC (stp u t) = (vC t1).setIfInBounds 8 (.int .i64 (cnt t1.n))) := hide (by rw [hst.out]; rfl)
        have r0 : w4.cell? ⟨w.heap.size + 1, 0, none⟩ = some (.bool false) := HR4.out.cell 0 rfl
        have r1 : w4.cell? ⟨w.heap.size + 1, 1, none⟩ = some (.int .i64 0) := HR4.out.cell 1 rfl
        have f0 := HR4.out.frozen 0
        have f1 := HR4.out.frozen 1
        go_wp2_with (go_at_call 23; refine (mid_fn w4 g cap 2 f HN4.out (by omega) (by omega) HI.out).mono ?_; rintro e w5 ⟨rfl, k, rfl⟩)
        have H5 := hide (H4.out.drewN k)
        have HR5 := hide (HR4.out.drewN k)
        have G5 := hide (grown_drewN G4.out k)
        clear H4 HR4 G4 HN4 r0 r1 f0 f1
        generalize w4.drewN k = w6 at *
        have hne : ¬ B = w.heap.size + 1 := by omega
        have HX : Hid (sx u t = hlf (f ((2 - 1) / 2)) (f (2 / 2))) := hx
        refine bodyPost_ret (read_back (p := 4) (by kernel_rfl) _ _ (w.heap.size + 1) _ _ rfl (HR5.out.set2 _ _)) rfl ⟨by rw [hok.out, HX.out], ?_, ?_⟩
        · rw [HS.out]; exact (H5.out.setOther hne _ _).setOther hne _ _
        · exact grown_then (grown_then G5.out (grown_set _ _ _ _) (fun q e => .inr (by injection e with e; omega))) (grown_set _ _ _ _) (fun q e => .inr (by injection e with e; omega))
      · have hdd : decide (t.sp < f 1 - f 0) = false := by simpa using hd
        have hst : Hid (stp u t = t1) := hide (HNear.out (by rw [← HFm.out]; exact hd))
        clear hd
        go_wp2_with fail
        go_quiet ((go_at_call 21; exact Calls.quiet_of_same (apart_any _ _ i0.out i1.out hle.out _)))
        have H3 := hide (H2.out.drewN nq)
        have HR3 := hide (HR2.out.drewN nq)
        have HN3 := hide (HN.out.drewN nq)
        have G3 := hide (grown_drewN G2.out nq)
        clear H2 HR2 HN G2 c0 c1 s0
        generalize w2.drewN nq = w3 at *
        have H4 := H3
        have HN4 := HN3
        have HR4 := HR3
        have G4 := G3
        clear H3 HN3 HR3 G3
        have HS : Hid (vC (stp u t) = vC t1) := hide (by rw [hst.out])
        have r0 : w3.cell? ⟨w.heap.size + 1, 0, none⟩ = some (.bool false) := HR4.out.cell 0 rfl
        have r1 : w3.cell? ⟨w.heap.size + 1, 1, none⟩ = some (.int .i64 0) := HR4.out.cell 1 rfl
        have f0 := HR4.out.frozen 0
        have f1 := HR4.out.frozen 1
        go_wp2_with (go_at_call 23; refine (mid_fn w3 g cap 2 f HN4.out (by omega) (by omega) HI.out).mono ?_; rintro e w5 ⟨rfl, k, rfl⟩)
        have H5 := hide (H4.out.drewN k)
        have HR5 := hide (HR4.out.drewN k)
        have G5 := hide (grown_drewN G4.out k)
        clear H4 HR4 G4 HN4 r0 r1 f0 f1
        generalize w3.drewN k = w6 at *
        have hne : ¬ B = w.heap.size + 1 := by omega
        have HX : Hid (sx u t = hlf (f ((2 - 1) / 2)) (f (2 / 2))) := hx
        refine bodyPost_ret (read_back (p := 4) (by kernel_rfl) _ _ (w.heap.size + 1) _ _ rfl (HR5.out.set2 _ _)) rfl ⟨by rw [hok.out, HX.out], ?_, ?_⟩
        · rw [HS.out]; exact (H5.out.setOther hne _ _).setOther hne _ _
        · exact grown_then (grown_then G5.out (grown_set _ _ _ _) (fun q e => .inr (by injection e with e; omega))) (grown_set _ _ _ _) (fun q e => .inr (by injection e with e; omega))
    · have c0 := HN.out.cell 0 (by omega)
      have c1 := HN.out.cell 2 (by omega)
      have i0 := hide (HI.out 0 (by omega))
      have i1 := hide (HI.out 2 (by omega))
      have hle : Hid (f 0 ≤ f 2) := hide (by have := H0.out; simp only [Nat.reduceSub] at this; omega)
      have HFm : Hid (f 2 - f 0 = farL (vl t1 3)) := HF
      by_cases hd : t.sp < f 2 - f 0
      · have hdd : decide (t.sp < f 2 - f 0) = true := by simpa using hd
        have hst : Hid (stp u t = { t1 with n := cnt t1.n }) := hide (HFar.out (by rw [← HFm.out]; exact hd))
        clear hd
        go_wp2_with fail
        go_quiet ((go_at_call 21; exact Calls.quiet_of_same (apart_any _ _ i0.out i1.out hle.out _)))
        have H3 := hide (H2.out.drewN nq)
        have HR3 := hide (HR2.out.drewN nq)
        have HN3 := hide (HN.out.drewN nq)
        have G3 := hide (grown_drewN G2.out nq)
        clear H2 HR2 HN G2 c0 c1 s0
        generalize w2.drewN nq = w3 at *
        have k8 := vc8 H3.out
        have kf := H3.out.frozen 8
        go_wp2_with (go_at_call 22; refine (count_any _ hn8 _).mono ?_; rintro e w' ⟨rfl, hw'⟩; obtain rfl := hw'.symm)
        have H4 := hide (H3.out.set 8 (.int .i64 (cnt t1.n)))
        have HN4 := hide (HN3.out.setOther (B := B) (by omega) 8 (.int .i64 (cnt t1.n)))
        have HR4 := hide (HR3.out.setOther (C := B) (by omega) 8 (.int .i64 (cnt t1.n)))
        have G4 := hide (grown_then G3.out (grown_set w3 B 8 (.int .i64 (cnt t1.n))) (fun q e => .inl (by injection e with e; exact e.symm)))
        clear H3 HN3 HR3 G3 k8 kf
        generalize w3.setCell ⟨B, 8, none⟩ (.int .i64 (cnt t1.n)) = w4 at *
        have HS : Hid (vC (stp u t) = (vC t1).setIfInBounds 8 (.int .i64 (cnt t1.n))) := hide (by rw [hst.out]; rfl)
        have r0 : w4.cell? ⟨w.heap.size + 1, 0, none⟩ = some (.bool false) := HR4.out.cell 0 rfl
        have r1 : w4.cell? ⟨w.heap.size + 1, 1, none⟩ = some (.int .i64 0) := HR4.out.cell 1 rfl
        have f0 := HR4.out.frozen 0
        have f1 := HR4.out.frozen 1
        go_wp2_with (go_at_call 23; refine (mid_fn w4 g cap 3 f HN4.out (by omega) (by omega) HI.out).mono ?_; rintro e w5 ⟨rfl, k, rfl⟩)
        have H5 := hide (H4.out.drewN k)
        have HR5 := hide (HR4.out.drewN k)
        have G5 := hide (grown_drewN G4.out k)
        clear H4 HR4 G4 HN4 r0 r1 f0 f1
        generalize w4.drewN k = w6 at *
        have hne : ¬ B = w.heap.size + 1 := by omega
        have HX : Hid (sx u t = hlf (f ((3 - 1) / 2)) (f (3 / 2))) := hx
        refine bodyPost_ret (read_back (p := 4) (by kernel_rfl) _ _ (w.heap.size + 1) _ _ rfl (HR5.out.set2 _ _)) rfl ⟨by rw [hok.out, HX.out], ?_, ?_⟩
        · rw [HS.out]; exact (H5.out.setOther hne _ _).setOther hne _ _
        · exact grown_then (grown_then G5.out (grown_set _ _ _ _) (fun q e => .inr (by injection e with e; omega))) (grown_set _ _ _ _) (fun q e => .inr (by injection e with e; omega))
      · have hdd : decide (t.sp < f 2 - f 0) = false := by simpa using hd
        have hst : Hid (stp u t = t1) := hide (HNear.out (by rw [← HFm.out]; exact hd))
        clear hd
        go_wp2_with fail
        go_quiet ((go_at_call 21; exact Calls.quiet_of_same (apart_any _ _ i0.out i1.out hle.out _)))
        have H3 := hide (H2.out.drewN nq)
        have HR3 := hide (HR2.out.drewN nq)
        have HN3 := hide (HN.out.drewN nq)
        have G3 := hide (grown_drewN G2.out nq)
        clear H2 HR2 HN G2 c0 c1 s0
        generalize w2.drewN nq = w3 at *
        have H4 := H3
        have HN4 := HN3
        have HR4 := HR3
        have G4 := G3
        clear H3 HN3 HR3 G3
        have HS : Hid (vC (stp u t) = vC t1) := hide (by rw [hst.out])
        have r0 : w3.cell? ⟨w.heap.size + 1, 0, none⟩ = some (.bool false) := HR4.out.cell 0 rfl
        have r1 : w3.cell? ⟨w.heap.size + 1, 1, none⟩ = some (.int .i64 0) := HR4.out.cell 1 rfl
        have f0 := HR4.out.frozen 0
        have f1 := HR4.out.frozen 1
        go_wp2_with (go_at_call 23; refine (mid_fn w3 g cap 3 f HN4.out (by omega) (by omega) HI.out).mono ?_; rintro e w5 ⟨rfl, k, rfl⟩)
        have H5 := hide (H4.out.drewN k)
        have HR5 := hide (HR4.out.drewN k)
        have G5 := hide (grown_drewN G4.out k)
        clear H4 HR4 G4 HN4 r0 r1 f0 f1
        generalize w3.drewN k = w6 at *
        have hne : ¬ B = w.heap.size + 1 := by omega
        have HX : Hid (sx u t = hlf (f ((3 - 1) / 2)) (f (3 / 2))) := hx
        refine bodyPost_ret (read_back (p := 4) (by kernel_rfl) _ _ (w.heap.size + 1) _ _ rfl (HR5.out.set2 _ _)) rfl ⟨by rw [hok.out, HX.out], ?_, ?_⟩
        · rw [HS.out]; exact (H5.out.setOther hne _ _).setOther hne _ _
        · exact grown_then (grown_then G5.out (grown_set _ _ _ _) (fun q e => .inr (by injection e with e; omega))) (grown_set _ _ _ _) (fun q e => .inr (by injection e with e; omega))
end Go.Proofs.Ytmglcmhofcejiaa
