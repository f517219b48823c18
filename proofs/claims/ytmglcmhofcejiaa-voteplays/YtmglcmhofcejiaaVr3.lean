/- The document's vote: a tick. -/
import Derived.Test.YtmglcmhofcejiaaVr2
namespace Go.Proofs.Ytmglcmhofcejiaa
open Go.RowKit Go.Great

theorem Blk.q6r {W : World} {B : Nat} {u : Un} {t : TypeId} (h : Blk W B #[.bool (u.o 0), .int .i64 (u.x 0), .bool (u.o 1), .int .i64 (u.x 1), .bool (u.o 2), .int .i64 (u.x 2)] t) : W.cell? ⟨B, 0, none⟩ = some (.bool (u.o 0)) ∧ W.cell? ⟨B, 1, none⟩ = some (.int .i64 (u.x 0)) ∧ W.cell? ⟨B, 2, none⟩ = some (.bool (u.o 1)) ∧ W.cell? ⟨B, 3, none⟩ = some (.int .i64 (u.x 1)) ∧ W.cell? ⟨B, 4, none⟩ = some (.bool (u.o 2)) ∧ W.cell? ⟨B, 5, none⟩ = some (.int .i64 (u.x 2)) :=
  ⟨h.cell 0 rfl, h.cell 1 rfl, h.cell 2 rfl, h.cell 3 rfl, h.cell 4 rfl, h.cell 5 rfl⟩
set_option maxHeartbeats 4000000 in
set_option maxRecDepth 100000 in
theorem rstep_any (w : World) (B : Nat) (t : Vt) (u : Un) (hB : Blk w B (vC t) 29) (ht : VOk t) (hu : UOk u) : Calls Try.prog 15 #[.pointer (some ⟨B, 0, none⟩), uV u] w fun e w' => e = .returned (.agg #[.bool (sok u t), .int .i64 (sx u t)]) ∧ Blk w' B (vC (stp u t)) 29 ∧ w.grownBy w' (some B) := by
  obtain ⟨i0, hi, hz0, hz1, hz2⟩ := info_parts info_int
  obtain ⟨W0, hW0, b0, U0, B2, hz0'⟩ := two_boxes w #[.bool (u.o 0), .int .i64 (u.x 0), .bool (u.o 1), .int .i64 (u.x 1), .bool (u.o 2), .int .i64 (u.x 2)] #[.bool false, .int .i64 0] 38 36
  have hlB := hB.lt
  have HB := hide (hB.below b0 hlB)
  have HU := hide U0
  have HR0 := hide B2
  have HG0 := hide (grown_below b0 (some B))
  have HK : Hid (∀ j, j ≤ 3 → VOk (hr u t j)) := hide (hr_ok hu ht)
  have HAT := hide (hr_at u t)
  obtain ⟨t1, ht1⟩ : ∃ t1, Hid (hr u t 3 = t1) := ⟨_, hide rfl⟩
  rw [ht1.out] at HAT
  have HST : Hid (∀ j, (hr u t j).st = t1.st) := hide (fun j => by rw [← ht1.out, (hr_st u t j).1, (hr_st u t 3).1])
  clear B2 b0 U0 hB
  have hnb1 : ¬ B = w.heap.size := by omega
  have hnb2 : ¬ B = w.heap.size + 1 := by omega
  have HZ := hide hz0'
  clear hz0'
  generalize hub : w.heap.size = ub at *
  unfold uV
  go_enter Try.func15, Try.ntmps15
  go_wp2_with fail
  go_loopw [6, 5] (fun vi vz wr => ∃ (j : Nat) (vs : Value), vi = .int .i64 (j : Int) ∧ vs = vz ∧ j ≤ 3 ∧ IRow wr W0.heap.size vz (vl t1 j) ∧ Blk wr B (vC (hr u t j)) 29 ∧ Blk wr ub #[.bool (u.o 0), .int .i64 (u.x 0), .bool (u.o 1), .int .i64 (u.x 1), .bool (u.o 2), .int .i64 (u.x 2)] 38 ∧ Blk wr (ub + 1) #[.bool false, .int .i64 0] 36 ∧ W0.grownBy wr (some B)) (fun v _ _ => 3 - (intOf v).toNat)
  case atStart => exact ⟨0, _, rfl, rfl, by omega, IRow.nil _ _, HB.out, HU.out, HR0.out, grown_below (Below.refl _ _) _⟩
  case round =>
    clear HB HU HR0
    obtain ⟨j, vs, rfl, hvs, hj, hR, hBj, hU, hR0, hG⟩ := hrel
    subst hvs
    have HR := hide hR
    have HB := hide hBj
    have HU := hide hU
    have HR0 := hide hR0
    have HG := hide hG
    have hll := vl_len t1 j
    clear hR hBj hU hR0 hG
    by_cases h3 : j = 3
    · subst h3
      rw [ht1.out] at HB
      obtain ⟨l, hl⟩ : ∃ l, Hid (vl t1 3 = l) := ⟨_, hide rfl⟩
      have HT1 := hide (HK.out 3 (by omega))
      rw [ht1.out] at HT1
      have hI := vl_ok HT1.out 3 (Nat.le_refl _)
      rw [hl.out] at HR hll hI
      have HX : Hid (sx u t = midL l) := hide (by unfold sx; rw [ht1.out, hl.out])
      have HOK : Hid (sok u t = !l.isEmpty) := hide (by unfold sok; rw [ht1.out, hl.out])
      have hfar := stp_far u t
      have hnear := stp_near u t
      rw [ht1.out, hl.out] at hfar hnear
      have hsp : t1.sp = t.sp := by rw [← ht1.out]; exact (hr_st u t 3).2.1
      have HFar := hide hfar
      have HNear := hide hnear
      have hsp0 := HT1.out.sp0
      have hsp1 := HT1.out.sp1
      have hn8 := HT1.out.n
      have HSP := hide hsp
      have nRB : ¬ B = ub + 1 := hnb2
      have hsW := HG.out.size
      have hzz := HZ.out
      have HZ2 := hide hzz
      clear hfar hnear hsp hzz HK HAT HST HU
      by_cases hne : l = []
      · subst hne
        obtain ⟨a, cap, hv⟩ := HR.out.shape
        have hv' : vs = .slice a 0 cap := hv
        subst hv'
        have hln := len_nought a cap
        have r0 : wr.cell? ⟨ub + 1, 0, none⟩ = some (.bool false) := HR0.out.cell 0 rfl
        have r1 : wr.cell? ⟨ub + 1, 1, none⟩ = some (.int .i64 0) := HR0.out.cell 1 rfl
        have f0 := HR0.out.frozen 0
        have f1 := HR0.out.frozen 1
        have HS0 : Hid (stp u t = t1) := hide (HNear.out (by rw [← HSP.out]; show ¬ t1.sp < 0; omega))
        clear HFar HNear hll hI HR
        go_wp2_with fail
        go_loopw [8, 7] (fun v8 v7 w2 => v8 = .int .i64 0 ∧ v7 = .bool false ∧ w2 = wr) (fun _ _ _ => 0)
        case atStart => exact ⟨rfl, rfl, rfl⟩
        case round =>
          obtain ⟨rfl, rfl, hw2⟩ := hrel
          obtain rfl := hw2.symm
          go_wp2_with fail
          try (simp only [hln, Result.andThen]; go_wp2_with fail)
          try (simp only [hln, Result.andThen]; go_wp2_with fail)
          refine bodyPost_ret (read_back (p := 4) (by kernel_rfl) _ _ (ub + 1) _ _ rfl (HR0.out.set2 _ _)) rfl ⟨by rw [HOK.out, HX.out]; rfl, ?_, ?_⟩
          · rw [HS0.out]; exact (HB.out.setOther nRB _ _).setOther nRB _ _
          · exact grown_then (grown_then (grown_then HG0.out HG.out (fun q e => .inl (by injection e with e; exact e.symm))) (grown_set _ _ _ _) (fun q e => .inr (by injection e with e; omega))) (grown_set _ _ _ _) (fun q e => .inr (by injection e with e; omega))
      · obtain ⟨g, cap, hv, hg, hN⟩ := nrow_of HR.out hne
        subst hv
        have HN := hide hN
        have hn0 : 1 ≤ l.length := List.length_pos_iff.2 hne
        have HSF := hide (sp_far l hll t1.sp hsp0)
        obtain ⟨f, hf⟩ : ∃ f : Nat → Int, Hid (f = fun k => l.getD k 0) := ⟨_, hide rfl⟩
        rw [← hf.out] at HN HSF
        have HI : Hid (∀ k, k < l.length → I64 (f k)) := hide (fun k hk => by
          rw [hf.out]
          refine hI _ ?_
          show l.getD k 0 ∈ l
          rw [List.getD, List.getElem?_eq_getElem hk]
          exact List.getElem_mem hk)
        have HE : Hid (l.isEmpty = false) := hide (by cases l with | nil => exact absurd rfl hne | cons a b => rfl)
        rw [HE.out] at HOK
        have HL3 := hide hll
        obtain ⟨n, hn⟩ : ∃ n, Hid (l.length = n) := ⟨_, hide rfl⟩
        have HNL := hide hn.out
        rw [hn.out] at HN HSF HI hn0 hll ⊢
        have hgB : ¬ g = B := by have := HB.out.lt; have := HG.out.size; have := HZ.out; omega
        have HSPI : Hid (I64 t1.sp) := hide ⟨by omega, hsp1⟩
        clear hI hN hne HR
        go_wp2_with fail
        obtain ⟨w1, rfl⟩ : ∃ w1, w1 = wr := ⟨wr, rfl⟩
        go_loopw [8, 7] (fun v8 v7 w2 => ∃ i : Nat, v8 = .int .i64 (i : Int) ∧ i ≤ n ∧ v7 = .bool (spO f t1.sp i) ∧ Below w1.heap.size w1 w2) (fun v _ _ => n - (intOf v).toNat)
        case atStart => exact ⟨0, rfl, by omega, rfl, Below.refl _ _⟩
        case round =>
          obtain ⟨i, rfl, hi', rfl, hb2⟩ := hrel
          have Hb2 := hide hb2
          clear hb2
          by_cases hin : i < n
          · go_wp2_with fail
            obtain ⟨w3, rfl⟩ : ∃ w3, w3 = wr := ⟨wr, rfl⟩
            go_loopw [9, 7] (fun v9 v7 w4 => ∃ (k : Nat) (sv : Bool), v9 = .int .i64 (k : Int) ∧ k ≤ i ∧ v7 = .bool sv ∧ Hid ((spO f t1.sp i || spI f t1.sp i k) = sv) ∧ Below w1.heap.size w1 w4) (fun v _ _ => i - (intOf v).toNat)
            case atStart => exact ⟨0, _, rfl, by omega, rfl, hide (by rw [spI, Bool.or_false]), Hb2.out⟩
            case round =>
              obtain ⟨k, sv, rfl, hk, rfl, hsv, hb4⟩ := hrel
              have Hb4 := hide hb4
              have N4 := hide (HN.out.below hb4)
              have B4 := hide (HB.out.after hb4)
              clear hb4
              by_cases hki : k < i
              · have hne4 : Nonempty (BelowW wr) := ⟨⟨wr, Below.refl _ _⟩⟩
                have c1 : ∀ z : BelowW wr, z.q.cell? ⟨g, i, none⟩ = some (.int .i64 (f i)) := fun z => z.cell (N4.out.cell i hin) N4.out.lt
                have c2 : ∀ z : BelowW wr, z.q.cell? ⟨g, k, none⟩ = some (.int .i64 (f k)) := fun z => z.cell (N4.out.cell k (by omega)) N4.out.lt
                have c3 : ∀ z : BelowW wr, z.q.cell? ⟨B, 1, none⟩ = some (.int .i64 t1.sp) := fun z => z.cell (vc1 B4.out) B4.out.lt
                have AP : Hid (∀ w', Calls Try.prog 24 #[.int .i64 (f i), .int .i64 (f k), .int .i64 t1.sp] w' fun e w'' => e = .returned (.bool (prB f t1.sp i k)) ∧ Below w'.heap.size w' w'') := hide (fun w' => rapart_any (f i) (f k) t1.sp w' (HI.out i hin) (HI.out k (by omega)) HSPI.out)
                have HSI : Hid (spI f t1.sp i (k + 1) = (spI f t1.sp i k || prB f t1.sp i k)) := hide rfl
                obtain ⟨pb, hpb⟩ : ∃ pb, Hid (prB f t1.sp i k = pb) := ⟨_, hide rfl⟩
                rw [hpb.out] at AP HSI
                rcases (show sv = true ∨ sv = false by cases sv <;> simp) with rfl | rfl
                · go_wp2_with fail
                  refine wp_region_calm (by kernel_rfl) (by kernel_rfl) ?_
                  repeat (go_big_quiet_step (fail))
                  refine wpQuiet_nil ?_
                  rintro _ ⟨z, rfl⟩
                  go_wp2_with fail
                  go_roundw
                  case rel => exact ⟨k + 1, true, by go_num, by omega, rfl, hide (by rw [HSI.out, ← Bool.or_assoc, hsv.out]; rfl), below_next Hb4.out (Nat.le_refl _) z.h⟩
                  case measure => simp [intOf]; omega
                · go_wp2_with fail
                  refine wp_region_calm (by kernel_rfl) (by kernel_rfl) ?_
                  repeat (go_big_quiet_step (first | (go_at_call 24; exact calm_of (AP.out _))))
                  refine wpQuiet_nil ?_
                  rintro _ ⟨z, rfl⟩
                  go_wp2_with fail
                  go_roundw
                  case rel => exact ⟨k + 1, pb, by go_num, by omega, rfl, hide (by rw [HSI.out, ← Bool.or_assoc, hsv.out]; rfl), below_next Hb4.out (Nat.le_refl _) z.h⟩
                  case measure => simp [intOf]; omega
              · obtain rfl : k = i := by omega
                have HSO : Hid (spO f t1.sp (k + 1) = sv) := hide (by rw [spO]; exact hsv.out)
                go_wp2_with fail
                go_roundw
                case rel => exact ⟨k + 1, by go_num, by omega, by rw [HSO.out], Hb4.out⟩
                case measure => simp [intOf]; omega
          · obtain rfl : i = n := by omega
            have N4 := hide (HN.out.below Hb2.out)
            have B4 := hide (HB.out.after Hb2.out)
            have R4 := hide (HR0.out.after Hb2.out)
            have G4 := hide (grown_then (grown_then HG0.out HG.out (fun q e => .inl (by injection e with e; exact e.symm))) (grown_below Hb2.out none) (fun _ e => by cases e))
            have hub4 : w.heap.size ≤ ub + 1 := by omega
            clear HN HB HR0 HG HG0
            obtain ⟨cn, hcn⟩ : ∃ cn, Hid (cnt t1.n = cn) := ⟨_, hide rfl⟩
            have em : (if 65535 < t1.n + 1 then 65535 else t1.n + 1) = cn := by rw [← hcn.out]; unfold cnt; split <;> omega
            obtain ⟨hn8a, hn8b⟩ := hn8
            obtain rfl | rfl | rfl : i = 1 ∨ i = 2 ∨ i = 3 := by omega
            · have HM : Hid (l = [f 0]) := hide (by
                rw [hf.out]
                rcases vl_cases l HL3.out with h | ⟨a, h⟩ | ⟨a, b, h⟩ | ⟨a, b, c, h⟩ <;> (have hlen := HNL.out; subst h; first | rfl | (simp at hlen)))
              by_cases hfr : t1.sp < farL l
              · have hd : decide (t1.sp < farL l) = true := by simpa using hfr
                rw [HSF.out, hd]
                clear HSF hd
                have HS0 : Hid (vC (stp u t) = (vC t1).setIfInBounds 8 (.int .i64 cn)) := hide (by rw [HFar.out (by rw [← HSP.out]; exact hfr), ← hcn.out]; rfl)
                have c8 : wr.cell? ⟨B, 8, none⟩ = some (.int .i64 t1.n) := vc8 B4.out
                have f8 := B4.out.frozen 8
                clear hfr
                go_upto_region 21 with fail
                have N5 := hide (N4.out.setOther hgB 8 (.int .i64 cn))
                have B5 := hide (B4.out.set 8 (.int .i64 cn))
                have R5 := hide (R4.out.setOther (fun e => nRB e.symm) 8 (.int .i64 cn))
                have G5 := hide (grown_then G4.out (grown_set wr B 8 (.int .i64 cn)) (fun q e => .inl (by injection e with e; exact e.symm)))
                clear N4 B4 R4 G4 c8 f8
                generalize wr.setCell ⟨B, 8, none⟩ (.int .i64 cn) = w5 at *
                have r0 : w5.cell? ⟨ub + 1, 0, none⟩ = some (.bool false) := R5.out.cell 0 rfl
                have r1 : w5.cell? ⟨ub + 1, 1, none⟩ = some (.int .i64 0) := R5.out.cell 1 rfl
                have f0 := R5.out.frozen 0
                have f1 := R5.out.frozen 1
                have c0 : w5.cell? ⟨g, 0, none⟩ = some (.int .i64 (f 0)) := N5.out.cell 0 (by omega)
                go_wp2_with fail
                refine bodyPost_ret (read_back (p := 4) (by kernel_rfl) _ _ (ub + 1) _ _ rfl (R5.out.set2 _ _)) rfl ⟨by rw [HOK.out, HX.out]; rw [HM.out]; rfl, ?_, ?_⟩
                · rw [HS0.out]; exact (B5.out.setOther nRB _ _).setOther nRB _ _
                · exact grown_then (grown_then G5.out (grown_set _ _ _ _) (fun q e => .inr (by injection e with e; omega))) (grown_set _ _ _ _) (fun q e => .inr (by injection e with e; omega))
              · have hd : decide (t1.sp < farL l) = false := by simpa using hfr
                rw [HSF.out, hd]
                clear HSF hd
                have HS0 : Hid (vC (stp u t) = vC t1) := hide (by rw [HNear.out (by rw [← HSP.out]; first | exact hfr | omega)])
                clear hfr
                go_upto_region 21 with fail
                have N5 := N4
                have B5 := B4
                have R5 := R4
                have G5 := G4
                clear N4 B4 R4 G4
                obtain ⟨w5, rfl⟩ : ∃ w5, w5 = wr := ⟨wr, rfl⟩
                have r0 : w5.cell? ⟨ub + 1, 0, none⟩ = some (.bool false) := R5.out.cell 0 rfl
                have r1 : w5.cell? ⟨ub + 1, 1, none⟩ = some (.int .i64 0) := R5.out.cell 1 rfl
                have f0 := R5.out.frozen 0
                have f1 := R5.out.frozen 1
                have c0 : w5.cell? ⟨g, 0, none⟩ = some (.int .i64 (f 0)) := N5.out.cell 0 (by omega)
                go_wp2_with fail
                refine bodyPost_ret (read_back (p := 4) (by kernel_rfl) _ _ (ub + 1) _ _ rfl (R5.out.set2 _ _)) rfl ⟨by rw [HOK.out, HX.out]; rw [HM.out]; rfl, ?_, ?_⟩
                · rw [HS0.out]; exact (B5.out.setOther nRB _ _).setOther nRB _ _
                · exact grown_then (grown_then G5.out (grown_set _ _ _ _) (fun q e => .inr (by injection e with e; omega))) (grown_set _ _ _ _) (fun q e => .inr (by injection e with e; omega))
            · have HM : Hid (l = [f 0, f 1]) := hide (by
                rw [hf.out]
                rcases vl_cases l HL3.out with h | ⟨a, h⟩ | ⟨a, b, h⟩ | ⟨a, b, c, h⟩ <;> (have hlen := HNL.out; subst h; first | rfl | (simp at hlen)))
              by_cases hfr : t1.sp < farL l
              · have hd : decide (t1.sp < farL l) = true := by simpa using hfr
                rw [HSF.out, hd]
                clear HSF hd
                have HS0 : Hid (vC (stp u t) = (vC t1).setIfInBounds 8 (.int .i64 cn)) := hide (by rw [HFar.out (by rw [← HSP.out]; exact hfr), ← hcn.out]; rfl)
                have c8 : wr.cell? ⟨B, 8, none⟩ = some (.int .i64 t1.n) := vc8 B4.out
                have f8 := B4.out.frozen 8
                clear hfr
                go_upto_region 21 with fail
                have N5 := hide (N4.out.setOther hgB 8 (.int .i64 cn))
                have B5 := hide (B4.out.set 8 (.int .i64 cn))
                have R5 := hide (R4.out.setOther (fun e => nRB e.symm) 8 (.int .i64 cn))
                have G5 := hide (grown_then G4.out (grown_set wr B 8 (.int .i64 cn)) (fun q e => .inl (by injection e with e; exact e.symm)))
                clear N4 B4 R4 G4 c8 f8
                generalize wr.setCell ⟨B, 8, none⟩ (.int .i64 cn) = w5 at *
                have r0 : w5.cell? ⟨ub + 1, 0, none⟩ = some (.bool false) := R5.out.cell 0 rfl
                have r1 : w5.cell? ⟨ub + 1, 1, none⟩ = some (.int .i64 0) := R5.out.cell 1 rfl
                have f0 := R5.out.frozen 0
                have f1 := R5.out.frozen 1
                have c0 : w5.cell? ⟨g, 0, none⟩ = some (.int .i64 (f 0)) := N5.out.cell 0 (by omega)
                have c1 : w5.cell? ⟨g, 1, none⟩ = some (.int .i64 (f 1)) := N5.out.cell 1 (by omega)
                go_wp2_with fail
                refine wp_region_held_drew (S := fun wx => wx.cell? ⟨g, 0, none⟩ = some (.int .i64 (f 0)) ∧ wx.cell? ⟨g, 1, none⟩ = some (.int .i64 (f 1))) (by kernel_rfl) (⟨c0, c1⟩) (fun hHeld => ?_)
                refine take_at (i := 0) (v := .slice (some ⟨g, 0, none⟩) 2 cap) (d := some 130) rfl rfl (by kernel_rfl) (by kernel_rfl) (by kernel_rfl) (fun _ _ _ h => h) (Or.inl ⟨by rfl, fun wS ⟨hS0, hS1⟩ => by go_simp; all_goals (rw [IntKind.wrap_i64]; omega)⟩) (by assumption) ?_
                simp only [Act.put, List.setIfInBounds_toArray, List.set_cons_zero, List.set_cons_succ]
                refine take_at (i := 1) (v := .pointer (some ⟨g, 0, none⟩)) (d := some 131) rfl rfl (by kernel_rfl) (by kernel_rfl) (by kernel_rfl) (fun _ _ _ h => h) (Or.inl ⟨by rfl, fun wS ⟨hS0, hS1⟩ => by go_simp; all_goals (rw [IntKind.wrap_i64]; omega)⟩) (by assumption) ?_
                simp only [Act.put, List.setIfInBounds_toArray, List.set_cons_zero, List.set_cons_succ]
                refine take_at (i := 2) (v := .int .i64 (f 0)) (d := some 132) rfl rfl (by kernel_rfl) (by kernel_rfl) (by kernel_rfl) (fun _ _ _ h => h) (Or.inl ⟨by rfl, fun wS ⟨hS0, hS1⟩ => by go_simp; all_goals (rw [IntKind.wrap_i64]; omega)⟩) (by assumption) ?_
                simp only [Act.put, List.setIfInBounds_toArray, List.set_cons_zero, List.set_cons_succ]
                refine take_at (i := 3) (v := .slice (some ⟨g, 0, none⟩) 2 cap) (d := some 133) rfl rfl (by kernel_rfl) (by kernel_rfl) (by kernel_rfl) (fun _ _ _ h => h) (Or.inl ⟨by rfl, fun wS ⟨hS0, hS1⟩ => by go_simp; all_goals (rw [IntKind.wrap_i64]; omega)⟩) (by assumption) ?_
                simp only [Act.put, List.setIfInBounds_toArray, List.set_cons_zero, List.set_cons_succ]
                refine take_at (i := 4) (v := .pointer (some ⟨g, 1, none⟩)) (d := some 134) rfl rfl (by kernel_rfl) (by kernel_rfl) (by kernel_rfl) (fun _ _ _ h => h) (Or.inl ⟨by rfl, fun wS ⟨hS0, hS1⟩ => by go_simp; all_goals (rw [IntKind.wrap_i64]; omega)⟩) (by assumption) ?_
                simp only [Act.put, List.setIfInBounds_toArray, List.set_cons_zero, List.set_cons_succ]
                refine take_at (i := 5) (v := .int .i64 (f 1)) (d := some 135) rfl rfl (by kernel_rfl) (by kernel_rfl) (by kernel_rfl) (fun _ _ _ h => h) (Or.inl ⟨by rfl, fun wS ⟨hS0, hS1⟩ => by go_simp; all_goals (rw [IntKind.wrap_i64]; omega)⟩) (by assumption) ?_
                simp only [Act.put, List.setIfInBounds_toArray, List.set_cons_zero, List.set_cons_succ]
                clear hHeld
                refine wpAnyH_ready (rs := [6]) (by kernel_rfl) (by simp) ?_
                refine AllReadyH.cons rfl (fun K hK => ?_) AllReadyH.nil
                go_simp
                refine (rhalf_any (f 0) (f 1) _ (HI.out 0 (by omega)) (HI.out 1 (by omega))).mono ?_
                rintro e w6 ⟨rfl, h6⟩
                have h6' := below_undrew h6
                have R6 := hide (R5.out.after h6')
                have B6 := hide (B5.out.after h6')
                have N6 := hide (N5.out.below h6')
                have G6 := hide (grown_then G5.out (grown_below h6' none) (fun _ e => by cases e))
                refine hK.out _ _ ⟨N6.out.cell 0 (by omega), N6.out.cell 1 (by omega)⟩ (fun hHeld => ?_)
                clear hK K
                refine take_at (i := 7) (v := .agg #[.bool true, .int .i64 (hlf (f 0) (f 1))]) (d := some 137) rfl rfl (by kernel_rfl) (by kernel_rfl) (by kernel_rfl) (fun _ _ _ h => h) (Or.inl ⟨by rfl, fun wS ⟨hS0, hS1⟩ => by go_simp; all_goals (rw [IntKind.wrap_i64]; omega)⟩) (by assumption) ?_
                simp only [Act.put, List.setIfInBounds_toArray, List.set_cons_zero, List.set_cons_succ]
                clear hHeld r0 r1 f0 f1
                have r0 : w6.cell? ⟨ub + 1, 0, none⟩ = some (.bool false) := R6.out.cell 0 rfl
                have r1 : w6.cell? ⟨ub + 1, 1, none⟩ = some (.int .i64 0) := R6.out.cell 1 rfl
                have f0 := R6.out.frozen 0
                have f1 := R6.out.frozen 1
                have hgr : ¬ g = ub + 1 := by have := hg; have := HZ2.out; omega
                refine wpAnyH_ready (rs := [8]) (by kernel_rfl) (by simp) ?_
                refine AllReadyH.cons rfl (fun K hK => ?_) AllReadyH.nil
                go_simp
                have N7 := N6.out.setOther (B := ub + 1) hgr 0 (.bool true)
                have N8 := N7.setOther (B := ub + 1) hgr 1 (.int .i64 (hlf (f 0) (f 1)))
                refine hK.out _ _ ⟨N8.cell 0 (by omega), N8.cell 1 (by omega)⟩ (fun hHeld => ?_)
                clear hK K
                refine wpAnyH_done (by kernel_rfl) ?_ _
                clear hHeld
                go_wp2_with fail
                refine bodyPost_ret (read_back (p := 4) (by kernel_rfl) _ _ (ub + 1) _ _ rfl (R6.out.set2 _ _)) rfl ⟨by rw [HOK.out, HX.out]; rw [HM.out]; rfl, ?_, ?_⟩
                · rw [HS0.out]; exact (B6.out.setOther nRB _ _).setOther nRB _ _
                · exact grown_then (grown_then G6.out (grown_set _ _ _ _) (fun q e => .inr (by injection e with e; omega))) (grown_set _ _ _ _) (fun q e => .inr (by injection e with e; omega))
              · have hd : decide (t1.sp < farL l) = false := by simpa using hfr
                rw [HSF.out, hd]
                clear HSF hd
                have HS0 : Hid (vC (stp u t) = vC t1) := hide (by rw [HNear.out (by rw [← HSP.out]; first | exact hfr | omega)])
                clear hfr
                go_upto_region 21 with fail
                have N5 := N4
                have B5 := B4
                have R5 := R4
                have G5 := G4
                clear N4 B4 R4 G4
                obtain ⟨w5, rfl⟩ : ∃ w5, w5 = wr := ⟨wr, rfl⟩
                have r0 : w5.cell? ⟨ub + 1, 0, none⟩ = some (.bool false) := R5.out.cell 0 rfl
                have r1 : w5.cell? ⟨ub + 1, 1, none⟩ = some (.int .i64 0) := R5.out.cell 1 rfl
                have f0 := R5.out.frozen 0
                have f1 := R5.out.frozen 1
                have c0 : w5.cell? ⟨g, 0, none⟩ = some (.int .i64 (f 0)) := N5.out.cell 0 (by omega)
                have c1 : w5.cell? ⟨g, 1, none⟩ = some (.int .i64 (f 1)) := N5.out.cell 1 (by omega)
                go_wp2_with fail
                refine wp_region_held_drew (S := fun wx => wx.cell? ⟨g, 0, none⟩ = some (.int .i64 (f 0)) ∧ wx.cell? ⟨g, 1, none⟩ = some (.int .i64 (f 1))) (by kernel_rfl) (⟨c0, c1⟩) (fun hHeld => ?_)
                refine take_at (i := 0) (v := .slice (some ⟨g, 0, none⟩) 2 cap) (d := some 130) rfl rfl (by kernel_rfl) (by kernel_rfl) (by kernel_rfl) (fun _ _ _ h => h) (Or.inl ⟨by rfl, fun wS ⟨hS0, hS1⟩ => by go_simp; all_goals (rw [IntKind.wrap_i64]; omega)⟩) (by assumption) ?_
                simp only [Act.put, List.setIfInBounds_toArray, List.set_cons_zero, List.set_cons_succ]
                refine take_at (i := 1) (v := .pointer (some ⟨g, 0, none⟩)) (d := some 131) rfl rfl (by kernel_rfl) (by kernel_rfl) (by kernel_rfl) (fun _ _ _ h => h) (Or.inl ⟨by rfl, fun wS ⟨hS0, hS1⟩ => by go_simp; all_goals (rw [IntKind.wrap_i64]; omega)⟩) (by assumption) ?_
                simp only [Act.put, List.setIfInBounds_toArray, List.set_cons_zero, List.set_cons_succ]
                refine take_at (i := 2) (v := .int .i64 (f 0)) (d := some 132) rfl rfl (by kernel_rfl) (by kernel_rfl) (by kernel_rfl) (fun _ _ _ h => h) (Or.inl ⟨by rfl, fun wS ⟨hS0, hS1⟩ => by go_simp; all_goals (rw [IntKind.wrap_i64]; omega)⟩) (by assumption) ?_
                simp only [Act.put, List.setIfInBounds_toArray, List.set_cons_zero, List.set_cons_succ]
                refine take_at (i := 3) (v := .slice (some ⟨g, 0, none⟩) 2 cap) (d := some 133) rfl rfl (by kernel_rfl) (by kernel_rfl) (by kernel_rfl) (fun _ _ _ h => h) (Or.inl ⟨by rfl, fun wS ⟨hS0, hS1⟩ => by go_simp; all_goals (rw [IntKind.wrap_i64]; omega)⟩) (by assumption) ?_
                simp only [Act.put, List.setIfInBounds_toArray, List.set_cons_zero, List.set_cons_succ]
                refine take_at (i := 4) (v := .pointer (some ⟨g, 1, none⟩)) (d := some 134) rfl rfl (by kernel_rfl) (by kernel_rfl) (by kernel_rfl) (fun _ _ _ h => h) (Or.inl ⟨by rfl, fun wS ⟨hS0, hS1⟩ => by go_simp; all_goals (rw [IntKind.wrap_i64]; omega)⟩) (by assumption) ?_
                simp only [Act.put, List.setIfInBounds_toArray, List.set_cons_zero, List.set_cons_succ]
                refine take_at (i := 5) (v := .int .i64 (f 1)) (d := some 135) rfl rfl (by kernel_rfl) (by kernel_rfl) (by kernel_rfl) (fun _ _ _ h => h) (Or.inl ⟨by rfl, fun wS ⟨hS0, hS1⟩ => by go_simp; all_goals (rw [IntKind.wrap_i64]; omega)⟩) (by assumption) ?_
                simp only [Act.put, List.setIfInBounds_toArray, List.set_cons_zero, List.set_cons_succ]
                clear hHeld
                refine wpAnyH_ready (rs := [6]) (by kernel_rfl) (by simp) ?_
                refine AllReadyH.cons rfl (fun K hK => ?_) AllReadyH.nil
                go_simp
                refine (rhalf_any (f 0) (f 1) _ (HI.out 0 (by omega)) (HI.out 1 (by omega))).mono ?_
                rintro e w6 ⟨rfl, h6⟩
                have h6' := below_undrew h6
                have R6 := hide (R5.out.after h6')
                have B6 := hide (B5.out.after h6')
                have N6 := hide (N5.out.below h6')
                have G6 := hide (grown_then G5.out (grown_below h6' none) (fun _ e => by cases e))
                refine hK.out _ _ ⟨N6.out.cell 0 (by omega), N6.out.cell 1 (by omega)⟩ (fun hHeld => ?_)
                clear hK K
                refine take_at (i := 7) (v := .agg #[.bool true, .int .i64 (hlf (f 0) (f 1))]) (d := some 137) rfl rfl (by kernel_rfl) (by kernel_rfl) (by kernel_rfl) (fun _ _ _ h => h) (Or.inl ⟨by rfl, fun wS ⟨hS0, hS1⟩ => by go_simp; all_goals (rw [IntKind.wrap_i64]; omega)⟩) (by assumption) ?_
                simp only [Act.put, List.setIfInBounds_toArray, List.set_cons_zero, List.set_cons_succ]
                clear hHeld r0 r1 f0 f1
                have r0 : w6.cell? ⟨ub + 1, 0, none⟩ = some (.bool false) := R6.out.cell 0 rfl
                have r1 : w6.cell? ⟨ub + 1, 1, none⟩ = some (.int .i64 0) := R6.out.cell 1 rfl
                have f0 := R6.out.frozen 0
                have f1 := R6.out.frozen 1
                have hgr : ¬ g = ub + 1 := by have := hg; have := HZ2.out; omega
                refine wpAnyH_ready (rs := [8]) (by kernel_rfl) (by simp) ?_
                refine AllReadyH.cons rfl (fun K hK => ?_) AllReadyH.nil
                go_simp
                have N7 := N6.out.setOther (B := ub + 1) hgr 0 (.bool true)
                have N8 := N7.setOther (B := ub + 1) hgr 1 (.int .i64 (hlf (f 0) (f 1)))
                refine hK.out _ _ ⟨N8.cell 0 (by omega), N8.cell 1 (by omega)⟩ (fun hHeld => ?_)
                clear hK K
                refine wpAnyH_done (by kernel_rfl) ?_ _
                clear hHeld
                go_wp2_with fail
                refine bodyPost_ret (read_back (p := 4) (by kernel_rfl) _ _ (ub + 1) _ _ rfl (R6.out.set2 _ _)) rfl ⟨by rw [HOK.out, HX.out]; rw [HM.out]; rfl, ?_, ?_⟩
                · rw [HS0.out]; exact (B6.out.setOther nRB _ _).setOther nRB _ _
                · exact grown_then (grown_then G6.out (grown_set _ _ _ _) (fun q e => .inr (by injection e with e; omega))) (grown_set _ _ _ _) (fun q e => .inr (by injection e with e; omega))
            · have HM : Hid (l = [f 0, f 1, f 2]) := hide (by
                rw [hf.out]
                rcases vl_cases l HL3.out with h | ⟨a, h⟩ | ⟨a, b, h⟩ | ⟨a, b, c, h⟩ <;> (have hlen := HNL.out; subst h; first | rfl | (simp at hlen)))
              by_cases hfr : t1.sp < farL l
              · have hd : decide (t1.sp < farL l) = true := by simpa using hfr
                rw [HSF.out, hd]
                clear HSF hd
                have HS0 : Hid (vC (stp u t) = (vC t1).setIfInBounds 8 (.int .i64 cn)) := hide (by rw [HFar.out (by rw [← HSP.out]; exact hfr), ← hcn.out]; rfl)
                have c8 : wr.cell? ⟨B, 8, none⟩ = some (.int .i64 t1.n) := vc8 B4.out
                have f8 := B4.out.frozen 8
                clear hfr
                go_upto_region 21 with fail
                have N5 := hide (N4.out.setOther hgB 8 (.int .i64 cn))
                have B5 := hide (B4.out.set 8 (.int .i64 cn))
                have R5 := hide (R4.out.setOther (fun e => nRB e.symm) 8 (.int .i64 cn))
                have G5 := hide (grown_then G4.out (grown_set wr B 8 (.int .i64 cn)) (fun q e => .inl (by injection e with e; exact e.symm)))
                clear N4 B4 R4 G4 c8 f8
                generalize wr.setCell ⟨B, 8, none⟩ (.int .i64 cn) = w5 at *
                have r0 : w5.cell? ⟨ub + 1, 0, none⟩ = some (.bool false) := R5.out.cell 0 rfl
                have r1 : w5.cell? ⟨ub + 1, 1, none⟩ = some (.int .i64 0) := R5.out.cell 1 rfl
                have f0 := R5.out.frozen 0
                have f1 := R5.out.frozen 1
                have c0 : w5.cell? ⟨g, 0, none⟩ = some (.int .i64 (f 0)) := N5.out.cell 0 (by omega)
                have c1 : w5.cell? ⟨g, 1, none⟩ = some (.int .i64 (f 1)) := N5.out.cell 1 (by omega)
                have c2 : w5.cell? ⟨g, 2, none⟩ = some (.int .i64 (f 2)) := N5.out.cell 2 (by omega)
                obtain ⟨x1, e1⟩ : ∃ x, (if f 1 < f 0 then f 1 else f 0) = x := ⟨_, rfl⟩
                obtain ⟨x2, e2⟩ : ∃ x, (if f 0 < f 1 then f 1 else f 0) = x := ⟨_, rfl⟩
                obtain ⟨x3, e3⟩ : ∃ x, (if f 2 < x2 then f 2 else x2) = x := ⟨_, rfl⟩
                obtain ⟨x4, e4⟩ : ∃ x, (if x1 < x3 then x3 else x1) = x := ⟨_, rfl⟩
                have HX4 : Hid (midL l = x4) := hide (by
                  rw [HM.out, ← e4, ← e3, ← e1, ← e2]
                  show max (min (f 0) (f 1)) (min (max (f 0) (f 1)) (f 2)) = _
                  (repeat' split) <;> omega)
                go_wp2_with fail
                refine bodyPost_ret (read_back (p := 4) (by kernel_rfl) _ _ (ub + 1) _ _ rfl (R5.out.set2 _ _)) rfl ⟨by rw [HOK.out, HX.out]; rw [HX4.out]; rfl, ?_, ?_⟩
                · rw [HS0.out]; exact (B5.out.setOther nRB _ _).setOther nRB _ _
                · exact grown_then (grown_then G5.out (grown_set _ _ _ _) (fun q e => .inr (by injection e with e; omega))) (grown_set _ _ _ _) (fun q e => .inr (by injection e with e; omega))
              · have hd : decide (t1.sp < farL l) = false := by simpa using hfr
                rw [HSF.out, hd]
                clear HSF hd
                have HS0 : Hid (vC (stp u t) = vC t1) := hide (by rw [HNear.out (by rw [← HSP.out]; first | exact hfr | omega)])
                clear hfr
                go_upto_region 21 with fail
                have N5 := N4
                have B5 := B4
                have R5 := R4
                have G5 := G4
                clear N4 B4 R4 G4
                obtain ⟨w5, rfl⟩ : ∃ w5, w5 = wr := ⟨wr, rfl⟩
                have r0 : w5.cell? ⟨ub + 1, 0, none⟩ = some (.bool false) := R5.out.cell 0 rfl
                have r1 : w5.cell? ⟨ub + 1, 1, none⟩ = some (.int .i64 0) := R5.out.cell 1 rfl
                have f0 := R5.out.frozen 0
                have f1 := R5.out.frozen 1
                have c0 : w5.cell? ⟨g, 0, none⟩ = some (.int .i64 (f 0)) := N5.out.cell 0 (by omega)
                have c1 : w5.cell? ⟨g, 1, none⟩ = some (.int .i64 (f 1)) := N5.out.cell 1 (by omega)
                have c2 : w5.cell? ⟨g, 2, none⟩ = some (.int .i64 (f 2)) := N5.out.cell 2 (by omega)
                obtain ⟨x1, e1⟩ : ∃ x, (if f 1 < f 0 then f 1 else f 0) = x := ⟨_, rfl⟩
                obtain ⟨x2, e2⟩ : ∃ x, (if f 0 < f 1 then f 1 else f 0) = x := ⟨_, rfl⟩
                obtain ⟨x3, e3⟩ : ∃ x, (if f 2 < x2 then f 2 else x2) = x := ⟨_, rfl⟩
                obtain ⟨x4, e4⟩ : ∃ x, (if x1 < x3 then x3 else x1) = x := ⟨_, rfl⟩
                have HX4 : Hid (midL l = x4) := hide (by
                  rw [HM.out, ← e4, ← e3, ← e1, ← e2]
                  show max (min (f 0) (f 1)) (min (max (f 0) (f 1)) (f 2)) = _
                  (repeat' split) <;> omega)
                go_wp2_with fail
                refine bodyPost_ret (read_back (p := 4) (by kernel_rfl) _ _ (ub + 1) _ _ rfl (R5.out.set2 _ _)) rfl ⟨by rw [HOK.out, HX.out]; rw [HX4.out]; rfl, ?_, ?_⟩
                · rw [HS0.out]; exact (B5.out.setOther nRB _ _).setOther nRB _ _
                · exact grown_then (grown_then G5.out (grown_set _ _ _ _) (fun q e => .inr (by injection e with e; omega))) (grown_set _ _ _ _) (fun q e => .inr (by injection e with e; omega))
    · have hok := HK.out j hj
      have hok1 := HK.out (j + 1) (by omega)
      obtain ⟨at1, at2⟩ := HAT.out j (by omega)
      have hst1 := HST.out (j + 1)
      obtain ⟨s, hs⟩ : ∃ s, Hid (hr u t j = s) := ⟨_, hide rfl⟩
      have HS : Hid (hr u t (j + 1) = hr1 u s j) := hide (by rw [hr, hs.out])
      rw [hs.out] at HB hok
      obtain ⟨s1, hs1⟩ : ∃ s1, Hid (hr1 u s j = s1) := ⟨_, hide rfl⟩
      rw [HS.out, hs1.out] at at1 at2 hst1
      have ha := hok.a j (by omega)
      have A1 := hide at1
      have A2 := hide at2
      have HST1 := hide hst1
      clear hok hok1 at1 at2 hst1
      obtain ⟨q0, q1, q2, q3, q4, q5⟩ := HU.out.q6r
      have hbs := HB.out.lt
      have hus := HU.out.lt
      have hsW := HG.out.size
      have HV : Hid (vl t1 (j + 1) = vl t1 j ++ if t1.a j ≤ t1.st then [t1.v j] else []) := hide rfl
      obtain ⟨L, hL⟩ : ∃ L, Hid (vl t1 j = L) := ⟨_, hide rfl⟩
      rw [hL.out] at HR hll HV
      obtain rfl | rfl | rfl : j = 0 ∨ j = 1 ∨ j = 2 := by omega
      · clear q0 q1 q2 q3 q4 q5
        have qx : wr.cell? ⟨ub, 1, none⟩ = some (.int .i64 (u.x 0)) := HU.out.cell 1 rfl
        obtain ⟨cn, hcn⟩ : ∃ cn, Hid (cnt (s.a 0) = cn) := ⟨_, hide rfl⟩
        have em : (if 65535 < s.a 0 + 1 then 65535 else s.a 0 + 1) = cn := by rw [← hcn.out]; unfold cnt; split <;> omega
        obtain ⟨ha0, ha1⟩ := ha
        rcases (show u.o 0 = true ∨ u.o 0 = false by cases u.o 0 <;> simp) with ho | ho
        · have qo : wr.cell? ⟨ub, 0, none⟩ = some (.bool true) := by rw [← ho]; exact (HU.out.cell 0 rfl)
          have E : Hid (vC s1 = ((vC s).setIfInBounds 2 (.int .i64 (u.x 0))).setIfInBounds 5 (.int .i64 0)) := hide (by rw [← hs1.out]; simp only [hr1, ho, if_true]; rfl)
          clear ho
          have c2 := HB.out.cell 2 rfl
          have c5 : wr.cell? ⟨B, 5, none⟩ = some (.int .i64 (s.a 0)) := HB.out.cell 5 rfl
          have f2 := HB.out.frozen 2
          have f5 := HB.out.frozen 5
          go_wp2_with fail
          go_region
          have HBa := hide (show Blk (wr.setCell ⟨B, 2, none⟩ (.int .i64 (u.x 0))).drew B ((vC s).setIfInBounds 2 (.int .i64 (u.x 0))) 29 from HB.out.set 2 _)
          have HGa := hide (show wr.grownBy (wr.setCell ⟨B, 2, none⟩ (.int .i64 (u.x 0))).drew (some B) from grown_drewN (grown_set wr B 2 _) 1)
          clear c2 c5 f2 f5
          generalize (wr.setCell ⟨B, 2, none⟩ (.int .i64 (u.x 0))).drew = wa at *
          have c5 : wa.cell? ⟨B, 5, none⟩ = some (.int .i64 (s.a 0)) := HBa.out.cell 5 rfl
          have f5 := HBa.out.frozen 5
          go_upto_region 9 with fail
          have HBc := hide (HBa.out.set 5 (.int .i64 0))
          have HGc := hide (grown_then HGa.out (grown_set wa B 5 (.int .i64 0)) (fun q e => .inl (by injection e with e; exact e.symm)))
          clear c5 f5 HBa HGa
          generalize wa.setCell ⟨B, 5, none⟩ (.int .i64 0) = wc at *
          have HB1 : Hid (Blk wc B (vC s1) 29) := hide (by rw [E.out]; exact HBc.out)
          have HR1 : Hid (IRow wc W0.heap.size vs L) := hide (World.ownsRow.kept HR.out HGc.out (Or.inr (blk_apart HR.out HB.out (by decide))))
          have HU1 := hide (HU.out.grown HGc.out (fun e => by injection e with e; exact hnb1 e))
          have HR01 := hide (HR0.out.grown HGc.out (fun e => by injection e with e; exact hnb2 e))
          have HG1 := hide (grown_then HG.out HGc.out (fun q e => .inl (by injection e with e; exact e.symm)))
          have hszc := HG1.out.size
          clear HBc HGc HB HR HU HR0 HG qo qx em
          have c0 : wc.cell? ⟨B, 0, none⟩ = some (.int .i64 s1.st) := HB1.out.cell 0 rfl
          have cv : wc.cell? ⟨B, 2, none⟩ = some (.int .i64 (s1.v 0)) := HB1.out.cell 2 rfl
          have ca : wc.cell? ⟨B, 5, none⟩ = some (.int .i64 (s1.a 0)) := HB1.out.cell 5 rfl
          have HS1 : Hid (hr u t (0 + 1) = s1) := hide (HS.out.trans hs1.out)
          rw [← A1.out, ← A2.out, ← HST1.out] at HV
          have HE := hide (show s1.v 0 = s1.v 0 from rfl)
          by_cases hle : s1.a 0 ≤ s1.st
          · rw [if_pos hle] at HV
            have hd : decide (s1.a 0 ≤ s1.st) = true := by simpa using hle
            clear hle
            go_wp2_with fail
            go_quiet (fail)
            have cv2 : (wc.drewN nq).cell? ⟨B, 2, none⟩ = some (.int .i64 (s1.v 0)) := (drewN_cell _ _ _).trans cv
            have HO : Hid (∀ o, ((wc.drewN nq).alloc o).ownsRow W0.heap.size 3 1 vs L.length (L.map (Value.int .i64))) := hide fun o => (HR1.out.drewN nq).alloc o
            have HB2 := hide (HB1.out.drewN nq)
            have HU2 := hide (HU1.out.drewN nq)
            have HR02 := hide (HR01.out.drewN nq)
            have HG2 := hide (grown_drewN HG1.out nq)
            have hs2 : Hid (W0.heap.size ≤ (wc.drewN nq).heap.size) := hide HG2.out.size
            clear HR1 HB1 HU1 HR01 HG1 cv ca c0 hszc
            generalize wc.drewN nq = w2 at *
            go_wp2_with (at_builtin; refine wpList_append_own _ rfl (.tmp 59) (.tmp 66) 55 rfl W0.heap.size 3 i0 _ 1 8 Try.underlying55 hi hz0 hz1 hz2 rfl (by decide) _ _ _ rfl (HO.out _) ⟨w2.heap.size, 0, none⟩ 1 1 [.int .i64 (s1.v 0)] rfl rfl ?c1 ?c2 ?c3 ?c4 ?c5 ?_)
            case c1 => exact new_cell1 _ _ rfl _ _
            case c2 => intro u hu; simp at hu; subst hu; rfl
            case c3 => unfold maxLen; omega
            case c4 => omega
            case c5 => have := hs2.out; simp; omega
            intro v4 w4 hown4 hgrow4 _
            have HO4 : Hid (IRow w4 W0.heap.size v4 (L ++ [s1.v 0])) := hide (by
              show World.ownsRow _ _ _ _ _ _ _
              simpa using hown4)
            have HB4 := hide (blk_grown (HO.out _) (HB2.out.alloc _) (by decide) hgrow4)
            have HU4 := hide (blk_grown (HO.out _) (HU2.out.alloc _) (by decide) hgrow4)
            have HR4 := hide (blk_grown (HO.out _) (HR02.out.alloc _) (by decide) hgrow4)
            have HG4 := hide (grown_then (grown_then HG2.out (grown_alloc w2 _ none) (fun _ e => by cases e)) hgrow4 (fun q e => .inr ((HO.out (.cells #[] 0)).lt q e).1))
            clear hown4 hgrow4 HO
            go_wp2_with fail
            go_roundw
            case rel => exact ⟨0 + 1, _, by go_num, rfl, by omega, by rw [HV.out]; exact HO4.out, by rw [HS1.out]; exact HB4.out, HU4.out, HR4.out, HG4.out⟩
            case measure => simp [intOf]
          · rw [if_neg hle, List.append_nil] at HV
            have hd : decide (s1.a 0 ≤ s1.st) = false := by simpa using hle
            clear hle
            go_wp2_with fail
            go_quiet (fail)
            go_wp2_with fail
            go_roundw
            case rel => exact ⟨0 + 1, _, by go_num, rfl, by omega, by rw [HV.out]; exact HR1.out.drewN _, by rw [HS1.out]; exact HB1.out.drewN _, HU1.out.drewN _, HR01.out.drewN _, grown_drewN HG1.out _⟩
            case measure => simp [intOf]
        · have qo : wr.cell? ⟨ub, 0, none⟩ = some (.bool false) := by rw [← ho]; exact (HU.out.cell 0 rfl)
          have E : Hid (vC s1 = (vC s).setIfInBounds 5 (.int .i64 cn)) := hide (by rw [← hs1.out]; simp only [hr1, ho, hcn.out]; rfl)
          clear ho
          have c2 := HB.out.cell 2 rfl
          have c5 : wr.cell? ⟨B, 5, none⟩ = some (.int .i64 (s.a 0)) := HB.out.cell 5 rfl
          have f2 := HB.out.frozen 2
          have f5 := HB.out.frozen 5
          go_wp2_with fail
          go_region
          go_upto_region 9 with fail
          have HBc := hide (show Blk (wr.setCell ⟨B, 5, none⟩ (.int .i64 cn)).drew B ((vC s).setIfInBounds 5 (.int .i64 cn)) 29 from HB.out.set 5 _)
          have HGc := hide (show wr.grownBy (wr.setCell ⟨B, 5, none⟩ (.int .i64 cn)).drew (some B) from grown_drewN (grown_set wr B 5 _) 1)
          clear c2 c5 f2 f5
          generalize (wr.setCell ⟨B, 5, none⟩ (.int .i64 cn)).drew = wc at *
          have HB1 : Hid (Blk wc B (vC s1) 29) := hide (by rw [E.out]; exact HBc.out)
          have HR1 : Hid (IRow wc W0.heap.size vs L) := hide (World.ownsRow.kept HR.out HGc.out (Or.inr (blk_apart HR.out HB.out (by decide))))
          have HU1 := hide (HU.out.grown HGc.out (fun e => by injection e with e; exact hnb1 e))
          have HR01 := hide (HR0.out.grown HGc.out (fun e => by injection e with e; exact hnb2 e))
          have HG1 := hide (grown_then HG.out HGc.out (fun q e => .inl (by injection e with e; exact e.symm)))
          have hszc := HG1.out.size
          clear HBc HGc HB HR HU HR0 HG qo qx em
          have c0 : wc.cell? ⟨B, 0, none⟩ = some (.int .i64 s1.st) := HB1.out.cell 0 rfl
          have cv : wc.cell? ⟨B, 2, none⟩ = some (.int .i64 (s1.v 0)) := HB1.out.cell 2 rfl
          have ca : wc.cell? ⟨B, 5, none⟩ = some (.int .i64 (s1.a 0)) := HB1.out.cell 5 rfl
          have HS1 : Hid (hr u t (0 + 1) = s1) := hide (HS.out.trans hs1.out)
          rw [← A1.out, ← A2.out, ← HST1.out] at HV
          have HE := hide (show s1.v 0 = s1.v 0 from rfl)
          by_cases hle : s1.a 0 ≤ s1.st
          · rw [if_pos hle] at HV
            have hd : decide (s1.a 0 ≤ s1.st) = true := by simpa using hle
            clear hle
            go_wp2_with fail
            go_quiet (fail)
            have cv2 : (wc.drewN nq).cell? ⟨B, 2, none⟩ = some (.int .i64 (s1.v 0)) := (drewN_cell _ _ _).trans cv
            have HO : Hid (∀ o, ((wc.drewN nq).alloc o).ownsRow W0.heap.size 3 1 vs L.length (L.map (Value.int .i64))) := hide fun o => (HR1.out.drewN nq).alloc o
            have HB2 := hide (HB1.out.drewN nq)
            have HU2 := hide (HU1.out.drewN nq)
            have HR02 := hide (HR01.out.drewN nq)
            have HG2 := hide (grown_drewN HG1.out nq)
            have hs2 : Hid (W0.heap.size ≤ (wc.drewN nq).heap.size) := hide HG2.out.size
            clear HR1 HB1 HU1 HR01 HG1 cv ca c0 hszc
            generalize wc.drewN nq = w2 at *
            go_wp2_with (at_builtin; refine wpList_append_own _ rfl (.tmp 59) (.tmp 66) 55 rfl W0.heap.size 3 i0 _ 1 8 Try.underlying55 hi hz0 hz1 hz2 rfl (by decide) _ _ _ rfl (HO.out _) ⟨w2.heap.size, 0, none⟩ 1 1 [.int .i64 (s1.v 0)] rfl rfl ?c1 ?c2 ?c3 ?c4 ?c5 ?_)
            case c1 => exact new_cell1 _ _ rfl _ _
            case c2 => intro u hu; simp at hu; subst hu; rfl
            case c3 => unfold maxLen; omega
            case c4 => omega
            case c5 => have := hs2.out; simp; omega
            intro v4 w4 hown4 hgrow4 _
            have HO4 : Hid (IRow w4 W0.heap.size v4 (L ++ [s1.v 0])) := hide (by
              show World.ownsRow _ _ _ _ _ _ _
              simpa using hown4)
            have HB4 := hide (blk_grown (HO.out _) (HB2.out.alloc _) (by decide) hgrow4)
            have HU4 := hide (blk_grown (HO.out _) (HU2.out.alloc _) (by decide) hgrow4)
            have HR4 := hide (blk_grown (HO.out _) (HR02.out.alloc _) (by decide) hgrow4)
            have HG4 := hide (grown_then (grown_then HG2.out (grown_alloc w2 _ none) (fun _ e => by cases e)) hgrow4 (fun q e => .inr ((HO.out (.cells #[] 0)).lt q e).1))
            clear hown4 hgrow4 HO
            go_wp2_with fail
            go_roundw
            case rel => exact ⟨0 + 1, _, by go_num, rfl, by omega, by rw [HV.out]; exact HO4.out, by rw [HS1.out]; exact HB4.out, HU4.out, HR4.out, HG4.out⟩
            case measure => simp [intOf]
          · rw [if_neg hle, List.append_nil] at HV
            have hd : decide (s1.a 0 ≤ s1.st) = false := by simpa using hle
            clear hle
            go_wp2_with fail
            go_quiet (fail)
            go_wp2_with fail
            go_roundw
            case rel => exact ⟨0 + 1, _, by go_num, rfl, by omega, by rw [HV.out]; exact HR1.out.drewN _, by rw [HS1.out]; exact HB1.out.drewN _, HU1.out.drewN _, HR01.out.drewN _, grown_drewN HG1.out _⟩
            case measure => simp [intOf]
      · clear q0 q1 q2 q3 q4 q5
        have qx : wr.cell? ⟨ub, 3, none⟩ = some (.int .i64 (u.x 1)) := HU.out.cell 3 rfl
        obtain ⟨cn, hcn⟩ : ∃ cn, Hid (cnt (s.a 1) = cn) := ⟨_, hide rfl⟩
        have em : (if 65535 < s.a 1 + 1 then 65535 else s.a 1 + 1) = cn := by rw [← hcn.out]; unfold cnt; split <;> omega
        obtain ⟨ha0, ha1⟩ := ha
        rcases (show u.o 1 = true ∨ u.o 1 = false by cases u.o 1 <;> simp) with ho | ho
        · have qo : wr.cell? ⟨ub, 2, none⟩ = some (.bool true) := by rw [← ho]; exact (HU.out.cell 2 rfl)
          have E : Hid (vC s1 = ((vC s).setIfInBounds 3 (.int .i64 (u.x 1))).setIfInBounds 6 (.int .i64 0)) := hide (by rw [← hs1.out]; simp only [hr1, ho, if_true]; rfl)
          clear ho
          have c2 := HB.out.cell 3 rfl
          have c5 : wr.cell? ⟨B, 6, none⟩ = some (.int .i64 (s.a 1)) := HB.out.cell 6 rfl
          have f2 := HB.out.frozen 3
          have f5 := HB.out.frozen 6
          go_wp2_with fail
          go_region
          have HBa := hide (show Blk (wr.setCell ⟨B, 3, none⟩ (.int .i64 (u.x 1))).drew B ((vC s).setIfInBounds 3 (.int .i64 (u.x 1))) 29 from HB.out.set 3 _)
          have HGa := hide (show wr.grownBy (wr.setCell ⟨B, 3, none⟩ (.int .i64 (u.x 1))).drew (some B) from grown_drewN (grown_set wr B 3 _) 1)
          clear c2 c5 f2 f5
          generalize (wr.setCell ⟨B, 3, none⟩ (.int .i64 (u.x 1))).drew = wa at *
          have c5 : wa.cell? ⟨B, 6, none⟩ = some (.int .i64 (s.a 1)) := HBa.out.cell 6 rfl
          have f5 := HBa.out.frozen 6
          go_upto_region 9 with fail
          have HBc := hide (HBa.out.set 6 (.int .i64 0))
          have HGc := hide (grown_then HGa.out (grown_set wa B 6 (.int .i64 0)) (fun q e => .inl (by injection e with e; exact e.symm)))
          clear c5 f5 HBa HGa
          generalize wa.setCell ⟨B, 6, none⟩ (.int .i64 0) = wc at *
          have HB1 : Hid (Blk wc B (vC s1) 29) := hide (by rw [E.out]; exact HBc.out)
          have HR1 : Hid (IRow wc W0.heap.size vs L) := hide (World.ownsRow.kept HR.out HGc.out (Or.inr (blk_apart HR.out HB.out (by decide))))
          have HU1 := hide (HU.out.grown HGc.out (fun e => by injection e with e; exact hnb1 e))
          have HR01 := hide (HR0.out.grown HGc.out (fun e => by injection e with e; exact hnb2 e))
          have HG1 := hide (grown_then HG.out HGc.out (fun q e => .inl (by injection e with e; exact e.symm)))
          have hszc := HG1.out.size
          clear HBc HGc HB HR HU HR0 HG qo qx em
          have c0 : wc.cell? ⟨B, 0, none⟩ = some (.int .i64 s1.st) := HB1.out.cell 0 rfl
          have cv : wc.cell? ⟨B, 3, none⟩ = some (.int .i64 (s1.v 1)) := HB1.out.cell 3 rfl
          have ca : wc.cell? ⟨B, 6, none⟩ = some (.int .i64 (s1.a 1)) := HB1.out.cell 6 rfl
          have HS1 : Hid (hr u t (1 + 1) = s1) := hide (HS.out.trans hs1.out)
          rw [← A1.out, ← A2.out, ← HST1.out] at HV
          have HE := hide (show s1.v 1 = s1.v 1 from rfl)
          by_cases hle : s1.a 1 ≤ s1.st
          · rw [if_pos hle] at HV
            have hd : decide (s1.a 1 ≤ s1.st) = true := by simpa using hle
            clear hle
            go_wp2_with fail
            go_quiet (fail)
            have cv2 : (wc.drewN nq).cell? ⟨B, 3, none⟩ = some (.int .i64 (s1.v 1)) := (drewN_cell _ _ _).trans cv
            have HO : Hid (∀ o, ((wc.drewN nq).alloc o).ownsRow W0.heap.size 3 1 vs L.length (L.map (Value.int .i64))) := hide fun o => (HR1.out.drewN nq).alloc o
            have HB2 := hide (HB1.out.drewN nq)
            have HU2 := hide (HU1.out.drewN nq)
            have HR02 := hide (HR01.out.drewN nq)
            have HG2 := hide (grown_drewN HG1.out nq)
            have hs2 : Hid (W0.heap.size ≤ (wc.drewN nq).heap.size) := hide HG2.out.size
            clear HR1 HB1 HU1 HR01 HG1 cv ca c0 hszc
            generalize wc.drewN nq = w2 at *
            go_wp2_with (at_builtin; refine wpList_append_own _ rfl (.tmp 59) (.tmp 66) 55 rfl W0.heap.size 3 i0 _ 1 8 Try.underlying55 hi hz0 hz1 hz2 rfl (by decide) _ _ _ rfl (HO.out _) ⟨w2.heap.size, 0, none⟩ 1 1 [.int .i64 (s1.v 1)] rfl rfl ?c1 ?c2 ?c3 ?c4 ?c5 ?_)
            case c1 => exact new_cell1 _ _ rfl _ _
            case c2 => intro u hu; simp at hu; subst hu; rfl
            case c3 => unfold maxLen; omega
            case c4 => omega
            case c5 => have := hs2.out; simp; omega
            intro v4 w4 hown4 hgrow4 _
            have HO4 : Hid (IRow w4 W0.heap.size v4 (L ++ [s1.v 1])) := hide (by
              show World.ownsRow _ _ _ _ _ _ _
              simpa using hown4)
            have HB4 := hide (blk_grown (HO.out _) (HB2.out.alloc _) (by decide) hgrow4)
            have HU4 := hide (blk_grown (HO.out _) (HU2.out.alloc _) (by decide) hgrow4)
            have HR4 := hide (blk_grown (HO.out _) (HR02.out.alloc _) (by decide) hgrow4)
            have HG4 := hide (grown_then (grown_then HG2.out (grown_alloc w2 _ none) (fun _ e => by cases e)) hgrow4 (fun q e => .inr ((HO.out (.cells #[] 0)).lt q e).1))
            clear hown4 hgrow4 HO
            go_wp2_with fail
            go_roundw
            case rel => exact ⟨1 + 1, _, by go_num, rfl, by omega, by rw [HV.out]; exact HO4.out, by rw [HS1.out]; exact HB4.out, HU4.out, HR4.out, HG4.out⟩
            case measure => simp [intOf]
          · rw [if_neg hle, List.append_nil] at HV
            have hd : decide (s1.a 1 ≤ s1.st) = false := by simpa using hle
            clear hle
            go_wp2_with fail
            go_quiet (fail)
            go_wp2_with fail
            go_roundw
            case rel => exact ⟨1 + 1, _, by go_num, rfl, by omega, by rw [HV.out]; exact HR1.out.drewN _, by rw [HS1.out]; exact HB1.out.drewN _, HU1.out.drewN _, HR01.out.drewN _, grown_drewN HG1.out _⟩
            case measure => simp [intOf]
        · have qo : wr.cell? ⟨ub, 2, none⟩ = some (.bool false) := by rw [← ho]; exact (HU.out.cell 2 rfl)
          have E : Hid (vC s1 = (vC s).setIfInBounds 6 (.int .i64 cn)) := hide (by rw [← hs1.out]; simp only [hr1, ho, hcn.out]; rfl)
          clear ho
          have c2 := HB.out.cell 3 rfl
          have c5 : wr.cell? ⟨B, 6, none⟩ = some (.int .i64 (s.a 1)) := HB.out.cell 6 rfl
          have f2 := HB.out.frozen 3
          have f5 := HB.out.frozen 6
          go_wp2_with fail
          go_region
          go_upto_region 9 with fail
          have HBc := hide (show Blk (wr.setCell ⟨B, 6, none⟩ (.int .i64 cn)).drew B ((vC s).setIfInBounds 6 (.int .i64 cn)) 29 from HB.out.set 6 _)
          have HGc := hide (show wr.grownBy (wr.setCell ⟨B, 6, none⟩ (.int .i64 cn)).drew (some B) from grown_drewN (grown_set wr B 6 _) 1)
          clear c2 c5 f2 f5
          generalize (wr.setCell ⟨B, 6, none⟩ (.int .i64 cn)).drew = wc at *
          have HB1 : Hid (Blk wc B (vC s1) 29) := hide (by rw [E.out]; exact HBc.out)
          have HR1 : Hid (IRow wc W0.heap.size vs L) := hide (World.ownsRow.kept HR.out HGc.out (Or.inr (blk_apart HR.out HB.out (by decide))))
          have HU1 := hide (HU.out.grown HGc.out (fun e => by injection e with e; exact hnb1 e))
          have HR01 := hide (HR0.out.grown HGc.out (fun e => by injection e with e; exact hnb2 e))
          have HG1 := hide (grown_then HG.out HGc.out (fun q e => .inl (by injection e with e; exact e.symm)))
          have hszc := HG1.out.size
          clear HBc HGc HB HR HU HR0 HG qo qx em
          have c0 : wc.cell? ⟨B, 0, none⟩ = some (.int .i64 s1.st) := HB1.out.cell 0 rfl
          have cv : wc.cell? ⟨B, 3, none⟩ = some (.int .i64 (s1.v 1)) := HB1.out.cell 3 rfl
          have ca : wc.cell? ⟨B, 6, none⟩ = some (.int .i64 (s1.a 1)) := HB1.out.cell 6 rfl
          have HS1 : Hid (hr u t (1 + 1) = s1) := hide (HS.out.trans hs1.out)
          rw [← A1.out, ← A2.out, ← HST1.out] at HV
          have HE := hide (show s1.v 1 = s1.v 1 from rfl)
          by_cases hle : s1.a 1 ≤ s1.st
          · rw [if_pos hle] at HV
            have hd : decide (s1.a 1 ≤ s1.st) = true := by simpa using hle
            clear hle
            go_wp2_with fail
            go_quiet (fail)
            have cv2 : (wc.drewN nq).cell? ⟨B, 3, none⟩ = some (.int .i64 (s1.v 1)) := (drewN_cell _ _ _).trans cv
            have HO : Hid (∀ o, ((wc.drewN nq).alloc o).ownsRow W0.heap.size 3 1 vs L.length (L.map (Value.int .i64))) := hide fun o => (HR1.out.drewN nq).alloc o
            have HB2 := hide (HB1.out.drewN nq)
            have HU2 := hide (HU1.out.drewN nq)
            have HR02 := hide (HR01.out.drewN nq)
            have HG2 := hide (grown_drewN HG1.out nq)
            have hs2 : Hid (W0.heap.size ≤ (wc.drewN nq).heap.size) := hide HG2.out.size
            clear HR1 HB1 HU1 HR01 HG1 cv ca c0 hszc
            generalize wc.drewN nq = w2 at *
            go_wp2_with (at_builtin; refine wpList_append_own _ rfl (.tmp 59) (.tmp 66) 55 rfl W0.heap.size 3 i0 _ 1 8 Try.underlying55 hi hz0 hz1 hz2 rfl (by decide) _ _ _ rfl (HO.out _) ⟨w2.heap.size, 0, none⟩ 1 1 [.int .i64 (s1.v 1)] rfl rfl ?c1 ?c2 ?c3 ?c4 ?c5 ?_)
            case c1 => exact new_cell1 _ _ rfl _ _
            case c2 => intro u hu; simp at hu; subst hu; rfl
            case c3 => unfold maxLen; omega
            case c4 => omega
            case c5 => have := hs2.out; simp; omega
            intro v4 w4 hown4 hgrow4 _
            have HO4 : Hid (IRow w4 W0.heap.size v4 (L ++ [s1.v 1])) := hide (by
              show World.ownsRow _ _ _ _ _ _ _
              simpa using hown4)
            have HB4 := hide (blk_grown (HO.out _) (HB2.out.alloc _) (by decide) hgrow4)
            have HU4 := hide (blk_grown (HO.out _) (HU2.out.alloc _) (by decide) hgrow4)
            have HR4 := hide (blk_grown (HO.out _) (HR02.out.alloc _) (by decide) hgrow4)
            have HG4 := hide (grown_then (grown_then HG2.out (grown_alloc w2 _ none) (fun _ e => by cases e)) hgrow4 (fun q e => .inr ((HO.out (.cells #[] 0)).lt q e).1))
            clear hown4 hgrow4 HO
            go_wp2_with fail
            go_roundw
            case rel => exact ⟨1 + 1, _, by go_num, rfl, by omega, by rw [HV.out]; exact HO4.out, by rw [HS1.out]; exact HB4.out, HU4.out, HR4.out, HG4.out⟩
            case measure => simp [intOf]
          · rw [if_neg hle, List.append_nil] at HV
            have hd : decide (s1.a 1 ≤ s1.st) = false := by simpa using hle
            clear hle
            go_wp2_with fail
            go_quiet (fail)
            go_wp2_with fail
            go_roundw
            case rel => exact ⟨1 + 1, _, by go_num, rfl, by omega, by rw [HV.out]; exact HR1.out.drewN _, by rw [HS1.out]; exact HB1.out.drewN _, HU1.out.drewN _, HR01.out.drewN _, grown_drewN HG1.out _⟩
            case measure => simp [intOf]
      · clear q0 q1 q2 q3 q4 q5
        have qx : wr.cell? ⟨ub, 5, none⟩ = some (.int .i64 (u.x 2)) := HU.out.cell 5 rfl
        obtain ⟨cn, hcn⟩ : ∃ cn, Hid (cnt (s.a 2) = cn) := ⟨_, hide rfl⟩
        have em : (if 65535 < s.a 2 + 1 then 65535 else s.a 2 + 1) = cn := by rw [← hcn.out]; unfold cnt; split <;> omega
        obtain ⟨ha0, ha1⟩ := ha
        rcases (show u.o 2 = true ∨ u.o 2 = false by cases u.o 2 <;> simp) with ho | ho
        · have qo : wr.cell? ⟨ub, 4, none⟩ = some (.bool true) := by rw [← ho]; exact (HU.out.cell 4 rfl)
          have E : Hid (vC s1 = ((vC s).setIfInBounds 4 (.int .i64 (u.x 2))).setIfInBounds 7 (.int .i64 0)) := hide (by rw [← hs1.out]; simp only [hr1, ho, if_true]; rfl)
          clear ho
          have c2 := HB.out.cell 4 rfl
          have c5 : wr.cell? ⟨B, 7, none⟩ = some (.int .i64 (s.a 2)) := HB.out.cell 7 rfl
          have f2 := HB.out.frozen 4
          have f5 := HB.out.frozen 7
          go_wp2_with fail
          go_region
          have HBa := hide (show Blk (wr.setCell ⟨B, 4, none⟩ (.int .i64 (u.x 2))).drew B ((vC s).setIfInBounds 4 (.int .i64 (u.x 2))) 29 from HB.out.set 4 _)
          have HGa := hide (show wr.grownBy (wr.setCell ⟨B, 4, none⟩ (.int .i64 (u.x 2))).drew (some B) from grown_drewN (grown_set wr B 4 _) 1)
          clear c2 c5 f2 f5
          generalize (wr.setCell ⟨B, 4, none⟩ (.int .i64 (u.x 2))).drew = wa at *
          have c5 : wa.cell? ⟨B, 7, none⟩ = some (.int .i64 (s.a 2)) := HBa.out.cell 7 rfl
          have f5 := HBa.out.frozen 7
          go_upto_region 9 with fail
          have HBc := hide (HBa.out.set 7 (.int .i64 0))
          have HGc := hide (grown_then HGa.out (grown_set wa B 7 (.int .i64 0)) (fun q e => .inl (by injection e with e; exact e.symm)))
          clear c5 f5 HBa HGa
          generalize wa.setCell ⟨B, 7, none⟩ (.int .i64 0) = wc at *
          have HB1 : Hid (Blk wc B (vC s1) 29) := hide (by rw [E.out]; exact HBc.out)
          have HR1 : Hid (IRow wc W0.heap.size vs L) := hide (World.ownsRow.kept HR.out HGc.out (Or.inr (blk_apart HR.out HB.out (by decide))))
          have HU1 := hide (HU.out.grown HGc.out (fun e => by injection e with e; exact hnb1 e))
          have HR01 := hide (HR0.out.grown HGc.out (fun e => by injection e with e; exact hnb2 e))
          have HG1 := hide (grown_then HG.out HGc.out (fun q e => .inl (by injection e with e; exact e.symm)))
          have hszc := HG1.out.size
          clear HBc HGc HB HR HU HR0 HG qo qx em
          have c0 : wc.cell? ⟨B, 0, none⟩ = some (.int .i64 s1.st) := HB1.out.cell 0 rfl
          have cv : wc.cell? ⟨B, 4, none⟩ = some (.int .i64 (s1.v 2)) := HB1.out.cell 4 rfl
          have ca : wc.cell? ⟨B, 7, none⟩ = some (.int .i64 (s1.a 2)) := HB1.out.cell 7 rfl
          have HS1 : Hid (hr u t (2 + 1) = s1) := hide (HS.out.trans hs1.out)
          rw [← A1.out, ← A2.out, ← HST1.out] at HV
          have HE := hide (show s1.v 2 = s1.v 2 from rfl)
          by_cases hle : s1.a 2 ≤ s1.st
          · rw [if_pos hle] at HV
            have hd : decide (s1.a 2 ≤ s1.st) = true := by simpa using hle
            clear hle
            go_wp2_with fail
            go_quiet (fail)
            have cv2 : (wc.drewN nq).cell? ⟨B, 4, none⟩ = some (.int .i64 (s1.v 2)) := (drewN_cell _ _ _).trans cv
            have HO : Hid (∀ o, ((wc.drewN nq).alloc o).ownsRow W0.heap.size 3 1 vs L.length (L.map (Value.int .i64))) := hide fun o => (HR1.out.drewN nq).alloc o
            have HB2 := hide (HB1.out.drewN nq)
            have HU2 := hide (HU1.out.drewN nq)
            have HR02 := hide (HR01.out.drewN nq)
            have HG2 := hide (grown_drewN HG1.out nq)
            have hs2 : Hid (W0.heap.size ≤ (wc.drewN nq).heap.size) := hide HG2.out.size
            clear HR1 HB1 HU1 HR01 HG1 cv ca c0 hszc
            generalize wc.drewN nq = w2 at *
            go_wp2_with (at_builtin; refine wpList_append_own _ rfl (.tmp 59) (.tmp 66) 55 rfl W0.heap.size 3 i0 _ 1 8 Try.underlying55 hi hz0 hz1 hz2 rfl (by decide) _ _ _ rfl (HO.out _) ⟨w2.heap.size, 0, none⟩ 1 1 [.int .i64 (s1.v 2)] rfl rfl ?c1 ?c2 ?c3 ?c4 ?c5 ?_)
            case c1 => exact new_cell1 _ _ rfl _ _
            case c2 => intro u hu; simp at hu; subst hu; rfl
            case c3 => unfold maxLen; omega
            case c4 => omega
            case c5 => have := hs2.out; simp; omega
            intro v4 w4 hown4 hgrow4 _
            have HO4 : Hid (IRow w4 W0.heap.size v4 (L ++ [s1.v 2])) := hide (by
              show World.ownsRow _ _ _ _ _ _ _
              simpa using hown4)
            have HB4 := hide (blk_grown (HO.out _) (HB2.out.alloc _) (by decide) hgrow4)
            have HU4 := hide (blk_grown (HO.out _) (HU2.out.alloc _) (by decide) hgrow4)
            have HR4 := hide (blk_grown (HO.out _) (HR02.out.alloc _) (by decide) hgrow4)
            have HG4 := hide (grown_then (grown_then HG2.out (grown_alloc w2 _ none) (fun _ e => by cases e)) hgrow4 (fun q e => .inr ((HO.out (.cells #[] 0)).lt q e).1))
            clear hown4 hgrow4 HO
            go_wp2_with fail
            go_roundw
            case rel => exact ⟨2 + 1, _, by go_num, rfl, by omega, by rw [HV.out]; exact HO4.out, by rw [HS1.out]; exact HB4.out, HU4.out, HR4.out, HG4.out⟩
            case measure => simp [intOf]
          · rw [if_neg hle, List.append_nil] at HV
            have hd : decide (s1.a 2 ≤ s1.st) = false := by simpa using hle
            clear hle
            go_wp2_with fail
            go_quiet (fail)
            go_wp2_with fail
            go_roundw
            case rel => exact ⟨2 + 1, _, by go_num, rfl, by omega, by rw [HV.out]; exact HR1.out.drewN _, by rw [HS1.out]; exact HB1.out.drewN _, HU1.out.drewN _, HR01.out.drewN _, grown_drewN HG1.out _⟩
            case measure => simp [intOf]
        · have qo : wr.cell? ⟨ub, 4, none⟩ = some (.bool false) := by rw [← ho]; exact (HU.out.cell 4 rfl)
          have E : Hid (vC s1 = (vC s).setIfInBounds 7 (.int .i64 cn)) := hide (by rw [← hs1.out]; simp only [hr1, ho, hcn.out]; rfl)
          clear ho
          have c2 := HB.out.cell 4 rfl
          have c5 : wr.cell? ⟨B, 7, none⟩ = some (.int .i64 (s.a 2)) := HB.out.cell 7 rfl
          have f2 := HB.out.frozen 4
          have f5 := HB.out.frozen 7
          go_wp2_with fail
          go_region
          go_upto_region 9 with fail
          have HBc := hide (show Blk (wr.setCell ⟨B, 7, none⟩ (.int .i64 cn)).drew B ((vC s).setIfInBounds 7 (.int .i64 cn)) 29 from HB.out.set 7 _)
          have HGc := hide (show wr.grownBy (wr.setCell ⟨B, 7, none⟩ (.int .i64 cn)).drew (some B) from grown_drewN (grown_set wr B 7 _) 1)
          clear c2 c5 f2 f5
          generalize (wr.setCell ⟨B, 7, none⟩ (.int .i64 cn)).drew = wc at *
          have HB1 : Hid (Blk wc B (vC s1) 29) := hide (by rw [E.out]; exact HBc.out)
          have HR1 : Hid (IRow wc W0.heap.size vs L) := hide (World.ownsRow.kept HR.out HGc.out (Or.inr (blk_apart HR.out HB.out (by decide))))
          have HU1 := hide (HU.out.grown HGc.out (fun e => by injection e with e; exact hnb1 e))
          have HR01 := hide (HR0.out.grown HGc.out (fun e => by injection e with e; exact hnb2 e))
          have HG1 := hide (grown_then HG.out HGc.out (fun q e => .inl (by injection e with e; exact e.symm)))
          have hszc := HG1.out.size
          clear HBc HGc HB HR HU HR0 HG qo qx em
          have c0 : wc.cell? ⟨B, 0, none⟩ = some (.int .i64 s1.st) := HB1.out.cell 0 rfl
          have cv : wc.cell? ⟨B, 4, none⟩ = some (.int .i64 (s1.v 2)) := HB1.out.cell 4 rfl
          have ca : wc.cell? ⟨B, 7, none⟩ = some (.int .i64 (s1.a 2)) := HB1.out.cell 7 rfl
          have HS1 : Hid (hr u t (2 + 1) = s1) := hide (HS.out.trans hs1.out)
          rw [← A1.out, ← A2.out, ← HST1.out] at HV
          have HE := hide (show s1.v 2 = s1.v 2 from rfl)
          by_cases hle : s1.a 2 ≤ s1.st
          · rw [if_pos hle] at HV
            have hd : decide (s1.a 2 ≤ s1.st) = true := by simpa using hle
            clear hle
            go_wp2_with fail
            go_quiet (fail)
            have cv2 : (wc.drewN nq).cell? ⟨B, 4, none⟩ = some (.int .i64 (s1.v 2)) := (drewN_cell _ _ _).trans cv
            have HO : Hid (∀ o, ((wc.drewN nq).alloc o).ownsRow W0.heap.size 3 1 vs L.length (L.map (Value.int .i64))) := hide fun o => (HR1.out.drewN nq).alloc o
            have HB2 := hide (HB1.out.drewN nq)
            have HU2 := hide (HU1.out.drewN nq)
            have HR02 := hide (HR01.out.drewN nq)
            have HG2 := hide (grown_drewN HG1.out nq)
            have hs2 : Hid (W0.heap.size ≤ (wc.drewN nq).heap.size) := hide HG2.out.size
            clear HR1 HB1 HU1 HR01 HG1 cv ca c0 hszc
            generalize wc.drewN nq = w2 at *
            go_wp2_with (at_builtin; refine wpList_append_own _ rfl (.tmp 59) (.tmp 66) 55 rfl W0.heap.size 3 i0 _ 1 8 Try.underlying55 hi hz0 hz1 hz2 rfl (by decide) _ _ _ rfl (HO.out _) ⟨w2.heap.size, 0, none⟩ 1 1 [.int .i64 (s1.v 2)] rfl rfl ?c1 ?c2 ?c3 ?c4 ?c5 ?_)
            case c1 => exact new_cell1 _ _ rfl _ _
            case c2 => intro u hu; simp at hu; subst hu; rfl
            case c3 => unfold maxLen; omega
            case c4 => omega
            case c5 => have := hs2.out; simp; omega
            intro v4 w4 hown4 hgrow4 _
            have HO4 : Hid (IRow w4 W0.heap.size v4 (L ++ [s1.v 2])) := hide (by
              show World.ownsRow _ _ _ _ _ _ _
              simpa using hown4)
            have HB4 := hide (blk_grown (HO.out _) (HB2.out.alloc _) (by decide) hgrow4)
            have HU4 := hide (blk_grown (HO.out _) (HU2.out.alloc _) (by decide) hgrow4)
            have HR4 := hide (blk_grown (HO.out _) (HR02.out.alloc _) (by decide) hgrow4)
            have HG4 := hide (grown_then (grown_then HG2.out (grown_alloc w2 _ none) (fun _ e => by cases e)) hgrow4 (fun q e => .inr ((HO.out (.cells #[] 0)).lt q e).1))
            clear hown4 hgrow4 HO
            go_wp2_with fail
            go_roundw
            case rel => exact ⟨2 + 1, _, by go_num, rfl, by omega, by rw [HV.out]; exact HO4.out, by rw [HS1.out]; exact HB4.out, HU4.out, HR4.out, HG4.out⟩
            case measure => simp [intOf]
          · rw [if_neg hle, List.append_nil] at HV
            have hd : decide (s1.a 2 ≤ s1.st) = false := by simpa using hle
            clear hle
            go_wp2_with fail
            go_quiet (fail)
            go_wp2_with fail
            go_roundw
            case rel => exact ⟨2 + 1, _, by go_num, rfl, by omega, by rw [HV.out]; exact HR1.out.drewN _, by rw [HS1.out]; exact HB1.out.drewN _, HU1.out.drewN _, HR01.out.drewN _, grown_drewN HG1.out _⟩
            case measure => simp [intOf]
end Go.Proofs.Ytmglcmhofcejiaa
