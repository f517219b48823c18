/- ModesFollow. -/
import Derived.Test.YthheekneanhmkaaMoT
import Derived.Test.YthheekneanhmkaaOp0
namespace Go.Proofs.Ythheekneanhmkaa
open Go.RowKit Go.Great

set_option maxHeartbeats 4000000 in
set_option maxRecDepth 100000 in
theorem follow_walk (l : List Int) (v : Value) (w : World) (hv : Ints w v l) (hlen : l.length * 8 + 32 ≤ 140737488355328) : Calls Try.prog 4 #[v] w fun e w' => e = .returned (.bool true) ∧ Below w.heap.size w w' := by
  have AW := hide awakeO
  have HV := hide hv
  obtain ⟨ad, cap, rfl, hv2⟩ := hv
  clear hv2
  obtain ⟨n, hn⟩ : ∃ n, Hid (l.length = n) := ⟨_, hide rfl⟩
  rw [hn.out] at hlen ⊢
  go_enter Try.func4, Try.ntmps4
  go_wp2_with (go_at_call 15; refine (newM_any _).mono ?_; rintro e w1 ⟨M, rfl, hM, hb, hMw⟩; have HM := hide hM; have Hb := hide hb; have HMw := hide hMw; clear hM hb hMw)
  have HR : Hid (Rm (w1.alloc (.cells #[.int .u8 0, .int .i64 0] 31)) w1.heap.size 0 0) := hide (Blk.new w1 _ _)
  have HM1 := hide (HM.out.alloc (.cells #[.int .u8 0, .int .i64 0] 31))
  have Hb1 := hide (below_next Hb.out (Nat.le_refl _) (below_alloc w1 (.cells #[.int .u8 0, .int .i64 0] 31)))
  have hlt := HM.out.lt
  have hwB := Hb.out.size
  clear HM Hb
  generalize w1.alloc (.cells #[.int .u8 0, .int .i64 0] 31) = W1 at *
  generalize w1.heap.size = B at *
  go_loopw [5] (fun vi wr => ∃ (i : Nat) (m : Int) (f : Nat → Bool), vi = .int .i64 (i : Int) ∧ i ≤ n ∧ Hid (Mac wr M m (lat f)) ∧ Hid (Rm wr B m (lat f)) ∧ Hid (Below w.heap.size w wr)) (fun vi _ => n - (intOf vi).toNat)
  case atStart => exact ⟨0, 0, fun _ => false, rfl, by omega, HM1, HR, Hb1⟩
  case round =>
    clear HM1 HR Hb1
    obtain ⟨i, m, f, rfl, hi, HM, HR, Hb⟩ := hrel
    by_cases hl : i < n
    · obtain ⟨a2, cap2, e1, hc⟩ := HV.out
      injection e1 with e1 e2 e3
      subst e1 e3
      obtain ⟨g0, o, rfl, hg, hc⟩ := hc (by rw [hn.out]; omega)
      have hci := hc i (by rw [hn.out]; omega)
      obtain ⟨ev, hev⟩ : ∃ ev, Hid (l.getD i 0 = ev) := ⟨_, hide rfl⟩
      rw [hev.out] at hci
      have hB0 := Hb.out.size
      have k0 : wr.cell? ⟨g0, o + i, none⟩ = some (.int .i64 ev) := (Hb.out.cell (p := ⟨g0, o + i, none⟩) hg).trans hci
      have HC : Hid (∀ W, Below w.heap.size w W → W.cell? ⟨g0, o + i, none⟩ = some (.int .i64 ev)) := hide (fun W h => (h.cell (p := ⟨g0, o + i, none⟩) hg).trans hci)
      clear hci hc e2 HV hev
      have ST := hide (step_any wr M m (lat f) ev HM.out)
      have RS := hide (rstep_any m f ev)
      have HL := hide (stL_lat m f ev)
      have HS := hide (fun W => mode_any W M (stM m ev) (stL m (lat f) ev))
      have HT := hide (fun W => latch_any W M (stM m ev) (stL m (lat f) ev))
      generalize stM m ev = k at *
      generalize stL m (lat f) ev = la2' at *
      generalize stE m ev = d at *
      go_upto_region 9 with (go_at_call 16; refine ST.out.mono ?_; rintro e w2 ⟨rfl, hM2, hg2⟩; have HM2 := hide hM2; have HR2 := hide (HR.out.grown hg2 (by intro e; injection e with e; omega)); have Hb2 := hide (below_grown Hb.out hg2 (fun q e => by injection e with e; have := HMw.out; omega)); clear hM2 hg2)
      have HL2 := hide HL.out
      clear HL ST HM HR Hb k0
      generalize lat f = la at *
      have HS3 : Hid (∀ W, Below w2.heap.size w2 W → W.cell? ⟨B, 0, none⟩ = some (.int .u8 m) ∧ W.cell? ⟨B, 1, none⟩ = some (.int .i64 la) ∧ W.cell? ⟨g0, o + i, none⟩ = some (.int .i64 ev)) := hide (fun W h => ⟨(HR2.out.after h).cell 0 rfl, (HR2.out.after h).cell 1 rfl, HC.out W (below_next Hb2.out (Nat.le_refl _) h)⟩)
      go_cut [7, 8] (fun v7 v8 wx => ∃ g, v7 = .pointer (some ⟨g, 0, none⟩) ∧ v8 = .int .i64 d ∧ Rm wx g k la2' ∧ w2.heap.size ≤ g ∧ Below w2.heap.size w2 wx)
      case first =>
        -- REGION9 BEGIN
        refine wp_region_held_drew (S := fun wx => wx.cell? ⟨B, 0, none⟩ = some (.int .u8 m) ∧ wx.cell? ⟨B, 1, none⟩ = some (.int .i64 la) ∧ wx.cell? ⟨g0, o + i, none⟩ = some (.int .i64 ev)) (by kernel_rfl) (HS3.out w2 (Below.refl _ _)) (fun hHeld => ?_)
        refine take_at (i := 0) (v := .agg #[.int .u8 m, .int .i64 la]) (d := some 25) rfl rfl (by kernel_rfl) (by kernel_rfl) (by kernel_rfl) (fun _ _ _ h => h) (Or.inl ⟨by rfl, fun wS ⟨hS0, hS1, hS2⟩ => by go_simp; all_goals (rw [IntKind.wrap_i64]; omega)⟩) (by assumption) ?_
        simp only [Act.put, List.setIfInBounds_toArray, List.set_cons_zero, List.set_cons_succ]
        refine take_at (i := 1) (v := .slice (some ⟨g0, o, none⟩) n cap) (d := some 26) rfl rfl (by kernel_rfl) (by kernel_rfl) (by kernel_rfl) (fun _ _ _ h => h) (Or.inl ⟨by rfl, fun wS ⟨hS0, hS1, hS2⟩ => by go_simp; all_goals (rw [IntKind.wrap_i64]; omega)⟩) (by assumption) ?_
        simp only [Act.put, List.setIfInBounds_toArray, List.set_cons_zero, List.set_cons_succ]
        refine take_at (i := 2) (v := .int .i64 (i : Int)) (d := some 27) rfl rfl (by kernel_rfl) (by kernel_rfl) (by kernel_rfl) (fun _ _ _ h => h) (Or.inl ⟨by rfl, fun wS ⟨hS0, hS1, hS2⟩ => by go_simp; all_goals (rw [IntKind.wrap_i64]; omega)⟩) (by assumption) ?_
        simp only [Act.put, List.setIfInBounds_toArray, List.set_cons_zero, List.set_cons_succ]
        refine take_at (i := 3) (v := .pointer (some ⟨g0, o + i, none⟩)) (d := some 28) rfl rfl (by kernel_rfl) (by kernel_rfl) (by kernel_rfl) (fun _ _ _ h => h) (Or.inl ⟨by rfl, fun wS ⟨hS0, hS1, hS2⟩ => by go_simp; all_goals (rw [IntKind.wrap_i64]; omega)⟩) (by assumption) ?_
        simp only [Act.put, List.setIfInBounds_toArray, List.set_cons_zero, List.set_cons_succ]
        refine take_at (i := 4) (v := .int .i64 ev) (d := some 29) rfl rfl (by kernel_rfl) (by kernel_rfl) (by kernel_rfl) (fun _ _ _ h => h) (Or.inl ⟨by rfl, fun wS ⟨hS0, hS1, hS2⟩ => by go_simp; all_goals (rw [IntKind.wrap_i64]; omega)⟩) (by assumption) ?_
        simp only [Act.put, List.setIfInBounds_toArray, List.set_cons_zero, List.set_cons_succ]
        clear hHeld
        refine wpAnyH_ready (rs := [5, 9]) (by kernel_rfl) (by simp) ?_
        refine AllReadyH.cons rfl (fun K hK => ?_) (AllReadyH.cons rfl (fun K hK => ?_) AllReadyH.nil)
        · go_simp
          refine (RS.out w2.drew).mono ?_
          rintro e w3 ⟨rfl, hb3⟩
          have Hb3 := hide (below_undrew hb3)
          clear hb3
          refine hK.out _ _ (HS3.out _ Hb3.out) (fun hHeld => ?_)
          clear hK K
          refine take_at (i := 6) (v := .tuple #[.agg #[.int .u8 k, .int .i64 la2'], .int .i64 d]) (d := some 24) rfl rfl (by kernel_rfl) (by kernel_rfl) (by kernel_rfl) (fun _ _ _ h => h) (Or.inl ⟨by rfl, fun wS ⟨hS0, hS1, hS2⟩ => by go_simp; all_goals (rw [IntKind.wrap_i64]; omega)⟩) (by assumption) ?_
          simp only [Act.put, List.setIfInBounds_toArray, List.set_cons_zero, List.set_cons_succ]
          refine take_at (i := 7) (v := .agg #[.int .u8 k, .int .i64 la2']) (d := some 31) rfl rfl (by kernel_rfl) (by kernel_rfl) (by kernel_rfl) (fun _ _ _ h => h) (Or.inl ⟨by rfl, fun wS ⟨hS0, hS1, hS2⟩ => by go_simp; all_goals (rw [IntKind.wrap_i64]; omega)⟩) (by assumption) ?_
          simp only [Act.put, List.setIfInBounds_toArray, List.set_cons_zero, List.set_cons_succ]
          refine take_at (i := 8) (v := .int .i64 d) (d := some 32) rfl rfl (by kernel_rfl) (by kernel_rfl) (by kernel_rfl) (fun _ _ _ h => h) (Or.inl ⟨by rfl, fun wS ⟨hS0, hS1, hS2⟩ => by go_simp; all_goals (rw [IntKind.wrap_i64]; omega)⟩) (by assumption) ?_
          simp only [Act.put, List.setIfInBounds_toArray, List.set_cons_zero, List.set_cons_succ]
          clear hHeld
          refine wpAnyH_ready (rs := [9]) (by kernel_rfl) (by simp) ?_
          refine AllReadyH.cons rfl (fun K hK => ?_) AllReadyH.nil
          go_simp
          refine hK.out _ _ (HS3.out _ (below_next Hb3.out (Nat.le_refl _) (below_alloc w3 _))) (fun hHeld => ?_)
          clear hK K hHeld
          refine wpAnyH_ready (rs := [10]) (by kernel_rfl) (by simp) ?_
          refine AllReadyH.cons rfl (fun K hK => ?_) AllReadyH.nil
          go_simp
          refine hK.out _ _ (HS3.out _ (below_next Hb3.out (Nat.le_refl _) (below_alloc w3 _))) (fun hHeld => ?_)
          clear hK K
          refine take_at (i := 11) (v := .int .i64 d) (d := some 8) rfl rfl (by kernel_rfl) (by kernel_rfl) (by kernel_rfl) (fun _ _ _ h => h) (Or.inl ⟨by rfl, fun wS ⟨hS0, hS1, hS2⟩ => by go_simp; all_goals (rw [IntKind.wrap_i64]; omega)⟩) (by assumption) ?_
          simp only [Act.put, List.setIfInBounds_toArray, List.set_cons_zero, List.set_cons_succ]
          clear hHeld
          refine wpAnyH_done (by kernel_rfl) ?_ _
          go_simp
          (try go_wp2_with fail)
          go_meet
          exact ⟨w3.heap.size, rfl, rfl, Blk.new w3 _ _, Hb3.out.size, below_next Hb3.out (Nat.le_refl _) (below_alloc w3 _)⟩
        · go_simp
          have HZ0 : Hid (Rm (w2.alloc (.cells #[.int .u8 0, .int .i64 0] 31)) w2.heap.size 0 0) := hide (Blk.new w2 _ _)
          have Hb3 := hide (below_alloc w2 (.cells #[.int .u8 0, .int .i64 0] 31))
          refine hK.out _ _ (HS3.out _ (by exact Hb3.out.drew)) (fun hHeld => ?_)
          clear hK K hHeld
          refine wpAnyH_ready (rs := [5]) (by kernel_rfl) (by simp) ?_
          refine AllReadyH.cons rfl (fun K hK => ?_) AllReadyH.nil
          go_simp
          refine (RS.out _).mono ?_
          rintro e w4 ⟨rfl, hb4⟩
          have Hb4 : Hid (Below w2.heap.size w2 w4) := hide (below_next Hb3.out.drew (Nat.le_refl _) hb4)
          have HZ1 : Hid (Rm w4 w2.heap.size 0 0) := hide (Blk.after (W := (w2.alloc (.cells #[.int .u8 0, .int .i64 0] 31)).drew) HZ0.out hb4)
          clear hb4 HZ0 Hb3
          refine hK.out _ _ (HS3.out _ Hb4.out) (fun hHeld => ?_)
          clear hK K
          refine take_at (i := 6) (v := .tuple #[.agg #[.int .u8 k, .int .i64 la2'], .int .i64 d]) (d := some 24) rfl rfl (by kernel_rfl) (by kernel_rfl) (by kernel_rfl) (fun _ _ _ h => h) (Or.inl ⟨by rfl, fun wS ⟨hS0, hS1, hS2⟩ => by go_simp; all_goals (rw [IntKind.wrap_i64]; omega)⟩) (by assumption) ?_
          simp only [Act.put, List.setIfInBounds_toArray, List.set_cons_zero, List.set_cons_succ]
          refine take_at (i := 7) (v := .agg #[.int .u8 k, .int .i64 la2']) (d := some 31) rfl rfl (by kernel_rfl) (by kernel_rfl) (by kernel_rfl) (fun _ _ _ h => h) (Or.inl ⟨by rfl, fun wS ⟨hS0, hS1, hS2⟩ => by go_simp; all_goals (rw [IntKind.wrap_i64]; omega)⟩) (by assumption) ?_
          simp only [Act.put, List.setIfInBounds_toArray, List.set_cons_zero, List.set_cons_succ]
          refine take_at (i := 8) (v := .int .i64 d) (d := some 32) rfl rfl (by kernel_rfl) (by kernel_rfl) (by kernel_rfl) (fun _ _ _ h => h) (Or.inl ⟨by rfl, fun wS ⟨hS0, hS1, hS2⟩ => by go_simp; all_goals (rw [IntKind.wrap_i64]; omega)⟩) (by assumption) ?_
          simp only [Act.put, List.setIfInBounds_toArray, List.set_cons_zero, List.set_cons_succ]
          clear hHeld
          have z0 := HZ1.out.cell 0 rfl
          have z1 := HZ1.out.cell 1 rfl
          have y0 := HZ1.out.frozen 0
          have y1 := HZ1.out.frozen 1
          have HX := hide (HZ1.out.set2 (.int .u8 k) (.int .i64 la2'))
          have Hb5 := hide (below_set (below_set Hb4.out w2.heap.size 0 (.int .u8 k) (Nat.le_refl _) Hb4.out.size) w2.heap.size 1 (.int .i64 la2') (Nat.le_refl _) (by rw [setCell_size]; exact Hb4.out.size))
          refine wpAnyH_ready (rs := [10]) (by kernel_rfl) (by simp) ?_
          refine AllReadyH.cons rfl (fun K hK => ?_) AllReadyH.nil
          go_simp
          refine hK.out _ _ (HS3.out _ Hb5.out) (fun hHeld => ?_)
          clear hK K
          refine take_at (i := 11) (v := .int .i64 d) (d := some 8) rfl rfl (by kernel_rfl) (by kernel_rfl) (by kernel_rfl) (fun _ _ _ h => h) (Or.inl ⟨by rfl, fun wS ⟨hS0, hS1, hS2⟩ => by go_simp; all_goals (rw [IntKind.wrap_i64]; omega)⟩) (by assumption) ?_
          simp only [Act.put, List.setIfInBounds_toArray, List.set_cons_zero, List.set_cons_succ]
          clear hHeld
          refine wpAnyH_done (by kernel_rfl) ?_ _
          go_simp
          (try go_wp2_with fail)
          go_meet
          exact ⟨w2.heap.size, rfl, rfl, HX.out, Nat.le_refl _, Hb5.out⟩
        -- REGION9 END
      case rest =>
        obtain ⟨g, rfl, rfl, hG, hgB, hbc⟩ := hcut
        have hlB := HR2.out.lt
        have HMc := hide (HM2.out.after hbc)
        have HRc := hide (HR2.out.after hbc)
        have Hbc := hide (below_next Hb2.out (Nat.le_refl _) hbc)
        have k1 := hG.cell 0 rfl
        have k2 := hG.cell 1 rfl
        have r1 := HRc.out.cell 0 rfl
        have r2 := HRc.out.cell 1 rfl
        have fr0 := HRc.out.frozen 0
        have fr1 := HRc.out.frozen 1
        have HX := hide (HRc.out.set2 (.int .u8 k) (.int .i64 la2'))
        have HY : Hid (Mac ((wc.setCell ⟨B, 0, none⟩ (.int .u8 k)).setCell ⟨B, 1, none⟩ (.int .i64 la2')) M k la2') := hide ((HMc.out.setOther (by omega) 0 _).setOther (by omega) 1 _)
        have Hb5 := hide (below_set (below_set Hbc.out B 0 (.int .u8 k) (by omega) Hbc.out.size) B 1 (.int .i64 la2') (by omega) (by rw [setCell_size]; exact Hbc.out.size))
        clear hbc hG HM2 HR2 Hb2 HC HS3 RS HMc HRc Hbc hgB hlB
        go_upto_region 11 with fail
        clear k1 k2 r1 r2 fr0 fr1
        generalize (wc.setCell ⟨B, 0, none⟩ (.int .u8 k)).setCell ⟨B, 1, none⟩ (.int .i64 la2') = W6 at *
        have r1 : W6.cell? ⟨B, 0, none⟩ = some (.int .u8 k) := HX.out.cell 0 rfl
        have r2 : W6.cell? ⟨B, 1, none⟩ = some (.int .i64 la2') := HX.out.cell 1 rfl
        have q0 : (d != d) = false := by simp
        have q1 : (k != k) = false := by simp
        have q2 : (la2' != la2') = false := by simp
        have MD := hide (fun q => HS.out (W6.drewN q) (blk_drewN HY.out q))
        have LA := hide (fun q => HT.out (W6.drewN q) (blk_drewN HY.out q))
        clear HS HT
        go_quiet (first | (go_at_call 18; exact Calls.quiet_of_same (MD.out _)) | (go_at_call 19; exact Calls.quiet_of_same (LA.out _)))
        go_wp2_with fail
        go_roundw
        case rel => exact ⟨i + 1, k, stF m f ev, by go_num, by omega, hide (by rw [← HL2.out]; exact blk_drewN HY.out nq), hide (by rw [← HL2.out]; exact blk_drewN HX.out nq), hide (below_drewN Hb5.out nq)⟩
        case measure => simp [intOf]; omega
    · obtain rfl : i = n := by omega
      go_wp2_with (go_at_call 14; refine (AW.out _).mono ?_; rintro e w5 ⟨rfl, hb5⟩)
      go_ret
      exact ⟨rfl, below_next Hb.out (Nat.le_refl _) hb5⟩
theorem ModesFollow_walk (v : Value) (w : World) (hv : ∃ l, IntsIn w v l) : Calls Try.prog 4 #[v] w fun e w' => e = .returned (.bool true) ∧ Below w.heap.size w w' := by
  obtain ⟨l, h1, _, h2⟩ := hv
  exact follow_walk l v w h1 h2
end Go.Proofs.Ythheekneanhmkaa
