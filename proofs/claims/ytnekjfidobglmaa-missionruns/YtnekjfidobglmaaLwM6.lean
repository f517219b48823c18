/- What MissionRuns answers: true, at every speed, list of items and list of arrivals. -/
import Derived.Test.YtnekjfidobglmaaMiX
import Derived.Test.YtnekjfidobglmaaMiV
import Derived.Test.YtnekjfidobglmaaGn4
import Derived.Test.YtnekjfidobglmaaRg3
namespace Go.Proofs.Ytnekjfidobglmaa
open Go.RowKit Go.Great Go.Maps

theorem overC (w : World) (R n : Nat) (r : Rn) (h : RunB w R n r) (m : Nat) (hm : r.L.length = m) (hp : r.p ≤ m) : Calls Try.prog 27 #[rP R] w fun e w' => e = .returned (.bool (decide ((m : Int) ≤ (r.p : Int)))) ∧ Below w.heap.size w w' :=
  (over_any w R n r h).mono fun e w' ⟨he, k, hk⟩ => ⟨by rw [he]; exact ret_bool (by rw [decide_eq_decide]; omega), by rw [hk]; exact below_drewN (Below.refl _ _) k⟩
theorem stp_L (r : Rn) (arr : Bool) : (stp r arr).L = r.L := by
  unfold stp
  repeat' split
  all_goals rfl
theorem neq_bool (b : Bool) (w : World) : (binOp .neq 4 (.bool b) (.bool b)).run Try.prog w = .ok (.bool false) w := by
  simp [go_sem]
theorem neq_int (b : Int) (w : World) : (binOp .neq 3 (.int .i64 b) (.int .i64 b)).run Try.prog w = .ok (.bool false) w := by
  simp [go_sem]
theorem neq_err (b : Int) (w : World) : (binOp .neq 24 (.int .i64 b) (.int .i64 b)).run Try.prog w = .ok (.bool false) w := by
  simp [go_sem]
/-- the state of the loop over the arrivals -/
structure Two (w wx : World) (R X b n i : Nat) (iv : Value) (r : Rn) : Prop where
  ok : ROk r
  ln : r.L.length = n
  run : RunB wx R i r
  ref : RefR wx iv b r
  x : Blk wx X (xC iv r.p r.s r.l (jV b n)) 43
  below : Below w.heap.size w wx
  hR : w.heap.size ≤ R
  hb : w.heap.size ≤ b
  hX : w.heap.size ≤ X
set_option maxHeartbeats 8000000 in
set_option maxRecDepth 100000 in
theorem runs_any (s : Int) (v u : Value) (w : World) (L : List It) (hL : ItsN w v L) (B : List Bool) (hB : Rws w u 1 boC B) (hBl : B.length ≤ 140737488351232) : Calls Try.prog 6 #[.int .i64 s, v, u] w fun e w' => e = .returned (.bool true) ∧ Below w.heap.size w w' := by
  have AW := hide awakeM
  have LE := hide (lent_any L v w hL)
  have HV := hide hL
  have HB := hide hB
  obtain ⟨mN, na, np, rfl, _⟩ := hL.1.1
  obtain ⟨_, ba, bp, rfl, _⟩ := hB
  have hlen := hL.1.2
  clear hL
  obtain ⟨n, HN⟩ : ∃ n, Hid (L.length = n) := ⟨_, hide rfl⟩
  obtain ⟨m, HMb⟩ : ∃ m, Hid (B.length = m) := ⟨_, hide rfl⟩
  rw [HMb.out] at hBl ⊢
  rw [HN.out] at LE HV hlen ⊢
  clear mN
  go_enter Try.func6, Try.ntmps6
  go_wp2_with fail
  refine LE.out.mono ?_
  rintro e w1 ⟨o, rfl, ho, hb1⟩
  have HO := hide ho
  have Hb := hide hb1
  obtain ⟨g, cap, rfl, _⟩ := ho
  rw [HN.out] at HO ⊢
  clear hb1 LE
  have hg1 : g < w1.heap.size ∧ w.heap.size ≤ g := by
    obtain ⟨g', cap', e, hM⟩ := HO.out
    injection e with e1 e2 e3
    injection e1 with e1
    injection e1 with e1 _
    subst e1
    have := hM.lt g rfl
    omega
  go_wp2_with fail
  refine (newF_any s L _ w1 HO.out.rws).mono ?_
  rintro e w2 ⟨hb2, h2⟩
  replace HO := hide (HO.out.below hb2)
  replace Hb := hide (below_next Hb.out (Nat.le_refl _) hb2)
  have hs12 := hb2.size
  have HVN : Hid (ItsN w2 (.slice na n np) L) := hide ⟨⟨HV.out.1.1.below Hb.out, HV.out.1.2⟩, HV.out.2⟩
  have RN := hide (rnew_any s L _ w2 HVN.out)
  rcases h2 with ⟨hc, rfl⟩ | ⟨hc, R, rfl, hF⟩
  · have hne : (chk L != 0) = true := by simp [hc]
    have hne2 : (chk L == 0) = false := by simp [hc]
    have HC := hide hc
    have NE := neq_err (chk L)
    generalize chk L = c at *
    clear hb2 hc
    go_wp2_with fail
    refine RN.out.mono ?_
    rintro e w3 ⟨hb3, h3⟩
    rcases h3 with ⟨_, x, rfl, rfl⟩ | ⟨h3, _⟩
    rotate_left
    · exact absurd h3 HC.out
    replace HO := hide ((HO.out.below hb3).below (below_alloc w3 (.cells (xC (.slice none 0 0) 0 0 0 (.slice none 0 0)) 43)))
    replace Hb := hide (below_next (below_next Hb.out (Nat.le_refl _) hb3) (Nat.le_refl _) (below_alloc w3 (.cells (xC (.slice none 0 0) 0 0 0 (.slice none 0 0)) 43)))
    clear hb3 RN HVN
    go_upto_region 4 with fail
    generalize w3.alloc (.cells (xC (.slice none 0 0) 0 0 0 (.slice none 0 0)) 43) = W3 at *
    go_wp2_with fail
    refine (kept_true L _ _ W3 w.heap.size HO.out (HV.out.1.1.below Hb.out)).mono ?_
    rintro e w4 ⟨rfl, hb4⟩
    replace Hb := hide (below_next Hb.out (Nat.le_refl _) hb4)
    clear hb4 HO
    go_wp2_with fail
    refine (AW.out w4).mono ?_
    rintro e w5 ⟨rfl, hb5⟩
    go_wp2_with fail
    go_ret
    exact ⟨rfl, below_next Hb.out (Nat.le_refl _) hb5⟩
  · have HC := hide hc
    have HF := hide hF
    have h64 : n ≤ 64 := by rw [← HN.out]; exact (chk_ok hc).1
    clear hb2 hc hF
    go_wp2_with fail
    refine RN.out.mono ?_
    rintro e w3 ⟨hb3, h3⟩
    rcases h3 with ⟨h3, _⟩ | ⟨_, iv, b, rfl, hbb, hiv, hRf⟩
    · exact absurd HC.out h3
    rw [HN.out]
    have hs23 := hb3.size
    have hbX := below_alloc w3 (.cells (xC iv 0 s 0 (jV b n)) 43)
    have HX := hide (Blk.new w3 (xC iv 0 s 0 (jV b n)) 43)
    replace HO := hide ((HO.out.below hb3).below hbX)
    replace HF := hide ((HF.out.below hb3).below hbX)
    have HRf := hide (hRf.below hbX)
    replace Hb := hide (below_next (below_next Hb.out (Nat.le_refl _) hb3) (Nat.le_refl _) hbX)
    clear hb3 RN HVN hRf hbX
    obtain ⟨ia, ic, rfl⟩ := HRf.out.i.shape
    have eL : (rn0 s L).L.length = n := HN.out
    rw [eL] at HX HO HF HRf Hb hiv ⊢
    go_upto_region 4 with fail
    have hXw : w.heap.size ≤ w3.heap.size ∧ g ≠ w3.heap.size := by omega
    generalize w3.alloc (.cells (xC (.slice ia n ic) 0 s 0 (jV b n)) 43) = W3 at *
    generalize w3.heap.size = X at *
    have NE := neq_err 0
    go_wp2_with fail
    refine (kept_true L _ _ W3 w.heap.size HO.out (HV.out.1.1.below Hb.out)).mono ?_
    rintro e w4 ⟨rfl, hb4⟩
    replace HO := hide (HO.out.below hb4)
    replace HF := hide (HF.out.below hb4)
    replace HRf := hide (HRf.out.below hb4)
    replace HX := hide (HX.out.after hb4)
    replace Hb := hide (below_next Hb.out (Nat.le_refl _) hb4)
    clear hb4
    have HOB : Hid (∃ cs, Blk w4 g cs 48 ∧ 4 * n ≤ cs.size) := hide (by
      obtain ⟨g', cap', e, hM⟩ := HO.out
      injection e with e1 e2 e3
      injection e1 with e1
      injection e1 with e1 _
      subst e1
      rcases hM.2 with ⟨e, _⟩ | ⟨g2, cap2, cur, e, _, hh, hnc, _, hcs, _⟩
      · cases e
      · injection e with e1 _ _
        injection e1 with e1
        injection e1 with e1 _
        subst e1
        refine ⟨cur, hh, ?_⟩
        rw [List.length_append, HN.out] at hnc
        simp at hnc
        omega)
    clear HO
    go_wp2_with fail
    go_loopw [12] (fun vi wx => ∃ i : Nat, i ≤ n ∧ vi = .int .i64 (i : Int) ∧ Hid (∃ cs, Blk wx g cs 48 ∧ 4 * n ≤ cs.size) ∧ Hid (RunF wx R 0 (rn0 s L) w1.heap.size) ∧ Hid (RefR wx (.slice ia n ic) b (rn0 s L)) ∧ Hid (Blk wx X (xC (.slice ia n ic) 0 s 0 (jV b n)) 43) ∧ Hid (Below w.heap.size w wx)) (fun vi _ => n - (intOf vi).toNat)
    case atStart => exact ⟨0, Nat.zero_le _, rfl, HOB, HF, HRf, HX, Hb⟩
    case round =>
      clear HOB HF HRf HX Hb
      obtain ⟨i, hi, rfl, HOB, HF, HRf, HX, Hb⟩ := hrel
      by_cases hl : i < n
      · obtain ⟨cs, hcs, hsz⟩ := HOB.out
        have c0 : wr.cell? ⟨g, i * 4, none⟩ = some cs[i * 4] := hcs.cell (i * 4) (by simp)
        have c1 : wr.cell? ⟨g, i * 4 + 1, none⟩ = some cs[i * 4 + 1] := hcs.cell (i * 4 + 1) (by simp)
        have c2 : wr.cell? ⟨g, i * 4 + 2, none⟩ = some cs[i * 4 + 2] := hcs.cell (i * 4 + 2) (by simp)
        have c3 : wr.cell? ⟨g, i * 4 + 3, none⟩ = some cs[i * 4 + 3] := hcs.cell (i * 4 + 3) (by simp)
        have fz := hcs.frozen
        have hG4 : wr.grownBy ((((wr.setCell ⟨g, i * 4, none⟩ (.int .u8 77)).setCell ⟨g, i * 4 + 1, none⟩ (.int .i64 0)).setCell ⟨g, i * 4 + 2, none⟩ (.int .i64 0)).setCell ⟨g, i * 4 + 3, none⟩ (.int .i64 0)) (some g) := grown_more (grown_more (grown_more (grown_set wr g _ _) (grown_set _ g _ _)) (grown_set _ g _ _)) (grown_set _ g _ _)
        have HOB2 : Hid (∃ cs, Blk ((((wr.setCell ⟨g, i * 4, none⟩ (.int .u8 77)).setCell ⟨g, i * 4 + 1, none⟩ (.int .i64 0)).setCell ⟨g, i * 4 + 2, none⟩ (.int .i64 0)).setCell ⟨g, i * 4 + 3, none⟩ (.int .i64 0)) g cs 48 ∧ 4 * n ≤ cs.size) := hide ⟨_, (((hcs.set (i * 4) (.int .u8 77)).set (i * 4 + 1) (.int .i64 0)).set (i * 4 + 2) (.int .i64 0)).set (i * 4 + 3) (.int .i64 0), by simpa using hsz⟩
        have HF2 := hide (HF.out.kept hG4 hg1.1)
        have HRf2 : Hid (RefR ((((wr.setCell ⟨g, i * 4, none⟩ (.int .u8 77)).setCell ⟨g, i * 4 + 1, none⟩ (.int .i64 0)).setCell ⟨g, i * 4 + 2, none⟩ (.int .i64 0)).setCell ⟨g, i * 4 + 3, none⟩ (.int .i64 0)) (.slice ia n ic) b (rn0 s L)) := hide ⟨HRf.out.i.grown hG4 (.inr fun e => by have := hiv g e; omega), HRf.out.j.grown hG4 (fun e => by injection e with e; omega)⟩
        have HX2 := hide (HX.out.grown hG4 (fun e => by injection e with e; exact hXw.2 e))
        have Hb2 := hide (below_grown Hb.out hG4 (fun k e => by injection e with e; omega))
        generalize hv0 : cs[i * 4] = y0 at *
        generalize hv1 : cs[i * 4 + 1] = y1 at *
        generalize hv2 : cs[i * 4 + 2] = y2 at *
        generalize hv3 : cs[i * 4 + 3] = y3 at *
        clear hG4 hcs hv0 hv1 hv2 hv3
        go_wp2_with fail
        go_roundw
        case rel => exact ⟨i + 1, by omega, by go_num, HOB2, HF2, HRf2, HX2, Hb2⟩
        case measure => simp [intOf]; omega
      · obtain rfl : i = n := by omega
        have HT : Hid (Two w wr R X b i 0 (.slice ia i ic) (rn0 s L)) := hide ⟨rn0_ok HC.out, HN.out, HF.out.run, HRf.out, HX.out, Hb.out, (by obtain ⟨_, _, _, _, _, h4, _⟩ := HF.out; omega), by omega, hXw.1⟩
        clear HOB HF HRf HX Hb
        go_wp2_with fail
        go_loopw [13] (fun vi wx => ∃ (j : Nat) (r : Rn), j ≤ m ∧ vi = .int .i64 (j : Int) ∧ Hid (Two w wx R X b i j (.slice ia i ic) r)) (fun vi _ => m - (intOf vi).toNat)
        case atStart => exact ⟨0, _, Nat.zero_le _, rfl, HT⟩
        case round =>
          clear HT
          obtain ⟨j, r, hj, rfl, HT⟩ := hrel
          have hpI := HT.out.ok.p
          rw [HT.out.ln] at hpI
          obtain ⟨k1, k2, k3, k4, k5, hgl⟩ := goal_shape r
          have GO := hide (fun W (hb : Below wr.heap.size wr W) => goal_any W R j r (HT.out.run.grown hb) HT.out.ok.p)
          have RG := hide (fun W (hb : Below wr.heap.size wr W) => rgoal_any W _ b r (HT.out.ref.below hb) HT.out.ok.p)
          rw [hgl] at GO RG
          rw [HT.out.ln] at RG
          have IX := hide (fun W (hb : Below wr.heap.size wr W) => index_any W R j r (HT.out.run.grown hb))
          have OV := hide (fun W (hb : Below wr.heap.size wr W) => overC W R j r (HT.out.run.grown hb) i HT.out.ln hpI)
          have q0 : ∀ z : BelowW wr, z.q.cell? ⟨X, 0, none⟩ = some (.slice ia i ic) := HT.out.x.at 0 rfl
          have q1 : ∀ z : BelowW wr, z.q.cell? ⟨X, 1, none⟩ = some (.int .i64 r.p) := HT.out.x.at 1 rfl
          have q2 : ∀ z : BelowW wr, z.q.cell? ⟨X, 2, none⟩ = some (.int .i64 r.s) := HT.out.x.at 2 rfl
          have q3 : ∀ z : BelowW wr, z.q.cell? ⟨X, 3, none⟩ = some (.int .i64 r.l) := HT.out.x.at 3 rfl
          have q4 : ∀ z : BelowW wr, z.q.cell? ⟨X, 4, none⟩ = some (jV b i) := HT.out.x.at 4 rfl
          have hne : Nonempty (BelowW wr) := ⟨⟨wr, Below.refl _ _⟩⟩
          have NG := neq_goal k1 k2 k3 k4 k5
          have EG := eql_goal k1 k2 k3 k4 k5
          have NB := neq_bool (decide ((i : Int) ≤ (r.p : Int)))
          have NI := neq_int r.p
          clear hgl
          by_cases hlj : j < m
          · go_upto_region 15 with fail
            refine wp_region_calm (by kernel_rfl) (by kernel_rfl) ?_
            repeat (go_big_quiet_step (first
              | (go_at_call 26; exact calm_same (IX.out _ (BelowW.h _)))
              | (go_at_call 27; exact calm_of (OV.out _ (BelowW.h _)))
              | (go_at_call 24; exact calm_of (GO.out _ (BelowW.h _)))
              | (go_at_call 25; exact calm_of (RG.out _ (BelowW.h _)))))
            refine wpQuiet_nil ?_
            rintro _ ⟨z, rfl⟩
            have HT2 : Hid (Two w z.q R X b i j (.slice ia i ic) r) := hide ⟨HT.out.ok, HT.out.ln, HT.out.run.grown z.h, HT.out.ref.below z.h, HT.out.x.after z.h, below_next HT.out.below (Nat.le_refl _) z.h, HT.out.hR, HT.out.hb, HT.out.hX⟩
            obtain ⟨ga, oa, ca, arr, e1, hga, hxl, cell⟩ := HB.out.get j (by rw [HMb.out]; omega)
            injection e1 with e1 e2 e3
            subst e1 e3
            have HCell := hide cell
            clear q0 q1 q2 q3 q4 hne GO RG IX OV cell hxl e2 HT
            generalize z.q = W5 at *
            clear z
            have c0 : W5.cell? ⟨ga, oa + j, none⟩ = some (.bool arr) := by
              have := HCell.out W5 HT2.out.below 0 _ rfl
              rw [Nat.mul_one, Nat.add_zero] at this
              exact this
            have ST := hide (step_any W5 R j r arr HT2.out.run HT2.out.ok (by unfold maxLen; omega))
            go_wp2_with fail
            refine ST.out.mono ?_
            rintro e w6 ⟨rfl, hR6, hG6⟩
            have HRu := hide hR6
            obtain ⟨rcs, hRB⟩ := HT2.out.run.blk
            have HRf := hide (HT2.out.ref.other hRB (by decide) (by decide) hG6)
            have HX := hide (HT2.out.x.other hRB (by decide) hG6)
            have Hb := hide (below_grown HT2.out.below hG6 (fun k e => by injection e with e; have := HT2.out.hR; omega))
            have HOK := hide HT2.out.ok
            have HLN := hide HT2.out.ln
            have HRW := hide (And.intro HT2.out.hR (And.intro HT2.out.hb HT2.out.hX))
            clear hR6 hG6 ST c0 HT2 hRB
            have RS := hide (fun k => rstep_any (w6.drewN k) (.slice ia i ic) b r arr (HRf.out.below (below_drewN (Below.refl _ _) k)) HOK.out)
            rw [HLN.out] at RS
            obtain ⟨x0, x1, x2, x3, x4⟩ := x_cells HX.out
            have c0 : w6.cell? ⟨ga, oa + j, none⟩ = some (.bool arr) := by
              have := HCell.out w6 Hb.out 0 _ rfl
              rw [Nat.mul_one, Nat.add_zero] at this
              exact this
            go_upto_region 18 with fail
            refine reg_two 5 _ _ rfl rfl rfl rfl (by kernel_rfl) (by kernel_rfl) (by kernel_rfl) (by kernel_rfl) ?_
            simp only [List.take_succ_cons, List.take_zero]
            repeat (quiet_step (fail))
            refine wpQuiet_nil ?_
            intro kq
            refine wp_abs fun K' hK' => ?_
            go_simp
            refine (RS.out kq).mono ?_
            rintro e w7 ⟨rfl, hRf7, hG7⟩
            refine hK'.out _ _ ?_
            clear hK' K' x0 x1 x2 x3 x4 c0 RS
            have hd6 : Below w6.heap.size w6 (w6.drewN kq) := below_drewN (Below.refl _ _) kq
            have hJ := (HRf.out.below hd6).j
            replace HX := hide ((HX.out.after hd6).other hJ (by decide) hG7)
            replace HRu := hide ((HRu.out.grown hd6).other hJ (by decide) (by decide) hG7)
            replace Hb := hide (below_grown (below_next Hb.out (Nat.le_refl _) hd6) hG7 (fun k e => by injection e with e; have := HRW.out; omega))
            replace HRf := hide hRf7
            clear hd6 hJ hRf7 hG7
            have HOK2 := hide (HOK.out.step arr)
            have HLN2 : Hid ((stp r arr).L.length = i) := hide (by rw [stp_L]; exact HLN.out)
            generalize stp r arr = r2 at *
            have hg5 := grown_set5 w7 X (.slice ia i ic) (.int .i64 r2.p) (.int .i64 r2.s) (.int .i64 r2.l) (jV b i)
            have HT8 : Hid (Two w (((((w7.setCell ⟨X, 0, none⟩ (.slice ia i ic)).setCell ⟨X, 1, none⟩ (.int .i64 r2.p)).setCell ⟨X, 2, none⟩ (.int .i64 r2.s)).setCell ⟨X, 3, none⟩ (.int .i64 r2.l)).setCell ⟨X, 4, none⟩ (jV b i)) R X b i (j + 1) (.slice ia i ic) r2) := hide ⟨HOK2.out, HLN2.out, HRu.out.other HX.out (by decide) (by decide) hg5, HRf.out.other HX.out (by decide) (by decide) hg5, HX.out.set5 _ _ _ _ _, below_grown Hb.out hg5 (fun k e => by injection e with e; have := HRW.out; omega), HRW.out.1, HRW.out.2.1, HRW.out.2.2⟩
            obtain ⟨x0, x1, x2, x3, x4⟩ := x_cells HX.out
            have fz := HX.out.frozen
            clear hg5
            refine wp_abs fun K' hK' => ?_
            go_simp
            refine hK'.out _ _ ?_
            clear hK' K' x0 x1 x2 x3 x4 fz HX HRf HRu Hb
            go_wp2_with fail
            go_roundw
            case rel => exact ⟨j + 1, r2, by omega, by go_num, HT8⟩
            case measure => simp [intOf]; omega
          · obtain rfl : j = m := by omega
            have Hb := hide HT.out.below
            go_upto_region 19 with fail
            refine wp_region_calm (by kernel_rfl) (by kernel_rfl) ?_
            repeat (go_big_quiet_step (first
              | (go_at_call 26; exact calm_same (IX.out _ (BelowW.h _)))
              | (go_at_call 24; exact calm_of (GO.out _ (BelowW.h _)))
              | (go_at_call 25; exact calm_of (RG.out _ (BelowW.h _)))
              | (go_at_call 16; exact calm_of (AW.out _))))
            refine wpQuiet_nil ?_
            rintro _ ⟨z, rfl⟩
            replace Hb := hide (below_next Hb.out (Nat.le_refl _) z.h)
            go_wp2_with fail
            go_ret
            exact ⟨rfl, Hb.out⟩
theorem MissionRuns_walk (s : Int) (v u : Value) (w : World) (hv : ∃ L, ItsN w v L) (hu : ∃ B, Rws w u 1 boC B ∧ B.length ≤ 140737488351232) : Calls Try.prog 6 #[.int .i64 s, v, u] w fun e w' => e = .returned (.bool true) ∧ Below w.heap.size w w' := by
  obtain ⟨L, hL⟩ := hv
  obtain ⟨B, hB, hl⟩ := hu
  exact runs_any s v u w L hL B hB hl
end Go.Proofs.Ytnekjfidobglmaa
