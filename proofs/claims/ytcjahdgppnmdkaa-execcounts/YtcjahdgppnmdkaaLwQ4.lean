/- ExecCounts: a job is due as often as it must be, at its moments alone. -/
import Derived.Test.YtcjahdgppnmdkaaExC
import Derived.Lib.MinMax
set_option maxRecDepth 100000
namespace Go.Proofs.Ytcjahdgppnmdkaa
open Go.RowKit Go.Great

theorem planC_ok (L : List Jb) (v : Value) (w : World) (hv : JbsN w v L) (hc : chkJ L = 0) : Calls Try.prog 29 #[v] w fun e w' => ∃ P, e = .returned (.tuple #[pP P, .bool true]) ∧ w.heap.size ≤ P ∧ PlanW w' w.heap.size P L 0 ∧ Below w.heap.size w w' := by
  refine (plan_any L v w hv).mono ?_
  rintro e w' ⟨hb, ⟨h1, _⟩ | ⟨_, P, rfl, h2, h3⟩⟩
  · exact absurd hc h1
  · exact ⟨P, rfl, h2, h3, hb⟩
theorem planC_no (L : List Jb) (v : Value) (w : World) (hv : JbsN w v L) (hc : chkJ L ≠ 0) : Calls Try.prog 29 #[v] w fun e w' => e = .returned (.tuple #[.pointer none, .bool true]) ∧ Below w.heap.size w w' := by
  refine (plan_any L v w hv).mono ?_
  rintro e w' ⟨hb, ⟨_, rfl⟩ | ⟨h0, _⟩⟩
  · exact ⟨rfl, hb⟩
  · exact absurd h0 hc
/-- all that the counting holds -/
structure CS (w0 w : World) (b P gC gL n : Nat) (L : List Jb) (t : Int) (C La : Nat → Int) : Prop where
  pl : PlanW w b P L t
  c : ArC w gC n C
  l : ArC w gL n La
  ne : gC ≠ gL
  gc : w0.heap.size ≤ gC
  gl : w0.heap.size ≤ gL
  gp : w0.heap.size ≤ P
  below : Below w0.heap.size w0 w
theorem CS.after {w0 w w' : World} {b P gC gL n : Nat} {L : List Jb} {t : Int} {C La : Nat → Int} (h : CS w0 w b P gC gL n L t C La) (hb : Below w.heap.size w w') : CS w0 w' b P gC gL n L t C La :=
  ⟨h.pl.after hb, h.c.after hb, h.l.after hb, h.ne, h.gc, h.gl, h.gp, below_next h.below (Nat.le_refl _) hb⟩
theorem CS.due {w0 w w' : World} {b P gC gL n : Nat} {L : List Jb} {t u : Int} {C La : Nat → Int} (h : CS w0 w b P gC gL n L t C La) (hp : PlanW w' b P L u) (hg : w.grownBy w' (some P)) : CS w0 w' b P gC gL n L u C La :=
  ⟨hp, h.c.other h.pl hg, h.l.other h.pl hg, h.ne, h.gc, h.gl, h.gp, below_grown h.below hg (fun k e => by injection e with e; have := h.gp; omega)⟩
theorem CS.setC {w0 w : World} {b P gC gL n : Nat} {L : List Jb} {t : Int} {C La : Nat → Int} (h : CS w0 w b P gC gL n L t C La) (k : Nat) (x : Int) : CS w0 (w.setCell ⟨gC, k, none⟩ (.int .i64 x)) b P gC gL n L t (upd C k x) La :=
  ⟨h.pl.keptB h.c (grown_set _ _ _ _), h.c.set k x, h.l.grown (grown_set _ _ _ _) (fun e => by injection e with e; exact h.ne e), h.ne, h.gc, h.gl, h.gp, below_grown h.below (grown_set _ gC k _) (fun j e => by injection e with e; have := h.gc; omega)⟩
theorem CS.setL {w0 w : World} {b P gC gL n : Nat} {L : List Jb} {t : Int} {C La : Nat → Int} (h : CS w0 w b P gC gL n L t C La) (k : Nat) (x : Int) : CS w0 (w.setCell ⟨gL, k, none⟩ (.int .i64 x)) b P gC gL n L t C (upd La k x) :=
  ⟨h.pl.keptB h.l (grown_set _ _ _ _), h.c.grown (grown_set _ _ _ _) (fun e => by injection e with e; exact h.ne e.symm), h.l.set k x, h.ne, h.gc, h.gl, h.gp, below_grown h.below (grown_set _ gL k _) (fun j e => by injection e with e; have := h.gl; omega)⟩
theorem make_any (n : Nat) (hn : n ≤ 64) (w : World) : (Instr.makeSlice 72 (.int .i64 n) (.int .i64 n)).run Try.prog w = .ok (.slice (some ⟨w.heap.size, 0, none⟩) n n) (w.alloc (.cells (madeCells #[.int .i64 0] n) 3)) := by
  obtain ⟨i, hi, hz0, hz1, hz2⟩ := info_parts info_int
  have h := run_make (P := Try.prog) w 72 3 i _ Try.underlying72 hi hz0 .i64 .i64 n n (by omega) (Int.le_refl _) (by rw [hz2]; omega) (by omega)
  simp only [Int.toNat_natCast] at h
  rw [hz1, Nat.mul_one] at h
  exact h
set_option maxRecDepth 100000 in
set_option maxHeartbeats 4000000 in
theorem ExecCounts_walk (v : Value) (ticks : Int) (w : World) (hv : ∃ L, JbsN w v L) : Calls Try.prog 11 #[v, .int .i64 ticks] w fun e w' => e = .returned (.bool true) ∧ Below w.heap.size w w' := by
  obtain ⟨L, hv⟩ := hv
  have HV := hide hv
  have hml := hv.1.1.1.1
  unfold maxLen at hml
  obtain ⟨_, na, np, rfl, hcc⟩ := hv.1.1.1
  obtain ⟨n, hn⟩ : ∃ n, Hid (L.length = n) := ⟨_, hide rfl⟩
  rw [hn.out] at HV hml ⊢
  by_cases hc : chkJ L = 0
  · have HJ : Hid (JsOk L) := hide ⟨(chkJ_ok hc).1, (chkJ_ok hc).2, HV.out.1.1.2⟩
    have PL := hide (planC_ok L _ w HV.out hc)
    have hn64 : n ≤ 64 := by rw [← hn.out]; exact HJ.out.le
    clear hc hcc hv hml
    have MK := make_any n hn64
    go_enter Try.func11, Try.ntmps11
    go_upto_region 2 with (go_at_call 29; refine PL.out.mono ?_; rintro e w1 ⟨P, rfl, hP1, hP2, hb1⟩; have HP0 := hide hP1; have HPl := hide hP2; have Hb := hide hb1; clear hP1 hP2 hb1)
    have EP := eql_ptr P
    clear PL
    go_upto_region 9 with fail
    have HCS : Hid (CS w ((w1.alloc (.cells (madeCells #[.int .i64 0] n) 3)).alloc (.cells (madeCells #[.int .i64 0] n) 3)) w.heap.size P w1.heap.size (w1.heap.size + 1) n L 0 (fun _ => 0) (fun _ => 0)) := hide (by
      have h1 := ArC.new w1 n
      have h2 := ArC.new (w1.alloc (.cells (madeCells #[.int .i64 0] n) 3)) n
      rw [size_alloc] at h2
      refine ⟨(HPl.out.after (below_alloc _ _)).after (below_alloc _ _), h1.after (below_alloc _ _), h2, by omega, Hb.out.size, by have := Hb.out.size; omega, HP0.out, below_next (below_next Hb.out (Nat.le_refl _) (below_alloc _ _)) (Nat.le_refl _) (below_alloc _ _)⟩)
    have hg1 : w1.heap.size + 1 ≠ w1.heap.size := by omega
    generalize (w1.alloc (.cells (madeCells #[.int .i64 0] n) 3)).alloc (.cells (madeCells #[.int .i64 0] n) 3) = W2 at *
    obtain ⟨gL, hgL⟩ : ∃ gL, w1.heap.size + 1 = gL := ⟨_, rfl⟩
    rw [hgL] at HCS ⊢
    obtain ⟨gC, hgC⟩ : ∃ gC, w1.heap.size = gC := ⟨_, rfl⟩
    rw [hgC] at HCS ⊢
    clear hgL hgC hg1 MK HPl Hb
    obtain ⟨N, hN, hN4⟩ : ∃ N : Nat, min (max ticks 0) (4096 : Int) = (N : Int) ∧ (N : Int) ≤ 4096 := ⟨(min (max ticks 0) 4096).toNat, by omega, by omega⟩
    rw [hN]
    clear hN
    have HS0 : Hid (StC L n (fun _ => 0) (fun _ => 0) (fun _ => 0)) := hide (StC.start (fun j hj => (HJ.out.good j hj).2) hn.out)
    have HPE : Hid (∀ j ∈ L, 1 ≤ j.pe) := hide (fun j hj => (HJ.out.good j hj).1)
    have HVr : Hid (∀ W, Below w.heap.size w W → Rws W (.slice na L.length np) 3 jbC L) := hide (fun W hb => by rw [hn.out]; exact (HV.out.below hb).1.1.1)
    go_wp2_with fail
    go_loopw [10] (fun v10 wr => ∃ (t : Nat) (C La : Nat → Int), v10 = .int .i64 (t : Int) ∧ t ≤ N ∧ Hid (CS w wr w.heap.size P gC gL n L t C La) ∧ Hid (StC L n (fun _ => t) C La)) (fun v10 _ => N - (intOf v10).toNat)
    case atStart => exact ⟨0, fun _ => 0, fun _ => 0, rfl, by omega, HCS, HS0⟩
    case round =>
      clear HCS HS0
      obtain ⟨t, C, La, rfl, htN, HCS, HS⟩ := hrel
      by_cases hlt : t < N
      · obtain ⟨lo, hlo⟩ : ∃ lo, Hid (dueS L t = lo) := ⟨_, hide rfl⟩
        have hl64 : lo.length ≤ 64 := by rw [← hlo.out]; exact dueS_len HJ.out t
        have HLO : Hid (∀ x ∈ lo, x < n ∧ dueB (jbA L x) t = true) := hide (fun x hx => by rw [← hlo.out] at hx; have := dueN_mem.1 hx; rw [hn.out] at this; exact this)
        have HSo : Hid (lo.Pairwise (ahd L)) := hide (by rw [← hlo.out]; exact dueN_sorted L t _)
        obtain ⟨ll, hll⟩ : ∃ ll, Hid (lo.length = ll) := ⟨_, hide rfl⟩
        rw [hll.out] at hl64
        have DU := hide (due_l wr w.heap.size P L t HCS.out.pl HJ.out (by omega) (by omega) (lo.map Int.ofNat) ll (by rw [hlo.out]) (by rw [List.length_map]; exact hll.out))
        have hti : (t : Int) < N := by omega
        have hgc := hide HCS.out.c.lt
        have hgl := hide HCS.out.l.lt
        have HS1 : Hid (StC L n (ttI lo t 0) C La) := hide (by rw [ttI_zero]; exact HS.out)
        go_upto_region 13 with (go_at_call 32; refine DU.out.mono ?_; rintro e w3 ⟨ua, uc, rfl, hr, hp, hg⟩; have HR3 := hide hr; have HC3 := hide (HCS.out.due hp hg); clear hr hp hg)
        clear DU HCS HS
        obtain ⟨hcu1, hcu2, hcu3, _, hcu4, _⟩ := HR3.out.cap
        have HUS : Hid (0 < lo.length → ∃ g, ua = some ⟨g, 0, none⟩) := hide (fun h => hcu4 (by rw [List.length_map]; exact h))
        obtain ⟨b3, hb3⟩ : ∃ b3, Hid (wr.heap.size = b3) := ⟨_, hide rfl⟩
        rw [hb3.out] at HR3 hgc hgl
        clear hcu1 hcu4
        go_upto_region 14 with fail
        go_loopw [12] (fun v12 wx => ∃ (i : Nat) (C La : Nat → Int), v12 = .int .i64 (i : Int) ∧ i ≤ ll ∧ Hid (CS w wx w.heap.size P gC gL n L (t + 1) C La) ∧ Hid (StC L n (ttI lo t i) C La) ∧ Hid (IRow wx b3 (.slice ua ll uc) (lo.map Int.ofNat))) (fun v12 _ => ll - (intOf v12).toNat)
        case atStart => exact ⟨0, C, La, rfl, by omega, HC3, HS1, HR3⟩
        case round =>
          clear HC3 HS1 HR3
          obtain ⟨i, C, La, rfl, hil, HC, HS, HR⟩ := hrel
          by_cases hin : i < ll
          · have hio : i < lo.length := by rw [hll.out]; exact hin
            obtain ⟨g, rfl⟩ := HUS.out (by omega)
            have c0 := iAt HR.out i hio
            obtain ⟨k1, k2, k3, k4⟩ := HS.out.at HSo.out hio HLO.out
            have hkn := (HLO.out lo[i] (List.getElem_mem hio)).1
            have hkd := (HLO.out lo[i] (List.getElem_mem hio)).2
            have hpe := HPE.out (jbA L lo[i]) (jbA_in (by rw [hn.out]; exact hkn))
            have hph := (HJ.out.good (jbA L lo[i]) (jbA_in (by rw [hn.out]; exact hkn))).2
            have hpok := HJ.out.ok (jbA L lo[i]) (jbA_in (by rw [hn.out]; exact hkn))
            have hck := cnt_le (jbA L lo[i]) t hpe hph (by omega)
            have hck0 := cnt_nonneg (jbA L lo[i]) t hpe
            have hfm := (due_iff _ _).1 hkd
            have hc0 : 0 ≤ C lo[i] := by omega
            have HST : Hid (StC L n (ttI lo t (i + 1)) (upd C lo[i] (C lo[i] + 1)) (upd La lo[i] t)) := hide (HS.out.step HPE.out hn.out HSo.out hio HLO.out (by omega) (by omega) (by omega))
            have HFst : Hid (C lo[i] = 0 → (t : Int) = (jbA L lo[i]).ph) := hide (fun e => due_first _ _ hpe hkd (by omega))
            have HLst : Hid (C lo[i] ≠ 0 → (t : Int) - La lo[i] = (jbA L lo[i]).pe) := hide (fun e => by have := k2 (by omega); rw [hfm] at this; exact this)
            obtain ⟨g2, o2, ena, hg2, hc2⟩ := jb_at (HVr.out wr HC.out.below) lo[i] (by rw [hn.out]; exact hkn)
            have hpv : i = 0 ∨ ∃ (i' y : Nat), i = i' + 1 ∧ y < n ∧ wr.cell? ⟨g, i', none⟩ = some (.int .i64 (y : Int)) ∧ ((jbA L y).rk < (jbA L lo[i]).rk ∨ ((jbA L y).rk = (jbA L lo[i]).rk ∧ y < lo[i])) := by
              rcases Nat.eq_zero_or_pos i with h | h
              · exact .inl h
              · refine .inr ⟨i - 1, lo[i - 1], by omega, (HLO.out _ (List.getElem_mem (by omega))).1, iAt HR.out (i - 1) (by omega), List.pairwise_iff_getElem.1 HSo.out (i - 1) i (by omega) hio (by omega)⟩
            have HJB : Hid (∀ y, y < n → ∀ W, Below wr.heap.size wr W → W.cell? ⟨g2, o2 + y * 3, none⟩ = some (.int .i64 (jbA L y).pe) ∧ W.cell? ⟨g2, o2 + y * 3 + 1, none⟩ = some (.int .i64 (jbA L y).ph) ∧ W.cell? ⟨g2, o2 + y * 3 + 2, none⟩ = some (.int .i64 (jbA L y).rk)) := hide (fun y hy W hW => by
              obtain ⟨g3, o3, e3, _, h3⟩ := jb_at (HVr.out wr HC.out.below) y (by rw [hn.out]; exact hy)
              rw [ena] at e3
              injection e3 with e3
              injection e3 with e4 e5
              subst e4 e5
              exact h3 W hW)
            subst ena
            have HRW : Hid (∀ W, Below wr.heap.size wr W → IRow W b3 (.slice (some ⟨g, 0, none⟩) ll uc) (lo.map Int.ofNat)) := hide (fun W hW => HR.out.below hW)
            have hgl3 : g < wr.heap.size := World.block_lt_of_cell? wr _ c0
            have HCI : Hid (∀ W, Below wr.heap.size wr W → ∀ j, wr.cell? ⟨g, j, none⟩ = W.cell? ⟨g, j, none⟩) := hide (fun W hW j => (hW.cell (p := ⟨g, j, none⟩) hgl3).symm)
            have HSTe := hide HST.out
            obtain ⟨s0, s1, s2⟩ := HJB.out lo[i] hkn wr (Below.refl _ _)
            have dC := HC.out.c.cell hkn
            have dL := HC.out.l.cell hkn
            clear hc2 hck hck0 hfm hpe hph k1 k2 HS hkd
            generalize lo[i] = x at *
            generalize hCk : C x = ck at *
            have HCk := hide hCk
            clear hCk
            generalize La x = lk at *
            obtain ⟨p1, p2, p3⟩ := hpok
            generalize hgpe : (jbA L x).pe = pe at *
            generalize hgph : (jbA L x).ph = ph at *
            generalize hgrk : (jbA L x).rk = rk at *
            have HPE1 := hide hgpe
            have HPH1 := hide hgph
            have HRK1 := hide hgrk
            clear hgpe hgph hgrk
            have hxn : (x : Int) < n := by omega
            have hil2 : (i : Int) < ll := by omega
            have hx0 : decide ((x : Int) < 0) = false := decide_eq_false (by omega)
            have hxn2 : decide ((n : Int) ≤ (x : Int)) = false := decide_eq_false (by omega)
            have hxn3 : decide (n ≤ x) = false := decide_eq_false (by omega)
            go_upto_region 17 with fail
            go_cut [96] (fun v wx => v = .bool false ∧ Hid (Below wr.heap.size wr wx))
            case first =>
              by_cases hz : ck = 0
              · have e1 := hide (HFst.out hz)
                have hb0 : ((0 : Int) == 0) = true := by decide
                have hb1 : ((t : Int) != ph) = false := by rw [e1.out]; simp
                subst hz
                go_quiet (fail)
                go_wp2_with fail
                go_meet
                exact ⟨rfl, hide (below_drewN (Below.refl _ _) _)⟩
              · have e1 := HLst.out hz
                have hb0 : (ck == 0) = false := by simpa using hz
                have hb1 : (pe != pe) = false := by simp
                have hb2 : decide (0 < ck) = true := decide_eq_true (by omega)
                go_quiet (fail)
                go_wp2_with fail
                go_meet
                exact ⟨by first | rfl | simp, hide (below_drewN (Below.refl _ _) _)⟩
            case rest =>
              obtain ⟨rfl, HB1⟩ := hcut
              clear HFst HLst c0 dC dL s0 s1 s2
              go_upto_region 19 with fail
              go_cut [141] (fun v wx => v = .bool false ∧ Hid (Below wr.heap.size wr wx))
              case first =>
                have HB1s := HB1.out
                rcases hpv with h0 | ⟨i', y, rfl, hyn, hyc, hrr⟩
                · subst h0
                  go_quiet (fail)
                  go_wp2_with fail
                  go_meet
                  exact ⟨rfl, hide (below_drewN HB1.out _)⟩
                · have d0 := hyc
                  rw [HCI.out _ HB1.out i'] at d0
                  obtain ⟨_, _, u2⟩ := HJB.out x hkn _ HB1.out
                  obtain ⟨_, _, z2⟩ := HJB.out y hyn _ HB1.out
                  rw [HRK1.out] at u2
                  generalize (jbA L y).rk = r2 at *
                  have hq0 : decide ((0 : Int) < ((i' + 1 : Nat) : Int)) = true := decide_eq_true (by omega)
                  have e1 : ((i' + 1 : Nat) : Int) - 1 = (i' : Int) := by omega
                  have hyn2 : (y : Int) < n := by omega
                  have hil3 : (i' : Int) < ll := by omega
                  clear hyc
                  rcases hrr with hr | ⟨rfl, hr⟩
                  · have hr1 : decide (rk < r2) = false := decide_eq_false (by omega)
                    have hr2 : (r2 == rk) = false := by simp; omega
                    go_quiet (fail)
                    go_wp2_with fail
                    go_meet
                    exact ⟨rfl, hide (below_drewN HB1.out _)⟩
                  · have hr1 : decide ((x : Int) ≤ (y : Int)) = false := decide_eq_false (by omega)
                    have hr2 : decide (x ≤ y) = false := decide_eq_false (by omega)
                    go_quiet (fail)
                    go_wp2_with fail
                    go_meet
                    exact ⟨by first | rfl | simp, hide (below_drewN HB1.out _)⟩
              case rest =>
                clear HB1
                obtain ⟨rfl, HB2⟩ := hcut
                have HCc := hide (HC.out.after HB2.out)
                have dC := HCc.out.c.cell hkn
                rw [HCk.out] at dC
                have fC := HCc.out.c.frozen x
                have fL := HCc.out.l.frozen x
                have fL2 : (wc.setCell ⟨gC, x, none⟩ (.int .i64 (ck + 1))).frozen? ⟨gL, x, none⟩ = false := (HCc.out.setC x (ck + 1)).l.frozen x
                have dL2 := (HCc.out.setC x (ck + 1)).l.cell hkn
                generalize La x = lk2 at dL2
                have HCn := hide ((HCc.out.setC x (ck + 1)).setL x t)
                have HRn : Hid (IRow ((wc.setCell ⟨gC, x, none⟩ (.int .i64 (ck + 1))).setCell ⟨gL, x, none⟩ (.int .i64 (t : Int))) b3 (.slice (some ⟨g, 0, none⟩) ll uc) (lo.map Int.ofNat)) := hide (by
                  have h1 := HRW.out wc HB2.out
                  have h2 := World.ownsRow.kept h1 (grown_set wc gC x (.int .i64 (ck + 1))) (.inr (fun e => by have := (World.ownsRow.lt h1 gC e).1; have := hgc.out; omega))
                  exact World.ownsRow.kept h2 (grown_set _ gL x (.int .i64 (t : Int))) (.inr (fun e => by have := (World.ownsRow.lt h2 gL e).1; have := hgl.out; omega)))
                have hck4 : 0 ≤ ck ∧ ck ≤ 4096 := ⟨hc0, k4⟩
                clear HC HR HRW HCI HJB HCc hpv HB2 hx0 hxn2 hxn3
                go_wp2_with fail
                go_roundw
                case rel => exact ⟨i + 1, upd C x (ck + 1), upd La x t, by simp, by omega, HCn, HSTe, HRn⟩
                case measure => simp [intOf]; omega
          · have hie : i = ll := by omega
            have HS2 : Hid (StC L n (fun _ => ((t + 1 : Nat) : Int)) C La) := hide (by
              have h1 := HS.out
              rw [hie, ← hll.out, ← hlo.out] at h1
              have h2 := h1.done HPE.out hn.out
              rw [Int.natCast_add]
              exact h2)
            have HC2 : Hid (CS w wr w.heap.size P gC gL n L ((t + 1 : Nat) : Int) C La) := hide (by rw [Int.natCast_add]; exact HC.out)
            clear HC HS HR HUS HSo HLO
            go_wp2_with fail
            go_roundw
            case rel => exact ⟨t + 1, C, La, by simp, by omega, HC2, HS2⟩
            case measure => simp [intOf]; omega
      · have htn : t = N := by omega
        have HS2 : Hid (∀ k, k < n → C k = cnt (jbA L k) N) := hide (fun k hk => by have := (HS.out k hk).1; rw [this, htn])
        clear HS
        go_upto_region 24 with fail
        go_loopw [14] (fun v14 wx => ∃ k : Nat, v14 = .int .i64 (k : Int) ∧ k ≤ n ∧ Hid (CS w wx w.heap.size P gC gL n L t C La)) (fun v14 _ => n - (intOf v14).toNat)
        case atStart => exact ⟨0, rfl, by omega, HCS⟩
        case round =>
          clear HCS
          obtain ⟨k, rfl, hkn, HC⟩ := hrel
          by_cases hin : k < n
          · obtain ⟨g2, o2, rfl, hg2, hc2⟩ := jb_at (HVr.out wr HC.out.below) k (by rw [hn.out]; exact hin)
            obtain ⟨s0, s1, s2⟩ := hc2 wr (Below.refl _ _)
            have dC := HC.out.c.cell hin
            have hpe := HPE.out (jbA L k) (jbA_in (by rw [hn.out]; exact hin))
            have hph := (HJ.out.good (jbA L k) (jbA_in (by rw [hn.out]; exact hin))).2
            obtain ⟨p1, p2, p3⟩ := HJ.out.ok (jbA L k) (jbA_in (by rw [hn.out]; exact hin))
            have hkn2 : (k : Int) < n := by omega
            have hck := cnt_le (jbA L k) N hpe hph (by omega)
            rw [HS2.out k hin] at dC
            by_cases hpn : (jbA L k).ph < N
            · have HW := hide (cnt_want (jbA L k) N hpe hpn)
              have hq0 : 0 ≤ ((N : Int) - 1 - (jbA L k).ph) := by omega
              have hck0 := cnt_nonneg (jbA L k) N hpe
              rw [HW.out] at dC
              generalize (jbA L k).rk = rk at *
              generalize cnt (jbA L k) N = c at *
              generalize (jbA L k).pe = pe at *
              generalize (jbA L k).ph = ph at *
              have hd : ∃ d, (N : Int) - 1 - ph = d ∧ 0 ≤ d ∧ d ≤ 4096 := ⟨_, rfl, by omega, by omega⟩
              obtain ⟨d, hd, hd0, hd4⟩ := hd
              rw [hd] at dC
              have htd : Int.tdiv d pe = d / pe := Int.tdiv_eq_ediv_of_nonneg hd0
              have hq1 : 0 ≤ d / pe := Int.ediv_nonneg hd0 (by omega)
              have hq2 : d / pe ≤ 4096 := Int.le_trans (Int.ediv_le_self pe hd0) hd4
              generalize hq : d / pe = q at *
              have hne : ((q + 1 : Int) != q + 1) = false := by simp
              clear hc2 hck hck0 HW hq0
              go_upto_region 28 with fail
              go_quiet (fail)
              go_wp2_with fail
              go_roundw
              case rel => exact ⟨k + 1, by simp, by omega, hide (HC.out.after (below_drewN (Below.refl _ _) _))⟩
              case measure => simp [intOf]; omega
            · have hz := cnt_zero (jbA L k) N (by omega)
              rw [hz] at dC
              generalize (jbA L k).rk = rk at *
              generalize (jbA L k).pe = pe at *
              generalize (jbA L k).ph = ph at *
              have hzz : ((0 : Int) != 0) = false := by decide
              clear hc2 hck hz
              go_wp2_with fail
              go_roundw
              case rel => exact ⟨k + 1, by simp, by omega, HC⟩
              case measure => simp [intOf]; omega
          · have AW := hide (awake22_any wr)
            have Hb := hide HC.out.below
            clear HC
            go_wp2_with (go_at_call 30; refine AW.out.mono ?_; rintro e w2 ⟨rfl, hb2⟩; have Hb2 := hide (below_next Hb.out (Nat.le_refl _) hb2); clear hb2)
            go_ret
            exact ⟨rfl, Hb2.out⟩
  · have PL := hide (planC_no L _ w HV.out hc)
    have EP := eql_ptr0
    clear hc HV hcc hv
    go_enter Try.func11, Try.ntmps11
    go_upto_region 2 with (go_at_call 29; refine PL.out.mono ?_; rintro e w1 ⟨rfl, hb1⟩; have Hb := hide hb1; have AW := hide (awake22_any w1); clear hb1)
    go_wp2_with (go_at_call 30; refine AW.out.mono ?_; rintro e w2 ⟨rfl, hb2⟩; have Hb2 := hide (below_next Hb.out (Nat.le_refl _) hb2); clear hb2)
    go_ret
    exact ⟨rfl, Hb2.out⟩
end Go.Proofs.Ytcjahdgppnmdkaa
