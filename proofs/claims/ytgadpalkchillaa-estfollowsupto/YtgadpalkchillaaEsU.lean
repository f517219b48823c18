/- The document's filter: a step of one that knows. -/
import Derived.Test.YtgadpalkchillaaEsS
namespace Go.Proofs.Ytgadpalkchillaa
open Go.RowKit Go.Great

set_option maxHeartbeats 4000000 in
set_option maxRecDepth 100000 in
theorem rstep_yes (w : World) (t : Fi) (acc dev : Int) (sd : Bool) (p v : Mea) (hk : t.kn = true) (ht : FOk t) (hq0 : t.q0 < 1099511627776) (hq1 : t.q1 < 1099511627776) (ha : I64 acc) (hd : I64 dev) (hp : MOk p) (hv : MOk v) : Calls Try.prog 11 #[.agg (rC t), .int .i64 acc, .int .i64 dev, .bool sd, mV p, mV v] w fun e w' => e = .returned (.agg (rC (fstp acc dev sd p v t))) ∧ Below w.heap.size w w' := by
  have HE : Hid (fstp acc dev sd p v t = fgo acc dev sd p v t) := hide (by unfold fstp; rw [hk]; rfl)
  rw [HE.out]
  clear HE
  have HO := hide ht
  obtain ⟨st, kn, q0, q1, pl, ph, vl, vh, j⟩ := t
  obtain rfl : kn = true := hk
  obtain ⟨W0, hW0, hS, hz⟩ := four_boxes w ⟨st, true, q0, q1, pl, ph, vl, vh, j⟩ p v ⟨0, false, 0, 0, 0, 0, 0, 0, 0⟩
  have HS := hide hS
  have HP := hide hp
  have HV := hide hv
  obtain ⟨dd, hdd⟩ : ∃ y, Hid (imax dev 0 = y) := ⟨_, hide rfl⟩
  have IA := hide ha
  have ID : Hid (I64 dd) := hide (by rw [← hdd.out]; exact imax_ok hd i64_nought)
  have Q0 : Hid (0 ≤ q0 ∧ q0 < 1099511627776) := hide ⟨ht.q0.1, hq0⟩
  have Q1 : Hid (0 ≤ q1 ∧ q1 < 1099511627776) := hide ⟨ht.q1.1, hq1⟩
  have C1 : Hid (∀ w, Calls Try.prog 32 #[.int .i64 vl, .int .i64 acc] w fun e w' => e = .returned (.int .i64 (sat (vl + acc))) ∧ Below w.heap.size w w') := hide (fun w => ref_add_any vl acc w ht.vl ha)
  have C3 : Hid (∀ w, Calls Try.prog 32 #[.int .i64 vh, .int .i64 acc] w fun e w' => e = .returned (.int .i64 (sat (vh + acc))) ∧ Below w.heap.size w w') := hide (fun w => ref_add_any vh acc w ht.vh ha)
  have C2 : Hid (∀ w, Calls Try.prog 31 #[.int .i64 (sat (vl + acc)), .int .i64 dd] w fun e w' => e = .returned (.int .i64 (sat (sat (vl + acc) - dd))) ∧ Below w.heap.size w w') := hide (fun w => ref_sub_any _ dd w (sat_ok _) ID.out)
  have C4 : Hid (∀ w, Calls Try.prog 32 #[.int .i64 (sat (vh + acc)), .int .i64 dd] w fun e w' => e = .returned (.int .i64 (sat (sat (vh + acc) + dd))) ∧ Below w.heap.size w w') := hide (fun w => ref_add_any _ dd w (sat_ok _) ID.out)
  obtain ⟨s1, hs1⟩ : ∃ y, Hid (sat (vl + acc) = y) := ⟨_, hide rfl⟩
  obtain ⟨s2, hs2⟩ : ∃ y, Hid (sat (vh + acc) = y) := ⟨_, hide rfl⟩
  rw [hs1.out] at C1 C2
  rw [hs2.out] at C3 C4
  have nI1 := hide (sat_ok (s1 - dd))
  have nI2 := hide (sat_ok (s2 + dd))
  obtain ⟨nvl, hnvl⟩ : ∃ y, Hid (sat (s1 - dd) = y) := ⟨_, hide rfl⟩
  obtain ⟨nvh, hnvh⟩ : ∃ y, Hid (sat (s2 + dd) = y) := ⟨_, hide rfl⟩
  rw [hnvl.out] at C2 nI1
  rw [hnvh.out] at C4 nI2
  have C5 : Hid (∀ w, Calls Try.prog 32 #[.int .i64 pl, .int .i64 nvl] w fun e w' => e = .returned (.int .i64 (sat (pl + nvl))) ∧ Below w.heap.size w w') := hide (fun w => ref_add_any pl nvl w ht.pl nI1.out)
  have C6 : Hid (∀ w, Calls Try.prog 32 #[.int .i64 ph, .int .i64 nvh] w fun e w' => e = .returned (.int .i64 (sat (ph + nvh))) ∧ Below w.heap.size w w') := hide (fun w => ref_add_any ph nvh w ht.ph nI2.out)
  obtain ⟨npl, hnpl⟩ : ∃ y, Hid (sat (pl + nvl) = y) := ⟨_, hide rfl⟩
  obtain ⟨nph, hnph⟩ : ∃ y, Hid (sat (ph + nvh) = y) := ⟨_, hide rfl⟩
  rw [hnpl.out] at C5
  rw [hnph.out] at C6
  have HM : Hid (fmov acc (imax dev 0) (fhear p v ⟨st, true, q0, q1, pl, ph, vl, vh, j⟩) = ⟨st, true, qt p q0, qt v q1, npl, nph, nvl, nvh, j⟩) := hide (by
    unfold fmov fhear
    rw [hdd.out]
    simp only []
    rw [hs1.out, hs2.out, hnvl.out, hnvh.out, hnpl.out, hnph.out])
  have MO := hide (fmov_ok (acc := acc) (fhear_ok (p := p) (v := v) HO.out) (imax0 dev))
  rw [HM.out] at MO
  have IP : Hid (I64 pl ∧ I64 ph) := hide ⟨ht.pl, ht.ph⟩
  obtain ⟨j0, j1⟩ := ht.j
  simp only [] at j0 j1
  have c1 : W0.cell? ⟨w.heap.size, 1, none⟩ = some (.bool true) := hS.F.cell 1 rfl
  have c2 : W0.cell? ⟨w.heap.size, 2, none⟩ = some (.int .i64 pl) := hS.F.cell 2 rfl
  have c3 : W0.cell? ⟨w.heap.size, 3, none⟩ = some (.int .i64 ph) := hS.F.cell 3 rfl
  clear hS ht hq0 hq1 ha hd hp hv
  unfold rC at hW0
  simp only [] at hW0
  rw [show rC ⟨st, true, q0, q1, pl, ph, vl, vh, j⟩ = #[.int .i64 st, .bool true, .int .i64 pl, .int .i64 ph, .int .i64 vl, .int .i64 vh, .int .i64 q0, .int .i64 q1, .int .i64 j] from rfl]
  go_enter Try.func11, Try.ntmps11
  go_upto_region 7 with fail
  rw [show (if dev < 0 then 0 else dev) = dd from hdd.out]
  go_upto_region 8 with fail
  have HWs := hide (Blk.new W0 #[.int .i64 pl, .int .i64 ph] 28)
  replace HS := hide (HS.out.after (below_alloc W0 (.cells #[.int .i64 pl, .int .i64 ph] 28)))
  clear c1 c2 c3 hW0
  rw [hz] at HWs
  generalize W0.alloc (.cells #[.int .i64 pl, .int .i64 ph] 28) = W1 at *
  go_cut [15] (fun vv wx => ∃ b, vv = .pointer (some ⟨b, 0, none⟩) ∧ w.heap.size + 4 < b ∧ Blk wx b #[.int .i64 nvl, .int .i64 nvh] 28 ∧ RSt w w.heap.size ⟨st, true, q0, q1, pl, ph, vl, vh, j⟩ ⟨0, false, 0, 0, 0, 0, 0, 0, 0⟩ p v wx ∧ Blk wx (w.heap.size + 4) #[.int .i64 pl, .int .i64 ph] 28)
  case first =>
    refine reg_last_held (fun wx => wx.cell? ⟨w.heap.size, 4, none⟩ = some (.int .i64 vl) ∧ wx.cell? ⟨w.heap.size, 5, none⟩ = some (.int .i64 vh)) 18 rfl rfl _ rfl (by kernel_rfl) (by kernel_rfl) (⟨HS.out.F.cell 4 rfl, HS.out.F.cell 5 rfl⟩) (fun hHeld => ?_)
    simp only [List.take_succ_cons, List.take_zero]
    replace HS := hide (HS.out.drew)
    replace HWs := hide (blk_drew HWs.out)
    generalize W1.drew = Wd at *
    refine take_at (i := 0) (v := .pointer (some ⟨w.heap.size, 2, none⟩)) (d := some 43) rfl rfl (by kernel_rfl) (by kernel_rfl) (by kernel_rfl) (fun _ _ _ h => h) (Or.inl ⟨by rfl, fun wS ⟨hS0, hS1⟩ => by go_simp; all_goals (rw [IntKind.wrap_i64]; omega)⟩) (by assumption) ?_
    simp only [Act.put, List.setIfInBounds_toArray, List.set_cons_zero, List.set_cons_succ]
    refine take_at (i := 1) (v := .pointer (some ⟨w.heap.size, 4, none⟩)) (d := some 44) rfl rfl (by kernel_rfl) (by kernel_rfl) (by kernel_rfl) (fun _ _ _ h => h) (Or.inl ⟨by rfl, fun wS ⟨hS0, hS1⟩ => by go_simp; all_goals (rw [IntKind.wrap_i64]; omega)⟩) (by assumption) ?_
    simp only [Act.put, List.setIfInBounds_toArray, List.set_cons_zero, List.set_cons_succ]
    refine take_at (i := 2) (v := .pointer (some ⟨w.heap.size, 4, none⟩)) (d := some 45) rfl rfl (by kernel_rfl) (by kernel_rfl) (by kernel_rfl) (fun _ _ _ h => h) (Or.inl ⟨by rfl, fun wS ⟨hS0, hS1⟩ => by go_simp; all_goals (rw [IntKind.wrap_i64]; omega)⟩) (by assumption) ?_
    simp only [Act.put, List.setIfInBounds_toArray, List.set_cons_zero, List.set_cons_succ]
    refine take_at (i := 3) (v := .int .i64 vl) (d := some 46) rfl rfl (by kernel_rfl) (by kernel_rfl) (by kernel_rfl) (fun _ _ _ h => h) (Or.inl ⟨by rfl, fun wS ⟨hS0, hS1⟩ => by go_simp; all_goals (rw [IntKind.wrap_i64]; omega)⟩) (by assumption) ?_
    simp only [Act.put, List.setIfInBounds_toArray, List.set_cons_zero, List.set_cons_succ]
    refine take_at (i := 4) (v := .int .i64 acc) (d := some 47) rfl rfl (by kernel_rfl) (by kernel_rfl) (by kernel_rfl) (fun _ _ _ h => h) (Or.inl ⟨by rfl, fun wS ⟨hS0, hS1⟩ => by go_simp; all_goals (rw [IntKind.wrap_i64]; omega)⟩) (by assumption) ?_
    simp only [Act.put, List.setIfInBounds_toArray, List.set_cons_zero, List.set_cons_succ]
    refine take_at (i := 6) (v := .int .i64 dd) (d := some 49) rfl rfl (by kernel_rfl) (by kernel_rfl) (by kernel_rfl) (fun _ _ _ h => h) (Or.inl ⟨by rfl, fun wS ⟨hS0, hS1⟩ => by go_simp; all_goals (rw [IntKind.wrap_i64]; omega)⟩) (by assumption) ?_
    simp only [Act.put, List.setIfInBounds_toArray, List.set_cons_zero, List.set_cons_succ]
    refine take_at (i := 8) (v := .pointer (some ⟨w.heap.size, 2, none⟩)) (d := some 51) rfl rfl (by kernel_rfl) (by kernel_rfl) (by kernel_rfl) (fun _ _ _ h => h) (Or.inl ⟨by rfl, fun wS ⟨hS0, hS1⟩ => by go_simp; all_goals (rw [IntKind.wrap_i64]; omega)⟩) (by assumption) ?_
    simp only [Act.put, List.setIfInBounds_toArray, List.set_cons_zero, List.set_cons_succ]
    refine take_at (i := 9) (v := .pointer (some ⟨w.heap.size, 4, none⟩)) (d := some 52) rfl rfl (by kernel_rfl) (by kernel_rfl) (by kernel_rfl) (fun _ _ _ h => h) (Or.inl ⟨by rfl, fun wS ⟨hS0, hS1⟩ => by go_simp; all_goals (rw [IntKind.wrap_i64]; omega)⟩) (by assumption) ?_
    simp only [Act.put, List.setIfInBounds_toArray, List.set_cons_zero, List.set_cons_succ]
    refine take_at (i := 10) (v := .pointer (some ⟨w.heap.size, 5, none⟩)) (d := some 53) rfl rfl (by kernel_rfl) (by kernel_rfl) (by kernel_rfl) (fun _ _ _ h => h) (Or.inl ⟨by rfl, fun wS ⟨hS0, hS1⟩ => by go_simp; all_goals (rw [IntKind.wrap_i64]; omega)⟩) (by assumption) ?_
    simp only [Act.put, List.setIfInBounds_toArray, List.set_cons_zero, List.set_cons_succ]
    refine take_at (i := 11) (v := .int .i64 vh) (d := some 54) rfl rfl (by kernel_rfl) (by kernel_rfl) (by kernel_rfl) (fun _ _ _ h => h) (Or.inl ⟨by rfl, fun wS ⟨hS0, hS1⟩ => by go_simp; all_goals (rw [IntKind.wrap_i64]; omega)⟩) (by assumption) ?_
    simp only [Act.put, List.setIfInBounds_toArray, List.set_cons_zero, List.set_cons_succ]
    refine take_at (i := 12) (v := .int .i64 acc) (d := some 55) rfl rfl (by kernel_rfl) (by kernel_rfl) (by kernel_rfl) (fun _ _ _ h => h) (Or.inl ⟨by rfl, fun wS ⟨hS0, hS1⟩ => by go_simp; all_goals (rw [IntKind.wrap_i64]; omega)⟩) (by assumption) ?_
    simp only [Act.put, List.setIfInBounds_toArray, List.set_cons_zero, List.set_cons_succ]
    refine take_at (i := 14) (v := .int .i64 dd) (d := some 57) rfl rfl (by kernel_rfl) (by kernel_rfl) (by kernel_rfl) (fun _ _ _ h => h) (Or.inl ⟨by rfl, fun wS ⟨hS0, hS1⟩ => by go_simp; all_goals (rw [IntKind.wrap_i64]; omega)⟩) (by assumption) ?_
    simp only [Act.put, List.setIfInBounds_toArray, List.set_cons_zero, List.set_cons_succ]
    clear hHeld
    refine wpAnyH_ready (rs := [5, 17]) (by kernel_rfl) (by simp) ?_
    refine AllReadyH.cons rfl (fun K hK => ?_) (AllReadyH.cons rfl (fun K hK => ?_) AllReadyH.nil)
    · go_simp
      refine (C1.out _).mono ?_
      rintro e wt1 ⟨rfl, hb⟩
      replace HS := hide (HS.out.after hb)
      replace HWs := hide (HWs.out.after hb)
      clear hb
      refine hK.out _ _ (⟨HS.out.F.cell 4 rfl, HS.out.F.cell 5 rfl⟩) (fun hHeld => ?_)
      clear hK K
      clear hHeld
      refine wpAnyH_ready (rs := [7, 17]) (by kernel_rfl) (by simp) ?_
      refine AllReadyH.cons rfl (fun K hK => ?_) (AllReadyH.cons rfl (fun K hK => ?_) AllReadyH.nil)
      · go_simp
        refine (C2.out _).mono ?_
        rintro e wt2 ⟨rfl, hb⟩
        replace HS := hide (HS.out.after hb)
        replace HWs := hide (HWs.out.after hb)
        clear hb
        refine hK.out _ _ (⟨HS.out.F.cell 4 rfl, HS.out.F.cell 5 rfl⟩) (fun hHeld => ?_)
        clear hK K
        clear hHeld
        refine wpAnyH_ready (rs := [13, 17]) (by kernel_rfl) (by simp) ?_
        refine AllReadyH.cons rfl (fun K hK => ?_) (AllReadyH.cons rfl (fun K hK => ?_) AllReadyH.nil)
        · go_simp
          refine (C3.out _).mono ?_
          rintro e wt3 ⟨rfl, hb⟩
          replace HS := hide (HS.out.after hb)
          replace HWs := hide (HWs.out.after hb)
          clear hb
          refine hK.out _ _ (⟨HS.out.F.cell 4 rfl, HS.out.F.cell 5 rfl⟩) (fun hHeld => ?_)
          clear hK K
          clear hHeld
          refine wpAnyH_ready (rs := [15, 17]) (by kernel_rfl) (by simp) ?_
          refine AllReadyH.cons rfl (fun K hK => ?_) (AllReadyH.cons rfl (fun K hK => ?_) AllReadyH.nil)
          · go_simp
            refine (C4.out _).mono ?_
            rintro e wt4 ⟨rfl, hb⟩
            replace HS := hide (HS.out.after hb)
            replace HWs := hide (HWs.out.after hb)
            clear hb
            refine hK.out _ _ (⟨HS.out.F.cell 4 rfl, HS.out.F.cell 5 rfl⟩) (fun hHeld => ?_)
            clear hK K
            refine take_at (i := 16) (v := .agg #[.int .i64 nvl, .int .i64 nvh]) (d := some 59) rfl rfl (by kernel_rfl) (by kernel_rfl) (by kernel_rfl) (fun _ _ _ h => h) (Or.inl ⟨by rfl, fun wS ⟨hS0, hS1⟩ => by go_simp; all_goals (rw [IntKind.wrap_i64]; omega)⟩) (by assumption) ?_
            simp only [Act.put, List.setIfInBounds_toArray, List.set_cons_zero, List.set_cons_succ]
            clear hHeld
            refine wpAnyH_ready (rs := [17]) (by kernel_rfl) (by simp) ?_
            refine AllReadyH.cons rfl (fun K hK => ?_) AllReadyH.nil
            go_simp
            have HZ := hide (Blk.new wt4 #[.int .i64 0, .int .i64 0] 28)
            have hzb := HWs.out.lt
            replace HS := hide (HS.out.after (below_alloc wt4 (.cells #[.int .i64 0, .int .i64 0] 28)))
            replace HWs := hide (HWs.out.after (below_alloc wt4 (.cells #[.int .i64 0, .int .i64 0] 28)))
            generalize wt4.heap.size = bz at *
            generalize wt4.alloc (.cells #[.int .i64 0, .int .i64 0] 28) = wt5 at *
            refine hK.out _ _ (⟨HS.out.F.cell 4 rfl, HS.out.F.cell 5 rfl⟩) (fun hHeld => ?_)
            clear hK K
            clear hHeld
            refine wpAnyH_done (by kernel_rfl) (then_last ?_) _
            have z0 : wt5.cell? ⟨bz, 0, none⟩ = some (.int .i64 0) := HZ.out.cell 0 rfl
            have z1 : wt5.cell? ⟨bz, 1, none⟩ = some (.int .i64 0) := HZ.out.cell 1 rfl
            have f0 := HZ.out.frozen 0
            have f1 := HZ.out.frozen 1
            go_simp
            (try go_wp2_with fail)
            go_meet
            exact ⟨bz, rfl, hzb, HZ.out.set2 _ _, (HS.out.setOther (by omega) (Nat.le_refl _) _ _).setOther (by omega) (Nat.le_refl _) _ _, (HWs.out.setOther (by omega) _ _).setOther (by omega) _ _⟩
          · go_simp
            have HZ := hide (Blk.new wt3 #[.int .i64 0, .int .i64 0] 28)
            have hzb := HWs.out.lt
            replace HS := hide (HS.out.after (below_alloc wt3 (.cells #[.int .i64 0, .int .i64 0] 28)))
            replace HWs := hide (HWs.out.after (below_alloc wt3 (.cells #[.int .i64 0, .int .i64 0] 28)))
            generalize wt3.heap.size = bz at *
            generalize wt3.alloc (.cells #[.int .i64 0, .int .i64 0] 28) = wt6 at *
            refine hK.out _ _ (⟨HS.out.F.cell 4 rfl, HS.out.F.cell 5 rfl⟩) (fun hHeld => ?_)
            clear hK K
            clear hHeld
            refine wpAnyH_ready (rs := [15]) (by kernel_rfl) (by simp) ?_
            refine AllReadyH.cons rfl (fun K hK => ?_) AllReadyH.nil
            go_simp
            refine (C4.out _).mono ?_
            rintro e wt7 ⟨rfl, hb⟩
            replace HS := hide (HS.out.after hb)
            replace HWs := hide (HWs.out.after hb)
            replace HZ := hide (HZ.out.after hb)
            clear hb
            refine hK.out _ _ (⟨HS.out.F.cell 4 rfl, HS.out.F.cell 5 rfl⟩) (fun hHeld => ?_)
            clear hK K
            refine take_at (i := 16) (v := .agg #[.int .i64 nvl, .int .i64 nvh]) (d := some 59) rfl rfl (by kernel_rfl) (by kernel_rfl) (by kernel_rfl) (fun _ _ _ h => h) (Or.inl ⟨by rfl, fun wS ⟨hS0, hS1⟩ => by go_simp; all_goals (rw [IntKind.wrap_i64]; omega)⟩) (by assumption) ?_
            simp only [Act.put, List.setIfInBounds_toArray, List.set_cons_zero, List.set_cons_succ]
            clear hHeld
            refine wpAnyH_done (by kernel_rfl) (then_last ?_) _
            have z0 : wt7.cell? ⟨bz, 0, none⟩ = some (.int .i64 0) := HZ.out.cell 0 rfl
            have z1 : wt7.cell? ⟨bz, 1, none⟩ = some (.int .i64 0) := HZ.out.cell 1 rfl
            have f0 := HZ.out.frozen 0
            have f1 := HZ.out.frozen 1
            go_simp
            (try go_wp2_with fail)
            go_meet
            exact ⟨bz, rfl, hzb, HZ.out.set2 _ _, (HS.out.setOther (by omega) (Nat.le_refl _) _ _).setOther (by omega) (Nat.le_refl _) _ _, (HWs.out.setOther (by omega) _ _).setOther (by omega) _ _⟩
        · go_simp
          have HZ := hide (Blk.new wt2 #[.int .i64 0, .int .i64 0] 28)
          have hzb := HWs.out.lt
          replace HS := hide (HS.out.after (below_alloc wt2 (.cells #[.int .i64 0, .int .i64 0] 28)))
          replace HWs := hide (HWs.out.after (below_alloc wt2 (.cells #[.int .i64 0, .int .i64 0] 28)))
          generalize wt2.heap.size = bz at *
          generalize wt2.alloc (.cells #[.int .i64 0, .int .i64 0] 28) = wt8 at *
          refine hK.out _ _ (⟨HS.out.F.cell 4 rfl, HS.out.F.cell 5 rfl⟩) (fun hHeld => ?_)
          clear hK K
          clear hHeld
          refine wpAnyH_ready (rs := [13]) (by kernel_rfl) (by simp) ?_
          refine AllReadyH.cons rfl (fun K hK => ?_) AllReadyH.nil
          go_simp
          refine (C3.out _).mono ?_
          rintro e wt9 ⟨rfl, hb⟩
          replace HS := hide (HS.out.after hb)
          replace HWs := hide (HWs.out.after hb)
          replace HZ := hide (HZ.out.after hb)
          clear hb
          refine hK.out _ _ (⟨HS.out.F.cell 4 rfl, HS.out.F.cell 5 rfl⟩) (fun hHeld => ?_)
          clear hK K
          clear hHeld
          refine wpAnyH_ready (rs := [15]) (by kernel_rfl) (by simp) ?_
          refine AllReadyH.cons rfl (fun K hK => ?_) AllReadyH.nil
          go_simp
          refine (C4.out _).mono ?_
          rintro e wt10 ⟨rfl, hb⟩
          replace HS := hide (HS.out.after hb)
          replace HWs := hide (HWs.out.after hb)
          replace HZ := hide (HZ.out.after hb)
          clear hb
          refine hK.out _ _ (⟨HS.out.F.cell 4 rfl, HS.out.F.cell 5 rfl⟩) (fun hHeld => ?_)
          clear hK K
          refine take_at (i := 16) (v := .agg #[.int .i64 nvl, .int .i64 nvh]) (d := some 59) rfl rfl (by kernel_rfl) (by kernel_rfl) (by kernel_rfl) (fun _ _ _ h => h) (Or.inl ⟨by rfl, fun wS ⟨hS0, hS1⟩ => by go_simp; all_goals (rw [IntKind.wrap_i64]; omega)⟩) (by assumption) ?_
          simp only [Act.put, List.setIfInBounds_toArray, List.set_cons_zero, List.set_cons_succ]
          clear hHeld
          refine wpAnyH_done (by kernel_rfl) (then_last ?_) _
          have z0 : wt10.cell? ⟨bz, 0, none⟩ = some (.int .i64 0) := HZ.out.cell 0 rfl
          have z1 : wt10.cell? ⟨bz, 1, none⟩ = some (.int .i64 0) := HZ.out.cell 1 rfl
          have f0 := HZ.out.frozen 0
          have f1 := HZ.out.frozen 1
          go_simp
          (try go_wp2_with fail)
          go_meet
          exact ⟨bz, rfl, hzb, HZ.out.set2 _ _, (HS.out.setOther (by omega) (Nat.le_refl _) _ _).setOther (by omega) (Nat.le_refl _) _ _, (HWs.out.setOther (by omega) _ _).setOther (by omega) _ _⟩
      · go_simp
        have HZ := hide (Blk.new wt1 #[.int .i64 0, .int .i64 0] 28)
        have hzb := HWs.out.lt
        replace HS := hide (HS.out.after (below_alloc wt1 (.cells #[.int .i64 0, .int .i64 0] 28)))
        replace HWs := hide (HWs.out.after (below_alloc wt1 (.cells #[.int .i64 0, .int .i64 0] 28)))
        generalize wt1.heap.size = bz at *
        generalize wt1.alloc (.cells #[.int .i64 0, .int .i64 0] 28) = wt11 at *
        refine hK.out _ _ (⟨HS.out.F.cell 4 rfl, HS.out.F.cell 5 rfl⟩) (fun hHeld => ?_)
        clear hK K
        clear hHeld
        refine wpAnyH_ready (rs := [7]) (by kernel_rfl) (by simp) ?_
        refine AllReadyH.cons rfl (fun K hK => ?_) AllReadyH.nil
        go_simp
        refine (C2.out _).mono ?_
        rintro e wt12 ⟨rfl, hb⟩
        replace HS := hide (HS.out.after hb)
        replace HWs := hide (HWs.out.after hb)
        replace HZ := hide (HZ.out.after hb)
        clear hb
        refine hK.out _ _ (⟨HS.out.F.cell 4 rfl, HS.out.F.cell 5 rfl⟩) (fun hHeld => ?_)
        clear hK K
        clear hHeld
        refine wpAnyH_ready (rs := [13]) (by kernel_rfl) (by simp) ?_
        refine AllReadyH.cons rfl (fun K hK => ?_) AllReadyH.nil
        go_simp
        refine (C3.out _).mono ?_
        rintro e wt13 ⟨rfl, hb⟩
        replace HS := hide (HS.out.after hb)
        replace HWs := hide (HWs.out.after hb)
        replace HZ := hide (HZ.out.after hb)
        clear hb
        refine hK.out _ _ (⟨HS.out.F.cell 4 rfl, HS.out.F.cell 5 rfl⟩) (fun hHeld => ?_)
        clear hK K
        clear hHeld
        refine wpAnyH_ready (rs := [15]) (by kernel_rfl) (by simp) ?_
        refine AllReadyH.cons rfl (fun K hK => ?_) AllReadyH.nil
        go_simp
        refine (C4.out _).mono ?_
        rintro e wt14 ⟨rfl, hb⟩
        replace HS := hide (HS.out.after hb)
        replace HWs := hide (HWs.out.after hb)
        replace HZ := hide (HZ.out.after hb)
        clear hb
        refine hK.out _ _ (⟨HS.out.F.cell 4 rfl, HS.out.F.cell 5 rfl⟩) (fun hHeld => ?_)
        clear hK K
        refine take_at (i := 16) (v := .agg #[.int .i64 nvl, .int .i64 nvh]) (d := some 59) rfl rfl (by kernel_rfl) (by kernel_rfl) (by kernel_rfl) (fun _ _ _ h => h) (Or.inl ⟨by rfl, fun wS ⟨hS0, hS1⟩ => by go_simp; all_goals (rw [IntKind.wrap_i64]; omega)⟩) (by assumption) ?_
        simp only [Act.put, List.setIfInBounds_toArray, List.set_cons_zero, List.set_cons_succ]
        clear hHeld
        refine wpAnyH_done (by kernel_rfl) (then_last ?_) _
        have z0 : wt14.cell? ⟨bz, 0, none⟩ = some (.int .i64 0) := HZ.out.cell 0 rfl
        have z1 : wt14.cell? ⟨bz, 1, none⟩ = some (.int .i64 0) := HZ.out.cell 1 rfl
        have f0 := HZ.out.frozen 0
        have f1 := HZ.out.frozen 1
        go_simp
        (try go_wp2_with fail)
        go_meet
        exact ⟨bz, rfl, hzb, HZ.out.set2 _ _, (HS.out.setOther (by omega) (Nat.le_refl _) _ _).setOther (by omega) (Nat.le_refl _) _ _, (HWs.out.setOther (by omega) _ _).setOther (by omega) _ _⟩
    · go_simp
      have HZ := hide (Blk.new Wd #[.int .i64 0, .int .i64 0] 28)
      have hzb := HWs.out.lt
      replace HS := hide (HS.out.after (below_alloc Wd (.cells #[.int .i64 0, .int .i64 0] 28)))
      replace HWs := hide (HWs.out.after (below_alloc Wd (.cells #[.int .i64 0, .int .i64 0] 28)))
      generalize Wd.heap.size = bz at *
      generalize Wd.alloc (.cells #[.int .i64 0, .int .i64 0] 28) = wt15 at *
      refine hK.out _ _ (⟨HS.out.F.cell 4 rfl, HS.out.F.cell 5 rfl⟩) (fun hHeld => ?_)
      clear hK K
      clear hHeld
      refine wpAnyH_ready (rs := [5]) (by kernel_rfl) (by simp) ?_
      refine AllReadyH.cons rfl (fun K hK => ?_) AllReadyH.nil
      go_simp
      refine (C1.out _).mono ?_
      rintro e wt16 ⟨rfl, hb⟩
      replace HS := hide (HS.out.after hb)
      replace HWs := hide (HWs.out.after hb)
      replace HZ := hide (HZ.out.after hb)
      clear hb
      refine hK.out _ _ (⟨HS.out.F.cell 4 rfl, HS.out.F.cell 5 rfl⟩) (fun hHeld => ?_)
      clear hK K
      clear hHeld
      refine wpAnyH_ready (rs := [7]) (by kernel_rfl) (by simp) ?_
      refine AllReadyH.cons rfl (fun K hK => ?_) AllReadyH.nil
      go_simp
      refine (C2.out _).mono ?_
      rintro e wt17 ⟨rfl, hb⟩
      replace HS := hide (HS.out.after hb)
      replace HWs := hide (HWs.out.after hb)
      replace HZ := hide (HZ.out.after hb)
      clear hb
      refine hK.out _ _ (⟨HS.out.F.cell 4 rfl, HS.out.F.cell 5 rfl⟩) (fun hHeld => ?_)
      clear hK K
      clear hHeld
      refine wpAnyH_ready (rs := [13]) (by kernel_rfl) (by simp) ?_
      refine AllReadyH.cons rfl (fun K hK => ?_) AllReadyH.nil
      go_simp
      refine (C3.out _).mono ?_
      rintro e wt18 ⟨rfl, hb⟩
      replace HS := hide (HS.out.after hb)
      replace HWs := hide (HWs.out.after hb)
      replace HZ := hide (HZ.out.after hb)
      clear hb
      refine hK.out _ _ (⟨HS.out.F.cell 4 rfl, HS.out.F.cell 5 rfl⟩) (fun hHeld => ?_)
      clear hK K
      clear hHeld
      refine wpAnyH_ready (rs := [15]) (by kernel_rfl) (by simp) ?_
      refine AllReadyH.cons rfl (fun K hK => ?_) AllReadyH.nil
      go_simp
      refine (C4.out _).mono ?_
      rintro e wt19 ⟨rfl, hb⟩
      replace HS := hide (HS.out.after hb)
      replace HWs := hide (HWs.out.after hb)
      replace HZ := hide (HZ.out.after hb)
      clear hb
      refine hK.out _ _ (⟨HS.out.F.cell 4 rfl, HS.out.F.cell 5 rfl⟩) (fun hHeld => ?_)
      clear hK K
      refine take_at (i := 16) (v := .agg #[.int .i64 nvl, .int .i64 nvh]) (d := some 59) rfl rfl (by kernel_rfl) (by kernel_rfl) (by kernel_rfl) (fun _ _ _ h => h) (Or.inl ⟨by rfl, fun wS ⟨hS0, hS1⟩ => by go_simp; all_goals (rw [IntKind.wrap_i64]; omega)⟩) (by assumption) ?_
      simp only [Act.put, List.setIfInBounds_toArray, List.set_cons_zero, List.set_cons_succ]
      clear hHeld
      refine wpAnyH_done (by kernel_rfl) (then_last ?_) _
      have z0 : wt19.cell? ⟨bz, 0, none⟩ = some (.int .i64 0) := HZ.out.cell 0 rfl
      have z1 : wt19.cell? ⟨bz, 1, none⟩ = some (.int .i64 0) := HZ.out.cell 1 rfl
      have f0 := HZ.out.frozen 0
      have f1 := HZ.out.frozen 1
      go_simp
      (try go_wp2_with fail)
      go_meet
      exact ⟨bz, rfl, hzb, HZ.out.set2 _ _, (HS.out.setOther (by omega) (Nat.le_refl _) _ _).setOther (by omega) (Nat.le_refl _) _ _, (HWs.out.setOther (by omega) _ _).setOther (by omega) _ _⟩
  case rest =>
    obtain ⟨gv, rfl, hgv, hV, hS, hW⟩ := hcut
    clear HS HWs C1 C2 C3 C4
    have HS := hide hS
    have HWs := hide hW
    have HVl := hide hV
    clear hV hS hW
    go_wp2_with fail
    go_cut [16] (fun vv wx => ∃ b, vv = .pointer (some ⟨b, 0, none⟩) ∧ gv < b ∧ Blk wx b #[.int .i64 npl, .int .i64 nph] 28 ∧ RSt w w.heap.size ⟨st, true, q0, q1, pl, ph, vl, vh, j⟩ ⟨0, false, 0, 0, 0, 0, 0, 0, 0⟩ p v wx ∧ Blk wx (w.heap.size + 4) #[.int .i64 pl, .int .i64 ph] 28 ∧ Blk wx gv #[.int .i64 nvl, .int .i64 nvh] 28)
    case first =>
      refine reg_last_held (fun wx => wx.cell? ⟨w.heap.size + 4, 0, none⟩ = some (.int .i64 pl) ∧ wx.cell? ⟨w.heap.size + 4, 1, none⟩ = some (.int .i64 ph) ∧ wx.cell? ⟨gv, 0, none⟩ = some (.int .i64 nvl) ∧ wx.cell? ⟨gv, 1, none⟩ = some (.int .i64 nvh)) 12 rfl rfl _ rfl (by kernel_rfl) (by kernel_rfl) (⟨HWs.out.cell 0 rfl, HWs.out.cell 1 rfl, HVl.out.cell 0 rfl, HVl.out.cell 1 rfl⟩) (fun hHeld => ?_)
      simp only [List.take_succ_cons, List.take_zero]
      replace HS := hide (HS.out.drew)
      replace HWs := hide (blk_drew HWs.out)
      replace HVl := hide (blk_drew HVl.out)
      generalize wc.drew = Wd at *
      refine take_at (i := 0) (v := .pointer (some ⟨w.heap.size + 4, 0, none⟩)) (d := some 60) rfl rfl (by kernel_rfl) (by kernel_rfl) (by kernel_rfl) (fun _ _ _ h => h) (Or.inl ⟨by rfl, fun wS ⟨hS0, hS1, hS2, hS3⟩ => by go_simp; all_goals (rw [IntKind.wrap_i64]; omega)⟩) (by assumption) ?_
      simp only [Act.put, List.setIfInBounds_toArray, List.set_cons_zero, List.set_cons_succ]
      refine take_at (i := 1) (v := .int .i64 pl) (d := some 61) rfl rfl (by kernel_rfl) (by kernel_rfl) (by kernel_rfl) (fun _ _ _ h => h) (Or.inl ⟨by rfl, fun wS ⟨hS0, hS1, hS2, hS3⟩ => by go_simp; all_goals (rw [IntKind.wrap_i64]; omega)⟩) (by assumption) ?_
      simp only [Act.put, List.setIfInBounds_toArray, List.set_cons_zero, List.set_cons_succ]
      refine take_at (i := 2) (v := .pointer (some ⟨gv, 0, none⟩)) (d := some 62) rfl rfl (by kernel_rfl) (by kernel_rfl) (by kernel_rfl) (fun _ _ _ h => h) (Or.inl ⟨by rfl, fun wS ⟨hS0, hS1, hS2, hS3⟩ => by go_simp; all_goals (rw [IntKind.wrap_i64]; omega)⟩) (by assumption) ?_
      simp only [Act.put, List.setIfInBounds_toArray, List.set_cons_zero, List.set_cons_succ]
      refine take_at (i := 3) (v := .int .i64 nvl) (d := some 63) rfl rfl (by kernel_rfl) (by kernel_rfl) (by kernel_rfl) (fun _ _ _ h => h) (Or.inl ⟨by rfl, fun wS ⟨hS0, hS1, hS2, hS3⟩ => by go_simp; all_goals (rw [IntKind.wrap_i64]; omega)⟩) (by assumption) ?_
      simp only [Act.put, List.setIfInBounds_toArray, List.set_cons_zero, List.set_cons_succ]
      refine take_at (i := 5) (v := .pointer (some ⟨w.heap.size + 4, 1, none⟩)) (d := some 65) rfl rfl (by kernel_rfl) (by kernel_rfl) (by kernel_rfl) (fun _ _ _ h => h) (Or.inl ⟨by rfl, fun wS ⟨hS0, hS1, hS2, hS3⟩ => by go_simp; all_goals (rw [IntKind.wrap_i64]; omega)⟩) (by assumption) ?_
      simp only [Act.put, List.setIfInBounds_toArray, List.set_cons_zero, List.set_cons_succ]
      refine take_at (i := 6) (v := .int .i64 ph) (d := some 66) rfl rfl (by kernel_rfl) (by kernel_rfl) (by kernel_rfl) (fun _ _ _ h => h) (Or.inl ⟨by rfl, fun wS ⟨hS0, hS1, hS2, hS3⟩ => by go_simp; all_goals (rw [IntKind.wrap_i64]; omega)⟩) (by assumption) ?_
      simp only [Act.put, List.setIfInBounds_toArray, List.set_cons_zero, List.set_cons_succ]
      refine take_at (i := 7) (v := .pointer (some ⟨gv, 1, none⟩)) (d := some 67) rfl rfl (by kernel_rfl) (by kernel_rfl) (by kernel_rfl) (fun _ _ _ h => h) (Or.inl ⟨by rfl, fun wS ⟨hS0, hS1, hS2, hS3⟩ => by go_simp; all_goals (rw [IntKind.wrap_i64]; omega)⟩) (by assumption) ?_
      simp only [Act.put, List.setIfInBounds_toArray, List.set_cons_zero, List.set_cons_succ]
      refine take_at (i := 8) (v := .int .i64 nvh) (d := some 68) rfl rfl (by kernel_rfl) (by kernel_rfl) (by kernel_rfl) (fun _ _ _ h => h) (Or.inl ⟨by rfl, fun wS ⟨hS0, hS1, hS2, hS3⟩ => by go_simp; all_goals (rw [IntKind.wrap_i64]; omega)⟩) (by assumption) ?_
      simp only [Act.put, List.setIfInBounds_toArray, List.set_cons_zero, List.set_cons_succ]
      clear hHeld
      refine wpAnyH_ready (rs := [4, 11]) (by kernel_rfl) (by simp) ?_
      refine AllReadyH.cons rfl (fun K hK => ?_) (AllReadyH.cons rfl (fun K hK => ?_) AllReadyH.nil)
      · go_simp
        refine (C5.out _).mono ?_
        rintro e wt1 ⟨rfl, hb⟩
        replace HS := hide (HS.out.after hb)
        replace HWs := hide (HWs.out.after hb)
        replace HVl := hide (HVl.out.after hb)
        clear hb
        refine hK.out _ _ (⟨HWs.out.cell 0 rfl, HWs.out.cell 1 rfl, HVl.out.cell 0 rfl, HVl.out.cell 1 rfl⟩) (fun hHeld => ?_)
        clear hK K
        clear hHeld
        refine wpAnyH_ready (rs := [9, 11]) (by kernel_rfl) (by simp) ?_
        refine AllReadyH.cons rfl (fun K hK => ?_) (AllReadyH.cons rfl (fun K hK => ?_) AllReadyH.nil)
        · go_simp
          refine (C6.out _).mono ?_
          rintro e wt2 ⟨rfl, hb⟩
          replace HS := hide (HS.out.after hb)
          replace HWs := hide (HWs.out.after hb)
          replace HVl := hide (HVl.out.after hb)
          clear hb
          refine hK.out _ _ (⟨HWs.out.cell 0 rfl, HWs.out.cell 1 rfl, HVl.out.cell 0 rfl, HVl.out.cell 1 rfl⟩) (fun hHeld => ?_)
          clear hK K
          refine take_at (i := 10) (v := .agg #[.int .i64 npl, .int .i64 nph]) (d := some 70) rfl rfl (by kernel_rfl) (by kernel_rfl) (by kernel_rfl) (fun _ _ _ h => h) (Or.inl ⟨by rfl, fun wS ⟨hS0, hS1, hS2, hS3⟩ => by go_simp; all_goals (rw [IntKind.wrap_i64]; omega)⟩) (by assumption) ?_
          simp only [Act.put, List.setIfInBounds_toArray, List.set_cons_zero, List.set_cons_succ]
          clear hHeld
          refine wpAnyH_ready (rs := [11]) (by kernel_rfl) (by simp) ?_
          refine AllReadyH.cons rfl (fun K hK => ?_) AllReadyH.nil
          go_simp
          have HZ := hide (Blk.new wt2 #[.int .i64 0, .int .i64 0] 28)
          have hzb := HVl.out.lt
          replace HS := hide (HS.out.after (below_alloc wt2 (.cells #[.int .i64 0, .int .i64 0] 28)))
          replace HWs := hide (HWs.out.after (below_alloc wt2 (.cells #[.int .i64 0, .int .i64 0] 28)))
          replace HVl := hide (HVl.out.after (below_alloc wt2 (.cells #[.int .i64 0, .int .i64 0] 28)))
          generalize wt2.heap.size = bz at *
          generalize wt2.alloc (.cells #[.int .i64 0, .int .i64 0] 28) = wt3 at *
          refine hK.out _ _ (⟨HWs.out.cell 0 rfl, HWs.out.cell 1 rfl, HVl.out.cell 0 rfl, HVl.out.cell 1 rfl⟩) (fun hHeld => ?_)
          clear hK K
          clear hHeld
          refine wpAnyH_done (by kernel_rfl) (then_last ?_) _
          have z0 : wt3.cell? ⟨bz, 0, none⟩ = some (.int .i64 0) := HZ.out.cell 0 rfl
          have z1 : wt3.cell? ⟨bz, 1, none⟩ = some (.int .i64 0) := HZ.out.cell 1 rfl
          have f0 := HZ.out.frozen 0
          have f1 := HZ.out.frozen 1
          go_simp
          (try go_wp2_with fail)
          go_meet
          exact ⟨bz, rfl, hzb, HZ.out.set2 _ _, (HS.out.setOther (by omega) (Nat.le_refl _) _ _).setOther (by omega) (Nat.le_refl _) _ _, (HWs.out.setOther (by omega) _ _).setOther (by omega) _ _, (HVl.out.setOther (by omega) _ _).setOther (by omega) _ _⟩
        · go_simp
          have HZ := hide (Blk.new wt1 #[.int .i64 0, .int .i64 0] 28)
          have hzb := HVl.out.lt
          replace HS := hide (HS.out.after (below_alloc wt1 (.cells #[.int .i64 0, .int .i64 0] 28)))
          replace HWs := hide (HWs.out.after (below_alloc wt1 (.cells #[.int .i64 0, .int .i64 0] 28)))
          replace HVl := hide (HVl.out.after (below_alloc wt1 (.cells #[.int .i64 0, .int .i64 0] 28)))
          generalize wt1.heap.size = bz at *
          generalize wt1.alloc (.cells #[.int .i64 0, .int .i64 0] 28) = wt4 at *
          refine hK.out _ _ (⟨HWs.out.cell 0 rfl, HWs.out.cell 1 rfl, HVl.out.cell 0 rfl, HVl.out.cell 1 rfl⟩) (fun hHeld => ?_)
          clear hK K
          clear hHeld
          refine wpAnyH_ready (rs := [9]) (by kernel_rfl) (by simp) ?_
          refine AllReadyH.cons rfl (fun K hK => ?_) AllReadyH.nil
          go_simp
          refine (C6.out _).mono ?_
          rintro e wt5 ⟨rfl, hb⟩
          replace HS := hide (HS.out.after hb)
          replace HWs := hide (HWs.out.after hb)
          replace HVl := hide (HVl.out.after hb)
          replace HZ := hide (HZ.out.after hb)
          clear hb
          refine hK.out _ _ (⟨HWs.out.cell 0 rfl, HWs.out.cell 1 rfl, HVl.out.cell 0 rfl, HVl.out.cell 1 rfl⟩) (fun hHeld => ?_)
          clear hK K
          refine take_at (i := 10) (v := .agg #[.int .i64 npl, .int .i64 nph]) (d := some 70) rfl rfl (by kernel_rfl) (by kernel_rfl) (by kernel_rfl) (fun _ _ _ h => h) (Or.inl ⟨by rfl, fun wS ⟨hS0, hS1, hS2, hS3⟩ => by go_simp; all_goals (rw [IntKind.wrap_i64]; omega)⟩) (by assumption) ?_
          simp only [Act.put, List.setIfInBounds_toArray, List.set_cons_zero, List.set_cons_succ]
          clear hHeld
          refine wpAnyH_done (by kernel_rfl) (then_last ?_) _
          have z0 : wt5.cell? ⟨bz, 0, none⟩ = some (.int .i64 0) := HZ.out.cell 0 rfl
          have z1 : wt5.cell? ⟨bz, 1, none⟩ = some (.int .i64 0) := HZ.out.cell 1 rfl
          have f0 := HZ.out.frozen 0
          have f1 := HZ.out.frozen 1
          go_simp
          (try go_wp2_with fail)
          go_meet
          exact ⟨bz, rfl, hzb, HZ.out.set2 _ _, (HS.out.setOther (by omega) (Nat.le_refl _) _ _).setOther (by omega) (Nat.le_refl _) _ _, (HWs.out.setOther (by omega) _ _).setOther (by omega) _ _, (HVl.out.setOther (by omega) _ _).setOther (by omega) _ _⟩
      · go_simp
        have HZ := hide (Blk.new Wd #[.int .i64 0, .int .i64 0] 28)
        have hzb := HVl.out.lt
        replace HS := hide (HS.out.after (below_alloc Wd (.cells #[.int .i64 0, .int .i64 0] 28)))
        replace HWs := hide (HWs.out.after (below_alloc Wd (.cells #[.int .i64 0, .int .i64 0] 28)))
        replace HVl := hide (HVl.out.after (below_alloc Wd (.cells #[.int .i64 0, .int .i64 0] 28)))
        generalize Wd.heap.size = bz at *
        generalize Wd.alloc (.cells #[.int .i64 0, .int .i64 0] 28) = wt6 at *
        refine hK.out _ _ (⟨HWs.out.cell 0 rfl, HWs.out.cell 1 rfl, HVl.out.cell 0 rfl, HVl.out.cell 1 rfl⟩) (fun hHeld => ?_)
        clear hK K
        clear hHeld
        refine wpAnyH_ready (rs := [4]) (by kernel_rfl) (by simp) ?_
        refine AllReadyH.cons rfl (fun K hK => ?_) AllReadyH.nil
        go_simp
        refine (C5.out _).mono ?_
        rintro e wt7 ⟨rfl, hb⟩
        replace HS := hide (HS.out.after hb)
        replace HWs := hide (HWs.out.after hb)
        replace HVl := hide (HVl.out.after hb)
        replace HZ := hide (HZ.out.after hb)
        clear hb
        refine hK.out _ _ (⟨HWs.out.cell 0 rfl, HWs.out.cell 1 rfl, HVl.out.cell 0 rfl, HVl.out.cell 1 rfl⟩) (fun hHeld => ?_)
        clear hK K
        clear hHeld
        refine wpAnyH_ready (rs := [9]) (by kernel_rfl) (by simp) ?_
        refine AllReadyH.cons rfl (fun K hK => ?_) AllReadyH.nil
        go_simp
        refine (C6.out _).mono ?_
        rintro e wt8 ⟨rfl, hb⟩
        replace HS := hide (HS.out.after hb)
        replace HWs := hide (HWs.out.after hb)
        replace HVl := hide (HVl.out.after hb)
        replace HZ := hide (HZ.out.after hb)
        clear hb
        refine hK.out _ _ (⟨HWs.out.cell 0 rfl, HWs.out.cell 1 rfl, HVl.out.cell 0 rfl, HVl.out.cell 1 rfl⟩) (fun hHeld => ?_)
        clear hK K
        refine take_at (i := 10) (v := .agg #[.int .i64 npl, .int .i64 nph]) (d := some 70) rfl rfl (by kernel_rfl) (by kernel_rfl) (by kernel_rfl) (fun _ _ _ h => h) (Or.inl ⟨by rfl, fun wS ⟨hS0, hS1, hS2, hS3⟩ => by go_simp; all_goals (rw [IntKind.wrap_i64]; omega)⟩) (by assumption) ?_
        simp only [Act.put, List.setIfInBounds_toArray, List.set_cons_zero, List.set_cons_succ]
        clear hHeld
        refine wpAnyH_done (by kernel_rfl) (then_last ?_) _
        have z0 : wt8.cell? ⟨bz, 0, none⟩ = some (.int .i64 0) := HZ.out.cell 0 rfl
        have z1 : wt8.cell? ⟨bz, 1, none⟩ = some (.int .i64 0) := HZ.out.cell 1 rfl
        have f0 := HZ.out.frozen 0
        have f1 := HZ.out.frozen 1
        go_simp
        (try go_wp2_with fail)
        go_meet
        exact ⟨bz, rfl, hzb, HZ.out.set2 _ _, (HS.out.setOther (by omega) (Nat.le_refl _) _ _).setOther (by omega) (Nat.le_refl _) _ _, (HWs.out.setOther (by omega) _ _).setOther (by omega) _ _, (HVl.out.setOther (by omega) _ _).setOther (by omega) _ _⟩
    case rest =>
      obtain ⟨gp, rfl, hgp, hP, hS, hW, hV⟩ := hcut
      clear HS HWs HVl C5 C6
      have HS := hide hS
      have HWs := hide hW
      have HVl := hide hV
      have HPs := hide hP
      clear hS hW hV hP
      obtain ⟨u, hu⟩ : ∃ u, Hid ((if sd = true then fstd pl ph ⟨st, true, qt p q0, qt v q1, npl, nph, nvl, nvh, j⟩ else ⟨st, true, qt p q0, qt v q1, npl, nph, nvl, nvh, j⟩) = u) := ⟨_, hide rfl⟩
      have UO : Hid (FOk u) := hide (by
        rw [← hu.out]
        split
        · exact fstd_ok MO.out IP.out.1 IP.out.2
        · exact MO.out)
      have UI : Hid (u.st = st ∧ u.kn = true ∧ u.q0 = qt p q0 ∧ u.q1 = qt v q1 ∧ u.j = j) := hide (by rw [← hu.out]; split <;> exact ⟨rfl, rfl, rfl, rfl, rfl⟩)
      have FG : Hid (fgo acc dev sd p v ⟨st, true, q0, q1, pl, ph, vl, vh, j⟩ = fcv v (fcp p u)) := hide (by unfold fgo; rw [HM.out, ← hu.out])
      go_upto_if 71 with fail
      go_cut [] (fun wx => RSt w w.heap.size ⟨st, true, q0, q1, pl, ph, vl, vh, j⟩ ⟨0, false, 0, 0, 0, 0, 0, 0, 0⟩ p v wx ∧ Blk wx gv #[.int .i64 u.vl, .int .i64 u.vh] 28 ∧ Blk wx gp #[.int .i64 u.pl, .int .i64 u.ph] 28)
      case first =>
        cases sd with
        | false =>
          obtain rfl : u = ⟨st, true, qt p q0, qt v q1, npl, nph, nvl, nvh, j⟩ := by rw [← hu.out]; rfl
          go_wp2_with fail
          go_meet
          exact ⟨HS.out, HVl.out, HPs.out⟩
        | true =>
          obtain rfl : u = fstd pl ph ⟨st, true, qt p q0, qt v q1, npl, nph, nvl, nvh, j⟩ := by rw [← hu.out]; rfl
          have v0 : wc.cell? ⟨gv, 0, none⟩ = some (.int .i64 nvl) := HVl.out.cell 0 rfl
          have v1 : wc.cell? ⟨gv, 1, none⟩ = some (.int .i64 nvh) := HVl.out.cell 1 rfl
          have f0 := HVl.out.frozen 0
          have f1 := HVl.out.frozen 1
          go_upto_region 12 with fail
          rw [show (if 0 < nvl then 0 else nvl) = imin nvl 0 from rfl, show (if nvh < 0 then 0 else nvh) = imax nvh 0 from rfl]
          have S1 := hide ((HS.out.setOther (b := gv) (by omega) (Nat.le_refl _) 0 (.int .i64 (imin nvl 0))).setOther (b := gv) (by omega) (Nat.le_refl _) 1 (.int .i64 (imax nvh 0)))
          have V1 := hide (HVl.out.set2 (.int .i64 (imin nvl 0)) (.int .i64 (imax nvh 0)))
          have P1 := hide ((HPs.out.setOther (show gp ≠ gv by omega) 0 (.int .i64 (imin nvl 0))).setOther (show gp ≠ gv by omega) 1 (.int .i64 (imax nvh 0)))
          have W1' := hide ((HWs.out.setOther (show w.heap.size + 4 ≠ gv by omega) 0 (.int .i64 (imin nvl 0))).setOther (show w.heap.size + 4 ≠ gv by omega) 1 (.int .i64 (imax nvh 0)))
          clear HS HVl HPs HWs v0 v1 f0 f1
          generalize (wc.setCell ⟨gv, 0, none⟩ (.int .i64 (imin nvl 0))).setCell ⟨gv, 1, none⟩ (.int .i64 (imax nvh 0)) = wd at *
          have v0 : wd.cell? ⟨gp, 0, none⟩ = some (.int .i64 npl) := P1.out.cell 0 rfl
          have v1 : wd.cell? ⟨gp, 1, none⟩ = some (.int .i64 nph) := P1.out.cell 1 rfl
          have y0 : wd.cell? ⟨w.heap.size + 4, 0, none⟩ = some (.int .i64 pl) := W1'.out.cell 0 rfl
          have y1 : wd.cell? ⟨w.heap.size + 4, 1, none⟩ = some (.int .i64 ph) := W1'.out.cell 1 rfl
          have f0 := P1.out.frozen 0
          have f1 := P1.out.frozen 1
          go_wp2_with fail
          all_goals
            go_meet
            refine ⟨(S1.out.setOther (by omega) (Nat.le_refl _) _ _).setOther (by omega) (Nat.le_refl _) _ _, (V1.out.setOther (by omega) _ _).setOther (by omega) _ _, ?_⟩
            show Blk _ gp #[.int .i64 (imin npl pl), .int .i64 (imax nph ph)] _
            unfold imin imax
            repeat' split
            all_goals first | (exfalso; omega) | exact P1.out.set2 _ _
      case rest =>
        obtain ⟨hS, hV, hP⟩ := hcut
        clear HS HWs HVl HPs hu HM MO IP hs1 hs2 hnvl hnvh hnpl hnph nI1 nI2
        have HS := hide hS
        have HVl := hide hV
        have HPs := hide hP
        clear hS hV hP
        have RP := hide (fun w => rcut_any w u.pl u.ph p UO.out.p HP.out)
        have RV := hide (fun w => rcut_any w u.vl u.vh v UO.out.v HV.out)
        obtain ⟨a, ha⟩ : ∃ y, Hid (cutN u.pl u.ph p = y) := ⟨_, hide rfl⟩
        obtain ⟨b, hb⟩ : ∃ y, Hid (cutN u.vl u.vh v = y) := ⟨_, hide rfl⟩
        obtain ⟨l1, hl1⟩ : ∃ y, Hid (cutL u.pl u.ph p = y) := ⟨_, hide rfl⟩
        obtain ⟨h1, hh1⟩ : ∃ y, Hid (cutH u.pl u.ph p = y) := ⟨_, hide rfl⟩
        obtain ⟨l2, hl2⟩ : ∃ y, Hid (cutL u.vl u.vh v = y) := ⟨_, hide rfl⟩
        obtain ⟨h2, hh2⟩ : ∃ y, Hid (cutH u.vl u.vh v = y) := ⟨_, hide rfl⟩
        rw [ha.out, hl1.out, hh1.out] at RP
        rw [hb.out, hl2.out, hh2.out] at RV
        have FE : Hid (fgo acc dev sd p v ⟨st, true, q0, q1, pl, ph, vl, vh, j⟩ = ⟨st, true, qt p q0, qt v q1, l1, h1, l2, h2, jmp b (jmp a j)⟩) := hide (by
          rw [FG.out]
          unfold fcv fcp
          simp only []
          rw [ha.out, hb.out, hl1.out, hh1.out, hl2.out, hh2.out, UI.out.1, UI.out.2.1, UI.out.2.2.1, UI.out.2.2.2.1, UI.out.2.2.2.2])
        generalize u.pl = up at *
        generalize u.ph = uh at *
        generalize u.vl = ul at *
        generalize u.vh = uu at *
        clear FG UI UO ha hb hl1 hh1 hl2 hh2
        have p0 : wc.cell? ⟨gp, 0, none⟩ = some (.int .i64 up) := HPs.out.cell 0 rfl
        have p1 : wc.cell? ⟨gp, 1, none⟩ = some (.int .i64 uh) := HPs.out.cell 1 rfl
        obtain ⟨a0, a1, a2, d0, d1, d2⟩ := HS.out.T.cells
        go_upto_region 14 with (go_at_call 33; refine (RP.out _).mono ?_; rintro e w3 ⟨rfl, hb3⟩)
        have H17 := hide (Blk.new w3 #[.int .i64 l1, .int .i64 h1] 28)
        have hlt3 : gp < w3.heap.size := (HPs.out.after hb3).lt
        replace HS := hide ((HS.out.after hb3).after (below_alloc w3 (.cells #[.int .i64 l1, .int .i64 h1] 28)))
        replace HVl := hide ((HVl.out.after hb3).alloc (.cells #[.int .i64 l1, .int .i64 h1] 28))
        clear HPs p0 p1 a0 a1 a2 d0 d1 d2 hb3 RP
        generalize w3.heap.size = g17 at *
        generalize w3.alloc (.cells #[.int .i64 l1, .int .i64 h1] 28) = W3 at *
        have p0 : W3.cell? ⟨gv, 0, none⟩ = some (.int .i64 ul) := HVl.out.cell 0 rfl
        have p1 : W3.cell? ⟨gv, 1, none⟩ = some (.int .i64 uu) := HVl.out.cell 1 rfl
        obtain ⟨a0, a1, a2, d0, d1, d2⟩ := HS.out.T.cells
        go_upto_region 15 with (go_at_call 33; refine (RV.out _).mono ?_; rintro e w4 ⟨rfl, hb4⟩)
        have H19 := hide (Blk.new w4 #[.int .i64 l2, .int .i64 h2] 28)
        replace HS := hide ((HS.out.after hb4).after (below_alloc w4 (.cells #[.int .i64 l2, .int .i64 h2] 28)))
        replace H17 := hide ((H17.out.after hb4).alloc (.cells #[.int .i64 l2, .int .i64 h2] 28))
        clear HVl p0 p1 a0 a1 a2 d0 d1 d2 hb4 RV
        generalize w4.heap.size = g19 at *
        generalize w4.alloc (.cells #[.int .i64 l2, .int .i64 h2] 28) = W4 at *
        have p0 : W4.cell? ⟨g17, 0, none⟩ = some (.int .i64 l1) := H17.out.cell 0 rfl
        have p1 : W4.cell? ⟨g17, 1, none⟩ = some (.int .i64 h1) := H17.out.cell 1 rfl
        have p2 : W4.cell? ⟨g19, 0, none⟩ = some (.int .i64 l2) := H19.out.cell 0 rfl
        have p3 : W4.cell? ⟨g19, 1, none⟩ = some (.int .i64 h2) := H19.out.cell 1 rfl
        obtain ⟨u0, u1, u2, u3, u4, u5, u6, u7, u8⟩ := HS.out.fcells
        simp only [] at u0 u1 u2 u3 u4 u5 u6 u7 u8
        have f2 := HS.out.F.frozen 2
        have f3 := HS.out.F.frozen 3
        have f4 := HS.out.F.frozen 4
        have f5 := HS.out.F.frozen 5
        go_upto_region 16 with fail
        have HS5 : Hid (RSt w w.heap.size ⟨st, true, q0, q1, l1, h1, l2, h2, j⟩ ⟨0, false, 0, 0, 0, 0, 0, 0, 0⟩ p v ((((W4.setCell ⟨w.heap.size, 2, none⟩ (.int .i64 l1)).setCell ⟨w.heap.size, 3, none⟩ (.int .i64 h1)).setCell ⟨w.heap.size, 4, none⟩ (.int .i64 l2)).setCell ⟨w.heap.size, 5, none⟩ (.int .i64 h2))) := hide (HS.out.axis l1 h1 l2 h2 (Nat.le_refl _))
        clear HS H17 H19 p0 p1 p2 p3 u0 u1 u2 u3 u4 u5 u6 u7 u8 f2 f3 f4 f5
        generalize (((W4.setCell ⟨w.heap.size, 2, none⟩ (.int .i64 l1)).setCell ⟨w.heap.size, 3, none⟩ (.int .i64 h1)).setCell ⟨w.heap.size, 4, none⟩ (.int .i64 l2)).setCell ⟨w.heap.size, 5, none⟩ (.int .i64 h2) = W5 at *
        go_upto_if 106 with fail
        go_cut [] (fun wx => RSt w w.heap.size ⟨st, true, q0, q1, l1, h1, l2, h2, jmp a j⟩ ⟨0, false, 0, 0, 0, 0, 0, 0, 0⟩ p v wx)
        case first =>
          cases a with
          | false =>
            go_wp2_with fail
            go_meet
            exact HS5.out
          | true =>
            have u8 : W5.cell? ⟨w.heap.size, 8, none⟩ = some (.int .i64 j) := HS5.out.F.cell 8 rfl
            have f8 := HS5.out.F.frozen 8
            go_wp2_with fail
            all_goals
              go_meet
              show RSt w w.heap.size ⟨st, true, q0, q1, l1, h1, l2, h2, imin (j + 1) 65535⟩ ⟨0, false, 0, 0, 0, 0, 0, 0, 0⟩ p v _
              unfold imin
              split <;> first | (exfalso; omega) | exact HS5.out.jump _ (Nat.le_refl _)
        case rest =>
          have HS := hide hcut
          clear HS5
          obtain ⟨k, hk⟩ : ∃ y, Hid (jmp a j = y) := ⟨_, hide rfl⟩
          have kb : 0 ≤ k ∧ k ≤ 65535 := by rw [← hk.out]; exact jmp_ok ⟨j0, j1⟩
          obtain ⟨k0, k1⟩ := kb
          rw [hk.out] at HS FE
          clear hk j0 j1
          go_upto_if 112 with fail
          go_cut [] (fun wx => RSt w w.heap.size ⟨st, true, q0, q1, l1, h1, l2, h2, jmp b k⟩ ⟨0, false, 0, 0, 0, 0, 0, 0, 0⟩ p v wx)
          case first =>
            cases b with
            | false =>
              go_wp2_with fail
              go_meet
              exact HS.out
            | true =>
              have u8 : wc.cell? ⟨w.heap.size, 8, none⟩ = some (.int .i64 k) := HS.out.F.cell 8 rfl
              have f8 := HS.out.F.frozen 8
              go_wp2_with fail
              all_goals
                go_meet
                show RSt w w.heap.size ⟨st, true, q0, q1, l1, h1, l2, h2, imin (k + 1) 65535⟩ ⟨0, false, 0, 0, 0, 0, 0, 0, 0⟩ p v _
                unfold imin
                split <;> first | (exfalso; omega) | exact HS.out.jump _ (Nat.le_refl _)
          case rest =>
            clear HS
            have HS := hide hcut
            obtain ⟨m, hm⟩ : ∃ y, Hid (jmp b k = y) := ⟨_, hide rfl⟩
            rw [hm.out] at HS FE
            clear hm
            have RQ0 := hide (rquiet_any q0 p Q0.out.1 Q0.out.2)
            have RQ1 := hide (rquiet_any q1 v Q1.out.1 Q1.out.2)
            generalize qt p q0 = y0 at *
            generalize qt v q1 = y1 at *
            go_wp2_with fail
            have a0 : ∀ x : BelowW wc, x.q.cell? ⟨w.heap.size + 1, 0, none⟩ = some (.bool p.o) := HS.out.T.1.at 0 rfl
            have a1 : ∀ x : BelowW wc, x.q.cell? ⟨w.heap.size + 1, 1, none⟩ = some (.int .i64 p.x) := HS.out.T.1.at 1 rfl
            have a2 : ∀ x : BelowW wc, x.q.cell? ⟨w.heap.size + 1, 2, none⟩ = some (.int .i64 p.e) := HS.out.T.1.at 2 rfl
            have b0 : ∀ x : BelowW wc, x.q.cell? ⟨w.heap.size + 1 + 1, 0, none⟩ = some (.bool v.o) := HS.out.T.2.at 0 rfl
            have b1 : ∀ x : BelowW wc, x.q.cell? ⟨w.heap.size + 1 + 1, 1, none⟩ = some (.int .i64 v.x) := HS.out.T.2.at 1 rfl
            have b2 : ∀ x : BelowW wc, x.q.cell? ⟨w.heap.size + 1 + 1, 2, none⟩ = some (.int .i64 v.e) := HS.out.T.2.at 2 rfl
            have b6 : ∀ x : BelowW wc, x.q.cell? ⟨w.heap.size, 6, none⟩ = some (.int .i64 q0) := HS.out.F.at 6 rfl
            have b7 : ∀ x : BelowW wc, x.q.cell? ⟨w.heap.size, 7, none⟩ = some (.int .i64 q1) := HS.out.F.at 7 rfl
            have hne : Nonempty (BelowW wc) := ⟨⟨wc, Below.refl _ _⟩⟩
            refine reg_last_calm 12 rfl rfl _ rfl (by kernel_rfl) (by kernel_rfl) (by kernel_rfl) ?_
            simp only [List.take_succ_cons, List.take_zero]
            repeat (go_big_quiet_step (first
              | (go_at_call_of 34 (Value.int IntKind.i64 q0); exact calm_of (RQ0.out _))
              | (go_at_call_of 34 (Value.int IntKind.i64 q1); exact calm_of (RQ1.out _))))
            refine wpQuiet_nil ?_
            rintro _ ⟨x, rfl⟩
            obtain ⟨W6, hx⟩ := x
            replace HS := hide (HS.out.after hx)
            clear a0 a1 a2 b0 b1 b2 b6 b7 hne
            have k6 : W6.cell? ⟨w.heap.size, 6, none⟩ = some (.int .i64 q0) := HS.out.F.cell 6 rfl
            have k7 : W6.cell? ⟨w.heap.size, 7, none⟩ = some (.int .i64 q1) := HS.out.F.cell 7 rfl
            have f6 : W6.frozen? ⟨w.heap.size, 6, none⟩ = false := HS.out.F.frozen 6
            have f7 : W6.frozen? ⟨w.heap.size, 7, none⟩ = false := HS.out.F.frozen 7
            go_simp
            have HS7 : Hid (RSt w w.heap.size ⟨st, true, y0, y1, l1, h1, l2, h2, m⟩ ⟨0, false, 0, 0, 0, 0, 0, 0, 0⟩ p v ((W6.setCell ⟨w.heap.size, 6, none⟩ (.int .i64 y0)).setCell ⟨w.heap.size, 7, none⟩ (.int .i64 y1))) := hide (HS.out.quiet y0 y1 (Nat.le_refl _))
            clear HS k6 k7 f6 f7 hx
            have HS := HS7
            clear HS7
            generalize (W6.setCell ⟨w.heap.size, 6, none⟩ (.int .i64 y0)).setCell ⟨w.heap.size, 7, none⟩ (.int .i64 y1) = W7 at *
            go_upto_region 21 with fail
            obtain ⟨u0, u1, u2, u3, u4, u5, u6, u7, u8⟩ := HS.out.fcells
            obtain ⟨r0, r1, r2, r3, r4, r5, r6, r7, r8⟩ := HS.out.rcells
            have z0 := HS.out.R.frozen 0
            have z1 := HS.out.R.frozen 1
            have z2 := HS.out.R.frozen 2
            have z3 := HS.out.R.frozen 3
            have z4 := HS.out.R.frozen 4
            have z5 := HS.out.R.frozen 5
            have z6 := HS.out.R.frozen 6
            have z7 := HS.out.R.frozen 7
            have z8 := HS.out.R.frozen 8
            simp only [] at u0 u1 u2 u3 u4 u5 u6 u7 u8 r0 r1 r2 r3 r4 r5 r6 r7 r8
            obtain ⟨hres, hbel⟩ := HS.out.res (Nat.le_refl _)
            have HRES := hide hres
            have HBEL := hide hbel
            clear hres hbel
            go_wp2_with fail
            refine bodyPost_ret (rf_back (p := 12) (by kernel_rfl) _ _ (w.heap.size + 1 + 1 + 1) _ rfl HRES.out) rfl ⟨?_, HBEL.out⟩
            rw [FE.out]
theorem rstepF_any (w : World) (t : Fi) (acc dev : Int) (sd : Bool) (p v : Mea) (ht : FOk t) (hq0 : t.q0 < 1099511627776) (hq1 : t.q1 < 1099511627776) (ha : I64 acc) (hd : I64 dev) (hp : MOk p) (hv : MOk v) : Calls Try.prog 11 #[.agg (rC t), .int .i64 acc, .int .i64 dev, .bool sd, mV p, mV v] w fun e w' => e = .returned (.agg (rC (fstp acc dev sd p v t))) ∧ Below w.heap.size w w' := by
  rcases (show t.kn = true ∨ t.kn = false by cases t.kn <;> simp) with hk | hk
  · exact rstep_yes w t acc dev sd p v hk ht hq0 hq1 ha hd hp hv
  · exact rstep_no w t acc dev sd p v hk hp hv
end Go.Proofs.Ytgadpalkchillaa
