/- The document's box, walked: Floor, ceil, Outward, later, reach, Reach. Written by mk_gs2.py. -/
import Derived.Test.YtjinfjibodoflaaGs1
import Derived.Test.YtjinfjibodoflaaKept
namespace Go.Proofs.Ytjinfjibodoflaa
open Go.RowKit Go.Great

set_option maxHeartbeats 1000000 in
theorem rfloorG (a : Int) (w : World) (ha : I64 a) : Calls Try.prog 49 #[.int .i64 a, .int .i64 6400] w fun e w' => e = .returned (.int .i64 (a / 6400)) ∧ w' = w := by
  unfold I64 at ha
  have h1 := Int.mul_tdiv_add_tmod a 6400
  have h2 := Int.tmod_lt_of_pos a (show (0 : Int) < 6400 by omega)
  have h3 := Int.tmod_lt_of_pos (-a) (show (0 : Int) < 6400 by omega)
  rw [Int.neg_tmod] at h3
  by_cases g : a.tmod 6400 < 0
  · have E : Hid (a.tdiv 6400 - 1 = a / 6400) := hide (by omega)
    have hd : -9223372036854775807 ≤ a.tdiv 6400 ∧ a.tdiv 6400 ≤ 9223372036854775807 := by omega
    clear h1 h2 h3
    go_enter Try.func49, Try.ntmps49
    go_wp2
    go_ret
    exact ⟨ret_int E.out, rfl⟩
  · have h4 : 0 ≤ a.tmod 6400 := by omega
    have E : Hid (a.tdiv 6400 = a / 6400) := hide (by
      by_cases ga : 0 ≤ a
      · exact Int.tdiv_eq_ediv_of_nonneg ga
      · have hz : a.tmod 6400 = 0 := by
          have := Int.tmod_nonneg (a := -a) 6400 (by omega)
          rw [Int.neg_tmod] at this
          omega
        omega)
    clear h1 h2 h3 h4
    go_enter Try.func49, Try.ntmps49
    go_wp2
    go_ret
    exact ⟨ret_int E.out, rfl⟩
set_option maxHeartbeats 1000000 in
theorem rceil_any (a : Int) (w : World) (ha : I64 a) : Calls Try.prog 50 #[.int .i64 a] w fun e w' => e = .returned (.int .i64 (upm a)) ∧ w' = w := by
  unfold I64 at ha
  unfold upm
  have h1 := Int.mul_tdiv_add_tmod a 6400
  have h2 := Int.tmod_lt_of_pos a (show (0 : Int) < 6400 by omega)
  have h3 := Int.tmod_lt_of_pos (-a) (show (0 : Int) < 6400 by omega)
  rw [Int.neg_tmod] at h3
  by_cases g : 0 < a.tmod 6400
  · have E : Hid (a.tdiv 6400 + 1 = -(-a / 6400)) := hide (by omega)
    have hd : -9223372036854775807 ≤ a.tdiv 6400 ∧ a.tdiv 6400 ≤ 9223372036854775806 := by omega
    clear h1 h2 h3
    go_enter Try.func50, Try.ntmps50
    go_wp2
    go_ret
    exact ⟨ret_int E.out, rfl⟩
  · have E : Hid (a.tdiv 6400 = -(-a / 6400)) := hide (by
      by_cases ga : 0 ≤ a
      · have := Int.tmod_nonneg (a := a) 6400 ga
        omega
      · have e := Int.neg_tdiv (a := a) (b := 6400)
        rw [Int.tdiv_eq_ediv_of_nonneg (show 0 ≤ -a by omega)] at e
        omega)
    clear h1 h2 h3
    go_enter Try.func50, Try.ntmps50
    go_wp2
    go_ret
    exact ⟨ret_int E.out, rfl⟩
set_option maxHeartbeats 1000000 in
theorem routward_any (l h : Int) (w : World) (hl : I64 l) (hh : I64 h) : Calls Try.prog 30 #[spG l h] w fun e w' => e = .returned (spG (l / 6400) (upm h)) ∧ Below w.heap.size w w' := by
  have DO := hide (fun W => rfloorG l W hl)
  have UP := hide (fun W => rceil_any h W hh)
  generalize l / 6400 = x at *
  generalize upm h = y at *
  clear hl hh
  obtain ⟨W0, hW0, b0, hA, hR, z0⟩ := two_boxes w #[.int .i64 l, .int .i64 h] #[.int .i64 0, .int .i64 0] 26 26
  obtain ⟨a0, a1⟩ := two_cellsG hA
  obtain ⟨r0, r1⟩ := two_cellsG hR
  have f0 := hR.frozen 0
  have f1 := hR.frozen 1
  have HR := hide hR
  have Hb := hide b0
  clear hA hR b0 z0
  go_enter Try.func30, Try.ntmps30
  go_upto_region 1 with fail
  refine reg_last 7 rfl rfl _ rfl (by kernel_rfl) (by kernel_rfl) (by kernel_rfl) ?_
  simp only [List.take_succ_cons, List.take_zero]
  repeat (quiet_step (first
    | (go_at_call 49; exact Calls.quiet_of_same (DO.out _))
    | (go_at_call 50; exact Calls.quiet_of_same (UP.out _))))
  refine wpQuiet_nil ?_
  intro nq
  go_simp
  go_wp2_with fail
  exact bodyPost_ret (spanG_back (p := 2) (by kernel_rfl) _ _ (w.heap.size + 1) _ _ rfl ((blk_drewN HR.out nq).set2 _ _)) rfl ⟨rfl, below_set2 (below_drewN Hb.out nq) _ _ _ (by omega) (below_drewN Hb.out nq).size⟩
theorem four_cellsG {W : World} {d : Nat} {a b c e : Value} {t : TypeId} (h : Blk W d #[a, b, c, e] t) : W.cell? ⟨d, 0, none⟩ = some a ∧ W.cell? ⟨d, 1, none⟩ = some b ∧ W.cell? ⟨d, 2, none⟩ = some c ∧ W.cell? ⟨d, 3, none⟩ = some e := ⟨h.cell 0 rfl, h.cell 1 rfl, h.cell 2 rfl, h.cell 3 rfl⟩
theorem Blk.set4G {W : World} {B : Nat} {a b c d : Value} {t : TypeId} (h : Blk W B #[a, b, c, d] t) (u v x y : Value) : Blk ((((W.setCell ⟨B, 0, none⟩ u).setCell ⟨B, 1, none⟩ v).setCell ⟨B, 2, none⟩ x).setCell ⟨B, 3, none⟩ y) B #[u, v, x, y] t := heap_set (heap_set (heap_set (heap_set h 0 u) 1 v) 2 x) 3 y
theorem below_set4G {n : Nat} {w w1 : World} (h : Below n w w1) (g : Nat) (u v x y : Value) (hg : n ≤ g) (hn : n ≤ w1.heap.size) : Below n w ((((w1.setCell ⟨g, 0, none⟩ u).setCell ⟨g, 1, none⟩ v).setCell ⟨g, 2, none⟩ x).setCell ⟨g, 3, none⟩ y) := by
  refine below_set (below_set (below_set (below_set h _ _ _ hg hn) _ _ _ hg ?_) _ _ _ hg ?_) _ _ _ hg ?_ <;> simp only [setCell_size] <;> exact hn
theorem axisG_back {fn : Func} {p : Tmp} (h : fn.results = #[.cell p 28]) (tmps : Array Value) (w : World) (g : Nat) (a b c d : Value) (hp : tmps.getD p undef = .pointer (some ⟨g, 0, none⟩)) (hg : Blk w g #[a, b, c, d] 28) : (results fn tmps).run Try.prog w = .ok (.agg #[a, b, c, d]) w :=
  res_back h Try.underlying28 (by kernel_rfl) tmps w g hp hg
set_option maxHeartbeats 4000000 in
theorem rlater_any (a : Ax) (acc : Int) (m : Mg) (w : World) (ha : AOk a) (hc : I64 acc) (hbr : I64 m.br) : Calls Try.prog 47 #[axV a, .int .i64 acc, mgV m] w fun e w' => e = .returned (axV ⟨sat (a.pl + dnv a.vl acc m.br), sat (a.ph + upv a.vh acc m.br), dnv a.vl acc m.br, upv a.vh acc m.br⟩) ∧ Below w.heap.size w w' := by
  obtain ⟨pl, ph, vl, vh⟩ := a
  obtain ⟨br, dr, jo, fa, la, dn⟩ := m
  obtain ⟨hpl, hph, hvl, hvh⟩ := ha
  simp only at hpl hph hvl hvh hbr ⊢
  have A1 := hide (fun W => ref_sub_any 64 br W (i64_of (by decide)) hbr)
  have A2 := hide (fun W => ref_add_any 86 (sat (64 - br)) W (i64_of (by decide)) (sat_any _))
  have A3 := hide (fun W => ref_add_any vl acc W hvl hc)
  have A4 := hide (fun W => ref_sub_any (sat (vl + acc)) (uu br) W (sat_any _) (sat_any _))
  have A5 := hide (fun W => ref_add_any vh acc W hvh hc)
  have A6 := hide (fun W => ref_add_any (sat (vh + acc)) (uu br) W (sat_any _) (sat_any _))
  have B1 := hide (fun W => ref_add_any pl (dnv vl acc br) W hpl (sat_any _))
  have C1 := hide (fun W => ref_add_any ph (upv vh acc br) W hph (sat_any _))
  rw [show sat (sat (vl + acc) - uu br) = dnv vl acc br from rfl] at A4
  rw [show sat (sat (vh + acc) + uu br) = upv vh acc br from rfl] at A6
  rw [show sat (86 + sat (64 - br)) = uu br from rfl] at A2
  generalize sat (pl + dnv vl acc br) = b1 at *
  generalize sat (ph + upv vh acc br) = c1 at *
  generalize dnv vl acc br = dv at *
  generalize upv vh acc br = uv at *
  generalize sat (vl + acc) = a3 at *
  generalize sat (vh + acc) = a5 at *
  generalize uu br = u at *
  generalize sat (64 - br) = a1 at *
  clear hpl hph hvl hvh hbr hc
  obtain ⟨W0, hW0, b0, hA, hM, hR, z0⟩ := three_boxes w (axC ⟨pl, ph, vl, vh⟩) (mgC ⟨br, dr, jo, fa, la, dn⟩) #[.int .i64 0, .int .i64 0, .int .i64 0, .int .i64 0] 28 32 28
  have HA := hide hA
  have HR := hide hR
  have Hb := hide b0
  have m0 := hM.cell 0 rfl
  clear hA hM hR b0 z0
  go_enter Try.func47, Try.ntmps47
  go_upto_region 1 with fail
  go_wp2_with fail
  refine (A1.out _).mono ?_
  rintro e w1 ⟨rfl, hb⟩
  replace HA := hide (HA.out.after hb)
  replace HR := hide (HR.out.after hb)
  replace Hb := hide (below_next Hb.out (Nat.le_refl _) hb)
  clear hb m0
  go_wp2_with fail
  refine (A2.out _).mono ?_
  rintro e w2 ⟨rfl, hb⟩
  replace HA := hide (HA.out.after hb)
  replace HR := hide (HR.out.after hb)
  replace Hb := hide (below_next Hb.out (Nat.le_refl _) hb)
  clear hb A1 A2
  go_upto_region 2 with fail
  go_cut [8] (fun vv wx => ∃ b, vv = .pointer (some ⟨b, 0, none⟩) ∧ w.heap.size + 1 + 1 < b ∧ Blk wx b #[.int .i64 dv, .int .i64 uv] 26 ∧ Blk wx w.heap.size (axC ⟨pl, ph, vl, vh⟩) 28 ∧ Blk wx (w.heap.size + 1 + 1) #[.int .i64 0, .int .i64 0, .int .i64 0, .int .i64 0] 28 ∧ Below w.heap.size w wx)
  case first =>
    refine reg_last_held (fun wx => wx.cell? ⟨w.heap.size, 2, none⟩ = some (.int .i64 vl) ∧ wx.cell? ⟨w.heap.size, 3, none⟩ = some (.int .i64 vh)) 16 rfl rfl _ rfl (by kernel_rfl) (by kernel_rfl) (⟨HA.out.cell 2 rfl, HA.out.cell 3 rfl⟩) (fun hHeld => ?_)
    simp only [List.take_succ_cons, List.take_zero]
    replace HA := hide (blk_drew HA.out)
    replace HR := hide (blk_drew HR.out)
    replace Hb := hide (below_drewN Hb.out 1)
    rw [show w2.drewN 1 = w2.drew from rfl] at Hb
    generalize w2.drew = Wd at *
    refine take_at (i := 0) (v := .pointer (some ⟨w.heap.size, 2, none⟩)) (d := some 13) rfl rfl (by kernel_rfl) (by kernel_rfl) (by kernel_rfl) (fun _ _ _ h => h) (Or.inl ⟨by rfl, fun wS ⟨hS0, hS1⟩ => by go_simp; all_goals (rw [IntKind.wrap_i64]; omega)⟩) (by assumption) ?_
    simp only [Act.put, List.setIfInBounds_toArray, List.set_cons_zero, List.set_cons_succ]
    refine take_at (i := 1) (v := .pointer (some ⟨w.heap.size, 2, none⟩)) (d := some 14) rfl rfl (by kernel_rfl) (by kernel_rfl) (by kernel_rfl) (fun _ _ _ h => h) (Or.inl ⟨by rfl, fun wS ⟨hS0, hS1⟩ => by go_simp; all_goals (rw [IntKind.wrap_i64]; omega)⟩) (by assumption) ?_
    simp only [Act.put, List.setIfInBounds_toArray, List.set_cons_zero, List.set_cons_succ]
    refine take_at (i := 2) (v := .int .i64 vl) (d := some 15) rfl rfl (by kernel_rfl) (by kernel_rfl) (by kernel_rfl) (fun _ _ _ h => h) (Or.inl ⟨by rfl, fun wS ⟨hS0, hS1⟩ => by go_simp; all_goals (rw [IntKind.wrap_i64]; omega)⟩) (by assumption) ?_
    simp only [Act.put, List.setIfInBounds_toArray, List.set_cons_zero, List.set_cons_succ]
    refine take_at (i := 3) (v := .int .i64 acc) (d := some 16) rfl rfl (by kernel_rfl) (by kernel_rfl) (by kernel_rfl) (fun _ _ _ h => h) (Or.inl ⟨by rfl, fun wS ⟨hS0, hS1⟩ => by go_simp; all_goals (rw [IntKind.wrap_i64]; omega)⟩) (by assumption) ?_
    simp only [Act.put, List.setIfInBounds_toArray, List.set_cons_zero, List.set_cons_succ]
    refine take_at (i := 5) (v := .int .i64 u) (d := some 18) rfl rfl (by kernel_rfl) (by kernel_rfl) (by kernel_rfl) (fun _ _ _ h => h) (Or.inl ⟨by rfl, fun wS ⟨hS0, hS1⟩ => by go_simp; all_goals (rw [IntKind.wrap_i64]; omega)⟩) (by assumption) ?_
    simp only [Act.put, List.setIfInBounds_toArray, List.set_cons_zero, List.set_cons_succ]
    refine take_at (i := 7) (v := .pointer (some ⟨w.heap.size, 2, none⟩)) (d := some 20) rfl rfl (by kernel_rfl) (by kernel_rfl) (by kernel_rfl) (fun _ _ _ h => h) (Or.inl ⟨by rfl, fun wS ⟨hS0, hS1⟩ => by go_simp; all_goals (rw [IntKind.wrap_i64]; omega)⟩) (by assumption) ?_
    simp only [Act.put, List.setIfInBounds_toArray, List.set_cons_zero, List.set_cons_succ]
    refine take_at (i := 8) (v := .pointer (some ⟨w.heap.size, 3, none⟩)) (d := some 21) rfl rfl (by kernel_rfl) (by kernel_rfl) (by kernel_rfl) (fun _ _ _ h => h) (Or.inl ⟨by rfl, fun wS ⟨hS0, hS1⟩ => by go_simp; all_goals (rw [IntKind.wrap_i64]; omega)⟩) (by assumption) ?_
    simp only [Act.put, List.setIfInBounds_toArray, List.set_cons_zero, List.set_cons_succ]
    refine take_at (i := 9) (v := .int .i64 vh) (d := some 22) rfl rfl (by kernel_rfl) (by kernel_rfl) (by kernel_rfl) (fun _ _ _ h => h) (Or.inl ⟨by rfl, fun wS ⟨hS0, hS1⟩ => by go_simp; all_goals (rw [IntKind.wrap_i64]; omega)⟩) (by assumption) ?_
    simp only [Act.put, List.setIfInBounds_toArray, List.set_cons_zero, List.set_cons_succ]
    refine take_at (i := 10) (v := .int .i64 acc) (d := some 23) rfl rfl (by kernel_rfl) (by kernel_rfl) (by kernel_rfl) (fun _ _ _ h => h) (Or.inl ⟨by rfl, fun wS ⟨hS0, hS1⟩ => by go_simp; all_goals (rw [IntKind.wrap_i64]; omega)⟩) (by assumption) ?_
    simp only [Act.put, List.setIfInBounds_toArray, List.set_cons_zero, List.set_cons_succ]
    refine take_at (i := 12) (v := .int .i64 u) (d := some 25) rfl rfl (by kernel_rfl) (by kernel_rfl) (by kernel_rfl) (fun _ _ _ h => h) (Or.inl ⟨by rfl, fun wS ⟨hS0, hS1⟩ => by go_simp; all_goals (rw [IntKind.wrap_i64]; omega)⟩) (by assumption) ?_
    simp only [Act.put, List.setIfInBounds_toArray, List.set_cons_zero, List.set_cons_succ]
    clear hHeld
    refine wpAnyH_ready (rs := [4, 15]) (by kernel_rfl) (by simp) ?_
    refine AllReadyH.cons rfl (fun K hK => ?_) (AllReadyH.cons rfl (fun K hK => ?_) AllReadyH.nil)
    · go_simp
      refine (A3.out _).mono ?_
      rintro e wt1 ⟨rfl, hb⟩
      replace HA := hide (HA.out.after hb)
      replace HR := hide (HR.out.after hb)
      replace Hb := hide (below_next Hb.out (Nat.le_refl _) hb)
      clear hb
      refine hK.out _ _ (⟨HA.out.cell 2 rfl, HA.out.cell 3 rfl⟩) (fun hHeld => ?_)
      clear hK K
      clear hHeld
      refine wpAnyH_ready (rs := [6, 15]) (by kernel_rfl) (by simp) ?_
      refine AllReadyH.cons rfl (fun K hK => ?_) (AllReadyH.cons rfl (fun K hK => ?_) AllReadyH.nil)
      · go_simp
        refine (A4.out _).mono ?_
        rintro e wt2 ⟨rfl, hb⟩
        replace HA := hide (HA.out.after hb)
        replace HR := hide (HR.out.after hb)
        replace Hb := hide (below_next Hb.out (Nat.le_refl _) hb)
        clear hb
        refine hK.out _ _ (⟨HA.out.cell 2 rfl, HA.out.cell 3 rfl⟩) (fun hHeld => ?_)
        clear hK K
        clear hHeld
        refine wpAnyH_ready (rs := [11, 15]) (by kernel_rfl) (by simp) ?_
        refine AllReadyH.cons rfl (fun K hK => ?_) (AllReadyH.cons rfl (fun K hK => ?_) AllReadyH.nil)
        · go_simp
          refine (A5.out _).mono ?_
          rintro e wt3 ⟨rfl, hb⟩
          replace HA := hide (HA.out.after hb)
          replace HR := hide (HR.out.after hb)
          replace Hb := hide (below_next Hb.out (Nat.le_refl _) hb)
          clear hb
          refine hK.out _ _ (⟨HA.out.cell 2 rfl, HA.out.cell 3 rfl⟩) (fun hHeld => ?_)
          clear hK K
          clear hHeld
          refine wpAnyH_ready (rs := [13, 15]) (by kernel_rfl) (by simp) ?_
          refine AllReadyH.cons rfl (fun K hK => ?_) (AllReadyH.cons rfl (fun K hK => ?_) AllReadyH.nil)
          · go_simp
            refine (A6.out _).mono ?_
            rintro e wt4 ⟨rfl, hb⟩
            replace HA := hide (HA.out.after hb)
            replace HR := hide (HR.out.after hb)
            replace Hb := hide (below_next Hb.out (Nat.le_refl _) hb)
            clear hb
            refine hK.out _ _ (⟨HA.out.cell 2 rfl, HA.out.cell 3 rfl⟩) (fun hHeld => ?_)
            clear hK K
            refine take_at (i := 14) (v := .agg #[.int .i64 dv, .int .i64 uv]) (d := some 27) rfl rfl (by kernel_rfl) (by kernel_rfl) (by kernel_rfl) (fun _ _ _ h => h) (Or.inl ⟨by rfl, fun wS ⟨hS0, hS1⟩ => by go_simp; all_goals (rw [IntKind.wrap_i64]; omega)⟩) (by assumption) ?_
            simp only [Act.put, List.setIfInBounds_toArray, List.set_cons_zero, List.set_cons_succ]
            clear hHeld
            refine wpAnyH_ready (rs := [15]) (by kernel_rfl) (by simp) ?_
            refine AllReadyH.cons rfl (fun K hK => ?_) AllReadyH.nil
            go_simp
            have HZ := hide (Blk.new wt4 #[.int .i64 0, .int .i64 0] 26)
            have hzb := HR.out.lt
            replace HA := hide (HA.out.after (below_alloc wt4 (.cells #[.int .i64 0, .int .i64 0] 26)))
            replace HR := hide (HR.out.after (below_alloc wt4 (.cells #[.int .i64 0, .int .i64 0] 26)))
            replace Hb := hide (below_next Hb.out (Nat.le_refl _) (below_alloc wt4 (.cells #[.int .i64 0, .int .i64 0] 26)))
            generalize wt4.heap.size = bz at *
            generalize wt4.alloc (.cells #[.int .i64 0, .int .i64 0] 26) = wt5 at *
            refine hK.out _ _ (⟨HA.out.cell 2 rfl, HA.out.cell 3 rfl⟩) (fun hHeld => ?_)
            clear hK K
            clear hHeld
            refine wpAnyH_done (by kernel_rfl) (then_last ?_) _
            have z0 : wt5.cell? ⟨bz, 0, none⟩ = some (.int .i64 0) := HZ.out.cell 0 rfl
            have z1 : wt5.cell? ⟨bz, 1, none⟩ = some (.int .i64 0) := HZ.out.cell 1 rfl
            have f0 := HZ.out.frozen 0
            have f1 := HZ.out.frozen 1
            go_simp
            (try go_wp2_with fail)
            go_meet
            exact ⟨bz, rfl, hzb, HZ.out.set2 _ _, (HA.out.setOther (by omega) _ _).setOther (by omega) _ _, (HR.out.setOther (by omega) _ _).setOther (by omega) _ _, below_set2 Hb.out _ _ _ (by omega) Hb.out.size⟩
          · go_simp
            have HZ := hide (Blk.new wt3 #[.int .i64 0, .int .i64 0] 26)
            have hzb := HR.out.lt
            replace HA := hide (HA.out.after (below_alloc wt3 (.cells #[.int .i64 0, .int .i64 0] 26)))
            replace HR := hide (HR.out.after (below_alloc wt3 (.cells #[.int .i64 0, .int .i64 0] 26)))
            replace Hb := hide (below_next Hb.out (Nat.le_refl _) (below_alloc wt3 (.cells #[.int .i64 0, .int .i64 0] 26)))
            generalize wt3.heap.size = bz at *
            generalize wt3.alloc (.cells #[.int .i64 0, .int .i64 0] 26) = wt6 at *
            refine hK.out _ _ (⟨HA.out.cell 2 rfl, HA.out.cell 3 rfl⟩) (fun hHeld => ?_)
            clear hK K
            clear hHeld
            refine wpAnyH_ready (rs := [13]) (by kernel_rfl) (by simp) ?_
            refine AllReadyH.cons rfl (fun K hK => ?_) AllReadyH.nil
            go_simp
            refine (A6.out _).mono ?_
            rintro e wt7 ⟨rfl, hb⟩
            replace HA := hide (HA.out.after hb)
            replace HR := hide (HR.out.after hb)
            replace Hb := hide (below_next Hb.out (Nat.le_refl _) hb)
            replace HZ := hide (HZ.out.after hb)
            clear hb
            refine hK.out _ _ (⟨HA.out.cell 2 rfl, HA.out.cell 3 rfl⟩) (fun hHeld => ?_)
            clear hK K
            refine take_at (i := 14) (v := .agg #[.int .i64 dv, .int .i64 uv]) (d := some 27) rfl rfl (by kernel_rfl) (by kernel_rfl) (by kernel_rfl) (fun _ _ _ h => h) (Or.inl ⟨by rfl, fun wS ⟨hS0, hS1⟩ => by go_simp; all_goals (rw [IntKind.wrap_i64]; omega)⟩) (by assumption) ?_
            simp only [Act.put, List.setIfInBounds_toArray, List.set_cons_zero, List.set_cons_succ]
            clear hHeld
            refine wpAnyH_done (by kernel_rfl) (then_last ?_) _
            have z0 : wt7.cell? ⟨bz, 0, none⟩ = some (.int .i64 0) := HZ.out.cell 0 rfl
            have z1 : wt7.cell? ⟨bz, 1, none⟩ = some (.int .i64 0) := HZ.out.cell 1 rfl
            have f0 := HZ.out.frozen 0
            have f1 := HZ.out.frozen 1
            go_simp
            (try go_wp2_with fail)
            go_meet
            exact ⟨bz, rfl, hzb, HZ.out.set2 _ _, (HA.out.setOther (by omega) _ _).setOther (by omega) _ _, (HR.out.setOther (by omega) _ _).setOther (by omega) _ _, below_set2 Hb.out _ _ _ (by omega) Hb.out.size⟩
        · go_simp
          have HZ := hide (Blk.new wt2 #[.int .i64 0, .int .i64 0] 26)
          have hzb := HR.out.lt
          replace HA := hide (HA.out.after (below_alloc wt2 (.cells #[.int .i64 0, .int .i64 0] 26)))
          replace HR := hide (HR.out.after (below_alloc wt2 (.cells #[.int .i64 0, .int .i64 0] 26)))
          replace Hb := hide (below_next Hb.out (Nat.le_refl _) (below_alloc wt2 (.cells #[.int .i64 0, .int .i64 0] 26)))
          generalize wt2.heap.size = bz at *
          generalize wt2.alloc (.cells #[.int .i64 0, .int .i64 0] 26) = wt8 at *
          refine hK.out _ _ (⟨HA.out.cell 2 rfl, HA.out.cell 3 rfl⟩) (fun hHeld => ?_)
          clear hK K
          clear hHeld
          refine wpAnyH_ready (rs := [11]) (by kernel_rfl) (by simp) ?_
          refine AllReadyH.cons rfl (fun K hK => ?_) AllReadyH.nil
          go_simp
          refine (A5.out _).mono ?_
          rintro e wt9 ⟨rfl, hb⟩
          replace HA := hide (HA.out.after hb)
          replace HR := hide (HR.out.after hb)
          replace Hb := hide (below_next Hb.out (Nat.le_refl _) hb)
          replace HZ := hide (HZ.out.after hb)
          clear hb
          refine hK.out _ _ (⟨HA.out.cell 2 rfl, HA.out.cell 3 rfl⟩) (fun hHeld => ?_)
          clear hK K
          clear hHeld
          refine wpAnyH_ready (rs := [13]) (by kernel_rfl) (by simp) ?_
          refine AllReadyH.cons rfl (fun K hK => ?_) AllReadyH.nil
          go_simp
          refine (A6.out _).mono ?_
          rintro e wt10 ⟨rfl, hb⟩
          replace HA := hide (HA.out.after hb)
          replace HR := hide (HR.out.after hb)
          replace Hb := hide (below_next Hb.out (Nat.le_refl _) hb)
          replace HZ := hide (HZ.out.after hb)
          clear hb
          refine hK.out _ _ (⟨HA.out.cell 2 rfl, HA.out.cell 3 rfl⟩) (fun hHeld => ?_)
          clear hK K
          refine take_at (i := 14) (v := .agg #[.int .i64 dv, .int .i64 uv]) (d := some 27) rfl rfl (by kernel_rfl) (by kernel_rfl) (by kernel_rfl) (fun _ _ _ h => h) (Or.inl ⟨by rfl, fun wS ⟨hS0, hS1⟩ => by go_simp; all_goals (rw [IntKind.wrap_i64]; omega)⟩) (by assumption) ?_
          simp only [Act.put, List.setIfInBounds_toArray, List.set_cons_zero, List.set_cons_succ]
          clear hHeld
          refine wpAnyH_done (by kernel_rfl) (then_last ?_) _
          have z0 : wt10.cell? ⟨bz, 0, none⟩ = some (.int .i64 0) := HZ.out.cell 0 rfl
          have z1 : wt10.cell? ⟨bz, 1, none⟩ = some (.int .i64 0) := HZ.out.cell 1 rfl
          have f0 := HZ.out.frozen 0
          have f1 := HZ.out.frozen 1
          go_simp
          (try go_wp2_with fail)
          go_meet
          exact ⟨bz, rfl, hzb, HZ.out.set2 _ _, (HA.out.setOther (by omega) _ _).setOther (by omega) _ _, (HR.out.setOther (by omega) _ _).setOther (by omega) _ _, below_set2 Hb.out _ _ _ (by omega) Hb.out.size⟩
      · go_simp
        have HZ := hide (Blk.new wt1 #[.int .i64 0, .int .i64 0] 26)
        have hzb := HR.out.lt
        replace HA := hide (HA.out.after (below_alloc wt1 (.cells #[.int .i64 0, .int .i64 0] 26)))
        replace HR := hide (HR.out.after (below_alloc wt1 (.cells #[.int .i64 0, .int .i64 0] 26)))
        replace Hb := hide (below_next Hb.out (Nat.le_refl _) (below_alloc wt1 (.cells #[.int .i64 0, .int .i64 0] 26)))
        generalize wt1.heap.size = bz at *
        generalize wt1.alloc (.cells #[.int .i64 0, .int .i64 0] 26) = wt11 at *
        refine hK.out _ _ (⟨HA.out.cell 2 rfl, HA.out.cell 3 rfl⟩) (fun hHeld => ?_)
        clear hK K
        clear hHeld
        refine wpAnyH_ready (rs := [6]) (by kernel_rfl) (by simp) ?_
        refine AllReadyH.cons rfl (fun K hK => ?_) AllReadyH.nil
        go_simp
        refine (A4.out _).mono ?_
        rintro e wt12 ⟨rfl, hb⟩
        replace HA := hide (HA.out.after hb)
        replace HR := hide (HR.out.after hb)
        replace Hb := hide (below_next Hb.out (Nat.le_refl _) hb)
        replace HZ := hide (HZ.out.after hb)
        clear hb
        refine hK.out _ _ (⟨HA.out.cell 2 rfl, HA.out.cell 3 rfl⟩) (fun hHeld => ?_)
        clear hK K
        clear hHeld
        refine wpAnyH_ready (rs := [11]) (by kernel_rfl) (by simp) ?_
        refine AllReadyH.cons rfl (fun K hK => ?_) AllReadyH.nil
        go_simp
        refine (A5.out _).mono ?_
        rintro e wt13 ⟨rfl, hb⟩
        replace HA := hide (HA.out.after hb)
        replace HR := hide (HR.out.after hb)
        replace Hb := hide (below_next Hb.out (Nat.le_refl _) hb)
        replace HZ := hide (HZ.out.after hb)
        clear hb
        refine hK.out _ _ (⟨HA.out.cell 2 rfl, HA.out.cell 3 rfl⟩) (fun hHeld => ?_)
        clear hK K
        clear hHeld
        refine wpAnyH_ready (rs := [13]) (by kernel_rfl) (by simp) ?_
        refine AllReadyH.cons rfl (fun K hK => ?_) AllReadyH.nil
        go_simp
        refine (A6.out _).mono ?_
        rintro e wt14 ⟨rfl, hb⟩
        replace HA := hide (HA.out.after hb)
        replace HR := hide (HR.out.after hb)
        replace Hb := hide (below_next Hb.out (Nat.le_refl _) hb)
        replace HZ := hide (HZ.out.after hb)
        clear hb
        refine hK.out _ _ (⟨HA.out.cell 2 rfl, HA.out.cell 3 rfl⟩) (fun hHeld => ?_)
        clear hK K
        refine take_at (i := 14) (v := .agg #[.int .i64 dv, .int .i64 uv]) (d := some 27) rfl rfl (by kernel_rfl) (by kernel_rfl) (by kernel_rfl) (fun _ _ _ h => h) (Or.inl ⟨by rfl, fun wS ⟨hS0, hS1⟩ => by go_simp; all_goals (rw [IntKind.wrap_i64]; omega)⟩) (by assumption) ?_
        simp only [Act.put, List.setIfInBounds_toArray, List.set_cons_zero, List.set_cons_succ]
        clear hHeld
        refine wpAnyH_done (by kernel_rfl) (then_last ?_) _
        have z0 : wt14.cell? ⟨bz, 0, none⟩ = some (.int .i64 0) := HZ.out.cell 0 rfl
        have z1 : wt14.cell? ⟨bz, 1, none⟩ = some (.int .i64 0) := HZ.out.cell 1 rfl
        have f0 := HZ.out.frozen 0
        have f1 := HZ.out.frozen 1
        go_simp
        (try go_wp2_with fail)
        go_meet
        exact ⟨bz, rfl, hzb, HZ.out.set2 _ _, (HA.out.setOther (by omega) _ _).setOther (by omega) _ _, (HR.out.setOther (by omega) _ _).setOther (by omega) _ _, below_set2 Hb.out _ _ _ (by omega) Hb.out.size⟩
    · go_simp
      have HZ := hide (Blk.new Wd #[.int .i64 0, .int .i64 0] 26)
      have hzb := HR.out.lt
      replace HA := hide (HA.out.after (below_alloc Wd (.cells #[.int .i64 0, .int .i64 0] 26)))
      replace HR := hide (HR.out.after (below_alloc Wd (.cells #[.int .i64 0, .int .i64 0] 26)))
      replace Hb := hide (below_next Hb.out (Nat.le_refl _) (below_alloc Wd (.cells #[.int .i64 0, .int .i64 0] 26)))
      generalize Wd.heap.size = bz at *
      generalize Wd.alloc (.cells #[.int .i64 0, .int .i64 0] 26) = wt15 at *
      refine hK.out _ _ (⟨HA.out.cell 2 rfl, HA.out.cell 3 rfl⟩) (fun hHeld => ?_)
      clear hK K
      clear hHeld
      refine wpAnyH_ready (rs := [4]) (by kernel_rfl) (by simp) ?_
      refine AllReadyH.cons rfl (fun K hK => ?_) AllReadyH.nil
      go_simp
      refine (A3.out _).mono ?_
      rintro e wt16 ⟨rfl, hb⟩
      replace HA := hide (HA.out.after hb)
      replace HR := hide (HR.out.after hb)
      replace Hb := hide (below_next Hb.out (Nat.le_refl _) hb)
      replace HZ := hide (HZ.out.after hb)
      clear hb
      refine hK.out _ _ (⟨HA.out.cell 2 rfl, HA.out.cell 3 rfl⟩) (fun hHeld => ?_)
      clear hK K
      clear hHeld
      refine wpAnyH_ready (rs := [6]) (by kernel_rfl) (by simp) ?_
      refine AllReadyH.cons rfl (fun K hK => ?_) AllReadyH.nil
      go_simp
      refine (A4.out _).mono ?_
      rintro e wt17 ⟨rfl, hb⟩
      replace HA := hide (HA.out.after hb)
      replace HR := hide (HR.out.after hb)
      replace Hb := hide (below_next Hb.out (Nat.le_refl _) hb)
      replace HZ := hide (HZ.out.after hb)
      clear hb
      refine hK.out _ _ (⟨HA.out.cell 2 rfl, HA.out.cell 3 rfl⟩) (fun hHeld => ?_)
      clear hK K
      clear hHeld
      refine wpAnyH_ready (rs := [11]) (by kernel_rfl) (by simp) ?_
      refine AllReadyH.cons rfl (fun K hK => ?_) AllReadyH.nil
      go_simp
      refine (A5.out _).mono ?_
      rintro e wt18 ⟨rfl, hb⟩
      replace HA := hide (HA.out.after hb)
      replace HR := hide (HR.out.after hb)
      replace Hb := hide (below_next Hb.out (Nat.le_refl _) hb)
      replace HZ := hide (HZ.out.after hb)
      clear hb
      refine hK.out _ _ (⟨HA.out.cell 2 rfl, HA.out.cell 3 rfl⟩) (fun hHeld => ?_)
      clear hK K
      clear hHeld
      refine wpAnyH_ready (rs := [13]) (by kernel_rfl) (by simp) ?_
      refine AllReadyH.cons rfl (fun K hK => ?_) AllReadyH.nil
      go_simp
      refine (A6.out _).mono ?_
      rintro e wt19 ⟨rfl, hb⟩
      replace HA := hide (HA.out.after hb)
      replace HR := hide (HR.out.after hb)
      replace Hb := hide (below_next Hb.out (Nat.le_refl _) hb)
      replace HZ := hide (HZ.out.after hb)
      clear hb
      refine hK.out _ _ (⟨HA.out.cell 2 rfl, HA.out.cell 3 rfl⟩) (fun hHeld => ?_)
      clear hK K
      refine take_at (i := 14) (v := .agg #[.int .i64 dv, .int .i64 uv]) (d := some 27) rfl rfl (by kernel_rfl) (by kernel_rfl) (by kernel_rfl) (fun _ _ _ h => h) (Or.inl ⟨by rfl, fun wS ⟨hS0, hS1⟩ => by go_simp; all_goals (rw [IntKind.wrap_i64]; omega)⟩) (by assumption) ?_
      simp only [Act.put, List.setIfInBounds_toArray, List.set_cons_zero, List.set_cons_succ]
      clear hHeld
      refine wpAnyH_done (by kernel_rfl) (then_last ?_) _
      have z0 : wt19.cell? ⟨bz, 0, none⟩ = some (.int .i64 0) := HZ.out.cell 0 rfl
      have z1 : wt19.cell? ⟨bz, 1, none⟩ = some (.int .i64 0) := HZ.out.cell 1 rfl
      have f0 := HZ.out.frozen 0
      have f1 := HZ.out.frozen 1
      go_simp
      (try go_wp2_with fail)
      go_meet
      exact ⟨bz, rfl, hzb, HZ.out.set2 _ _, (HA.out.setOther (by omega) _ _).setOther (by omega) _ _, (HR.out.setOther (by omega) _ _).setOther (by omega) _ _, below_set2 Hb.out _ _ _ (by omega) Hb.out.size⟩
  case rest =>
    obtain ⟨gv, rfl, hgv, hV, hA, hR, hW⟩ := hcut
    replace HA := hide hA
    replace HR := hide hR
    replace Hb := hide hW
    have HV := hide hV
    clear hV hA hR hW A3 A4 A5 A6
    have x0 : ∀ z : BelowW wc, z.q.cell? ⟨w.heap.size, 0, none⟩ = some (.int .i64 pl) := HA.out.at 0 rfl
    have x1 : ∀ z : BelowW wc, z.q.cell? ⟨w.heap.size, 1, none⟩ = some (.int .i64 ph) := HA.out.at 1 rfl
    have y0 : ∀ z : BelowW wc, z.q.cell? ⟨gv, 0, none⟩ = some (.int .i64 dv) := HV.out.at 0 rfl
    have y1 : ∀ z : BelowW wc, z.q.cell? ⟨gv, 1, none⟩ = some (.int .i64 uv) := HV.out.at 1 rfl
    have hne : Nonempty (BelowW wc) := ⟨⟨wc, Below.refl _ _⟩⟩
    go_upto_region 3 with fail
    refine reg_last_calm 15 rfl rfl _ rfl (by kernel_rfl) (by kernel_rfl) (by kernel_rfl) ?_
    simp only [List.take_succ_cons, List.take_zero]
    repeat (go_big_quiet_step (first
      | (go_at_call_of 48 (Value.int IntKind.i64 pl); exact calm_of (B1.out _))
      | (go_at_call_of 48 (Value.int IntKind.i64 ph); exact calm_of (C1.out _))))
    refine wpQuiet_nil ?_
    rintro _ ⟨x, rfl⟩
    replace HR := hide (HR.out.after x.h)
    replace Hb := hide (below_next Hb.out (Nat.le_refl _) x.h)
    clear x0 x1 y0 y1 hne HA HV
    generalize x.q = W2 at *
    clear x
    obtain ⟨r0, r1, r2, r3⟩ := four_cellsG HR.out
    have f0 := HR.out.frozen 0
    have f1 := HR.out.frozen 1
    have f2 := HR.out.frozen 2
    have f3 := HR.out.frozen 3
    go_simp
    go_wp2_with fail
    exact bodyPost_ret (axisG_back (p := 6) (by kernel_rfl) _ _ (w.heap.size + 1 + 1) _ _ _ _ rfl (HR.out.set4G _ _ _ _)) rfl ⟨rfl, below_set4G Hb.out _ _ _ _ _ (by omega) Hb.out.size⟩
end Go.Proofs.Ytjinfjibodoflaa
