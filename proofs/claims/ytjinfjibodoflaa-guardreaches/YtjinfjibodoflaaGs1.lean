/- The document's Stop, walked. Written by mk_gs1.py. -/
import Derived.Test.YtjinfjibodoflaaLwU2
import Derived.Test.YtjinfjibodoflaaTimesAny
namespace Go.Proofs.Ytjinfjibodoflaa
open Go.RowKit Go.Great

theorem cmp_ge (a b : Int) : decide (0 ≤ cmpI a b) = decide (b ≤ a) := by
  rw [decide_eq_decide]; unfold cmpI; split
  · omega
  · split <;> omega
/-- twice the way -/
theorem twice_is (v b : Int) (hb : 1 ≤ b) (hv : 1 ≤ v) : ∃ s : Int, v / b * v + v / b * v - b * (v / b * (v / b + 1)) = 2 * s ∧ 0 ≤ s ∧ stp v b = sat s := by
  have q0 : 0 ≤ v / b := Int.ediv_nonneg (by omega) (by omega)
  obtain ⟨i, hi⟩ : ∃ i : Nat, (i : Int) = v / b := ⟨(v / b).toNat, by omega⟩
  have t := sm_two v b i
  have e := Int.mul_ediv_add_emod v b
  have m0 := Int.emod_nonneg v (show b ≠ 0 by omega)
  rw [← hi] at e ⊢
  refine ⟨sm v b i, ?_, (sm_in v b hb hv i (by omega)).1, stp_sm v b hb hv i hi⟩
  rw [t]
  grind
/-- a variable that holds a whole number -/
structure WV (w : World) (g : Nat) (s : Bool) (p : Option Addr) (l c : Nat) (x : Int) (L : Nat) : Prop where
  b : Blk w g #[.bool s, .slice p l c] 62
  w : Whole w (.agg #[.bool s, .slice p l c]) x L
theorem WV.after {w w' : World} {g : Nat} {s : Bool} {p : Option Addr} {l c : Nat} {x : Int} {L : Nat} (h : WV w g s p l c x L) (hb : Below w.heap.size w w') : WV w' g s p l c x L := ⟨h.b.after hb, h.w.below hb⟩
theorem WV.new {w : World} {s : Bool} {p : Option Addr} {l c : Nat} {x : Int} {L : Nat} (h : Whole w (.agg #[.bool s, .slice p l c]) x L) : WV (w.alloc (.cells #[.bool s, .slice p l c] 62)) w.heap.size s p l c x L := ⟨Blk.new _ _ _, h.below (below_alloc _ _)⟩
theorem WV.cells {w : World} {g : Nat} {s : Bool} {p : Option Addr} {l c : Nat} {x : Int} {L : Nat} (h : WV w g s p l c x L) : w.cell? ⟨g, 0, none⟩ = some (.bool s) ∧ w.cell? ⟨g, 1, none⟩ = some (.slice p l c) := ⟨h.b.cell 0 rfl, h.b.cell 1 rfl⟩
theorem WV.other {w : World} {g z : Nat} {s : Bool} {p : Option Addr} {l c : Nat} {x : Int} {L : Nat} (h : WV w g s p l c x L) (hz : Blk w z #[.bool false, .slice none 0 0] 62) (hne : g ≠ z) (s' : Bool) (u : Value) : WV ((w.setCell ⟨z, 0, none⟩ (.bool s')).setCell ⟨z, 1, none⟩ u) g s p l c x L := ⟨(h.b.setOther hne _ _).setOther hne _ _, whole_set h.w (hz.cell 0 rfl) (hz.cell 1 rfl) _ _⟩
theorem WV.set {w : World} {z : Nat} {s : Bool} {p : Option Addr} {l c : Nat} {x : Int} {L : Nat} (h : Whole w (.agg #[.bool s, .slice p l c]) x L) (hz : Blk w z #[.bool false, .slice none 0 0] 62) : WV ((w.setCell ⟨z, 0, none⟩ (.bool s)).setCell ⟨z, 1, none⟩ (.slice p l c)) z s p l c x L := ⟨hz.set2 _ _, whole_set h (hz.cell 0 rfl) (hz.cell 1 rfl) _ _⟩
theorem WV.ne {w w' : World} {g : Nat} {s : Bool} {p : Option Addr} {l c : Nat} {x : Int} {L : Nat} (h : WV w g s p l c x L) (hb : w.heap.size ≤ w'.heap.size) : g ≠ w'.heap.size := fun e => by have := h.b.lt; omega
set_option maxHeartbeats 4000000 in
set_option maxRecDepth 100000 in
theorem rstop_any (v b : Int) (w : World) (hv : I64 v) (hb : I64 b) : Calls Try.prog 11 #[.int .i64 v, .int .i64 b] w fun e w' => e = .returned (.int .i64 (stp v b)) ∧ Below w.heap.size w w' := by
  unfold I64 at hv hb
  by_cases h1 : v < 1
  · have e0 : stp v b = 0 := by unfold stp; rw [if_pos (.inl h1)]
    rw [e0]
    clear e0
    go_enter Try.func11, Try.ntmps11
    go_wp2
    go_ret
    exact ⟨rfl, Below.refl _ _⟩
  by_cases h2 : b < 1
  · have e0 : stp v b = 0 := by unfold stp; rw [if_pos (.inr h2)]
    rw [e0]
    clear e0
    go_enter Try.func11, Try.ntmps11
    go_wp2
    go_ret
    exact ⟨rfl, Below.refl _ _⟩
  have hq : v.tdiv b = v / b := Int.tdiv_eq_ediv_of_nonneg (by omega)
  have q0 : 0 ≤ v / b := Int.ediv_nonneg (by omega) (by omega)
  have q1 : v / b ≤ v := Int.ediv_le_self b (by omega)
  obtain ⟨s, hs2, hs0, hs⟩ := twice_is v b (by omega) (by omega)
  rw [hs]
  generalize v / b = n at *
  have HV : Hid (I64 v) := hide (by unfold I64; omega)
  have HB : Hid (I64 b) := hide (by unfold I64; omega)
  have HN : Hid (I64 n) := hide (by unfold I64; omega)
  have H1 : Hid (I64 1) := hide (by unfold I64; omega)
  have HX : Hid (I64 9223372036854775807) := hide (by unfold I64; omega)
  have HS := hide hs2
  have Hb : Hid (Below w.heap.size w w) := hide (Below.refl _ _)
  clear hs2 hs
  go_enter Try.func11, Try.ntmps11
  go_upto_region 4 with fail
  go_wp2_with fail
  refine (of_any n _ HN.out).mono ?_
  rintro e w1 ⟨v1, rfl, hb, k1⟩
  obtain ⟨s1, p1, l1, c1, rfl⟩ := whole_agg k1
  have K1 := hide k1
  clear k1
  replace Hb := hide (below_next Hb.out (Nat.le_refl _) hb)
  clear hb
  go_wp2_with fail
  refine (of_any v _ HV.out).mono ?_
  rintro e w2 ⟨v2, rfl, hb, k2⟩
  obtain ⟨s2, p2, l2, c2, rfl⟩ := whole_agg k2
  have K2 := hide k2
  clear k2
  replace K1 := hide (K1.out.below hb)
  replace Hb := hide (below_next Hb.out (Nat.le_refl _) hb)
  clear hb
  go_wp2_with fail
  refine (times_any _ _ n v 3 3 6 _ K1.out K2.out (by omega) (by omega) (by omega)).mono ?_
  rintro e w3 ⟨v3, rfl, hb, k3⟩
  obtain ⟨s3, p3, l3, c3, rfl⟩ := whole_agg k3
  have K3 := hide k3
  clear k3
  replace Hb := hide (below_next Hb.out (Nat.le_refl _) hb)
  clear hb
  clear K1 K2
  have HA := hide (WV.new K3.out)
  replace Hb := hide (below_next Hb.out (Nat.le_refl _) (below_alloc w3 (.cells #[.bool s3, .slice p3 l3 c3] 62)))
  clear K3
  go_upto_region 5 with fail
  generalize w3.heap.size = ga at *
  generalize w3.alloc (.cells #[.bool s3, .slice p3 l3 c3] 62) = Wa at *
  clear hq
  go_wp2_with fail
  refine (of_any n _ HN.out).mono ?_
  rintro e w4 ⟨v4, rfl, hb, k4⟩
  obtain ⟨s4, p4, l4, c4, rfl⟩ := whole_agg k4
  have K4 := hide k4
  clear k4
  replace HA := hide (HA.out.after hb)
  replace Hb := hide (below_next Hb.out (Nat.le_refl _) hb)
  clear hb
  go_wp2_with fail
  refine (of_any n _ HN.out).mono ?_
  rintro e w5 ⟨v5, rfl, hb, k5⟩
  obtain ⟨s5, p5, l5, c5, rfl⟩ := whole_agg k5
  have K5 := hide k5
  clear k5
  replace HA := hide (HA.out.after hb)
  replace K4 := hide (K4.out.below hb)
  replace Hb := hide (below_next Hb.out (Nat.le_refl _) hb)
  clear hb
  go_wp2_with fail
  refine (of_any 1 _ H1.out).mono ?_
  rintro e w6 ⟨v6, rfl, hb, k6⟩
  obtain ⟨s6, p6, l6, c6, rfl⟩ := whole_agg k6
  have K6 := hide k6
  clear k6
  replace HA := hide (HA.out.after hb)
  replace K4 := hide (K4.out.below hb)
  replace K5 := hide (K5.out.below hb)
  replace Hb := hide (below_next Hb.out (Nat.le_refl _) hb)
  clear hb
  go_wp2_with fail
  refine (plus_any _ _ n 1 3 3 4 _ K5.out K6.out (by omega) (by omega) (by omega)).mono ?_
  rintro e w7 ⟨v7, rfl, hb, k7⟩
  obtain ⟨s7, p7, l7, c7, rfl⟩ := whole_agg k7
  have K7 := hide k7
  clear k7
  replace HA := hide (HA.out.after hb)
  replace K4 := hide (K4.out.below hb)
  replace Hb := hide (below_next Hb.out (Nat.le_refl _) hb)
  clear hb
  go_wp2_with fail
  refine (times_any _ _ n (n + 1) 3 4 7 _ K4.out K7.out (by omega) (by omega) (by omega)).mono ?_
  rintro e w8 ⟨v8, rfl, hb, k8⟩
  obtain ⟨s8, p8, l8, c8, rfl⟩ := whole_agg k8
  have K8 := hide k8
  clear k8
  replace HA := hide (HA.out.after hb)
  replace Hb := hide (below_next Hb.out (Nat.le_refl _) hb)
  clear hb
  clear K4 K5 K6 K7
  have HT := hide (WV.new K8.out)
  replace HA := hide (HA.out.after (below_alloc w8 (.cells #[.bool s8, .slice p8 l8 c8] 62)))
  replace Hb := hide (below_next Hb.out (Nat.le_refl _) (below_alloc w8 (.cells #[.bool s8, .slice p8 l8 c8] 62)))
  clear K8
  go_upto_region 6 with fail
  generalize w8.heap.size = gt at *
  generalize w8.alloc (.cells #[.bool s8, .slice p8 l8 c8] 62) = Wt at *
  go_cut [8] (fun vv wx => ∃ (g : Nat) (s' : Bool) (p' : Option Addr) (l' c' : Nat), vv = .pointer (some ⟨g, 0, none⟩) ∧ WV wx g s' p' l' c' (b * (n * (n + 1))) 10 ∧ WV wx ga s3 p3 l3 c3 (n * v) 6 ∧ Below w.heap.size w wx)
  case first =>
    refine reg_last_held (fun wx => wx.cell? ⟨gt, 0, none⟩ = some (.bool s8) ∧ wx.cell? ⟨gt, 1, none⟩ = some (.slice p8 l8 c8)) 5 rfl rfl _ rfl (by kernel_rfl) (by kernel_rfl) (HT.out.cells) (fun hHeld => ?_)
    simp only [List.take_succ_cons, List.take_zero]
    replace Hb := hide (below_next Hb.out (Nat.le_refl _) (below_drewN (Below.refl _ _) 1))
    replace HA := hide (HA.out.after (below_drewN (Below.refl _ _) 1))
    replace HT := hide (HT.out.after (below_drewN (Below.refl _ _) 1))
    rw [show Wt.drewN 1 = Wt.drew from rfl] at *
    generalize Wt.drew = Wd at *
    refine take_at (i := 0) (v := .int .i64 b) (d := some 36) rfl rfl (by kernel_rfl) (by kernel_rfl) (by kernel_rfl) (fun _ _ _ h => h) (Or.inl ⟨by rfl, fun wS ⟨hS0, hS1⟩ => by go_simp⟩) (by assumption) ?_
    simp only [Act.put, List.setIfInBounds_toArray, List.set_cons_zero, List.set_cons_succ]
    refine take_at (i := 2) (v := .agg #[.bool s8, .slice p8 l8 c8]) (d := some 38) rfl rfl (by kernel_rfl) (by kernel_rfl) (by kernel_rfl) (fun _ _ _ h => h) (Or.inl ⟨by rfl, fun wS ⟨hS0, hS1⟩ => by go_simp⟩) (by assumption) ?_
    simp only [Act.put, List.setIfInBounds_toArray, List.set_cons_zero, List.set_cons_succ]
    clear hHeld
    refine wpAnyH_ready (rs := [1, 4]) (by kernel_rfl) (by simp) ?_
    refine AllReadyH.cons rfl (fun K hK => ?_) (AllReadyH.cons rfl (fun K hK => ?_) AllReadyH.nil)
    · go_simp
      refine (of_any b _ HB.out).mono ?_
      rintro e wt1 ⟨v9, rfl, hb, k9⟩
      obtain ⟨s9, p9, l9, c9, rfl⟩ := whole_agg k9

      replace Hb := hide (below_next Hb.out (Nat.le_refl _) hb)
      replace HA := hide (HA.out.after hb)
      replace HT := hide (HT.out.after hb)
      have K9 := hide k9
      clear k9
      clear hb
      refine hK.out _ _ (HT.out.cells) (fun hHeld => ?_)
      clear hK K
      clear hHeld
      refine wpAnyH_ready (rs := [3, 4]) (by kernel_rfl) (by simp) ?_
      refine AllReadyH.cons rfl (fun K hK => ?_) (AllReadyH.cons rfl (fun K hK => ?_) AllReadyH.nil)
      · go_simp
        refine (times_any _ _ b (n * (n + 1)) 3 7 10 _ K9.out HT.out.w (by omega) (by omega) (by omega)).mono ?_
        rintro e wt2 ⟨v10, rfl, hb, k10⟩
        obtain ⟨s10, p10, l10, c10, rfl⟩ := whole_agg k10

        replace Hb := hide (below_next Hb.out (Nat.le_refl _) hb)
        replace HA := hide (HA.out.after hb)
        replace HT := hide (HT.out.after hb)
        replace K9 := hide (K9.out.below hb)
        have K10 := hide k10
        clear k10
        clear hb
        refine hK.out _ _ (HT.out.cells) (fun hHeld => ?_)
        clear hK K
        clear hHeld
        refine wpAnyH_ready (rs := [4]) (by kernel_rfl) (by simp) ?_
        refine AllReadyH.cons rfl (fun K hK => ?_) AllReadyH.nil
        go_simp
        have HZ := hide (Blk.new wt2 #[.bool false, .slice none 0 0] 62)
        have hzb := Hb.out.size
        have hne := HA.out.ne (Nat.le_refl _)
        replace Hb := hide (below_next Hb.out (Nat.le_refl _) (below_alloc wt2 (.cells #[.bool false, .slice none 0 0] 62)))
        replace HA := hide (HA.out.after (below_alloc wt2 (.cells #[.bool false, .slice none 0 0] 62)))
        replace HT := hide (HT.out.after (below_alloc wt2 (.cells #[.bool false, .slice none 0 0] 62)))
        replace K9 := hide (K9.out.below (below_alloc wt2 (.cells #[.bool false, .slice none 0 0] 62)))
        replace K10 := hide (K10.out.below (below_alloc wt2 (.cells #[.bool false, .slice none 0 0] 62)))
        generalize wt2.heap.size = bz at *
        generalize wt2.alloc (.cells #[.bool false, .slice none 0 0] 62) = wt3 at *
        refine hK.out _ _ (HT.out.cells) (fun hHeld => ?_)
        clear hK K
        clear hHeld
        refine wpAnyH_done (by kernel_rfl) (then_last ?_) _
        obtain ⟨z0, z1⟩ : wt3.cell? ⟨bz, 0, none⟩ = some (.bool false) ∧ wt3.cell? ⟨bz, 1, none⟩ = some (.slice none 0 0) := ⟨HZ.out.cell 0 rfl, HZ.out.cell 1 rfl⟩
        have f0 := HZ.out.frozen 0
        have f1 := HZ.out.frozen 1
        go_simp
        (try go_wp2_with fail)
        go_meet
        exact ⟨bz, s10, p10, l10, c10, rfl, WV.set K10.out HZ.out, HA.out.other HZ.out hne _ _, below_set2 Hb.out _ _ _ hzb Hb.out.size⟩
      · go_simp
        have HZ := hide (Blk.new wt1 #[.bool false, .slice none 0 0] 62)
        have hzb := Hb.out.size
        have hne := HA.out.ne (Nat.le_refl _)
        replace Hb := hide (below_next Hb.out (Nat.le_refl _) (below_alloc wt1 (.cells #[.bool false, .slice none 0 0] 62)))
        replace HA := hide (HA.out.after (below_alloc wt1 (.cells #[.bool false, .slice none 0 0] 62)))
        replace HT := hide (HT.out.after (below_alloc wt1 (.cells #[.bool false, .slice none 0 0] 62)))
        replace K9 := hide (K9.out.below (below_alloc wt1 (.cells #[.bool false, .slice none 0 0] 62)))
        generalize wt1.heap.size = bz at *
        generalize wt1.alloc (.cells #[.bool false, .slice none 0 0] 62) = wt4 at *
        refine hK.out _ _ (HT.out.cells) (fun hHeld => ?_)
        clear hK K
        clear hHeld
        refine wpAnyH_ready (rs := [3]) (by kernel_rfl) (by simp) ?_
        refine AllReadyH.cons rfl (fun K hK => ?_) AllReadyH.nil
        go_simp
        refine (times_any _ _ b (n * (n + 1)) 3 7 10 _ K9.out HT.out.w (by omega) (by omega) (by omega)).mono ?_
        rintro e wt5 ⟨v10, rfl, hb, k10⟩
        obtain ⟨s10, p10, l10, c10, rfl⟩ := whole_agg k10

        replace Hb := hide (below_next Hb.out (Nat.le_refl _) hb)
        replace HA := hide (HA.out.after hb)
        replace HT := hide (HT.out.after hb)
        replace K9 := hide (K9.out.below hb)
        replace HZ := hide (HZ.out.after hb)
        have K10 := hide k10
        clear k10
        clear hb
        refine hK.out _ _ (HT.out.cells) (fun hHeld => ?_)
        clear hK K
        clear hHeld
        refine wpAnyH_done (by kernel_rfl) (then_last ?_) _
        obtain ⟨z0, z1⟩ : wt5.cell? ⟨bz, 0, none⟩ = some (.bool false) ∧ wt5.cell? ⟨bz, 1, none⟩ = some (.slice none 0 0) := ⟨HZ.out.cell 0 rfl, HZ.out.cell 1 rfl⟩
        have f0 := HZ.out.frozen 0
        have f1 := HZ.out.frozen 1
        go_simp
        (try go_wp2_with fail)
        go_meet
        exact ⟨bz, s10, p10, l10, c10, rfl, WV.set K10.out HZ.out, HA.out.other HZ.out hne _ _, below_set2 Hb.out _ _ _ hzb Hb.out.size⟩
    · go_simp
      have HZ := hide (Blk.new Wd #[.bool false, .slice none 0 0] 62)
      have hzb := Hb.out.size
      have hne := HA.out.ne (Nat.le_refl _)
      replace Hb := hide (below_next Hb.out (Nat.le_refl _) (below_alloc Wd (.cells #[.bool false, .slice none 0 0] 62)))
      replace HA := hide (HA.out.after (below_alloc Wd (.cells #[.bool false, .slice none 0 0] 62)))
      replace HT := hide (HT.out.after (below_alloc Wd (.cells #[.bool false, .slice none 0 0] 62)))
      generalize Wd.heap.size = bz at *
      generalize Wd.alloc (.cells #[.bool false, .slice none 0 0] 62) = wt6 at *
      refine hK.out _ _ (HT.out.cells) (fun hHeld => ?_)
      clear hK K
      clear hHeld
      refine wpAnyH_ready (rs := [1]) (by kernel_rfl) (by simp) ?_
      refine AllReadyH.cons rfl (fun K hK => ?_) AllReadyH.nil
      go_simp
      refine (of_any b _ HB.out).mono ?_
      rintro e wt7 ⟨v9, rfl, hb, k9⟩
      obtain ⟨s9, p9, l9, c9, rfl⟩ := whole_agg k9

      replace Hb := hide (below_next Hb.out (Nat.le_refl _) hb)
      replace HA := hide (HA.out.after hb)
      replace HT := hide (HT.out.after hb)
      replace HZ := hide (HZ.out.after hb)
      have K9 := hide k9
      clear k9
      clear hb
      refine hK.out _ _ (HT.out.cells) (fun hHeld => ?_)
      clear hK K
      clear hHeld
      refine wpAnyH_ready (rs := [3]) (by kernel_rfl) (by simp) ?_
      refine AllReadyH.cons rfl (fun K hK => ?_) AllReadyH.nil
      go_simp
      refine (times_any _ _ b (n * (n + 1)) 3 7 10 _ K9.out HT.out.w (by omega) (by omega) (by omega)).mono ?_
      rintro e wt8 ⟨v10, rfl, hb, k10⟩
      obtain ⟨s10, p10, l10, c10, rfl⟩ := whole_agg k10

      replace Hb := hide (below_next Hb.out (Nat.le_refl _) hb)
      replace HA := hide (HA.out.after hb)
      replace HT := hide (HT.out.after hb)
      replace K9 := hide (K9.out.below hb)
      replace HZ := hide (HZ.out.after hb)
      have K10 := hide k10
      clear k10
      clear hb
      refine hK.out _ _ (HT.out.cells) (fun hHeld => ?_)
      clear hK K
      clear hHeld
      refine wpAnyH_done (by kernel_rfl) (then_last ?_) _
      obtain ⟨z0, z1⟩ : wt8.cell? ⟨bz, 0, none⟩ = some (.bool false) ∧ wt8.cell? ⟨bz, 1, none⟩ = some (.slice none 0 0) := ⟨HZ.out.cell 0 rfl, HZ.out.cell 1 rfl⟩
      have f0 := HZ.out.frozen 0
      have f1 := HZ.out.frozen 1
      go_simp
      (try go_wp2_with fail)
      go_meet
      exact ⟨bz, s10, p10, l10, c10, rfl, WV.set K10.out HZ.out, HA.out.other HZ.out hne _ _, below_set2 Hb.out _ _ _ hzb Hb.out.size⟩
  case rest =>
    obtain ⟨gb, s10, p10, l10, c10, rfl, hB, hA, hW⟩ := hcut
    replace HA := hide hA
    have HB2 := hide hB
    replace Hb := hide hW
    clear hB hA hW HT HB HV HN H1
    go_upto_region 7 with fail
    go_cut [9] (fun vv wx => ∃ (g : Nat) (s' : Bool) (p' : Option Addr) (l' c' : Nat), vv = .pointer (some ⟨g, 0, none⟩) ∧ WV wx g s' p' l' c' (n * v + n * v - b * (n * (n + 1))) 11 ∧ Below w.heap.size w wx)
    case first =>
      refine reg_last_held (fun wx => wx.cell? ⟨ga, 0, none⟩ = some (.bool s3) ∧ wx.cell? ⟨ga, 1, none⟩ = some (.slice p3 l3 c3) ∧ wx.cell? ⟨gb, 0, none⟩ = some (.bool s10) ∧ wx.cell? ⟨gb, 1, none⟩ = some (.slice p10 l10 c10)) 6 rfl rfl _ rfl (by kernel_rfl) (by kernel_rfl) (⟨HA.out.cells.1, HA.out.cells.2, HB2.out.cells.1, HB2.out.cells.2⟩) (fun hHeld => ?_)
      simp only [List.take_succ_cons, List.take_zero]
      replace Hb := hide (below_next Hb.out (Nat.le_refl _) (below_drewN (Below.refl _ _) 1))
      replace HA := hide (HA.out.after (below_drewN (Below.refl _ _) 1))
      replace HB2 := hide (HB2.out.after (below_drewN (Below.refl _ _) 1))
      rw [show wc.drewN 1 = wc.drew from rfl] at *
      generalize wc.drew = Wd at *
      refine take_at (i := 0) (v := .agg #[.bool s3, .slice p3 l3 c3]) (d := some 40) rfl rfl (by kernel_rfl) (by kernel_rfl) (by kernel_rfl) (fun _ _ _ h => h) (Or.inl ⟨by rfl, fun wS ⟨hS0, hS1, hS2, hS3⟩ => by go_simp⟩) (by assumption) ?_
      simp only [Act.put, List.setIfInBounds_toArray, List.set_cons_zero, List.set_cons_succ]
      refine take_at (i := 1) (v := .agg #[.bool s3, .slice p3 l3 c3]) (d := some 41) rfl rfl (by kernel_rfl) (by kernel_rfl) (by kernel_rfl) (fun _ _ _ h => h) (Or.inl ⟨by rfl, fun wS ⟨hS0, hS1, hS2, hS3⟩ => by go_simp⟩) (by assumption) ?_
      simp only [Act.put, List.setIfInBounds_toArray, List.set_cons_zero, List.set_cons_succ]
      refine take_at (i := 3) (v := .agg #[.bool s10, .slice p10 l10 c10]) (d := some 43) rfl rfl (by kernel_rfl) (by kernel_rfl) (by kernel_rfl) (fun _ _ _ h => h) (Or.inl ⟨by rfl, fun wS ⟨hS0, hS1, hS2, hS3⟩ => by go_simp⟩) (by assumption) ?_
      simp only [Act.put, List.setIfInBounds_toArray, List.set_cons_zero, List.set_cons_succ]
      clear hHeld
      refine wpAnyH_ready (rs := [2, 5]) (by kernel_rfl) (by simp) ?_
      refine AllReadyH.cons rfl (fun K hK => ?_) (AllReadyH.cons rfl (fun K hK => ?_) AllReadyH.nil)
      · go_simp
        refine (plus_any _ _ (n * v) (n * v) 6 6 10 _ HA.out.w HA.out.w (by omega) (by omega) (by omega)).mono ?_
        rintro e wt1 ⟨v11, rfl, hb, k11⟩
        obtain ⟨s11, p11, l11, c11, rfl⟩ := whole_agg k11

        replace Hb := hide (below_next Hb.out (Nat.le_refl _) hb)
        replace HA := hide (HA.out.after hb)
        replace HB2 := hide (HB2.out.after hb)
        have K11 := hide k11
        clear k11
        clear hb
        refine hK.out _ _ (⟨HA.out.cells.1, HA.out.cells.2, HB2.out.cells.1, HB2.out.cells.2⟩) (fun hHeld => ?_)
        clear hK K
        clear hHeld
        refine wpAnyH_ready (rs := [4, 5]) (by kernel_rfl) (by simp) ?_
        refine AllReadyH.cons rfl (fun K hK => ?_) (AllReadyH.cons rfl (fun K hK => ?_) AllReadyH.nil)
        · go_simp
          refine (minus_any _ _ (n * v + n * v) (b * (n * (n + 1))) 10 10 11 _ K11.out HB2.out.w (by omega) (by omega) (by omega)).mono ?_
          rintro e wt2 ⟨v12, rfl, hb, k12⟩
          obtain ⟨s12, p12, l12, c12, rfl⟩ := whole_agg k12

          replace Hb := hide (below_next Hb.out (Nat.le_refl _) hb)
          replace HA := hide (HA.out.after hb)
          replace HB2 := hide (HB2.out.after hb)
          replace K11 := hide (K11.out.below hb)
          have K12 := hide k12
          clear k12
          clear hb
          refine hK.out _ _ (⟨HA.out.cells.1, HA.out.cells.2, HB2.out.cells.1, HB2.out.cells.2⟩) (fun hHeld => ?_)
          clear hK K
          clear hHeld
          refine wpAnyH_ready (rs := [5]) (by kernel_rfl) (by simp) ?_
          refine AllReadyH.cons rfl (fun K hK => ?_) AllReadyH.nil
          go_simp
          have HZ := hide (Blk.new wt2 #[.bool false, .slice none 0 0] 62)
          have hzb := Hb.out.size
          replace Hb := hide (below_next Hb.out (Nat.le_refl _) (below_alloc wt2 (.cells #[.bool false, .slice none 0 0] 62)))
          replace HA := hide (HA.out.after (below_alloc wt2 (.cells #[.bool false, .slice none 0 0] 62)))
          replace HB2 := hide (HB2.out.after (below_alloc wt2 (.cells #[.bool false, .slice none 0 0] 62)))
          replace K11 := hide (K11.out.below (below_alloc wt2 (.cells #[.bool false, .slice none 0 0] 62)))
          replace K12 := hide (K12.out.below (below_alloc wt2 (.cells #[.bool false, .slice none 0 0] 62)))
          generalize wt2.heap.size = bz at *
          generalize wt2.alloc (.cells #[.bool false, .slice none 0 0] 62) = wt3 at *
          refine hK.out _ _ (⟨HA.out.cells.1, HA.out.cells.2, HB2.out.cells.1, HB2.out.cells.2⟩) (fun hHeld => ?_)
          clear hK K
          clear hHeld
          refine wpAnyH_done (by kernel_rfl) (then_last ?_) _
          obtain ⟨z0, z1⟩ : wt3.cell? ⟨bz, 0, none⟩ = some (.bool false) ∧ wt3.cell? ⟨bz, 1, none⟩ = some (.slice none 0 0) := ⟨HZ.out.cell 0 rfl, HZ.out.cell 1 rfl⟩
          have f0 := HZ.out.frozen 0
          have f1 := HZ.out.frozen 1
          go_simp
          (try go_wp2_with fail)
          go_meet
          exact ⟨bz, s12, p12, l12, c12, rfl, WV.set K12.out HZ.out, below_set2 Hb.out _ _ _ hzb Hb.out.size⟩
        · go_simp
          have HZ := hide (Blk.new wt1 #[.bool false, .slice none 0 0] 62)
          have hzb := Hb.out.size
          replace Hb := hide (below_next Hb.out (Nat.le_refl _) (below_alloc wt1 (.cells #[.bool false, .slice none 0 0] 62)))
          replace HA := hide (HA.out.after (below_alloc wt1 (.cells #[.bool false, .slice none 0 0] 62)))
          replace HB2 := hide (HB2.out.after (below_alloc wt1 (.cells #[.bool false, .slice none 0 0] 62)))
          replace K11 := hide (K11.out.below (below_alloc wt1 (.cells #[.bool false, .slice none 0 0] 62)))
          generalize wt1.heap.size = bz at *
          generalize wt1.alloc (.cells #[.bool false, .slice none 0 0] 62) = wt4 at *
          refine hK.out _ _ (⟨HA.out.cells.1, HA.out.cells.2, HB2.out.cells.1, HB2.out.cells.2⟩) (fun hHeld => ?_)
          clear hK K
          clear hHeld
          refine wpAnyH_ready (rs := [4]) (by kernel_rfl) (by simp) ?_
          refine AllReadyH.cons rfl (fun K hK => ?_) AllReadyH.nil
          go_simp
          refine (minus_any _ _ (n * v + n * v) (b * (n * (n + 1))) 10 10 11 _ K11.out HB2.out.w (by omega) (by omega) (by omega)).mono ?_
          rintro e wt5 ⟨v12, rfl, hb, k12⟩
          obtain ⟨s12, p12, l12, c12, rfl⟩ := whole_agg k12

          replace Hb := hide (below_next Hb.out (Nat.le_refl _) hb)
          replace HA := hide (HA.out.after hb)
          replace HB2 := hide (HB2.out.after hb)
          replace K11 := hide (K11.out.below hb)
          replace HZ := hide (HZ.out.after hb)
          have K12 := hide k12
          clear k12
          clear hb
          refine hK.out _ _ (⟨HA.out.cells.1, HA.out.cells.2, HB2.out.cells.1, HB2.out.cells.2⟩) (fun hHeld => ?_)
          clear hK K
          clear hHeld
          refine wpAnyH_done (by kernel_rfl) (then_last ?_) _
          obtain ⟨z0, z1⟩ : wt5.cell? ⟨bz, 0, none⟩ = some (.bool false) ∧ wt5.cell? ⟨bz, 1, none⟩ = some (.slice none 0 0) := ⟨HZ.out.cell 0 rfl, HZ.out.cell 1 rfl⟩
          have f0 := HZ.out.frozen 0
          have f1 := HZ.out.frozen 1
          go_simp
          (try go_wp2_with fail)
          go_meet
          exact ⟨bz, s12, p12, l12, c12, rfl, WV.set K12.out HZ.out, below_set2 Hb.out _ _ _ hzb Hb.out.size⟩
      · go_simp
        have HZ := hide (Blk.new Wd #[.bool false, .slice none 0 0] 62)
        have hzb := Hb.out.size
        replace Hb := hide (below_next Hb.out (Nat.le_refl _) (below_alloc Wd (.cells #[.bool false, .slice none 0 0] 62)))
        replace HA := hide (HA.out.after (below_alloc Wd (.cells #[.bool false, .slice none 0 0] 62)))
        replace HB2 := hide (HB2.out.after (below_alloc Wd (.cells #[.bool false, .slice none 0 0] 62)))
        generalize Wd.heap.size = bz at *
        generalize Wd.alloc (.cells #[.bool false, .slice none 0 0] 62) = wt6 at *
        refine hK.out _ _ (⟨HA.out.cells.1, HA.out.cells.2, HB2.out.cells.1, HB2.out.cells.2⟩) (fun hHeld => ?_)
        clear hK K
        clear hHeld
        refine wpAnyH_ready (rs := [2]) (by kernel_rfl) (by simp) ?_
        refine AllReadyH.cons rfl (fun K hK => ?_) AllReadyH.nil
        go_simp
        refine (plus_any _ _ (n * v) (n * v) 6 6 10 _ HA.out.w HA.out.w (by omega) (by omega) (by omega)).mono ?_
        rintro e wt7 ⟨v11, rfl, hb, k11⟩
        obtain ⟨s11, p11, l11, c11, rfl⟩ := whole_agg k11

        replace Hb := hide (below_next Hb.out (Nat.le_refl _) hb)
        replace HA := hide (HA.out.after hb)
        replace HB2 := hide (HB2.out.after hb)
        replace HZ := hide (HZ.out.after hb)
        have K11 := hide k11
        clear k11
        clear hb
        refine hK.out _ _ (⟨HA.out.cells.1, HA.out.cells.2, HB2.out.cells.1, HB2.out.cells.2⟩) (fun hHeld => ?_)
        clear hK K
        clear hHeld
        refine wpAnyH_ready (rs := [4]) (by kernel_rfl) (by simp) ?_
        refine AllReadyH.cons rfl (fun K hK => ?_) AllReadyH.nil
        go_simp
        refine (minus_any _ _ (n * v + n * v) (b * (n * (n + 1))) 10 10 11 _ K11.out HB2.out.w (by omega) (by omega) (by omega)).mono ?_
        rintro e wt8 ⟨v12, rfl, hb, k12⟩
        obtain ⟨s12, p12, l12, c12, rfl⟩ := whole_agg k12

        replace Hb := hide (below_next Hb.out (Nat.le_refl _) hb)
        replace HA := hide (HA.out.after hb)
        replace HB2 := hide (HB2.out.after hb)
        replace K11 := hide (K11.out.below hb)
        replace HZ := hide (HZ.out.after hb)
        have K12 := hide k12
        clear k12
        clear hb
        refine hK.out _ _ (⟨HA.out.cells.1, HA.out.cells.2, HB2.out.cells.1, HB2.out.cells.2⟩) (fun hHeld => ?_)
        clear hK K
        clear hHeld
        refine wpAnyH_done (by kernel_rfl) (then_last ?_) _
        obtain ⟨z0, z1⟩ : wt8.cell? ⟨bz, 0, none⟩ = some (.bool false) ∧ wt8.cell? ⟨bz, 1, none⟩ = some (.slice none 0 0) := ⟨HZ.out.cell 0 rfl, HZ.out.cell 1 rfl⟩
        have f0 := HZ.out.frozen 0
        have f1 := HZ.out.frozen 1
        go_simp
        (try go_wp2_with fail)
        go_meet
        exact ⟨bz, s12, p12, l12, c12, rfl, WV.set K12.out HZ.out, below_set2 Hb.out _ _ _ hzb Hb.out.size⟩
    case rest =>
      obtain ⟨gw, s12, p12, l12, c12, rfl, hT, hW⟩ := hcut
      rw [HS.out] at hT
      have HT := hide hT
      replace Hb := hide hW
      clear hT hW HA HB2 HS
      go_upto_region 8 with fail
      go_wp2_with fail
      refine (of_any 9223372036854775807 _ HX.out).mono ?_
      rintro e w13 ⟨v13, rfl, hb, k13⟩
      obtain ⟨s13, p13, l13, c13, rfl⟩ := whole_agg k13
      have K13 := hide k13
      clear k13
      replace HT := hide (HT.out.after hb)
      replace Hb := hide (below_next Hb.out (Nat.le_refl _) hb)
      clear hb
      go_wp2_with fail
      refine (of_any 9223372036854775807 _ HX.out).mono ?_
      rintro e w14 ⟨v14, rfl, hb, k14⟩
      obtain ⟨s14, p14, l14, c14, rfl⟩ := whole_agg k14
      have K14 := hide k14
      clear k14
      replace HT := hide (HT.out.after hb)
      replace K13 := hide (K13.out.below hb)
      replace Hb := hide (below_next Hb.out (Nat.le_refl _) hb)
      clear hb
      go_wp2_with fail
      refine (plus_any _ _ 9223372036854775807 9223372036854775807 3 3 4 _ K13.out K14.out (by omega) (by omega) (by omega)).mono ?_
      rintro e w15 ⟨v15, rfl, hb, k15⟩
      obtain ⟨s15, p15, l15, c15, rfl⟩ := whole_agg k15
      have K15 := hide k15
      clear k15
      replace HT := hide (HT.out.after hb)
      replace Hb := hide (below_next Hb.out (Nat.le_refl _) hb)
      clear hb
      clear K13 K14
      have HP := hide (WV.new K15.out)
      replace HT := hide (HT.out.after (below_alloc w15 (.cells #[.bool s15, .slice p15 l15 c15] 62)))
      replace Hb := hide (below_next Hb.out (Nat.le_refl _) (below_alloc w15 (.cells #[.bool s15, .slice p15 l15 c15] 62)))
      clear K15
      go_upto_region 9 with fail
      generalize w15.heap.size = gx at *
      generalize w15.alloc (.cells #[.bool s15, .slice p15 l15 c15] 62) = Wx at *
      obtain ⟨t0, t1⟩ := HT.out.cells
      obtain ⟨p0, p1⟩ := HP.out.cells
      have CM := hide (fun W (h : Below Wx.heap.size Wx W) => cmp_any _ _ (2 * s) (9223372036854775807 + 9223372036854775807) 11 4 W (HT.out.w.below h) (HP.out.w.below h) (by omega))
      have hg := cmp_ge (2 * s) (9223372036854775807 + 9223372036854775807)
      generalize cmpI (2 * s) (9223372036854775807 + 9223372036854775807) = cx at *
      by_cases hsx : 9223372036854775807 ≤ s
      · have hg2 : decide (0 ≤ cx) = true := by rw [hg]; simp; omega
        have ES : Hid (sat s = 9223372036854775807) := hide (by unfold sat; split <;> (try split) <;> omega)
        clear hg
        go_wp2_with fail
        refine (CM.out _ (Below.refl _ _)).mono ?_
        rintro e wy ⟨rfl, hb⟩
        replace Hb := hide (below_next Hb.out (Nat.le_refl _) hb)
        clear hb
        go_wp2_with fail
        go_ret
        exact ⟨ret_int ES.out.symm, Hb.out⟩
      · have hg2 : decide (0 ≤ cx) = false := by rw [hg]; simp; omega
        have ES : Hid (sat s = s) := hide (by unfold sat; split <;> (try split) <;> omega)
        clear hg
        go_wp2_with fail
        refine (CM.out _ (Below.refl _ _)).mono ?_
        rintro e wy ⟨rfl, hb⟩
        replace HT := hide (HT.out.after hb)
        replace Hb := hide (below_next Hb.out (Nat.le_refl _) hb)
        clear hb t0 t1 p0 p1 HP CM
        go_wp2_with fail
        go_loopw [11, 12] (fun lo hi wr => ∃ x1 x2 : Int, lo = .int .i64 x1 ∧ hi = .int .i64 x2 ∧ 0 ≤ x1 ∧ x2 ≤ 9223372036854775807 ∧ x1 ≤ s ∧ s ≤ x2 ∧ WV wr gw s12 p12 l12 c12 (2 * s) 11 ∧ Below w.heap.size w wr) (fun lo hi _ => (intOf hi - intOf lo).toNat)
        case atStart => exact ⟨0, 9223372036854775807, rfl, rfl, by omega, by omega, by omega, by omega, HT.out, Hb.out⟩
        case round =>
          clear HT Hb
          obtain ⟨x1, x2, rfl, rfl, r1, r2, r3, r4, hT, hW⟩ := hrel
          have HT := hide hT
          have Hb := hide hW
          clear hT hW hg2 hsx
          by_cases lt : x1 < x2
          · have hd : (x2 - x1).tdiv 2 = (x2 - x1) / 2 := Int.tdiv_eq_ediv_of_nonneg (by omega)
            obtain ⟨m, hm⟩ : ∃ m, x1 + (x2 - x1) / 2 = m := ⟨_, rfl⟩
            have m1 : x1 ≤ m := by omega
            have m2 : m < x2 := by omega
            have m3 : 0 ≤ (x2 - x1) / 2 := by omega
            have m4 : (x2 - x1) / 2 ≤ 9223372036854775807 := by omega
            have HM : Hid (I64 m) := hide (by unfold I64; omega)
            go_upto_region 15 with fail
            try rw [hm]
            clear hm hd m3 m4
            go_wp2_with fail
            refine (of_any m _ HM.out).mono ?_
            rintro e w16 ⟨v16, rfl, hb, k16⟩
            obtain ⟨s16, p16, l16, c16, rfl⟩ := whole_agg k16
            have K16 := hide k16
            clear k16
            replace HT := hide (HT.out.after hb)
            replace Hb := hide (below_next Hb.out (Nat.le_refl _) hb)
            clear hb
            have HP := hide (WV.new K16.out)
            replace HT := hide (HT.out.after (below_alloc w16 (.cells #[.bool s16, .slice p16 l16 c16] 62)))
            replace Hb := hide (below_next Hb.out (Nat.le_refl _) (below_alloc w16 (.cells #[.bool s16, .slice p16 l16 c16] 62)))
            clear K16
            go_upto_region 16 with fail
            generalize w16.heap.size = gm at *
            generalize w16.alloc (.cells #[.bool s16, .slice p16 l16 c16] 62) = Wm at *
            have hgq := cmp_ge (m + m) (2 * s)
            obtain ⟨cq, hcq⟩ : ∃ cq, Hid (cmpI (m + m) (2 * s) = cq) := ⟨_, hide rfl⟩
            rw [hcq.out] at hgq
            refine wp_region_held_drew (S := fun wx => wx.cell? ⟨gm, 0, none⟩ = some (.bool s16) ∧ wx.cell? ⟨gm, 1, none⟩ = some (.slice p16 l16 c16) ∧ wx.cell? ⟨gw, 0, none⟩ = some (.bool s12) ∧ wx.cell? ⟨gw, 1, none⟩ = some (.slice p12 l12 c12)) (by kernel_rfl) (⟨HP.out.cells.1, HP.out.cells.2, HT.out.cells.1, HT.out.cells.2⟩) (fun hHeld => ?_)
            replace HP := hide (HP.out.after (below_drewN (Below.refl _ _) 1))
            replace HT := hide (HT.out.after (below_drewN (Below.refl _ _) 1))
            replace Hb := hide (below_drewN Hb.out 1)
            rw [show Wm.drewN 1 = Wm.drew from rfl] at *
            generalize Wm.drew = Wd at *
            refine take_at (i := 0) (v := .agg #[.bool s16, .slice p16 l16 c16]) (d := some 63) rfl rfl (by kernel_rfl) (by kernel_rfl) (by kernel_rfl) (fun _ _ _ h => h) (Or.inl ⟨by rfl, fun wS ⟨hS0, hS1, hS2, hS3⟩ => by go_simp; all_goals (rw [IntKind.wrap_i64]; omega)⟩) (by assumption) ?_
            simp only [Act.put, List.setIfInBounds_toArray, List.set_cons_zero, List.set_cons_succ]
            refine take_at (i := 1) (v := .agg #[.bool s16, .slice p16 l16 c16]) (d := some 64) rfl rfl (by kernel_rfl) (by kernel_rfl) (by kernel_rfl) (fun _ _ _ h => h) (Or.inl ⟨by rfl, fun wS ⟨hS0, hS1, hS2, hS3⟩ => by go_simp; all_goals (rw [IntKind.wrap_i64]; omega)⟩) (by assumption) ?_
            simp only [Act.put, List.setIfInBounds_toArray, List.set_cons_zero, List.set_cons_succ]
            refine take_at (i := 3) (v := .agg #[.bool s12, .slice p12 l12 c12]) (d := some 66) rfl rfl (by kernel_rfl) (by kernel_rfl) (by kernel_rfl) (fun _ _ _ h => h) (Or.inl ⟨by rfl, fun wS ⟨hS0, hS1, hS2, hS3⟩ => by go_simp; all_goals (rw [IntKind.wrap_i64]; omega)⟩) (by assumption) ?_
            simp only [Act.put, List.setIfInBounds_toArray, List.set_cons_zero, List.set_cons_succ]
            clear hHeld
            refine wpAnyH_ready (rs := [2]) (by kernel_rfl) (by simp) ?_
            refine AllReadyH.cons rfl (fun K hK => ?_) AllReadyH.nil
            go_simp
            refine (plus_any _ _ m m 3 3 4 _ HP.out.w HP.out.w (by omega) (by omega) (by omega)).mono ?_
            rintro e w17 ⟨v17, rfl, hb, k17⟩
            obtain ⟨s17, p17, l17, c17, rfl⟩ := whole_agg k17
            have K17 := hide k17
            clear k17
            replace HP := hide (HP.out.after hb)
            replace HT := hide (HT.out.after hb)
            replace Hb := hide (below_next Hb.out (Nat.le_refl _) hb)
            clear hb
            refine hK.out _ _ (⟨HP.out.cells.1, HP.out.cells.2, HT.out.cells.1, HT.out.cells.2⟩) (fun hHeld => ?_)
            clear hK K
            clear hHeld
            refine wpAnyH_ready (rs := [4]) (by kernel_rfl) (by simp) ?_
            refine AllReadyH.cons rfl (fun K hK => ?_) AllReadyH.nil
            go_simp
            refine (cmp_any _ _ (m + m) (2 * s) 4 11 _ K17.out HT.out.w (by omega)).mono ?_
            rintro e w18 ⟨rfl, hb⟩
            rw [hcq.out]
            replace HP := hide (HP.out.after hb)
            replace HT := hide (HT.out.after hb)
            replace Hb := hide (below_next Hb.out (Nat.le_refl _) hb)
            clear hb K17
            refine hK.out _ _ (⟨HP.out.cells.1, HP.out.cells.2, HT.out.cells.1, HT.out.cells.2⟩) (fun hHeld => ?_)
            clear hK K
            refine take_at (i := 5) (v := .bool (decide (0 ≤ cq))) (d := some 68) rfl rfl (by kernel_rfl) (by kernel_rfl) (by kernel_rfl) (fun _ _ _ h => h) (Or.inl ⟨by rfl, fun wS ⟨hS0, hS1, hS2, hS3⟩ => by go_simp; all_goals (rw [IntKind.wrap_i64]; omega)⟩) (by assumption) ?_
            simp only [Act.put, List.setIfInBounds_toArray, List.set_cons_zero, List.set_cons_succ]
            clear hHeld
            refine wpAnyH_done (by kernel_rfl) ?_ _
            go_simp
            clear hcq HP
            by_cases up : s ≤ m
            · have hz : decide (0 ≤ cq) = true := by rw [hgq]; simp; omega
              clear hgq
              go_wp2_with fail
              go_roundw
              case rel => exact ⟨x1, m, rfl, rfl, by omega, by omega, by omega, by omega, HT.out, Hb.out⟩
              case measure => simp [intOf]; omega
            · have hz : decide (0 ≤ cq) = false := by rw [hgq]; simp; omega
              clear hgq
              go_wp2_with fail
              go_roundw
              case rel => exact ⟨m + 1, x2, rfl, rfl, by omega, by omega, by omega, by omega, HT.out, Hb.out⟩
              case measure => simp [intOf]; omega
          · have e1 : x1 = s := by omega
            have E1 := hide e1
            clear e1
            go_wp2_with fail
            go_ret
            exact ⟨ret_int (by rw [E1.out]; exact ES.out.symm), Hb.out⟩
end Go.Proofs.Ytjinfjibodoflaa
