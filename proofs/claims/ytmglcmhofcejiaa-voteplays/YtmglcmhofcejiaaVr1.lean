/- The document's vote: are two numbers more than that apart; half a sum. -/
import Derived.Test.YtmglcmhofcejiaaVrM
import Derived.Test.YtmglcmhofcejiaaTimesAny
import Derived.Deep.DeepCutAuto
namespace Go.Proofs.Ytmglcmhofcejiaa
open Go.RowKit Go.Great

theorem cmp_gt (a b : Int) : decide (0 < cmpI a b) = decide (b < a) := by
  rw [decide_eq_decide]; unfold cmpI; split
  · omega
  · split <;> omega
theorem cmp_le (a b : Int) : decide (cmpI a b ≤ 0) = decide (a ≤ b) := by
  rw [decide_eq_decide]; unfold cmpI; split
  · omega
  · split <;> omega
theorem Blk.two {W : World} {B : Nat} {x y : Value} {t : TypeId} (h : Blk W B #[x, y] t) : W.cell? ⟨B, 0, none⟩ = some x ∧ W.cell? ⟨B, 1, none⟩ = some y := ⟨h.cell 0 rfl, h.cell 1 rfl⟩
set_option maxHeartbeats 2000000 in
theorem rapart_in (a b s M m : Int) (w : World) (hM : I64 M) (hm : I64 m) (hs : I64 s) (m1 : (if a < b then b else a) = M) (m2 : (if b < a then b else a) = m) : Calls Try.prog 24 #[.int .i64 a, .int .i64 b, .int .i64 s] w fun e w' => e = .returned (.bool (decide (s < M - m))) ∧ Below w.heap.size w w' := by
  have HM := hide hM
  have Hm := hide hm
  have HS := hide hs
  clear hM hm hs
  go_enter Try.func24, Try.ntmps24
  go_wp2_with fail
  refine (of_any M _ HM.out).mono ?_
  rintro e w1 ⟨v1, rfl, h1, k1⟩
  have H1 := hide h1; have K1 := hide k1; clear h1 k1
  go_wp2_with fail
  refine (of_any m _ Hm.out).mono ?_
  rintro e w2 ⟨v2, rfl, h2, k2⟩
  have H2 := hide (below_next H1.out (Nat.le_refl _) h2); have K2 := hide k2
  replace K1 := hide (K1.out.below h2)
  clear h2 k2
  go_wp2_with fail
  refine (minus_any _ _ M m 3 3 4 _ K1.out K2.out (by omega) (by omega) (by omega)).mono ?_
  rintro e w3 ⟨v3, rfl, h3, k3⟩
  obtain ⟨s3, p3, l3, c3, rfl⟩ := whole_agg k3
  have H3 := hide (below_next H2.out (Nat.le_refl _) h3); have K3 := hide k3
  clear h3 k3
  go_wp2_with fail
  have D3 := hide (Blk.new w3 #[.bool s3, .slice p3 l3 c3] 65)
  replace K3 := hide (K3.out.below (below_alloc w3 (.cells #[.bool s3, .slice p3 l3 c3] 65)))
  replace H3 := hide (H3.out.alloc H3.out.size (.cells #[.bool s3, .slice p3 l3 c3] 65))
  clear H1 H2 K1 K2
  generalize w3.heap.size = db at *
  generalize w3.alloc (.cells #[.bool s3, .slice p3 l3 c3] 65) = W3 at *
  refine wp_region_held_drew (S := fun wx => wx.cell? ⟨db, 0, none⟩ = some (.bool s3) ∧ wx.cell? ⟨db, 1, none⟩ = some (.slice p3 l3 c3)) (by kernel_rfl) (D3.out.two) (fun hHeld => ?_)
  refine take_at (i := 0) (v := .agg #[.bool s3, .slice p3 l3 c3]) (d := some 17) rfl rfl (by kernel_rfl) (by kernel_rfl) (by kernel_rfl) (fun _ _ _ h => h) (Or.inl ⟨by rfl, fun wS ⟨hS0, hS1⟩ => by go_simp; all_goals (rw [IntKind.wrap_i64]; omega)⟩) (by assumption) ?_
  simp only [Act.put, List.setIfInBounds_toArray, List.set_cons_zero, List.set_cons_succ]
  refine take_at (i := 1) (v := .int .i64 s) (d := some 18) rfl rfl (by kernel_rfl) (by kernel_rfl) (by kernel_rfl) (fun _ _ _ h => h) (Or.inl ⟨by rfl, fun wS ⟨hS0, hS1⟩ => by go_simp; all_goals (rw [IntKind.wrap_i64]; omega)⟩) (by assumption) ?_
  simp only [Act.put, List.setIfInBounds_toArray, List.set_cons_zero, List.set_cons_succ]
  clear hHeld
  refine wpAnyH_ready (rs := [2]) (by kernel_rfl) (by simp) ?_
  refine AllReadyH.cons rfl (fun K hK => ?_) AllReadyH.nil
  go_simp
  refine (of_any s _ HS.out).mono ?_
  rintro e w5 ⟨v5, rfl, h5, k5⟩
  have h5' := below_undrew h5
  have D5 := D3.out.after h5'
  have K5 := K3.out.below h5'
  obtain ⟨s5, p5, l5, c5, rfl⟩ := whole_agg k5
  refine hK.out _ _ D5.two (fun hHeld => ?_)
  clear hK K hHeld
  refine wpAnyH_ready (rs := [3]) (by kernel_rfl) (by simp) ?_
  refine AllReadyH.cons rfl (fun K hK => ?_) AllReadyH.nil
  go_simp
  refine (cmp_any _ _ (M - m) s 4 3 _ K5 k5 (by omega)).mono ?_
  rintro e w6 ⟨rfl, h6⟩
  have H6 := hide (below_next (below_next H3.out (Nat.le_refl _) h5') (Nat.le_refl _) h6)
  have D6 := D5.after h6
  obtain ⟨x, hx⟩ : ∃ x, Hid (cmpI (M - m) s = x) := ⟨_, hide rfl⟩
  have hres := cmp_gt (M - m) s
  rw [hx.out] at hres ⊢
  have HRS := hide hres
  refine hK.out _ _ D6.two (fun hHeld => ?_)
  clear hK K hres
  refine take_at (i := 4) (v := .bool (decide (0 < x))) (d := some 21) rfl rfl (by kernel_rfl) (by kernel_rfl) (by kernel_rfl) (fun _ _ _ h => h) (Or.inl ⟨by rfl, fun wS ⟨hS0, hS1⟩ => by go_simp; all_goals (rw [IntKind.wrap_i64]; omega)⟩) (by assumption) ?_
  simp only [Act.put, List.setIfInBounds_toArray, List.set_cons_zero, List.set_cons_succ]
  refine take_at (i := 5) (v := .bool (decide (0 < x))) (d := some 6) rfl rfl (by kernel_rfl) (by kernel_rfl) (by kernel_rfl) (fun _ _ _ h => h) (Or.inl ⟨by rfl, fun wS ⟨hS0, hS1⟩ => by go_simp; all_goals (rw [IntKind.wrap_i64]; omega)⟩) (by assumption) ?_
  simp only [Act.put, List.setIfInBounds_toArray, List.set_cons_zero, List.set_cons_succ]
  refine wpAnyH_done (by kernel_rfl) ?_ _
  clear hHeld
  go_wp2_with fail
  go_ret
  exact ⟨ret_bool HRS.out, H6.out⟩
theorem rapart_any (a b s : Int) (w : World) (ha : I64 a) (hb : I64 b) (hs : I64 s) : Calls Try.prog 24 #[.int .i64 a, .int .i64 b, .int .i64 s] w fun e w' => e = .returned (.bool (decide (s < max a b - min a b))) ∧ Below w.heap.size w w' := by
  refine rapart_in a b s (max a b) (min a b) w ?_ ?_ hs ?_ ?_
  · unfold I64 at *; omega
  · unfold I64 at *; omega
  · split <;> omega
  · split <;> omega
set_option maxHeartbeats 4000000 in
theorem rhalf_in (a b M m : Int) (w : World) (ha : I64 a) (hb : I64 b) (hM : I64 M) (hm : I64 m) (h1 : m ≤ hlf a b) (h2 : hlf a b ≤ M) (m1 : (if a < b then b else a) = M) (m2 : (if b < a then b else a) = m) : Calls Try.prog 25 #[.int .i64 a, .int .i64 b] w fun e w' => e = .returned (.int .i64 (hlf a b)) ∧ Below w.heap.size w w' := by
  have HA := hide ha
  have HB := hide hb
  have HM := hide (And.intro hM hm)
  have HH := hide (And.intro h1 h2)
  clear ha hb hM hm h1 h2
  go_enter Try.func25, Try.ntmps25
  go_wp2_with fail
  refine (of_any a _ HA.out).mono ?_
  rintro e w1 ⟨v1, rfl, h1, k1⟩
  have H1 := hide h1; have K1 := hide k1; clear h1 k1
  go_wp2_with fail
  refine (of_any b _ HB.out).mono ?_
  rintro e w2 ⟨v2, rfl, h2, k2⟩
  have H2 := hide (below_next H1.out (Nat.le_refl _) h2); have K2 := hide k2
  replace K1 := hide (K1.out.below h2)
  clear h2 k2
  go_wp2_with fail
  refine (plus_any _ _ a b 3 3 4 _ K1.out K2.out (by omega) (by omega) (by omega)).mono ?_
  rintro e w3 ⟨v3, rfl, h3, k3⟩
  obtain ⟨s3, p3, l3, c3, rfl⟩ := whole_agg k3
  have H3 := hide (below_next H2.out (Nat.le_refl _) h3); have K3 := hide k3
  clear h3 k3
  go_upto_region 2 with fail
  have D3 := hide (Blk.new w3 #[.bool s3, .slice p3 l3 c3] 65)
  replace K3 := hide (K3.out.below (below_alloc w3 (.cells #[.bool s3, .slice p3 l3 c3] 65)))
  replace H3 := hide (H3.out.alloc H3.out.size (.cells #[.bool s3, .slice p3 l3 c3] 65))
  clear H1 H2 K1 K2
  generalize w3.heap.size = db at *
  generalize w3.alloc (.cells #[.bool s3, .slice p3 l3 c3] 65) = W3 at *
  go_wp2_with fail
  go_loopw [6, 7] (fun vl vh wr => ∃ lo hi : Int, vl = .int .i64 lo ∧ vh = .int .i64 hi ∧ I64 lo ∧ I64 hi ∧ lo ≤ hlf a b ∧ hlf a b ≤ hi ∧ Below W3.heap.size W3 wr) (fun vl vh _ => (intOf vh - intOf vl).toNat)
  case atStart => exact ⟨m, M, rfl, rfl, HM.out.2, HM.out.1, HH.out.1, HH.out.2, Below.refl _ _⟩
  case round =>
    obtain ⟨lo, hi, rfl, rfl, hlo, hhi, hl, hh, hb⟩ := hrel
    have HB3 := hide hb
    clear hb
    by_cases hlt : lo < hi
    · obtain ⟨dd, hdd⟩ : ∃ dd, Hid (hi - lo = dd) := ⟨_, hide rfl⟩
      have d0 : 0 ≤ dd := by rw [← hdd.out]; omega
      unfold I64 at hlo hhi
      have d1 : dd ≤ 18446744073709551615 := by rw [← hdd.out]; omega
      have e1 : IntKind.u64.wrap (IntKind.u64.wrap hi - IntKind.u64.wrap lo) = dd := by rw [IntKind.wrap_u64, IntKind.wrap_u64, IntKind.wrap_u64, ← hdd.out]; omega
      obtain ⟨mm, hmm⟩ : ∃ mm, Hid (mm = lo + (dd / 2 + dd % 2)) := ⟨_, hide rfl⟩
      have e2 : wrap64 (lo + wrap64 (dd / 2 + dd % 2)) = mm := by
        have h := hdd.out
        rw [hmm.out]; unfold wrap64; omega
      obtain ⟨⟨g1, g2⟩, g3, g4⟩ := half_step a b lo hi mm hlt (by rw [hmm.out, hdd.out])
      have G3 := hide g3
      have G4 := hide g4
      have HI := hide (show I64 mm by unfold I64; omega)
      have i1 : I64 mm := HI.out
      unfold I64 at i1
      clear g3 g4 hmm hdd
      have D4 := hide (D3.out.after HB3.out)
      have K4 := hide (K3.out.below HB3.out)
      go_wp2_with fail
      clear e1 e2 d0 d1
      refine wp_region_held_drew (S := fun wx => wx.cell? ⟨db, 0, none⟩ = some (.bool s3) ∧ wx.cell? ⟨db, 1, none⟩ = some (.slice p3 l3 c3)) (by kernel_rfl) (D4.out.two) (fun hHeld => ?_)
      refine take_at (i := 1) (v := .int .i64 mm) (d := some 38) rfl rfl (by kernel_rfl) (by kernel_rfl) (by kernel_rfl) (fun _ _ _ h => h) (Or.inl ⟨by rfl, fun wS ⟨hS0, hS1⟩ => by go_simp; all_goals (rw [IntKind.wrap_i64]; omega)⟩) (by assumption) ?_
      simp only [Act.put, List.setIfInBounds_toArray, List.set_cons_zero, List.set_cons_succ]
      refine take_at (i := 4) (v := .agg #[.bool s3, .slice p3 l3 c3]) (d := some 41) rfl rfl (by kernel_rfl) (by kernel_rfl) (by kernel_rfl) (fun _ _ _ h => h) (Or.inl ⟨by rfl, fun wS ⟨hS0, hS1⟩ => by go_simp; all_goals (rw [IntKind.wrap_i64]; omega)⟩) (by assumption) ?_
      simp only [Act.put, List.setIfInBounds_toArray, List.set_cons_zero, List.set_cons_succ]
      clear hHeld
      refine wpAnyH_ready (rs := [0]) (by kernel_rfl) (by simp) ?_
      refine AllReadyH.cons rfl (fun K hK => ?_) AllReadyH.nil
      go_simp
      refine (of_any 2 _ (i64_lit (by decide))).mono ?_
      rintro e w5 ⟨v5, rfl, h5, k5⟩
      have h5' := below_undrew h5
      have B5 := hide (below_next HB3.out (Nat.le_refl _) h5')
      have D5 := D4.out.after h5'
      have K5 := K4.out.below h5'
      obtain ⟨s5, p5, l5, c5, rfl⟩ := whole_agg k5
      refine hK.out _ _ D5.two (fun hHeld => ?_)
      clear hK K hHeld h5 h5'
      refine wpAnyH_ready (rs := [2]) (by kernel_rfl) (by simp) ?_
      refine AllReadyH.cons rfl (fun K hK => ?_) AllReadyH.nil
      go_simp
      refine (of_any mm _ HI.out).mono ?_
      rintro e w6 ⟨v6, rfl, h6, k6⟩
      have B6 := hide (below_next B5.out (Nat.le_refl _) h6)
      have D6 := D5.after h6
      have K6 := K5.below h6
      have k5' := k5.below h6
      obtain ⟨s6, p6, l6, c6, rfl⟩ := whole_agg k6
      refine hK.out _ _ D6.two (fun hHeld => ?_)
      clear hK K hHeld h6
      refine wpAnyH_ready (rs := [3]) (by kernel_rfl) (by simp) ?_
      refine AllReadyH.cons rfl (fun K hK => ?_) AllReadyH.nil
      go_simp
      refine (times_any _ _ 2 mm 3 3 6 _ k5' k6 (by omega) (by omega) (by omega)).mono ?_
      rintro e w7 ⟨v7, rfl, h7, k7⟩
      have B7 := hide (below_next B6.out (Nat.le_refl _) h7)
      have D7 := D6.after h7
      have K7 := K6.below h7
      obtain ⟨s7, p7, l7, c7, rfl⟩ := whole_agg k7
      refine hK.out _ _ D7.two (fun hHeld => ?_)
      clear hK K hHeld h7
      refine wpAnyH_ready (rs := [5]) (by kernel_rfl) (by simp) ?_
      refine AllReadyH.cons rfl (fun K hK => ?_) AllReadyH.nil
      go_simp
      refine (cmp_any _ _ (2 * mm) (a + b) 6 4 _ k7 K7 (by omega)).mono ?_
      rintro e w8 ⟨rfl, h8⟩
      have B8 := hide (below_next B7.out (Nat.le_refl _) h8)
      have D8 := D7.after h8
      obtain ⟨x, hx⟩ : ∃ x, Hid (cmpI (2 * mm) (a + b) = x) := ⟨_, hide rfl⟩
      have hres := cmp_le (2 * mm) (a + b)
      rw [hx.out] at hres ⊢
      have HRS := hide hres
      refine hK.out _ _ D8.two (fun hHeld => ?_)
      clear hK K hres h8 hx
      refine take_at (i := 6) (v := .bool (decide (x ≤ 0))) (d := some 43) rfl rfl (by kernel_rfl) (by kernel_rfl) (by kernel_rfl) (fun _ _ _ h => h) (Or.inl ⟨by rfl, fun wS ⟨hS0, hS1⟩ => by go_simp; all_goals (rw [IntKind.wrap_i64]; omega)⟩) (by assumption) ?_
      simp only [Act.put, List.setIfInBounds_toArray, List.set_cons_zero, List.set_cons_succ]
      refine wpAnyH_done (by kernel_rfl) ?_ _
      clear hHeld D5 D6 D7 D8 K5 K6 K7 k5 k5' k6 k7
      by_cases hc : x ≤ 0
      · have hc2 : 2 * mm ≤ a + b := by have h := HRS.out; rw [decide_eq_decide] at h; exact h.1 hc
        have g := G3.out hc2
        clear HRS hc2 G3 G4
        go_wp2_with fail
        go_roundw
        case rel => exact ⟨mm, hi, rfl, rfl, HI.out, by unfold I64; omega, g, hh, B8.out⟩
        case measure => simp [intOf]; omega
      · have hc2 : ¬ 2 * mm ≤ a + b := by have h := HRS.out; rw [decide_eq_decide] at h; exact fun q => hc (h.2 q)
        have g := G4.out (by omega)
        clear HRS hc2 G3 G4
        go_wp2_with fail
        go_roundw
        case rel => exact ⟨lo, mm - 1, rfl, rfl, by unfold I64; omega, by unfold I64; omega, hl, g, B8.out⟩
        case measure => simp [intOf]; omega
    · have hz : hlf a b = lo := by omega
      have HZ := hide hz
      clear hz hl hh
      go_wp2_with fail
      go_ret
      exact ⟨ret_int HZ.out.symm, below_next H3.out (Nat.le_refl _) HB3.out⟩
theorem rhalf_any (a b : Int) (w : World) (ha : I64 a) (hb : I64 b) : Calls Try.prog 25 #[.int .i64 a, .int .i64 b] w fun e w' => e = .returned (.int .i64 (hlf a b)) ∧ Below w.heap.size w w' := by
  have h := half_in a b
  refine rhalf_in a b (max a b) (min a b) w ha hb ?_ ?_ h.1 h.2 ?_ ?_
  · unfold I64 at *; omega
  · unfold I64 at *; omega
  · split <;> omega
  · split <;> omega
end Go.Proofs.Ytmglcmhofcejiaa
