/- What the reference finds wrong with parameters. -/
import Derived.Test.YtnofpcoohbmnpaaPr1
namespace Go.Proofs.Ytnofpcoohbmnpaa
open Go.RowKit Go.Great

set_option maxHeartbeats 2000000 in
theorem rules_any (l : List Int) (hl : l.length = 24) (hr : InR l 24) (v : Value) (w : World) (hv : Ints w v l) : Calls Try.prog 58 #[v] w fun e w' => e = .returned (.bool (rulB l)) ∧ ∃ n, w' = w.drewN n := by
  obtain ⟨g, o, cap, rfl, hg, hcc⟩ := hv.open24 hl
  obtain ⟨b0, b1, b2, b3, b4, b5, b6, b7, b8, b9, b10, b11, b12, _⟩ := hr.bounds
  unfold rulB speE plaE
  have d0 : w.cell? ⟨g, o, none⟩ = some (.int .i64 (l.getD 0 0)) := hcc 0 (by omega)
  have d1 := hcc 1 (by omega)
  have d2 := hcc 2 (by omega)
  have d3 := hcc 3 (by omega)
  have d4 := hcc 4 (by omega)
  have d6 := hcc 6 (by omega)
  have d10 := hcc 10 (by omega)
  have d11 := hcc 11 (by omega)
  have d12 := hcc 12 (by omega)
  generalize l.getD 0 0 = p0 at b0 d0 ⊢
  generalize l.getD 1 0 = p1 at b1 d1 ⊢
  generalize l.getD 2 0 = p2 at b2 d2 ⊢
  generalize l.getD 3 0 = p3 at b3 d3 ⊢
  generalize l.getD 4 0 = p4 at b4 d4 ⊢
  generalize l.getD 6 0 = p6 at b6 d6 ⊢
  generalize l.getD 10 0 = p10 at b10 d10 ⊢
  generalize l.getD 11 0 = p11 at b11 d11 ⊢
  generalize l.getD 12 0 = p12 at b12 d12 ⊢
  obtain ⟨x, hx⟩ : ∃ x, max p2 p4 = x := ⟨_, rfl⟩
  obtain ⟨y, hy⟩ : ∃ y, max p1 p3 = y := ⟨_, rfl⟩
  have hx0 : 0 ≤ x ∧ x ≤ 16 := by omega
  have hy0 : 0 ≤ y ∧ y ≤ 200 := by omega
  rw [hx, hy]
  have HM1 : Hid ((if p2 < p4 then p4 else p2) = x) := by show _ = _; rw [← hx]; split <;> omega
  have HM2 : Hid ((if p1 < p3 then p3 else p1) = y) := by show _ = _; rw [← hy]; split <;> omega
  clear hr hcc b5 b7 b8 b9 hl hg hv hx hy
  go_enter Try.func58, Try.ntmps58
  go_wp2_with fail
  go_quiet (fail)
  rw [HM1.out]
  obtain ⟨w1, HW1⟩ : ∃ w1, Hid (w.drewN nq = w1) := ⟨_, rfl⟩
  rw [← drewN_cell w nq] at d0 d1 d3 d6 d10 d11 d12
  rw [HW1.out] at d0 d1 d3 d6 d10 d11 d12 ⊢
  clear d2 d4
  go_wp2_with fail
  go_quiet (fail)
  rw [HM2.out]
  obtain ⟨w2, HW2⟩ : ∃ w2, Hid (w1.drewN nq = w2) := ⟨_, rfl⟩
  rw [← drewN_cell w1 nq] at d0 d1 d3 d6 d10 d11 d12
  rw [HW2.out] at d0 d1 d3 d6 d10 d11 d12 ⊢
  clear d1 d3 HM1 HM2 b1 b2 b3 b4
  have HEnd : Hid (∀ q, ∃ n, w2.drewN q = w.drewN n) := fun q => ⟨_, by rw [← HW2.out, ← HW1.out, drewN_drewN, drewN_drewN]⟩
  by_cases c1 : p0 + p6 + 2 * x + 4 ≤ 64
  · by_cases c2 : 8 * y + 100 ≤ p12
    · have HG : Hid ((decide (p0 + p6 + 2 * x + 4 ≤ 64) && (decide (8 * y + 100 ≤ p12) && decide (p11 ≤ p10))) = decide (p11 ≤ p10)) := by show _ = _; rw [decide_eq_true c1, decide_eq_true c2, Bool.true_and, Bool.true_and]
      have f1 := decide_eq_true c1
      have f2 := decide_eq_true c2
      clear c1 c2
      go_wp2_with fail
      go_quiet (fail)
      go_wp2_with fail
      go_ret
      exact ⟨ret_bool HG.out.symm, HEnd.out _⟩
    · have HG : Hid ((decide (p0 + p6 + 2 * x + 4 ≤ 64) && (decide (8 * y + 100 ≤ p12) && decide (p11 ≤ p10))) = false) := by show _ = _; rw [decide_eq_false c2, Bool.false_and, Bool.and_false]
      have f1 := decide_eq_true c1
      have f2 := decide_eq_false c2
      clear c1 c2
      go_wp2_with fail
      go_quiet (fail)
      go_wp2_with fail
      go_ret
      exact ⟨ret_bool HG.out.symm, HEnd.out _⟩
  · have HG : Hid ((decide (p0 + p6 + 2 * x + 4 ≤ 64) && (decide (8 * y + 100 ≤ p12) && decide (p11 ≤ p10))) = false) := by show _ = _; rw [decide_eq_false c1, Bool.false_and]
    have f1 := decide_eq_false c1
    clear c1
    go_wp2_with fail
    go_quiet (fail)
    go_wp2_with fail
    go_ret
    exact ⟨ret_bool HG.out.symm, HEnd.out _⟩
theorem lows_at (k : Nat) (hk : k < 24) (W : World) : Calls Try.prog 56 #[] W fun e w' => ∃ g2, e = .returned (.slice (some ⟨g2, 0, none⟩) 24 24) ∧ w'.cell? ⟨g2, k, none⟩ = some (.int .i64 (loL.getD k 0)) ∧ g2 < w'.heap.size ∧ Below W.heap.size W w' := by
  refine (lows_any W).mono ?_
  rintro e w' ⟨rfl, rfl⟩
  exact ⟨_, rfl, rowI_at k hk, by rw [size_alloc]; omega, below_alloc _ _⟩
theorem highs_at (k : Nat) (hk : k < 24) (W : World) : Calls Try.prog 57 #[] W fun e w' => ∃ g2, e = .returned (.slice (some ⟨g2, 0, none⟩) 24 24) ∧ w'.cell? ⟨g2, k, none⟩ = some (.int .i64 (hiL.getD k 0)) ∧ g2 < w'.heap.size ∧ Below W.heap.size W w' := by
  refine (highs_any W).mono ?_
  rintro e w' ⟨rfl, rfl⟩
  exact ⟨_, rfl, rowI_at k hk, by rw [size_alloc]; omega, below_alloc _ _⟩
set_option maxHeartbeats 4000000 in
theorem rcheck_any (l : List Int) (v : Value) (w : World) (hv : Ints w v l) : Calls Try.prog 38 #[v] w fun e w' => e = .returned (.int .i64 (chk l)) ∧ Below w.heap.size w w' := by
  by_cases hl : l.length = 24
  · have HV := hide hv
    have HT := hide (fun hr W hW => rules_any l hl hr v W hW)
    obtain ⟨g, o, cap, rfl, hg, hcc⟩ := hv.open24 hl
    have HC := hide hcc
    have HL := hide hl
    clear hcc hl hv
    go_enter Try.func38, Try.ntmps38
    go_wp2_with fail
    go_loopw [3] (fun i wx => ∃ k : Nat, k ≤ 24 ∧ i = .int .i64 k ∧ InR l k ∧ Below w.heap.size w wx) (fun i _ => 24 - (intOf i).toNat)
    case atStart => exact ⟨0, by omega, rfl, fun i h => absurd h (by omega), Below.refl _ _⟩
    case round =>
      obtain ⟨k, hk, rfl, hR, hB⟩ := hrel
      have HB := hide hB
      have HR := hide hR
      clear hR hB
      by_cases hlt : k < 24
      · have hvk := (HB.out.cell (p := ⟨g, o + k, none⟩) hg).trans (HC.out k hlt)
        have hs := HB.out.size
        have hgr : g < wr.heap.size := by omega
        have HLo := hide (lows_at k hlt)
        have HHi := hide (highs_at k hlt)
        obtain ⟨x, HX1⟩ : ∃ x, Hid (l.getD k 0 = x) := ⟨_, rfl⟩
        obtain ⟨a, HA⟩ : ∃ a, Hid (loL.getD k 0 = a) := ⟨_, rfl⟩
        obtain ⟨b, HBB⟩ : ∃ b, Hid (hiL.getD k 0 = b) := ⟨_, rfl⟩
        rw [HX1.out] at hvk
        rw [HA.out] at HLo
        rw [HBB.out] at HHi
        by_cases h1 : x < a
        · have HE : Hid (chk l = 5) := by
            show _ = _
            unfold chk
            rw [if_pos HL.out, if_neg]
            intro h
            have := (inRB_iff l).1 h k hlt
            rw [HX1.out, HA.out] at this
            omega
          have f1 := decide_eq_true h1
          clear h1 HC HV HHi
          go_wp2_with fail
          refine wp_region_held_drew (S := fun wx => wx.cell? ⟨g, o + k, none⟩ = some (.int .i64 x)) (by kernel_rfl) (by exact hvk) (fun hHeld => ?_)
          refine take_at (i := 0) (v := .slice (some ⟨g, o, none⟩) 24 cap) (d := some 11) rfl rfl (by kernel_rfl) (by kernel_rfl) (by kernel_rfl) (fun _ _ _ h => h) (Or.inl ⟨by rfl, fun w hSw => by (try dsimp only at hSw); go_simp⟩) (by assumption) ?_
          simp only [Act.put, List.setIfInBounds_toArray, List.set_cons_zero, List.set_cons_succ]
          refine take_at (i := 1) (v := .int .i64 k) (d := some 12) rfl rfl (by kernel_rfl) (by kernel_rfl) (by kernel_rfl) (fun _ _ _ h => h) (Or.inl ⟨by rfl, fun w hSw => by (try dsimp only at hSw); go_simp⟩) (by assumption) ?_
          simp only [Act.put, List.setIfInBounds_toArray, List.set_cons_zero, List.set_cons_succ]
          refine take_at (i := 2) (v := .pointer (some ⟨g, o + k, none⟩)) (d := some 13) rfl rfl (by kernel_rfl) (by kernel_rfl) (by kernel_rfl) (fun _ _ _ h => h) (Or.inl ⟨by rfl, fun w hSw => by (try dsimp only at hSw); go_simp⟩) (by assumption) ?_
          simp only [Act.put, List.setIfInBounds_toArray, List.set_cons_zero, List.set_cons_succ]
          refine take_at (i := 3) (v := .int .i64 x) (d := some 14) rfl rfl (by kernel_rfl) (by kernel_rfl) (by kernel_rfl) (fun _ _ _ h => h) (Or.inl ⟨by rfl, fun w hSw => by (try dsimp only at hSw); go_simp⟩) (by assumption) ?_
          simp only [Act.put, List.setIfInBounds_toArray, List.set_cons_zero, List.set_cons_succ]
          refine take_at (i := 5) (v := .int .i64 k) (d := some 16) rfl rfl (by kernel_rfl) (by kernel_rfl) (by kernel_rfl) (fun _ _ _ h => h) (Or.inl ⟨by rfl, fun w hSw => by (try dsimp only at hSw); go_simp⟩) (by assumption) ?_
          simp only [Act.put, List.setIfInBounds_toArray, List.set_cons_zero, List.set_cons_succ]
          refine wpAnyH_ready (rs := [4]) (by kernel_rfl) (by simp) ?_
          refine AllReadyH.cons rfl (fun K hK => ?_) AllReadyH.nil
          go_simp
          refine (HLo.out _).mono ?_
          rintro e w2 ⟨g2, rfl, hc2, hg2, hB2⟩
          replace hB2 := below_undrew hB2
          have hs2 := hB2.size
          have HB2 : Hid (Below w.heap.size w w2) := HB.out.trans (hB2.mono hs)
          have hv2 := (hB2.cell (p := ⟨g, o + k, none⟩) hgr).trans hvk
          clear hB2 hHeld
          refine hK.out _ _ hv2 (fun hHeld => ?_)
          clear hK K
          refine take_at (i := 6) (v := .pointer (some ⟨g2, k, none⟩)) (d := some 17) rfl rfl (by kernel_rfl) (by kernel_rfl) (by kernel_rfl) (fun _ _ _ h => h) (Or.inl ⟨by rfl, fun w hSw => by (try dsimp only at hSw); go_simp⟩) (by assumption) ?_
          simp only [Act.put, List.setIfInBounds_toArray, List.set_cons_zero, List.set_cons_succ]
          refine wpAnyH_ready (rs := [7]) (by kernel_rfl) (by simp) ?_
          refine AllReadyH.cons rfl (fun K hK => ?_) AllReadyH.nil
          go_simp
          refine hK.out _ _ hv2 (fun hHeld => ?_)
          clear hK K
          refine take_at (i := 8) (v := .bool true) (d := some 19) rfl rfl (by kernel_rfl) (by kernel_rfl) (by kernel_rfl) (fun _ _ _ h => h) (Or.inl ⟨by rfl, fun w hSw => by (try dsimp only at hSw); go_simp⟩) (by assumption) ?_
          simp only [Act.put, List.setIfInBounds_toArray, List.set_cons_zero, List.set_cons_succ]
          refine take_at (i := 9) (v := .bool true) (d := some 20) rfl rfl (by kernel_rfl) (by kernel_rfl) (by kernel_rfl) (fun _ _ _ h => h) (Or.inl ⟨by rfl, fun w hSw => by (try dsimp only at hSw); go_simp⟩) (by assumption) ?_
          simp only [Act.put, List.setIfInBounds_toArray, List.set_cons_zero, List.set_cons_succ]
          refine take_at (i := 10) (v := undef) (d := some 21) rfl rfl (by kernel_rfl) (by kernel_rfl) (by kernel_rfl) (fun _ _ _ h => h) (Or.inr ⟨by rfl, rfl⟩) (by assumption) ?_
          simp only [Act.put, List.setIfInBounds_toArray, List.set_cons_zero, List.set_cons_succ]
          refine take_at (i := 11) (v := undef) (d := some 22) rfl rfl (by kernel_rfl) (by kernel_rfl) (by kernel_rfl) (fun _ _ _ h => h) (Or.inr ⟨by rfl, rfl⟩) (by assumption) ?_
          simp only [Act.put, List.setIfInBounds_toArray, List.set_cons_zero, List.set_cons_succ]
          refine take_at (i := 12) (v := undef) (d := some 23) rfl rfl (by kernel_rfl) (by kernel_rfl) (by kernel_rfl) (fun _ _ _ h => h) (Or.inr ⟨by rfl, rfl⟩) (by assumption) ?_
          simp only [Act.put, List.setIfInBounds_toArray, List.set_cons_zero, List.set_cons_succ]
          refine take_at (i := 13) (v := undef) (d := some 24) rfl rfl (by kernel_rfl) (by kernel_rfl) (by kernel_rfl) (fun _ _ _ h => h) (Or.inr ⟨by rfl, rfl⟩) (by assumption) ?_
          simp only [Act.put, List.setIfInBounds_toArray, List.set_cons_zero, List.set_cons_succ]
          refine take_at (i := 14) (v := undef) (d := some 25) rfl rfl (by kernel_rfl) (by kernel_rfl) (by kernel_rfl) (fun _ _ _ h => h) (Or.inr ⟨by rfl, rfl⟩) (by assumption) ?_
          simp only [Act.put, List.setIfInBounds_toArray, List.set_cons_zero, List.set_cons_succ]
          refine take_at (i := 15) (v := undef) (d := some 26) rfl rfl (by kernel_rfl) (by kernel_rfl) (by kernel_rfl) (fun _ _ _ h => h) (Or.inr ⟨by rfl, rfl⟩) (by assumption) ?_
          simp only [Act.put, List.setIfInBounds_toArray, List.set_cons_zero, List.set_cons_succ]
          refine take_at (i := 16) (v := undef) (d := some 27) rfl rfl (by kernel_rfl) (by kernel_rfl) (by kernel_rfl) (fun _ _ _ h => h) (Or.inr ⟨by rfl, rfl⟩) (by assumption) ?_
          simp only [Act.put, List.setIfInBounds_toArray, List.set_cons_zero, List.set_cons_succ]
          refine take_at (i := 17) (v := undef) (d := some 28) rfl rfl (by kernel_rfl) (by kernel_rfl) (by kernel_rfl) (fun _ _ _ h => h) (Or.inr ⟨by rfl, rfl⟩) (by assumption) ?_
          simp only [Act.put, List.setIfInBounds_toArray, List.set_cons_zero, List.set_cons_succ]
          refine take_at (i := 18) (v := undef) (d := some 29) rfl rfl (by kernel_rfl) (by kernel_rfl) (by kernel_rfl) (fun _ _ _ h => h) (Or.inr ⟨by rfl, rfl⟩) (by assumption) ?_
          simp only [Act.put, List.setIfInBounds_toArray, List.set_cons_zero, List.set_cons_succ]
          refine take_at (i := 19) (v := .bool true) (d := some 30) rfl rfl (by kernel_rfl) (by kernel_rfl) (by kernel_rfl) (fun _ _ _ h => h) (Or.inl ⟨by rfl, fun w hSw => by (try dsimp only at hSw); go_simp⟩) (by assumption) ?_
          simp only [Act.put, List.setIfInBounds_toArray, List.set_cons_zero, List.set_cons_succ]
          refine wpAnyH_done (by kernel_rfl) ?_ _
          go_simp
          go_wp2_with fail
          go_ret
          exact ⟨ret_int HE.out.symm, HB2.out⟩
        · by_cases h2 : b < x
          · have HE : Hid (chk l = 5) := by
              show _ = _
              unfold chk
              rw [if_pos HL.out, if_neg]
              intro h
              have := (inRB_iff l).1 h k hlt
              rw [HX1.out, HBB.out] at this
              omega
            have f1 := decide_eq_false h1
            have f2 := decide_eq_true h2
            clear h1 h2 HC HV
            go_wp2_with fail
            refine wp_region_held_drew (S := fun wx => wx.cell? ⟨g, o + k, none⟩ = some (.int .i64 x)) (by kernel_rfl) (by exact hvk) (fun hHeld => ?_)
            refine take_at (i := 0) (v := .slice (some ⟨g, o, none⟩) 24 cap) (d := some 11) rfl rfl (by kernel_rfl) (by kernel_rfl) (by kernel_rfl) (fun _ _ _ h => h) (Or.inl ⟨by rfl, fun w hSw => by (try dsimp only at hSw); go_simp⟩) (by assumption) ?_
            simp only [Act.put, List.setIfInBounds_toArray, List.set_cons_zero, List.set_cons_succ]
            refine take_at (i := 1) (v := .int .i64 k) (d := some 12) rfl rfl (by kernel_rfl) (by kernel_rfl) (by kernel_rfl) (fun _ _ _ h => h) (Or.inl ⟨by rfl, fun w hSw => by (try dsimp only at hSw); go_simp⟩) (by assumption) ?_
            simp only [Act.put, List.setIfInBounds_toArray, List.set_cons_zero, List.set_cons_succ]
            refine take_at (i := 2) (v := .pointer (some ⟨g, o + k, none⟩)) (d := some 13) rfl rfl (by kernel_rfl) (by kernel_rfl) (by kernel_rfl) (fun _ _ _ h => h) (Or.inl ⟨by rfl, fun w hSw => by (try dsimp only at hSw); go_simp⟩) (by assumption) ?_
            simp only [Act.put, List.setIfInBounds_toArray, List.set_cons_zero, List.set_cons_succ]
            refine take_at (i := 3) (v := .int .i64 x) (d := some 14) rfl rfl (by kernel_rfl) (by kernel_rfl) (by kernel_rfl) (fun _ _ _ h => h) (Or.inl ⟨by rfl, fun w hSw => by (try dsimp only at hSw); go_simp⟩) (by assumption) ?_
            simp only [Act.put, List.setIfInBounds_toArray, List.set_cons_zero, List.set_cons_succ]
            refine take_at (i := 5) (v := .int .i64 k) (d := some 16) rfl rfl (by kernel_rfl) (by kernel_rfl) (by kernel_rfl) (fun _ _ _ h => h) (Or.inl ⟨by rfl, fun w hSw => by (try dsimp only at hSw); go_simp⟩) (by assumption) ?_
            simp only [Act.put, List.setIfInBounds_toArray, List.set_cons_zero, List.set_cons_succ]
            refine wpAnyH_ready (rs := [4]) (by kernel_rfl) (by simp) ?_
            refine AllReadyH.cons rfl (fun K hK => ?_) AllReadyH.nil
            go_simp
            refine (HLo.out _).mono ?_
            rintro e w2 ⟨g2, rfl, hc2, hg2, hB2⟩
            replace hB2 := below_undrew hB2
            have hs2 := hB2.size
            have HB2 : Hid (Below w.heap.size w w2) := HB.out.trans (hB2.mono hs)
            have hv2 := (hB2.cell (p := ⟨g, o + k, none⟩) hgr).trans hvk
            clear hB2 hHeld
            refine hK.out _ _ hv2 (fun hHeld => ?_)
            clear hK K
            refine take_at (i := 6) (v := .pointer (some ⟨g2, k, none⟩)) (d := some 17) rfl rfl (by kernel_rfl) (by kernel_rfl) (by kernel_rfl) (fun _ _ _ h => h) (Or.inl ⟨by rfl, fun w hSw => by (try dsimp only at hSw); go_simp⟩) (by assumption) ?_
            simp only [Act.put, List.setIfInBounds_toArray, List.set_cons_zero, List.set_cons_succ]
            refine wpAnyH_ready (rs := [7]) (by kernel_rfl) (by simp) ?_
            refine AllReadyH.cons rfl (fun K hK => ?_) AllReadyH.nil
            go_simp
            refine hK.out _ _ hv2 (fun hHeld => ?_)
            clear hK K
            refine take_at (i := 8) (v := .bool false) (d := some 19) rfl rfl (by kernel_rfl) (by kernel_rfl) (by kernel_rfl) (fun _ _ _ h => h) (Or.inl ⟨by rfl, fun w hSw => by (try dsimp only at hSw); go_simp⟩) (by assumption) ?_
            simp only [Act.put, List.setIfInBounds_toArray, List.set_cons_zero, List.set_cons_succ]
            refine take_at (i := 9) (v := .bool false) (d := some 20) rfl rfl (by kernel_rfl) (by kernel_rfl) (by kernel_rfl) (fun _ _ _ h => h) (Or.inl ⟨by rfl, fun w hSw => by (try dsimp only at hSw); go_simp⟩) (by assumption) ?_
            simp only [Act.put, List.setIfInBounds_toArray, List.set_cons_zero, List.set_cons_succ]
            refine take_at (i := 10) (v := .slice (some ⟨g, o, none⟩) 24 cap) (d := some 21) rfl rfl (by kernel_rfl) (by kernel_rfl) (by kernel_rfl) (fun _ _ _ h => h) (Or.inl ⟨by rfl, fun w hSw => by (try dsimp only at hSw); go_simp⟩) (by assumption) ?_
            simp only [Act.put, List.setIfInBounds_toArray, List.set_cons_zero, List.set_cons_succ]
            refine take_at (i := 11) (v := .int .i64 k) (d := some 22) rfl rfl (by kernel_rfl) (by kernel_rfl) (by kernel_rfl) (fun _ _ _ h => h) (Or.inl ⟨by rfl, fun w hSw => by (try dsimp only at hSw); go_simp⟩) (by assumption) ?_
            simp only [Act.put, List.setIfInBounds_toArray, List.set_cons_zero, List.set_cons_succ]
            refine take_at (i := 12) (v := .pointer (some ⟨g, o + k, none⟩)) (d := some 23) rfl rfl (by kernel_rfl) (by kernel_rfl) (by kernel_rfl) (fun _ _ _ h => h) (Or.inl ⟨by rfl, fun w hSw => by (try dsimp only at hSw); go_simp⟩) (by assumption) ?_
            simp only [Act.put, List.setIfInBounds_toArray, List.set_cons_zero, List.set_cons_succ]
            refine take_at (i := 13) (v := .int .i64 x) (d := some 24) rfl rfl (by kernel_rfl) (by kernel_rfl) (by kernel_rfl) (fun _ _ _ h => h) (Or.inl ⟨by rfl, fun w hSw => by (try dsimp only at hSw); go_simp⟩) (by assumption) ?_
            simp only [Act.put, List.setIfInBounds_toArray, List.set_cons_zero, List.set_cons_succ]
            refine take_at (i := 15) (v := .int .i64 k) (d := some 26) rfl rfl (by kernel_rfl) (by kernel_rfl) (by kernel_rfl) (fun _ _ _ h => h) (Or.inl ⟨by rfl, fun w hSw => by (try dsimp only at hSw); go_simp⟩) (by assumption) ?_
            simp only [Act.put, List.setIfInBounds_toArray, List.set_cons_zero, List.set_cons_succ]
            refine wpAnyH_ready (rs := [14]) (by kernel_rfl) (by simp) ?_
            refine AllReadyH.cons rfl (fun K hK => ?_) AllReadyH.nil
            go_simp
            refine (HHi.out _).mono ?_
            rintro e w3 ⟨g3, rfl, hc3, hg3, hB3⟩
            have HB3 : Hid (Below w.heap.size w w3) := HB2.out.trans (hB3.mono (by omega))
            have hv3 := (hB3.cell (p := ⟨g, o + k, none⟩) (show g < _ by omega)).trans hv2
            clear hB3 hHeld
            refine hK.out _ _ hv3 (fun hHeld => ?_)
            clear hK K
            refine take_at (i := 16) (v := .pointer (some ⟨g3, k, none⟩)) (d := some 27) rfl rfl (by kernel_rfl) (by kernel_rfl) (by kernel_rfl) (fun _ _ _ h => h) (Or.inl ⟨by rfl, fun w hSw => by (try dsimp only at hSw); go_simp⟩) (by assumption) ?_
            simp only [Act.put, List.setIfInBounds_toArray, List.set_cons_zero, List.set_cons_succ]
            refine wpAnyH_ready (rs := [17]) (by kernel_rfl) (by simp) ?_
            refine AllReadyH.cons rfl (fun K hK => ?_) AllReadyH.nil
            go_simp
            refine hK.out _ _ hv3 (fun hHeld => ?_)
            clear hK K
            refine take_at (i := 18) (v := .bool true) (d := some 29) rfl rfl (by kernel_rfl) (by kernel_rfl) (by kernel_rfl) (fun _ _ _ h => h) (Or.inl ⟨by rfl, fun w hSw => by (try dsimp only at hSw); go_simp⟩) (by assumption) ?_
            simp only [Act.put, List.setIfInBounds_toArray, List.set_cons_zero, List.set_cons_succ]
            refine take_at (i := 19) (v := .bool true) (d := some 30) rfl rfl (by kernel_rfl) (by kernel_rfl) (by kernel_rfl) (fun _ _ _ h => h) (Or.inl ⟨by rfl, fun w hSw => by (try dsimp only at hSw); go_simp⟩) (by assumption) ?_
            simp only [Act.put, List.setIfInBounds_toArray, List.set_cons_zero, List.set_cons_succ]
            refine wpAnyH_done (by kernel_rfl) ?_ _
            go_simp
            go_wp2_with fail
            go_ret
            exact ⟨ret_int HE.out.symm, HB3.out⟩
          · have HR2 : Hid (InR l (k + 1)) := HR.out.succ (by rw [HX1.out, HA.out]; omega) (by rw [HX1.out, HBB.out]; omega)
            have f1 := decide_eq_false h1
            have f2 := decide_eq_false h2
            clear h1 h2 HC HV
            go_wp2_with fail
            refine wp_region_held_drew (S := fun wx => wx.cell? ⟨g, o + k, none⟩ = some (.int .i64 x)) (by kernel_rfl) (by exact hvk) (fun hHeld => ?_)
            refine take_at (i := 0) (v := .slice (some ⟨g, o, none⟩) 24 cap) (d := some 11) rfl rfl (by kernel_rfl) (by kernel_rfl) (by kernel_rfl) (fun _ _ _ h => h) (Or.inl ⟨by rfl, fun w hSw => by (try dsimp only at hSw); go_simp⟩) (by assumption) ?_
            simp only [Act.put, List.setIfInBounds_toArray, List.set_cons_zero, List.set_cons_succ]
            refine take_at (i := 1) (v := .int .i64 k) (d := some 12) rfl rfl (by kernel_rfl) (by kernel_rfl) (by kernel_rfl) (fun _ _ _ h => h) (Or.inl ⟨by rfl, fun w hSw => by (try dsimp only at hSw); go_simp⟩) (by assumption) ?_
            simp only [Act.put, List.setIfInBounds_toArray, List.set_cons_zero, List.set_cons_succ]
            refine take_at (i := 2) (v := .pointer (some ⟨g, o + k, none⟩)) (d := some 13) rfl rfl (by kernel_rfl) (by kernel_rfl) (by kernel_rfl) (fun _ _ _ h => h) (Or.inl ⟨by rfl, fun w hSw => by (try dsimp only at hSw); go_simp⟩) (by assumption) ?_
            simp only [Act.put, List.setIfInBounds_toArray, List.set_cons_zero, List.set_cons_succ]
            refine take_at (i := 3) (v := .int .i64 x) (d := some 14) rfl rfl (by kernel_rfl) (by kernel_rfl) (by kernel_rfl) (fun _ _ _ h => h) (Or.inl ⟨by rfl, fun w hSw => by (try dsimp only at hSw); go_simp⟩) (by assumption) ?_
            simp only [Act.put, List.setIfInBounds_toArray, List.set_cons_zero, List.set_cons_succ]
            refine take_at (i := 5) (v := .int .i64 k) (d := some 16) rfl rfl (by kernel_rfl) (by kernel_rfl) (by kernel_rfl) (fun _ _ _ h => h) (Or.inl ⟨by rfl, fun w hSw => by (try dsimp only at hSw); go_simp⟩) (by assumption) ?_
            simp only [Act.put, List.setIfInBounds_toArray, List.set_cons_zero, List.set_cons_succ]
            refine wpAnyH_ready (rs := [4]) (by kernel_rfl) (by simp) ?_
            refine AllReadyH.cons rfl (fun K hK => ?_) AllReadyH.nil
            go_simp
            refine (HLo.out _).mono ?_
            rintro e w2 ⟨g2, rfl, hc2, hg2, hB2⟩
            replace hB2 := below_undrew hB2
            have hs2 := hB2.size
            have HB2 : Hid (Below w.heap.size w w2) := HB.out.trans (hB2.mono hs)
            have hv2 := (hB2.cell (p := ⟨g, o + k, none⟩) hgr).trans hvk
            clear hB2 hHeld
            refine hK.out _ _ hv2 (fun hHeld => ?_)
            clear hK K
            refine take_at (i := 6) (v := .pointer (some ⟨g2, k, none⟩)) (d := some 17) rfl rfl (by kernel_rfl) (by kernel_rfl) (by kernel_rfl) (fun _ _ _ h => h) (Or.inl ⟨by rfl, fun w hSw => by (try dsimp only at hSw); go_simp⟩) (by assumption) ?_
            simp only [Act.put, List.setIfInBounds_toArray, List.set_cons_zero, List.set_cons_succ]
            refine wpAnyH_ready (rs := [7]) (by kernel_rfl) (by simp) ?_
            refine AllReadyH.cons rfl (fun K hK => ?_) AllReadyH.nil
            go_simp
            refine hK.out _ _ hv2 (fun hHeld => ?_)
            clear hK K
            refine take_at (i := 8) (v := .bool false) (d := some 19) rfl rfl (by kernel_rfl) (by kernel_rfl) (by kernel_rfl) (fun _ _ _ h => h) (Or.inl ⟨by rfl, fun w hSw => by (try dsimp only at hSw); go_simp⟩) (by assumption) ?_
            simp only [Act.put, List.setIfInBounds_toArray, List.set_cons_zero, List.set_cons_succ]
            refine take_at (i := 9) (v := .bool false) (d := some 20) rfl rfl (by kernel_rfl) (by kernel_rfl) (by kernel_rfl) (fun _ _ _ h => h) (Or.inl ⟨by rfl, fun w hSw => by (try dsimp only at hSw); go_simp⟩) (by assumption) ?_
            simp only [Act.put, List.setIfInBounds_toArray, List.set_cons_zero, List.set_cons_succ]
            refine take_at (i := 10) (v := .slice (some ⟨g, o, none⟩) 24 cap) (d := some 21) rfl rfl (by kernel_rfl) (by kernel_rfl) (by kernel_rfl) (fun _ _ _ h => h) (Or.inl ⟨by rfl, fun w hSw => by (try dsimp only at hSw); go_simp⟩) (by assumption) ?_
            simp only [Act.put, List.setIfInBounds_toArray, List.set_cons_zero, List.set_cons_succ]
            refine take_at (i := 11) (v := .int .i64 k) (d := some 22) rfl rfl (by kernel_rfl) (by kernel_rfl) (by kernel_rfl) (fun _ _ _ h => h) (Or.inl ⟨by rfl, fun w hSw => by (try dsimp only at hSw); go_simp⟩) (by assumption) ?_
            simp only [Act.put, List.setIfInBounds_toArray, List.set_cons_zero, List.set_cons_succ]
            refine take_at (i := 12) (v := .pointer (some ⟨g, o + k, none⟩)) (d := some 23) rfl rfl (by kernel_rfl) (by kernel_rfl) (by kernel_rfl) (fun _ _ _ h => h) (Or.inl ⟨by rfl, fun w hSw => by (try dsimp only at hSw); go_simp⟩) (by assumption) ?_
            simp only [Act.put, List.setIfInBounds_toArray, List.set_cons_zero, List.set_cons_succ]
            refine take_at (i := 13) (v := .int .i64 x) (d := some 24) rfl rfl (by kernel_rfl) (by kernel_rfl) (by kernel_rfl) (fun _ _ _ h => h) (Or.inl ⟨by rfl, fun w hSw => by (try dsimp only at hSw); go_simp⟩) (by assumption) ?_
            simp only [Act.put, List.setIfInBounds_toArray, List.set_cons_zero, List.set_cons_succ]
            refine take_at (i := 15) (v := .int .i64 k) (d := some 26) rfl rfl (by kernel_rfl) (by kernel_rfl) (by kernel_rfl) (fun _ _ _ h => h) (Or.inl ⟨by rfl, fun w hSw => by (try dsimp only at hSw); go_simp⟩) (by assumption) ?_
            simp only [Act.put, List.setIfInBounds_toArray, List.set_cons_zero, List.set_cons_succ]
            refine wpAnyH_ready (rs := [14]) (by kernel_rfl) (by simp) ?_
            refine AllReadyH.cons rfl (fun K hK => ?_) AllReadyH.nil
            go_simp
            refine (HHi.out _).mono ?_
            rintro e w3 ⟨g3, rfl, hc3, hg3, hB3⟩
            have HB3 : Hid (Below w.heap.size w w3) := HB2.out.trans (hB3.mono (by omega))
            have hv3 := (hB3.cell (p := ⟨g, o + k, none⟩) (show g < _ by omega)).trans hv2
            clear hB3 hHeld
            refine hK.out _ _ hv3 (fun hHeld => ?_)
            clear hK K
            refine take_at (i := 16) (v := .pointer (some ⟨g3, k, none⟩)) (d := some 27) rfl rfl (by kernel_rfl) (by kernel_rfl) (by kernel_rfl) (fun _ _ _ h => h) (Or.inl ⟨by rfl, fun w hSw => by (try dsimp only at hSw); go_simp⟩) (by assumption) ?_
            simp only [Act.put, List.setIfInBounds_toArray, List.set_cons_zero, List.set_cons_succ]
            refine wpAnyH_ready (rs := [17]) (by kernel_rfl) (by simp) ?_
            refine AllReadyH.cons rfl (fun K hK => ?_) AllReadyH.nil
            go_simp
            refine hK.out _ _ hv3 (fun hHeld => ?_)
            clear hK K
            refine take_at (i := 18) (v := .bool false) (d := some 29) rfl rfl (by kernel_rfl) (by kernel_rfl) (by kernel_rfl) (fun _ _ _ h => h) (Or.inl ⟨by rfl, fun w hSw => by (try dsimp only at hSw); go_simp⟩) (by assumption) ?_
            simp only [Act.put, List.setIfInBounds_toArray, List.set_cons_zero, List.set_cons_succ]
            refine take_at (i := 19) (v := .bool false) (d := some 30) rfl rfl (by kernel_rfl) (by kernel_rfl) (by kernel_rfl) (fun _ _ _ h => h) (Or.inl ⟨by rfl, fun w hSw => by (try dsimp only at hSw); go_simp⟩) (by assumption) ?_
            simp only [Act.put, List.setIfInBounds_toArray, List.set_cons_zero, List.set_cons_succ]
            refine wpAnyH_done (by kernel_rfl) ?_ _
            go_simp
            go_wp2_with fail
            go_roundw
            case rel => exact ⟨k + 1, by omega, by go_num, HR2.out, HB3.out⟩
            case measure => simp [intOf]; omega
      · obtain rfl : k = 24 := by omega
        have HTT := fun W hW => hide (HT.out HR.out W hW)
        have HVr := hide (HV.out.below HB.out)
        have HE : Hid (∀ r, rulB l = r → chk l = if r = true then 0 else 80) := by
          intro r hr
          unfold chk
          rw [if_pos HL.out, if_pos ((inRB_iff l).2 HR.out), hr]
        generalize rulB l = r at HTT HE
        have HE2 := hide (HE.out r rfl)
        clear HE HT HC
        go_wp2_with fail
        refine (HTT _ HVr.out).out.mono ?_
        rintro e w2 ⟨rfl, q, rfl⟩
        have HB3 := hide (below_drewN HB.out q)
        cases r
        · go_wp2_with fail
          go_ret
          exact ⟨ret_int HE2.out.symm, HB3.out⟩
        · go_wp2_with fail
          go_ret
          exact ⟨ret_int HE2.out.symm, HB3.out⟩
  · have e : chk l = 3 := by unfold chk; rw [if_neg hl]
    rw [e]
    obtain ⟨a, cap, rfl, _⟩ := hv
    have hne : ((l.length : Int) != 24) = true := by simp; omega
    generalize l.length = n at hne ⊢
    clear hl e
    go_enter Try.func38, Try.ntmps38
    go_wp2_with fail
    go_ret
    exact ⟨rfl, Below.refl _ _⟩
end Go.Proofs.Ytnofpcoohbmnpaa
