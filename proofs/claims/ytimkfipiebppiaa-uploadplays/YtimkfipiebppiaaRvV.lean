/- The document's desk: Tick. Written by mk_rv5.py. -/
import Derived.Test.YtimkfipiebppiaaRvW
import Derived.Test.YtimkfipiebppiaaPlusAny
import Derived.Test.YtimkfipiebppiaaGn4
namespace Go.Proofs.Ytimkfipiebppiaa
open Go.RowKit Go.Great

/-- a variable that holds a whole number -/
structure WV (w : World) (g : Nat) (s : Bool) (p : Option Addr) (l c : Nat) (x : Int) (L : Nat) : Prop where
  b : Blk w g #[.bool s, .slice p l c] 87
  w : Whole w (.agg #[.bool s, .slice p l c]) x L
theorem WV.after {w w' : World} {g : Nat} {s : Bool} {p : Option Addr} {l c : Nat} {x : Int} {L : Nat} (h : WV w g s p l c x L) (hb : Below w.heap.size w w') : WV w' g s p l c x L := ⟨h.b.after hb, h.w.below hb⟩
theorem WV.cells {w : World} {g : Nat} {s : Bool} {p : Option Addr} {l c : Nat} {x : Int} {L : Nat} (h : WV w g s p l c x L) : w.cell? ⟨g, 0, none⟩ = some (.bool s) ∧ w.cell? ⟨g, 1, none⟩ = some (.slice p l c) := ⟨h.b.cell 0 rfl, h.b.cell 1 rfl⟩
theorem WV.set {w : World} {z : Nat} {s : Bool} {p : Option Addr} {l c : Nat} {x : Int} {L : Nat} (h : Whole w (.agg #[.bool s, .slice p l c]) x L) (hz : Blk w z #[.bool false, .slice none 0 0] 87) : WV ((w.setCell ⟨z, 0, none⟩ (.bool s)).setCell ⟨z, 1, none⟩ (.slice p l c)) z s p l c x L := ⟨hz.set2 _ _, whole_set h (hz.cell 0 rfl) (hz.cell 1 rfl) _ _⟩
theorem cmp_200 (a : Int) : decide (cmpI a 200 < 0) = decide (a < 200) := by
  rw [decide_eq_decide]; unfold cmpI; split
  · omega
  · split <;> omega
set_option maxRecDepth 100000 in
set_option maxHeartbeats 4000000 in
theorem tickR_any (w : World) (b X : Nat) (wh ms : Int) (l : Ls) (v : Value) (us : List Value) (h : RDv w b X wh ms l v us) (hl : LOk ms l) (now : Int) (hnow : I64 now) : Calls Try.prog 31 #[dP X, .int .i64 now] w (XEnd w b X wh ms v (tickS wh l now)) := by
  have HD := hide h
  obtain ⟨a, c, rfl⟩ := h.shape
  have c2 : w.cell? ⟨X, 2, none⟩ = some (.int .i64 (stI l)) := h.B.cell 2 rfl
  have HX5 : Hid (∀ W, Below w.heap.size w W → W.cell? ⟨X, 5, none⟩ = some (.int .i64 l.he)) := hide (fun W hb => (h.B.after hb).cell 5 rfl)
  have HE : Hid (tickS wh l now = if tkB l = false ∨ ltB l.he now = false then (l, none) else if l.ag = 5 then dropS wh 210 else askS wh ⟨l.cn, now, l.ag + 1, l.rw⟩) := hide rfl
  have Hno := hide hnow
  have Hhe := hide hl.e
  have H2 : Hid (I64 200) := hide (by unfold I64; omega)
  have Hag := hide hl.a
  clear h hnow
  by_cases ht : tkB l = true
  · rw [stI_tk ht] at c2
    have HT := hide ht
    have Hhd : Hid (l.hd = (l.rw.length : Int)) := hide rfl
    clear ht hl
    generalize l.rw.length = rl at *
    have Hb : Hid (Below w.heap.size w w) := hide (Below.refl _ _)
    go_enter Try.func31, Try.ntmps31
    go_upto_region 3 with fail
    go_cut [5] (fun vv wx => ∃ (g : Nat) (s' : Bool) (p' : Option Addr) (l' c' : Nat), vv = .pointer (some ⟨g, 0, none⟩) ∧ WV wx g s' p' l' c' (now - l.he) 4 ∧ Below w.heap.size w wx)
    case first =>
      refine reg_last_held (fun wx => wx.cell? ⟨X, 5, none⟩ = some (.int .i64 l.he)) 9 rfl rfl _ rfl (by kernel_rfl) (by kernel_rfl) (HX5.out _ (by first | exact Hb.out | exact Hb.out.drew)) (fun hHeld => ?_)
      simp only [List.take_succ_cons, List.take_zero]
      replace Hb := hide (below_next Hb.out (Nat.le_refl _) (below_drewN (Below.refl _ _) 1))
      rw [show w.drewN 1 = w.drew from rfl] at *
      generalize w.drew = Wd at *
      refine take_at (i := 0) (v := .int .i64 now) (d := some 11) rfl rfl (by kernel_rfl) (by kernel_rfl) (by kernel_rfl) (fun _ _ _ h => h) (Or.inl ⟨by rfl, fun wS hS0 => by go_simp⟩) (by assumption) ?_
      simp only [Act.put, List.setIfInBounds_toArray, List.set_cons_zero, List.set_cons_succ]
      refine take_at (i := 2) (v := dP X) (d := some 13) rfl rfl (by kernel_rfl) (by kernel_rfl) (by kernel_rfl) (fun _ _ _ h => h) (Or.inl ⟨by rfl, fun wS hS0 => by go_simp⟩) (by assumption) ?_
      simp only [Act.put, List.setIfInBounds_toArray, List.set_cons_zero, List.set_cons_succ]
      refine take_at (i := 3) (v := dP X) (d := some 14) rfl rfl (by kernel_rfl) (by kernel_rfl) (by kernel_rfl) (fun _ _ _ h => h) (Or.inl ⟨by rfl, fun wS hS0 => by go_simp⟩) (by assumption) ?_
      simp only [Act.put, List.setIfInBounds_toArray, List.set_cons_zero, List.set_cons_succ]
      refine take_at (i := 4) (v := .pointer (some ⟨X, 5, none⟩)) (d := some 15) rfl rfl (by kernel_rfl) (by kernel_rfl) (by kernel_rfl) (fun _ _ _ h => h) (Or.inl ⟨by rfl, fun wS hS0 => by go_simp⟩) (by assumption) ?_
      simp only [Act.put, List.setIfInBounds_toArray, List.set_cons_zero, List.set_cons_succ]
      refine take_at (i := 5) (v := .int .i64 l.he) (d := some 16) rfl rfl (by kernel_rfl) (by kernel_rfl) (by kernel_rfl) (fun _ _ _ h => h) (Or.inl ⟨by rfl, fun wS hS0 => by go_simp⟩) (by assumption) ?_
      simp only [Act.put, List.setIfInBounds_toArray, List.set_cons_zero, List.set_cons_succ]
      clear hHeld
      refine wpAnyH_ready (rs := [1, 8]) (by kernel_rfl) (by simp) ?_
      refine AllReadyH.cons rfl (fun K hK => ?_) (AllReadyH.cons rfl (fun K hK => ?_) AllReadyH.nil)
      · go_simp
        refine (of_any now _ Hno.out).mono ?_
        rintro e wt1 ⟨v1, rfl, hb, k1⟩
        obtain ⟨s1, p1, l1, c1, rfl⟩ := whole_agg k1

        replace Hb := hide (below_next Hb.out (Nat.le_refl _) hb)
        have K1 := hide k1
        clear k1
        clear hb
        refine hK.out _ _ (HX5.out _ (by first | exact Hb.out | exact Hb.out.drew)) (fun hHeld => ?_)
        clear hK K
        clear hHeld
        refine wpAnyH_ready (rs := [6, 8]) (by kernel_rfl) (by simp) ?_
        refine AllReadyH.cons rfl (fun K hK => ?_) (AllReadyH.cons rfl (fun K hK => ?_) AllReadyH.nil)
        · go_simp
          refine (of_any l.he _ Hhe.out).mono ?_
          rintro e wt2 ⟨v2, rfl, hb, k2⟩
          obtain ⟨s2, p2, l2, c2, rfl⟩ := whole_agg k2

          replace Hb := hide (below_next Hb.out (Nat.le_refl _) hb)
          replace K1 := hide (K1.out.below hb)
          have K2 := hide k2
          clear k2
          clear hb
          refine hK.out _ _ (HX5.out _ (by first | exact Hb.out | exact Hb.out.drew)) (fun hHeld => ?_)
          clear hK K
          clear hHeld
          refine wpAnyH_ready (rs := [7, 8]) (by kernel_rfl) (by simp) ?_
          refine AllReadyH.cons rfl (fun K hK => ?_) (AllReadyH.cons rfl (fun K hK => ?_) AllReadyH.nil)
          · go_simp
            refine (minus_any _ _ now l.he 3 3 4 _ K1.out K2.out (by omega) (by omega) (by omega)).mono ?_
            rintro e wt3 ⟨v3, rfl, hb, k3⟩
            obtain ⟨s3, p3, l3, c3, rfl⟩ := whole_agg k3

            replace Hb := hide (below_next Hb.out (Nat.le_refl _) hb)
            replace K1 := hide (K1.out.below hb)
            replace K2 := hide (K2.out.below hb)
            have K3 := hide k3
            clear k3
            clear hb
            refine hK.out _ _ (HX5.out _ (by first | exact Hb.out | exact Hb.out.drew)) (fun hHeld => ?_)
            clear hK K
            clear hHeld
            refine wpAnyH_ready (rs := [8]) (by kernel_rfl) (by simp) ?_
            refine AllReadyH.cons rfl (fun K hK => ?_) AllReadyH.nil
            go_simp
            have HZ := hide (Blk.new wt3 #[.bool false, .slice none 0 0] 87)
            have hzb := Hb.out.size
            replace Hb := hide (below_next Hb.out (Nat.le_refl _) (below_alloc wt3 (.cells #[.bool false, .slice none 0 0] 87)))
            replace K1 := hide (K1.out.below (below_alloc wt3 (.cells #[.bool false, .slice none 0 0] 87)))
            replace K2 := hide (K2.out.below (below_alloc wt3 (.cells #[.bool false, .slice none 0 0] 87)))
            replace K3 := hide (K3.out.below (below_alloc wt3 (.cells #[.bool false, .slice none 0 0] 87)))
            generalize wt3.heap.size = bz at *
            generalize wt3.alloc (.cells #[.bool false, .slice none 0 0] 87) = wt4 at *
            refine hK.out _ _ (HX5.out _ (by first | exact Hb.out | exact Hb.out.drew)) (fun hHeld => ?_)
            clear hK K
            clear hHeld
            refine wpAnyH_done (by kernel_rfl) (then_last ?_) _
            obtain ⟨z0, z1⟩ : wt4.cell? ⟨bz, 0, none⟩ = some (.bool false) ∧ wt4.cell? ⟨bz, 1, none⟩ = some (.slice none 0 0) := ⟨HZ.out.cell 0 rfl, HZ.out.cell 1 rfl⟩
            have f0 := HZ.out.frozen 0
            have f1 := HZ.out.frozen 1
            go_simp
            (try go_wp2_with fail)
            go_meet
            exact ⟨bz, s3, p3, l3, c3, rfl, WV.set K3.out HZ.out, below_set2 Hb.out hzb _ _⟩
          · go_simp
            have HZ := hide (Blk.new wt2 #[.bool false, .slice none 0 0] 87)
            have hzb := Hb.out.size
            replace Hb := hide (below_next Hb.out (Nat.le_refl _) (below_alloc wt2 (.cells #[.bool false, .slice none 0 0] 87)))
            replace K1 := hide (K1.out.below (below_alloc wt2 (.cells #[.bool false, .slice none 0 0] 87)))
            replace K2 := hide (K2.out.below (below_alloc wt2 (.cells #[.bool false, .slice none 0 0] 87)))
            generalize wt2.heap.size = bz at *
            generalize wt2.alloc (.cells #[.bool false, .slice none 0 0] 87) = wt5 at *
            refine hK.out _ _ (HX5.out _ (by first | exact Hb.out | exact Hb.out.drew)) (fun hHeld => ?_)
            clear hK K
            clear hHeld
            refine wpAnyH_ready (rs := [7]) (by kernel_rfl) (by simp) ?_
            refine AllReadyH.cons rfl (fun K hK => ?_) AllReadyH.nil
            go_simp
            refine (minus_any _ _ now l.he 3 3 4 _ K1.out K2.out (by omega) (by omega) (by omega)).mono ?_
            rintro e wt6 ⟨v3, rfl, hb, k3⟩
            obtain ⟨s3, p3, l3, c3, rfl⟩ := whole_agg k3

            replace Hb := hide (below_next Hb.out (Nat.le_refl _) hb)
            replace K1 := hide (K1.out.below hb)
            replace K2 := hide (K2.out.below hb)
            replace HZ := hide (HZ.out.after hb)
            have K3 := hide k3
            clear k3
            clear hb
            refine hK.out _ _ (HX5.out _ (by first | exact Hb.out | exact Hb.out.drew)) (fun hHeld => ?_)
            clear hK K
            clear hHeld
            refine wpAnyH_done (by kernel_rfl) (then_last ?_) _
            obtain ⟨z0, z1⟩ : wt6.cell? ⟨bz, 0, none⟩ = some (.bool false) ∧ wt6.cell? ⟨bz, 1, none⟩ = some (.slice none 0 0) := ⟨HZ.out.cell 0 rfl, HZ.out.cell 1 rfl⟩
            have f0 := HZ.out.frozen 0
            have f1 := HZ.out.frozen 1
            go_simp
            (try go_wp2_with fail)
            go_meet
            exact ⟨bz, s3, p3, l3, c3, rfl, WV.set K3.out HZ.out, below_set2 Hb.out hzb _ _⟩
        · go_simp
          have HZ := hide (Blk.new wt1 #[.bool false, .slice none 0 0] 87)
          have hzb := Hb.out.size
          replace Hb := hide (below_next Hb.out (Nat.le_refl _) (below_alloc wt1 (.cells #[.bool false, .slice none 0 0] 87)))
          replace K1 := hide (K1.out.below (below_alloc wt1 (.cells #[.bool false, .slice none 0 0] 87)))
          generalize wt1.heap.size = bz at *
          generalize wt1.alloc (.cells #[.bool false, .slice none 0 0] 87) = wt7 at *
          refine hK.out _ _ (HX5.out _ (by first | exact Hb.out | exact Hb.out.drew)) (fun hHeld => ?_)
          clear hK K
          clear hHeld
          refine wpAnyH_ready (rs := [6]) (by kernel_rfl) (by simp) ?_
          refine AllReadyH.cons rfl (fun K hK => ?_) AllReadyH.nil
          go_simp
          refine (of_any l.he _ Hhe.out).mono ?_
          rintro e wt8 ⟨v2, rfl, hb, k2⟩
          obtain ⟨s2, p2, l2, c2, rfl⟩ := whole_agg k2

          replace Hb := hide (below_next Hb.out (Nat.le_refl _) hb)
          replace K1 := hide (K1.out.below hb)
          replace HZ := hide (HZ.out.after hb)
          have K2 := hide k2
          clear k2
          clear hb
          refine hK.out _ _ (HX5.out _ (by first | exact Hb.out | exact Hb.out.drew)) (fun hHeld => ?_)
          clear hK K
          clear hHeld
          refine wpAnyH_ready (rs := [7]) (by kernel_rfl) (by simp) ?_
          refine AllReadyH.cons rfl (fun K hK => ?_) AllReadyH.nil
          go_simp
          refine (minus_any _ _ now l.he 3 3 4 _ K1.out K2.out (by omega) (by omega) (by omega)).mono ?_
          rintro e wt9 ⟨v3, rfl, hb, k3⟩
          obtain ⟨s3, p3, l3, c3, rfl⟩ := whole_agg k3

          replace Hb := hide (below_next Hb.out (Nat.le_refl _) hb)
          replace K1 := hide (K1.out.below hb)
          replace K2 := hide (K2.out.below hb)
          replace HZ := hide (HZ.out.after hb)
          have K3 := hide k3
          clear k3
          clear hb
          refine hK.out _ _ (HX5.out _ (by first | exact Hb.out | exact Hb.out.drew)) (fun hHeld => ?_)
          clear hK K
          clear hHeld
          refine wpAnyH_done (by kernel_rfl) (then_last ?_) _
          obtain ⟨z0, z1⟩ : wt9.cell? ⟨bz, 0, none⟩ = some (.bool false) ∧ wt9.cell? ⟨bz, 1, none⟩ = some (.slice none 0 0) := ⟨HZ.out.cell 0 rfl, HZ.out.cell 1 rfl⟩
          have f0 := HZ.out.frozen 0
          have f1 := HZ.out.frozen 1
          go_simp
          (try go_wp2_with fail)
          go_meet
          exact ⟨bz, s3, p3, l3, c3, rfl, WV.set K3.out HZ.out, below_set2 Hb.out hzb _ _⟩
      · go_simp
        have HZ := hide (Blk.new Wd #[.bool false, .slice none 0 0] 87)
        have hzb := Hb.out.size
        replace Hb := hide (below_next Hb.out (Nat.le_refl _) (below_alloc Wd (.cells #[.bool false, .slice none 0 0] 87)))
        generalize Wd.heap.size = bz at *
        generalize Wd.alloc (.cells #[.bool false, .slice none 0 0] 87) = wt10 at *
        refine hK.out _ _ (HX5.out _ (by first | exact Hb.out | exact Hb.out.drew)) (fun hHeld => ?_)
        clear hK K
        clear hHeld
        refine wpAnyH_ready (rs := [1]) (by kernel_rfl) (by simp) ?_
        refine AllReadyH.cons rfl (fun K hK => ?_) AllReadyH.nil
        go_simp
        refine (of_any now _ Hno.out).mono ?_
        rintro e wt11 ⟨v1, rfl, hb, k1⟩
        obtain ⟨s1, p1, l1, c1, rfl⟩ := whole_agg k1

        replace Hb := hide (below_next Hb.out (Nat.le_refl _) hb)
        replace HZ := hide (HZ.out.after hb)
        have K1 := hide k1
        clear k1
        clear hb
        refine hK.out _ _ (HX5.out _ (by first | exact Hb.out | exact Hb.out.drew)) (fun hHeld => ?_)
        clear hK K
        clear hHeld
        refine wpAnyH_ready (rs := [6]) (by kernel_rfl) (by simp) ?_
        refine AllReadyH.cons rfl (fun K hK => ?_) AllReadyH.nil
        go_simp
        refine (of_any l.he _ Hhe.out).mono ?_
        rintro e wt12 ⟨v2, rfl, hb, k2⟩
        obtain ⟨s2, p2, l2, c2, rfl⟩ := whole_agg k2

        replace Hb := hide (below_next Hb.out (Nat.le_refl _) hb)
        replace K1 := hide (K1.out.below hb)
        replace HZ := hide (HZ.out.after hb)
        have K2 := hide k2
        clear k2
        clear hb
        refine hK.out _ _ (HX5.out _ (by first | exact Hb.out | exact Hb.out.drew)) (fun hHeld => ?_)
        clear hK K
        clear hHeld
        refine wpAnyH_ready (rs := [7]) (by kernel_rfl) (by simp) ?_
        refine AllReadyH.cons rfl (fun K hK => ?_) AllReadyH.nil
        go_simp
        refine (minus_any _ _ now l.he 3 3 4 _ K1.out K2.out (by omega) (by omega) (by omega)).mono ?_
        rintro e wt13 ⟨v3, rfl, hb, k3⟩
        obtain ⟨s3, p3, l3, c3, rfl⟩ := whole_agg k3

        replace Hb := hide (below_next Hb.out (Nat.le_refl _) hb)
        replace K1 := hide (K1.out.below hb)
        replace K2 := hide (K2.out.below hb)
        replace HZ := hide (HZ.out.after hb)
        have K3 := hide k3
        clear k3
        clear hb
        refine hK.out _ _ (HX5.out _ (by first | exact Hb.out | exact Hb.out.drew)) (fun hHeld => ?_)
        clear hK K
        clear hHeld
        refine wpAnyH_done (by kernel_rfl) (then_last ?_) _
        obtain ⟨z0, z1⟩ : wt13.cell? ⟨bz, 0, none⟩ = some (.bool false) ∧ wt13.cell? ⟨bz, 1, none⟩ = some (.slice none 0 0) := ⟨HZ.out.cell 0 rfl, HZ.out.cell 1 rfl⟩
        have f0 := HZ.out.frozen 0
        have f1 := HZ.out.frozen 1
        go_simp
        (try go_wp2_with fail)
        go_meet
        exact ⟨bz, s3, p3, l3, c3, rfl, WV.set K3.out HZ.out, below_set2 Hb.out hzb _ _⟩
    case rest =>
      obtain ⟨g, s3, p3, l3, c3, rfl, hV, hW⟩ := hcut
      have HV := hide hV
      replace Hb := hide hW
      clear hV hW HX5 Hno Hhe
      have hcm := cmp_200 (now - l.he)
      obtain ⟨cq, hcq⟩ : ∃ cq, Hid (cmpI (now - l.he) 200 = cq) := ⟨_, hide rfl⟩
      rw [hcq.out] at hcm
      go_upto_region 4 with fail
      go_cut [22] (fun vv wx => vv = .bool (decide (now - l.he < 200)) ∧ Below w.heap.size w wx)
      case first =>
        refine wp_region_held_drew (S := fun wx => wx.cell? ⟨g, 0, none⟩ = some (.bool s3) ∧ wx.cell? ⟨g, 1, none⟩ = some (.slice p3 l3 c3)) (by kernel_rfl) (⟨HV.out.cells.1, HV.out.cells.2⟩) (fun hHeld => ?_)
        replace HV := hide (HV.out.after (below_drewN (Below.refl _ _) 1))
        replace Hb := hide (below_drewN Hb.out 1)
        rw [show wc.drewN 1 = wc.drew from rfl] at *
        generalize wc.drew = Wd at *
        refine take_at (i := 0) (v := .agg #[.bool s3, .slice p3 l3 c3]) (d := some 19) rfl rfl (by kernel_rfl) (by kernel_rfl) (by kernel_rfl) (fun _ _ _ h => h) (Or.inl ⟨by rfl, fun wS ⟨hS0, hS1⟩ => by go_simp; all_goals (rw [IntKind.wrap_i64]; omega)⟩) (by assumption) ?_
        simp only [Act.put, List.setIfInBounds_toArray, List.set_cons_zero, List.set_cons_succ]
        clear hHeld
        refine wpAnyH_ready (rs := [1]) (by kernel_rfl) (by simp) ?_
        refine AllReadyH.cons rfl (fun K hK => ?_) AllReadyH.nil
        go_simp
        refine (of_any 200 _ H2.out).mono ?_
        rintro e w17 ⟨v17, rfl, hb, k17⟩
        obtain ⟨s17, p17, l17, c17, rfl⟩ := whole_agg k17
        have K17 := hide k17
        clear k17
        replace HV := hide (HV.out.after hb)
        replace Hb := hide (below_next Hb.out (Nat.le_refl _) hb)
        clear hb
        refine hK.out _ _ (⟨HV.out.cells.1, HV.out.cells.2⟩) (fun hHeld => ?_)
        clear hK K
        clear hHeld
        refine wpAnyH_ready (rs := [2]) (by kernel_rfl) (by simp) ?_
        refine AllReadyH.cons rfl (fun K hK => ?_) AllReadyH.nil
        go_simp
        refine (cmp_any _ _ (now - l.he) 200 4 3 _ HV.out.w K17.out (by omega)).mono ?_
        rintro e w18 ⟨rfl, hb⟩
        rw [hcq.out]
        replace HV := hide (HV.out.after hb)
        replace Hb := hide (below_next Hb.out (Nat.le_refl _) hb)
        clear hb K17
        refine hK.out _ _ (⟨HV.out.cells.1, HV.out.cells.2⟩) (fun hHeld => ?_)
        clear hK K
        refine take_at (i := 3) (v := .bool (decide (cq < 0))) (d := some 22) rfl rfl (by kernel_rfl) (by kernel_rfl) (by kernel_rfl) (fun _ _ _ h => h) (Or.inl ⟨by rfl, fun wS ⟨hS0, hS1⟩ => by go_simp; all_goals (rw [IntKind.wrap_i64]; omega)⟩) (by assumption) ?_
        simp only [Act.put, List.setIfInBounds_toArray, List.set_cons_zero, List.set_cons_succ]
        clear hHeld
        refine wpAnyH_done (by kernel_rfl) ?_ _
        go_simp
        (try go_wp2_with fail)
        go_meet
        exact ⟨rfl, Hb.out⟩
      case rest =>
        obtain ⟨rfl, hW⟩ := hcut
        replace Hb := hide hW
        have HD2 := hide (HD.out.after hW)
        have hWw := hide hW
        clear hW HV hcm hcq
        have HT2 := hide HT.out
        by_cases hlt : now - l.he < 200
        · have HE2 : Hid (tickS wh l now = (l, none)) := hide (by rw [HE.out, if_pos (.inr (decide_eq_false (by omega)))])
          rw [decide_eq_true hlt]
          clear HE HD2
          go_wp2_with fail
          go_ret
          rw [HE2.out]
          exact HD.out.none Hb.out
        · have hlb : ltB l.he now = true := decide_eq_true (by omega)
          rw [decide_eq_false hlt]
          have HE2 : Hid (tickS wh l now = if l.ag = 5 then dropS wh 210 else askS wh ⟨l.cn, now, l.ag + 1, l.rw⟩) := hide (by rw [HE.out, if_neg (by rw [HT.out, hlb]; simp)])
          have HB2 := hide HD2.out.B
          have hx := HD2.out.x
          have hz := HD2.out.z
          have c6 : wc.cell? ⟨X, 6, none⟩ = some (.int .i64 l.ag) := HB2.out.cell 6 rfl
          clear HE hlb hlt HD
          by_cases ha : l.ag = 5
          · have hae : (l.ag == 5) = true := by rw [ha]; rfl
            have HE3 : Hid (tickS wh l now = dropS wh 210) := hide (by rw [HE2.out, if_pos ha])
            have DR := hide (dropR_any wc X (.int .i64 wh) (.int .i64 ms) (stI l) l.cn l.he l.ag a _ c HB2.out)
            have SA := hide (sayR_any 10 wh 210)
            clear ha HE2 HB2 HD2
            go_wp2_with fail
            refine DR.out.mono ?_
            rintro e w1 ⟨rfl, hB1, hg1⟩
            have HB1 := hide hB1
            have HG1 := hide hg1
            have c0 : w1.cell? ⟨X, 0, none⟩ = some (.int .i64 wh) := hB1.cell 0 rfl
            clear hB1 hg1 c6
            go_wp2_with fail
            refine (SA.out _).mono ?_
            rintro e w2 ⟨z, rfl, ha, hb2⟩
            have HQ : Hid (XEnd wc b X wh ms (.slice a rl c) (dropS wh 210) (.returned z) w2) := hide (XEnd.say (RDv.idle HB1.out hx (Nat.le_trans hz HG1.out.size)) HG1.out ha hb2)
            clear ha hb2
            go_wp2_with fail
            go_ret
            rw [HE3.out]
            exact HQ.out.before hWw.out
          · have hae : (l.ag == 5) = false := by simpa using ha
            have HE3 : Hid (tickS wh l now = askS wh ⟨l.cn, now, l.ag + 1, l.rw⟩) := hide (by rw [HE2.out, if_neg ha])
            have SA := hide (sayR_any 8 wh (rl : Int))
            have hagr := Hag.out
            have f6 := HB2.out.frozen 6
            have c5 : wc.cell? ⟨X, 5, none⟩ = some (.int .i64 l.he) := HB2.out.cell 5 rfl
            have f5 := HB2.out.frozen 5
            have HG : Hid (wc.grownBy ((wc.setCell ⟨X, 6, none⟩ (.int .i64 (l.ag + 1))).setCell ⟨X, 5, none⟩ (.int .i64 now)) (some X)) := hide (grown_more (grown_set _ _ _ _) (grown_set _ _ _ _))
            have HR : Hid (RDv ((wc.setCell ⟨X, 6, none⟩ (.int .i64 (l.ag + 1))).setCell ⟨X, 5, none⟩ (.int .i64 now)) b X wh ms ⟨l.cn, now, l.ag + 1, l.rw⟩ (.slice a rl c) us) := hide (by
              have h2 := HD2.out
              exact ⟨(h2.B.set 6 _).set 5 _, owns_desk h2.o HG.out hx, h2.u.desk HG.out hx, h2.x, by rw [setCell_size, setCell_size]; exact h2.z⟩)
            have d0 : ((wc.setCell ⟨X, 6, none⟩ (.int .i64 (l.ag + 1))).setCell ⟨X, 5, none⟩ (.int .i64 now)).cell? ⟨X, 0, none⟩ = some (.int .i64 wh) := HR.out.B.cell 0 rfl
            have d4 : ((wc.setCell ⟨X, 6, none⟩ (.int .i64 (l.ag + 1))).setCell ⟨X, 5, none⟩ (.int .i64 now)).cell? ⟨X, 4, none⟩ = some (.slice a rl c) := HR.out.B.cell 4 rfl
            clear ha HE2 HB2 HD2
            go_upto_region 11 with fail
            clear c5 c6 f5 f6
            generalize (wc.setCell ⟨X, 6, none⟩ (.int .i64 (l.ag + 1))).setCell ⟨X, 5, none⟩ (.int .i64 now) = W3 at *
            refine reg_two 9 _ _ rfl rfl rfl rfl (by kernel_rfl) (by kernel_rfl) (by kernel_rfl) (by kernel_rfl) ?_
            simp only [List.take_succ_cons, List.take_zero]
            repeat (quiet_step (fail))
            refine wpQuiet_nil ?_
            intro k
            go_simp
            refine (SA.out _).mono ?_
            rintro e w2 ⟨z, rfl, ha, hb2⟩
            have HQ : Hid (XEnd wc b X wh ms (.slice a rl c) (askS wh ⟨l.cn, now, l.ag + 1, l.rw⟩) (.returned z) w2) := hide (by
              have hd2 : Below W3.heap.size W3 (W3.drewN k) := below_drewN (Below.refl _ _) k
              have ha2 : Ans w2 W3.heap.size z (some (8, wh, (⟨l.cn, now, l.ag + 1, l.rw⟩ : Ls).hd)) := by
                show Ans w2 W3.heap.size z (some (8, wh, l.hd))
                rw [Hhd.out]
                exact ha.up hd2.size
              exact XEnd.say HR.out HG.out ha2 (below_next hd2 (Nat.le_refl _) hb2))
            clear ha hb2
            go_wp2_with fail
            go_ret
            rw [HE3.out]
            exact HQ.out.before hWw.out
  · have ht : tkB l = false := by simpa using ht
    have d : (stI l != 1) = true := by simpa using stI_no hl ht
    rw [HE.out, if_pos (.inl ht)]
    generalize stI l = st at *
    clear ht HE
    go_enter Try.func31, Try.ntmps31
    go_wp2_with fail
    go_ret
    exact HD.out.none (Below.refl _ _)
end Go.Proofs.Ytimkfipiebppiaa
