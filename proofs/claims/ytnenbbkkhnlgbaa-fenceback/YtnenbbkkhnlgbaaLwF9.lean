/- FenceBack. -/
import Derived.Test.YtnenbbkkhnlgbaaFlO
import Derived.Test.YtnenbbkkhnlgbaaFeI
namespace Go.Proofs.Ytnenbbkkhnlgbaa
open Go.RowKit Go.Great

theorem take_map {f : Pt → List Int} {l : List Pt} {k : Nat} (h : k < l.length) : (l.take (k + 1)).map f = (l.take k).map f ++ [f (l.getD k (0, 0))] := by rw [take_pt h]; simp
set_option maxRecDepth 100000 in
set_option maxHeartbeats 8000000 in
theorem FenceBack_walk (v : Value) (w : World) (h : FenIn w v) : Calls Try.prog 14 #[v] w fun e w' => e = .returned (.bool true) ∧ Below w.heap.size w w' := by
  obtain ⟨P, R, fl, ce, p, r, rfl, hp, hr⟩ := h
  have hP := long_ok hp
  have hR := long_ok hr
  have AW := awakeF_any
  have LE := fun W (hb : Below w.heap.size w W) => lentF_any P R fl ce p r W ⟨hp.1.below hb, hp.2⟩ ⟨hr.1.below hb, hr.2⟩
  obtain ⟨i0, hi, hz0, hz1, hz2⟩ := info_parts info_lst
  have C1 := fun W p' r' (h1 : Lnt W p' P) (h2 : Lnt W r' R) => encode_any P R fl ce p' r' W h1.pts h2.pts hP hR
  have C2 := fun W p' r' (h1 : Lnt W p' P) (h2 : Lnt W r' R) => check_any P R fl ce p' r' W h1.pts h2.pts hP hR
  have HZ : Hid (chk P fl ce R = 0 → P.length ≤ 64 ∧ R.length ≤ 8) := fun hs => ⟨(sim_len (chk_ok hs).1).2.1, (chk_ok hs).2.2.2.2.2.1⟩
  have DE : Hid (chk P fl ce R = 0 → ∀ W, Calls Try.prog 29 #[.string (bs (encI P fl ce R))] W fun e w' => ∃ p r, e = .returned (.tuple #[fV p fl ce r, .int .i64 0]) ∧ Pts w' p P ∧ Pts w' r R ∧ Below W.heap.size W w') := fun hs W => by
    have hI : encI P fl ce R = encF P fl ce R := by unfold encI; rw [if_pos hs]
    have hsz : (bs (encF P fl ce R)).size ≤ 4611686018427387904 := by
      rw [bs_size, encF_len]
      have := (sim_len (chk_ok hs).1).2.1
      have := (chk_ok hs).2.2.2.2.2.1
      omega
    have h := decode_any (bs (encF P fl ce R)) hsz W
    rw [bs_list] at h
    obtain ⟨e1, e2⟩ := enc_dec hs
    rw [e1, e2] at h
    rw [hI]
    exact h.mono fun _ _ ⟨p, r, h1, h2, h3, _, h4⟩ => ⟨p, r, h1, h2.pts, h3.pts, h4⟩
  have OF : Hid (chk P fl ce R = 0 → ∀ v W, Lsts W v (itemsF P fl ce R) → Calls Try.prog 34 #[v] W fun e w' => ∃ p r, e = .returned (.tuple #[fV p fl ce r, .int .i64 0]) ∧ Pts w' p P ∧ Pts w' r R ∧ Below W.heap.size W w') := fun hs v W hv => by
    have hlen : (itemsF P fl ce R).length * 24 + 64 ≤ 140737488355328 := by
      have := (sim_len (chk_ok hs).1).2.1
      have := (chk_ok hs).2.2.2.2.2.1
      simp [itemsF]
      omega
    have h := of_any (itemsF P fl ce R) v W hv hlen
    obtain ⟨e1, e2⟩ := of_items hs
    rw [e1, e2] at h
    exact h.mono fun _ _ ⟨p, r, h1, h2, h3, _, h4⟩ => ⟨p, r, h1, h2.pts, h3.pts, h4⟩
  have SA := fun W (hb : Below w.heap.size w W) p' r' (h1 : Pts W p' P) (h2 : Pts W r' R) => same_true P R fl ce p r p' r' W (hp.1.below hb) (hr.1.below hb) h1 h2 hP hR
  have HIN : Hid (chk P fl ce R ≠ 0 → bs (encI P fl ce R) = ⟨#[]⟩) := fun hs => by unfold encI; rw [if_neg hs]; rfl
  have HIS : Hid (chk P fl ce R = 0 → (bs (encI P fl ce R)).size ≤ 2000) := fun hs => by
    rw [bs_size]
    unfold encI
    rw [if_pos hs, encF_len]
    have := (sim_len (chk_ok hs).1).2.1
    have := (chk_ok hs).2.2.2.2.2.1
    omega
  have HPM : Hid (∀ k, k < P.length → (P.take (k + 1)).map cI = (P.take k).map cI ++ [[1, (P.getD k (0, 0)).1, (P.getD k (0, 0)).2, 0, 0]]) := fun k hk => take_map hk
  have HRM : Hid (∀ k, k < R.length → (R.take (k + 1)).map rI = (R.take k).map rI ++ [[2, (R.getD k (0, 0)).1, (R.getD k (0, 0)).2, 0, 0]]) := fun k hk => take_map hk
  have HPA : Hid ((P.take P.length).map cI = P.map cI) := hide (by rw [List.take_length])
  have HRA : Hid ((R.take R.length).map rI = R.map rI) := hide (by rw [List.take_length])
  have HPL : Hid (∀ k, k ≤ P.length → ((P.take k).map cI).length = k) := fun k hk => by simp; omega
  have HRL : Hid (∀ k, k ≤ R.length → ((P.map cI ++ [[3, fl, ce, 0, 0]]) ++ (R.take k).map rI).length = P.length + 1 + k) := fun k hk => by simp; omega
  generalize bs (encI P fl ce R) = T at *
  generalize chk P fl ce R = E at *
  obtain ⟨ap, cp, rfl, hcl⟩ := hp.1
  obtain ⟨ar, cr, rfl, hcl'⟩ := hr.1
  have HPT := hide hcl
  have HRT := hide hcl'
  clear hcl hcl' hp hr hP hR
  generalize hn1 : P.length = n1 at *
  generalize hn2 : R.length = n2 at *
  have HN1 := hide hn1
  have HN2 := hide hn2
  clear hn1 hn2
  have B0 := Blk.new w #[.slice ap n1 cp, .int .i64 fl, .int .i64 ce, .slice ar n2 cr] 24
  have hB := below_alloc w (.cells #[.slice ap n1 cp, .int .i64 fl, .int .i64 ce, .slice ar n2 cr] 24)
  simp only [fV] at *
  go_enter Try.func14, Try.ntmps14
  go_wp2_with fail
  refine (LE _ hB).mono ?_
  rintro e w1 ⟨p', r', rfl, h1, h2, hb1⟩
  replace B0 := B0.after hb1
  replace hB := below_next hB (Nat.le_refl _) hb1
  obtain ⟨g1, c1, e1⟩ := h1.slice
  obtain ⟨g2, c2, e2⟩ := h2.slice
  rw [HN1.out] at e1
  rw [HN2.out] at e2
  subst e1 e2
  clear hb1
  go_wp2_with fail
  refine (C1 _ _ _ h1 h2).mono ?_
  rintro e w2 ⟨rfl, hb1⟩
  replace B0 := B0.after hb1
  replace hB := below_next hB (Nat.le_refl _) hb1
  clear hb1 h1 h2 C1
  have j0 := B0.cell 0 rfl
  have j1 := B0.cell 1 rfl
  have j2 := B0.cell 2 rfl
  have j3 := B0.cell 3 rfl
  go_wp2_with fail
  refine (LE _ hB).mono ?_
  rintro e w3 ⟨p', r', rfl, h1, h2, hb1⟩
  replace B0 := B0.after hb1
  replace hB := below_next hB (Nat.le_refl _) hb1
  obtain ⟨g3, c3, e1⟩ := h1.slice
  obtain ⟨g4, c4, e2⟩ := h2.slice
  rw [HN1.out] at e1
  rw [HN2.out] at e2
  subst e1 e2
  clear hb1 LE j0 j1 j2 j3
  go_wp2_with fail
  refine (C2 _ _ _ h1 h2).mono ?_
  rintro e w4 ⟨rfl, hb1⟩
  replace B0 := B0.after hb1
  replace hB := below_next hB (Nat.le_refl _) hb1
  clear hb1 h1 h2 C2
  have hEE : (E != E) = false := by simp
  by_cases hE : E = 0
  · subst hE
    obtain ⟨z1, z2⟩ := HZ.out (by trivial)
    have DE2 := DE.out (by trivial)
    have OF2 := hide (OF.out (by trivial))
    have hts := HIS.out (by trivial)
    clear HZ DE OF HIN HIS hEE
    go_wp2_with fail
    refine (DE2 _).mono ?_
    rintro e w5 ⟨dp, dr, rfl, hdp, hdr, hb5⟩
    replace B0 := B0.after hb5
    replace hB := below_next hB (Nat.le_refl _) hb5
    clear hb5 DE2
    obtain ⟨da, dc, e1⟩ : ∃ a c, dp = .slice a n1 c := by obtain ⟨a, c, e, _⟩ := hdp; exact ⟨a, c, by rw [e, HN1.out]⟩
    obtain ⟨ea, ec, e2⟩ : ∃ a c, dr = .slice a n2 c := by obtain ⟨a, c, e, _⟩ := hdr; exact ⟨a, c, by rw [e, HN2.out]⟩
    subst e1 e2
    have B1 := Blk.new w5 #[.slice da n1 dc, .int .i64 fl, .int .i64 ce, .slice ea n2 ec] 24
    have hb6 := below_alloc w5 (.cells #[.slice da n1 dc, .int .i64 fl, .int .i64 ce, .slice ea n2 ec] 24)
    obtain ⟨W5, hW5⟩ : ∃ W5, w5.alloc (.cells #[.slice da n1 dc, .int .i64 fl, .int .i64 ce, .slice ea n2 ec] 24) = W5 := ⟨_, rfl⟩
    rw [hW5] at B1 hb6
    replace B0 := B0.after hb6
    replace hB := below_next hB (Nat.le_refl _) hb6
    have HDP := hide (hdp.below hb6)
    have HDR := hide (hdr.below hb6)
    have j0 := B0.cell 0 rfl
    have hG0 := B1.lt
    clear hb6 hdp hdr
    go_wp2_with fail
    try rw [hW5]
    clear hW5
    generalize w5.heap.size = G at *
    go_loopw [8, 9] (fun v i wx => ∃ k : Nat, k ≤ n1 ∧ i = .int .i64 k ∧ Hid (Its wx W5.heap.size v ((P.take k).map cI)) ∧ Hid (Below W5.heap.size W5 wx)) (fun _ i _ => n1 - (intOf i).toNat)
    case atStart => exact ⟨0, Nat.zero_le _, rfl, hide (Its.nil _ _), hide (Below.refl _ _)⟩
    case round =>
      clear j0
      obtain ⟨k, hk, rfl, hI, hb⟩ := hrel
      have hbw := below_next hB (Nat.le_refl _) hb.out
      have j0 := (B0.after hb.out).cell 0 rfl
      have gs := hb.out.size
      have gz := B0.lt
      by_cases hlt : k < n1
      · obtain ⟨g, o, rfl, hg, hcc⟩ := HPT.out (by omega)
        obtain ⟨c0, c1⟩ := hcc k hlt
        have p0 := (hbw.cell (p := ⟨g, o + k * 2, none⟩) hg).trans c0
        have p1 := (hbw.cell (p := ⟨g, o + k * 2 + 1, none⟩) hg).trans c1
        have hnl : ((k : Nat) : Int) < (n1 : Int) := by omega
        have HS := hide (HPM.out k hlt)
        obtain ⟨us, h1, h2, h3⟩ := hI.out
        obtain ⟨va, vc, rfl⟩ := hI.out.form
        rw [HPL.out k hk] at h2
        have HUL : Hid (((P.take k).map cI).length = k) := hide (HPL.out k hk)
        generalize (P.getD k (0, 0)).1 = x at *
        generalize (P.getD k (0, 0)).2 = y at *
        generalize hLk : (P.take k).map cI = Lk at *
        have HLk := hide hLk
        rw [HUL.out] at hI h1 ⊢
        clear hcc hLk
        go_wp2_with fail
        clear j0
        have BF := B0.after hb.out
        have Q0 := p0
        have Q1 := p1
        refine wp_region_held_drew (S := fun wx => wx.cell? ⟨w.heap.size, 0, none⟩ = some (.slice (some ⟨g, o, none⟩) n1 cp) ∧ wx.cell? ⟨w.heap.size, 1, none⟩ = some (.int .i64 fl) ∧ wx.cell? ⟨w.heap.size, 2, none⟩ = some (.int .i64 ce) ∧ wx.cell? ⟨w.heap.size, 3, none⟩ = some (.slice ar n2 cr) ∧ wx.cell? ⟨g, o + k * 2, none⟩ = some (.int .i64 x) ∧ wx.cell? ⟨g, o + k * 2 + 1, none⟩ = some (.int .i64 y)) (by kernel_rfl) (by exact ⟨(BF).cell 0 rfl, (BF).cell 1 rfl, (BF).cell 2 rfl, (BF).cell 3 rfl, Q0, Q1⟩) (fun hHeld => ?_)
        refine take_at (i := 0) (v := .slice va k vc) (d := some 44) rfl rfl (by kernel_rfl) (by kernel_rfl) (by kernel_rfl) (fun _ _ _ h => h) (Or.inl ⟨by rfl, fun wS ⟨hS0, hS1, hS2, hS3, hS4, hS5⟩ => by go_simp; all_goals (rw [IntKind.wrap_i64]; omega)⟩) (by assumption) ?_
        simp only [Act.put, List.setIfInBounds_toArray, List.set_cons_zero, List.set_cons_succ]
        refine take_at (i := 1) (v := .pointer (some ⟨w.heap.size, 0, none⟩)) (d := some 45) rfl rfl (by kernel_rfl) (by kernel_rfl) (by kernel_rfl) (fun _ _ _ h => h) (Or.inl ⟨by rfl, fun wS ⟨hS0, hS1, hS2, hS3, hS4, hS5⟩ => by go_simp; all_goals (rw [IntKind.wrap_i64]; omega)⟩) (by assumption) ?_
        simp only [Act.put, List.setIfInBounds_toArray, List.set_cons_zero, List.set_cons_succ]
        refine take_at (i := 2) (v := .slice (some ⟨g, o, none⟩) n1 cp) (d := some 46) rfl rfl (by kernel_rfl) (by kernel_rfl) (by kernel_rfl) (fun _ _ _ h => h) (Or.inl ⟨by rfl, fun wS ⟨hS0, hS1, hS2, hS3, hS4, hS5⟩ => by go_simp; all_goals (rw [IntKind.wrap_i64]; omega)⟩) (by assumption) ?_
        simp only [Act.put, List.setIfInBounds_toArray, List.set_cons_zero, List.set_cons_succ]
        refine take_at (i := 3) (v := .int .i64 (k : Int)) (d := some 47) rfl rfl (by kernel_rfl) (by kernel_rfl) (by kernel_rfl) (fun _ _ _ h => h) (Or.inl ⟨by rfl, fun wS ⟨hS0, hS1, hS2, hS3, hS4, hS5⟩ => by go_simp; all_goals (rw [IntKind.wrap_i64]; omega)⟩) (by assumption) ?_
        simp only [Act.put, List.setIfInBounds_toArray, List.set_cons_zero, List.set_cons_succ]
        refine take_at (i := 4) (v := .pointer (some ⟨g, o + k * 2, none⟩)) (d := some 48) rfl rfl (by kernel_rfl) (by kernel_rfl) (by kernel_rfl) (fun _ _ _ h => h) (Or.inl ⟨by rfl, fun wS ⟨hS0, hS1, hS2, hS3, hS4, hS5⟩ => by go_simp; all_goals (rw [IntKind.wrap_i64]; omega)⟩) (by assumption) ?_
        simp only [Act.put, List.setIfInBounds_toArray, List.set_cons_zero, List.set_cons_succ]
        refine take_at (i := 5) (v := .pointer (some ⟨g, o + k * 2, none⟩)) (d := some 49) rfl rfl (by kernel_rfl) (by kernel_rfl) (by kernel_rfl) (fun _ _ _ h => h) (Or.inl ⟨by rfl, fun wS ⟨hS0, hS1, hS2, hS3, hS4, hS5⟩ => by go_simp; all_goals (rw [IntKind.wrap_i64]; omega)⟩) (by assumption) ?_
        simp only [Act.put, List.setIfInBounds_toArray, List.set_cons_zero, List.set_cons_succ]
        refine take_at (i := 6) (v := .int .i64 x) (d := some 50) rfl rfl (by kernel_rfl) (by kernel_rfl) (by kernel_rfl) (fun _ _ _ h => h) (Or.inl ⟨by rfl, fun wS ⟨hS0, hS1, hS2, hS3, hS4, hS5⟩ => by go_simp; all_goals (rw [IntKind.wrap_i64]; omega)⟩) (by assumption) ?_
        simp only [Act.put, List.setIfInBounds_toArray, List.set_cons_zero, List.set_cons_succ]
        refine take_at (i := 7) (v := .pointer (some ⟨w.heap.size, 0, none⟩)) (d := some 51) rfl rfl (by kernel_rfl) (by kernel_rfl) (by kernel_rfl) (fun _ _ _ h => h) (Or.inl ⟨by rfl, fun wS ⟨hS0, hS1, hS2, hS3, hS4, hS5⟩ => by go_simp; all_goals (rw [IntKind.wrap_i64]; omega)⟩) (by assumption) ?_
        simp only [Act.put, List.setIfInBounds_toArray, List.set_cons_zero, List.set_cons_succ]
        refine take_at (i := 8) (v := .slice (some ⟨g, o, none⟩) n1 cp) (d := some 52) rfl rfl (by kernel_rfl) (by kernel_rfl) (by kernel_rfl) (fun _ _ _ h => h) (Or.inl ⟨by rfl, fun wS ⟨hS0, hS1, hS2, hS3, hS4, hS5⟩ => by go_simp; all_goals (rw [IntKind.wrap_i64]; omega)⟩) (by assumption) ?_
        simp only [Act.put, List.setIfInBounds_toArray, List.set_cons_zero, List.set_cons_succ]
        refine take_at (i := 9) (v := .int .i64 (k : Int)) (d := some 53) rfl rfl (by kernel_rfl) (by kernel_rfl) (by kernel_rfl) (fun _ _ _ h => h) (Or.inl ⟨by rfl, fun wS ⟨hS0, hS1, hS2, hS3, hS4, hS5⟩ => by go_simp; all_goals (rw [IntKind.wrap_i64]; omega)⟩) (by assumption) ?_
        simp only [Act.put, List.setIfInBounds_toArray, List.set_cons_zero, List.set_cons_succ]
        refine take_at (i := 10) (v := .pointer (some ⟨g, o + k * 2, none⟩)) (d := some 54) rfl rfl (by kernel_rfl) (by kernel_rfl) (by kernel_rfl) (fun _ _ _ h => h) (Or.inl ⟨by rfl, fun wS ⟨hS0, hS1, hS2, hS3, hS4, hS5⟩ => by go_simp; all_goals (rw [IntKind.wrap_i64]; omega)⟩) (by assumption) ?_
        simp only [Act.put, List.setIfInBounds_toArray, List.set_cons_zero, List.set_cons_succ]
        refine take_at (i := 11) (v := .pointer (some ⟨g, o + k * 2 + 1, none⟩)) (d := some 55) rfl rfl (by kernel_rfl) (by kernel_rfl) (by kernel_rfl) (fun _ _ _ h => h) (Or.inl ⟨by rfl, fun wS ⟨hS0, hS1, hS2, hS3, hS4, hS5⟩ => by go_simp; all_goals (rw [IntKind.wrap_i64]; omega)⟩) (by assumption) ?_
        simp only [Act.put, List.setIfInBounds_toArray, List.set_cons_zero, List.set_cons_succ]
        refine take_at (i := 12) (v := .int .i64 y) (d := some 56) rfl rfl (by kernel_rfl) (by kernel_rfl) (by kernel_rfl) (fun _ _ _ h => h) (Or.inl ⟨by rfl, fun wS ⟨hS0, hS1, hS2, hS3, hS4, hS5⟩ => by go_simp; all_goals (rw [IntKind.wrap_i64]; omega)⟩) (by assumption) ?_
        simp only [Act.put, List.setIfInBounds_toArray, List.set_cons_zero, List.set_cons_succ]
        refine wpAnyH_ready (rs := [13]) (by kernel_rfl) (by simp) ?_
        refine AllReadyH.cons rfl (fun K hK => ?_) AllReadyH.nil
        go_simp
        have hX1 : Below wr.heap.size wr ((wr.alloc (.cells #[.int .i64 1, .int .i64 x, .int .i64 y, .int .i64 0, .int .i64 0] 3)).drew) := (below_alloc wr _).drew
        have BG : Blk ((wr.alloc (.cells #[.int .i64 1, .int .i64 x, .int .i64 y, .int .i64 0, .int .i64 0] 3)).drew) wr.heap.size (rowI [1, x, y, 0, 0]) 3 := Blk.new wr _ _
        obtain ⟨W1, hW1⟩ : ∃ W1, (wr.alloc (.cells #[.int .i64 1, .int .i64 x, .int .i64 y, .int .i64 0, .int .i64 0] 3)).drew = W1 := ⟨_, rfl⟩
        rw [hW1] at hX1 BG ⊢
        clear hW1 hHeld
        have BF1 := BF.after hX1
        have gw : g < wr.heap.size := by omega
        have Q01 := (hX1.cell (p := ⟨g, o + k * 2, none⟩) gw).trans p0
        have Q11 := (hX1.cell (p := ⟨g, o + k * 2 + 1, none⟩) gw).trans p1
        refine hK.out _ _ (⟨(BF1).cell 0 rfl, (BF1).cell 1 rfl, (BF1).cell 2 rfl, (BF1).cell 3 rfl, Q01, Q11⟩) (fun hHeld => ?_)
        clear hK K
        refine wpAnyH_ready (rs := [14]) (by kernel_rfl) (by simp) ?_
        refine AllReadyH.cons rfl (fun K hK => ?_) AllReadyH.nil
        go_simp
        have hX2 : Below W1.heap.size W1 (W1.alloc (.cells #[.slice (some ⟨wr.heap.size, 0, none⟩) 5 5] 53)) := below_alloc W1 _
        have hX3 := below_next hX1 (Nat.le_refl _) hX2
        have BF2 := BF1.after hX2
        have BG2 := BG.after hX2
        have Q02 := (hX3.cell (p := ⟨g, o + k * 2, none⟩) gw).trans p0
        have Q12 := (hX3.cell (p := ⟨g, o + k * 2 + 1, none⟩) gw).trans p1
        have HC2 := fun j u hu => new_cell1 W1 W1.heap.size rfl (.slice (some ⟨wr.heap.size, 0, none⟩) 5 5) 53 j u hu
        have hz2' : (W1.alloc (.cells #[.slice (some ⟨wr.heap.size, 0, none⟩) 5 5] 53)).heap.size = W1.heap.size + 1 := size_alloc _ _
        obtain ⟨W2, hW2⟩ : ∃ W2, W1.alloc (.cells #[.slice (some ⟨wr.heap.size, 0, none⟩) 5 5] 53) = W2 := ⟨_, rfl⟩
        rw [hW2] at hX2 hX3 BF2 BG2 Q02 Q12 HC2 hz2' ⊢
        have h1' : W2.ownsRow W5.heap.size 53 1 (.slice va k vc) us.length us := World.ownsRow.kept h1 (grown_below hX3 none) (by cases va <;> simp [Value.ownBlock])
        clear hW2 hHeld
        refine hK.out _ _ (⟨(BF2).cell 0 rfl, (BF2).cell 1 rfl, (BF2).cell 2 rfl, (BF2).cell 3 rfl, Q02, Q12⟩) (fun hHeld => ?_)
        clear hK K
        refine wpAnyH_ready (rs := [15]) (by kernel_rfl) (by simp) ?_
        refine AllReadyH.cons rfl (fun K hK => ?_) AllReadyH.nil
        rw [if_pos (by rfl)]
        refine wp_append_own W2 (.tmp 44) (.tmp 58) 52 rfl W5.heap.size 53 i0 _ 1 24 Try.underlying52 hi hz0 hz1 hz2 rfl (by decide) (.slice va k vc) us.length us rfl h1' ⟨W1.heap.size, 0, none⟩ 1 1 [.slice (some ⟨wr.heap.size, 0, none⟩) 5 5] rfl rfl ?c1 ?c2 ?c3 ?c4 ?c5 ?_
        case c1 => exact HC2
        case c2 => intro u hu; simp at hu; subst hu; rfl
        case c3 => unfold maxLen; omega
        case c4 => omega
        case c5 => have := hX3.size; omega
        intro v9 w9 hown9 hgrow9 _
        have HI9 : Hid (Its w9 W5.heap.size v9 (Lk ++ [[1, x, y, 0, 0]])) := hide (Its.more h1' (by rw [HUL.out]; exact h2) (fun i hi => by
          obtain ⟨q, qa, qb, qc⟩ := h3 i hi
          exact ⟨q, qa, qb, qc.after hX3⟩) rfl BG2 hown9 hgrow9)
        have HB9 : Hid (Below W5.heap.size W5 w9) := hide ((hb.out.trans (hX3.mono gs)).grown hgrow9 (by have := hX3.size; omega) (fun j e => (h1'.lt j e).1))
        have BF3 := blk_grown h1' BF2 (by decide) hgrow9
        have hb9 := below_next hB (Nat.le_refl _) HB9.out
        have Q03 := (hb9.cell (p := ⟨g, o + k * 2, none⟩) hg).trans c0
        have Q13 := (hb9.cell (p := ⟨g, o + k * 2 + 1, none⟩) hg).trans c1
        obtain ⟨va9, vc9, e9⟩ := HI9.out.form
        rw [List.length_append, HUL.out] at e9
        subst e9
        clear hHeld hown9 hgrow9
        simp only [Act.put, List.setIfInBounds_toArray]
        refine hK.out _ _ (⟨(BF3).cell 0 rfl, (BF3).cell 1 rfl, (BF3).cell 2 rfl, (BF3).cell 3 rfl, Q03, Q13⟩) (fun hHeld => ?_)
        clear hK K
        refine take_at (i := 16) (v := .slice va9 (k + [[1, x, y, 0, 0]].length) vc9) (d := some 8) rfl rfl (by kernel_rfl) (by kernel_rfl) (by kernel_rfl) (fun _ _ _ h => h) (Or.inl ⟨by rfl, fun wS ⟨hS0, hS1, hS2, hS3, hS4, hS5⟩ => by go_simp; all_goals (rw [IntKind.wrap_i64]; omega)⟩) (by assumption) ?_
        simp only [Act.put]
        refine wpAnyH_done (by kernel_rfl) ?_ _
        clear hHeld
        go_wp2_with fail
        go_roundw
        case rel => exact ⟨k + 1, by omega, by go_num, hide (by rw [HS.out]; exact HI9.out), HB9⟩
        case measure => simp [intOf]; omega
      · have e1 : k = n1 := by omega
        have HI1 : Hid (Its wr W5.heap.size u8 (P.map cI)) := hide (by rw [← HPA.out, ← e1]; exact hI.out)
        clear hI e1
        obtain ⟨us, h1, h2, h3⟩ := HI1.out
        obtain ⟨va, vc, e2⟩ := HI1.out.form
        rw [List.length_map, HN1.out] at e2 h2
        subst e2
        have j1 := (B0.after hb.out).cell 1 rfl
        have j2 := (B0.after hb.out).cell 2 rfl
        have hX1 : Below wr.heap.size wr (wr.alloc (.cells #[.int .i64 3, .int .i64 fl, .int .i64 ce, .int .i64 0, .int .i64 0] 3)) := below_alloc wr _
        have hX2 : Below (wr.alloc (.cells #[.int .i64 3, .int .i64 fl, .int .i64 ce, .int .i64 0, .int .i64 0] 3)).heap.size (wr.alloc (.cells #[.int .i64 3, .int .i64 fl, .int .i64 ce, .int .i64 0, .int .i64 0] 3)) ((wr.alloc (.cells #[.int .i64 3, .int .i64 fl, .int .i64 ce, .int .i64 0, .int .i64 0] 3)).alloc (.cells #[.slice (some ⟨wr.heap.size, 0, none⟩) 5 5] 53)) := below_alloc _ _
        have hX3 := below_next hX1 (Nat.le_refl _) hX2
        have BG2 : Blk ((wr.alloc (.cells #[.int .i64 3, .int .i64 fl, .int .i64 ce, .int .i64 0, .int .i64 0] 3)).alloc (.cells #[.slice (some ⟨wr.heap.size, 0, none⟩) 5 5] 53)) wr.heap.size (rowI [3, fl, ce, 0, 0]) 3 := (Blk.new wr _ _).after hX2
        have h1' := World.ownsRow.kept h1 (grown_below hX3 none) (by cases va <;> simp [Value.ownBlock])
        have HX3 := hide hX3
        have HBG := hide BG2
        have HH1 := hide h1'
        clear hX1 hX2 hX3 BG2 h1'
        go_wp2_with (at_builtin; refine wpList_append_own _ rfl (.tmp 60) (.tmp 66) 52 rfl W5.heap.size 53 i0 _ 1 24 Try.underlying52 hi hz0 hz1 hz2 rfl (by decide) _ _ _ rfl HH1.out ⟨wr.heap.size + 1, 0, none⟩ 1 1 [.slice (some ⟨wr.heap.size, 0, none⟩) 5 5] rfl rfl ?c1 ?c2 ?c3 ?c4 ?c5 ?_)
        case c1 => exact new_cell1 _ _ (by rw [size_alloc]) _ _
        case c2 => intro u hu; simp at hu; subst hu; rfl
        case c3 => unfold maxLen; omega
        case c4 => omega
        case c5 => rw [size_alloc, size_alloc]; omega
        intro v9 w9 hown9 hgrow9 _
        have HI9 : Hid (Its w9 W5.heap.size v9 (P.map cI ++ [[3, fl, ce, 0, 0]])) := hide (Its.more HH1.out (by rw [List.length_map, HN1.out]; exact h2) (fun i hi => by
          obtain ⟨q, qa, qb, qc⟩ := h3 i hi
          exact ⟨q, qa, qb, qc.after HX3.out⟩) rfl HBG.out (by rw [h2]; exact hown9) hgrow9)
        have HB9 : Hid (Below W5.heap.size W5 w9) := hide ((hb.out.trans (HX3.out.mono gs)).grown hgrow9 (by have := HX3.out.size; omega) (fun j e => (HH1.out.lt j e).1))
        clear hown9 hgrow9 HX3 HBG HH1 h1 h2 h3 HI1 j0 j1 j2 hk hlt gs hbw
        obtain ⟨va9, vc9, e9⟩ := HI9.out.form
        rw [List.length_append, List.length_map, HN1.out] at e9
        simp only [List.length_cons, List.length_nil, Nat.zero_add] at e9
        subst e9
        have j3 := (B0.after HB9.out).cell 3 rfl
        go_wp2_with fail
        go_loopw [8, 10] (fun v i wx => ∃ k : Nat, k ≤ n2 ∧ i = .int .i64 k ∧ Hid (Its wx W5.heap.size v ((P.map cI ++ [[3, fl, ce, 0, 0]]) ++ (R.take k).map rI)) ∧ Hid (Below W5.heap.size W5 wx)) (fun _ i _ => n2 - (intOf i).toNat)
        case atStart => exact ⟨0, Nat.zero_le _, rfl, hide (by simpa using HI9.out), HB9⟩
        case round =>
          clear j3 HI9 HB9 hb
          obtain ⟨k, hk, rfl, hI, hb⟩ := hrel
          have hbw := below_next hB (Nat.le_refl _) hb.out
          have j3 := (B0.after hb.out).cell 3 rfl
          have gs := hb.out.size
          by_cases hlt : k < n2
          · obtain ⟨g, o, rfl, hg, hcc⟩ := HRT.out (by omega)
            obtain ⟨c0, c1⟩ := hcc k hlt
            have p0 := (hbw.cell (p := ⟨g, o + k * 2, none⟩) hg).trans c0
            have p1 := (hbw.cell (p := ⟨g, o + k * 2 + 1, none⟩) hg).trans c1
            have hnl : ((k : Nat) : Int) < (n2 : Int) := by omega
            have HS : Hid ((P.map cI ++ [[3, fl, ce, 0, 0]]) ++ (R.take (k + 1)).map rI = ((P.map cI ++ [[3, fl, ce, 0, 0]]) ++ (R.take k).map rI) ++ [[2, (R.getD k (0, 0)).1, (R.getD k (0, 0)).2, 0, 0]]) := hide (by rw [HRM.out k hlt]; simp)
            obtain ⟨us, h1, h2, h3⟩ := hI.out
            obtain ⟨va, vc, rfl⟩ := hI.out.form
            rw [HRL.out k hk] at h2
            have HUL : Hid (((P.map cI ++ [[3, fl, ce, 0, 0]]) ++ (R.take k).map rI).length = n1 + 1 + k) := hide (HRL.out k hk)
            generalize (R.getD k (0, 0)).1 = x at *
            generalize (R.getD k (0, 0)).2 = y at *
            generalize hLk : (P.map cI ++ [[3, fl, ce, 0, 0]]) ++ (R.take k).map rI = Lk at *
            have HLk := hide hLk
            rw [HUL.out] at hI h1 ⊢
            clear hcc hLk
            generalize hnk0 : n1 + 1 + k = nk at *
            have hnk : nk ≤ 200 := by omega
            clear hnk0
            go_wp2_with fail
            clear j3
            have BF := B0.after hb.out
            have Q0 := p0
            have Q1 := p1
            refine wp_region_held_drew (S := fun wx => wx.cell? ⟨w.heap.size, 0, none⟩ = some (.slice ap n1 cp) ∧ wx.cell? ⟨w.heap.size, 1, none⟩ = some (.int .i64 fl) ∧ wx.cell? ⟨w.heap.size, 2, none⟩ = some (.int .i64 ce) ∧ wx.cell? ⟨w.heap.size, 3, none⟩ = some (.slice (some ⟨g, o, none⟩) n2 cr) ∧ wx.cell? ⟨g, o + k * 2, none⟩ = some (.int .i64 x) ∧ wx.cell? ⟨g, o + k * 2 + 1, none⟩ = some (.int .i64 y)) (by kernel_rfl) (by exact ⟨(BF).cell 0 rfl, (BF).cell 1 rfl, (BF).cell 2 rfl, (BF).cell 3 rfl, Q0, Q1⟩) (fun hHeld => ?_)
            refine take_at (i := 0) (v := .slice va nk vc) (d := some 75) rfl rfl (by kernel_rfl) (by kernel_rfl) (by kernel_rfl) (fun _ _ _ h => h) (Or.inl ⟨by rfl, fun wS ⟨hS0, hS1, hS2, hS3, hS4, hS5⟩ => by go_simp; all_goals (rw [IntKind.wrap_i64]; omega)⟩) (by assumption) ?_
            simp only [Act.put, List.setIfInBounds_toArray, List.set_cons_zero, List.set_cons_succ]
            refine take_at (i := 1) (v := .pointer (some ⟨w.heap.size, 3, none⟩)) (d := some 76) rfl rfl (by kernel_rfl) (by kernel_rfl) (by kernel_rfl) (fun _ _ _ h => h) (Or.inl ⟨by rfl, fun wS ⟨hS0, hS1, hS2, hS3, hS4, hS5⟩ => by go_simp; all_goals (rw [IntKind.wrap_i64]; omega)⟩) (by assumption) ?_
            simp only [Act.put, List.setIfInBounds_toArray, List.set_cons_zero, List.set_cons_succ]
            refine take_at (i := 2) (v := .slice (some ⟨g, o, none⟩) n2 cr) (d := some 77) rfl rfl (by kernel_rfl) (by kernel_rfl) (by kernel_rfl) (fun _ _ _ h => h) (Or.inl ⟨by rfl, fun wS ⟨hS0, hS1, hS2, hS3, hS4, hS5⟩ => by go_simp; all_goals (rw [IntKind.wrap_i64]; omega)⟩) (by assumption) ?_
            simp only [Act.put, List.setIfInBounds_toArray, List.set_cons_zero, List.set_cons_succ]
            refine take_at (i := 3) (v := .int .i64 (k : Int)) (d := some 78) rfl rfl (by kernel_rfl) (by kernel_rfl) (by kernel_rfl) (fun _ _ _ h => h) (Or.inl ⟨by rfl, fun wS ⟨hS0, hS1, hS2, hS3, hS4, hS5⟩ => by go_simp; all_goals (rw [IntKind.wrap_i64]; omega)⟩) (by assumption) ?_
            simp only [Act.put, List.setIfInBounds_toArray, List.set_cons_zero, List.set_cons_succ]
            refine take_at (i := 4) (v := .pointer (some ⟨g, o + k * 2, none⟩)) (d := some 79) rfl rfl (by kernel_rfl) (by kernel_rfl) (by kernel_rfl) (fun _ _ _ h => h) (Or.inl ⟨by rfl, fun wS ⟨hS0, hS1, hS2, hS3, hS4, hS5⟩ => by go_simp; all_goals (rw [IntKind.wrap_i64]; omega)⟩) (by assumption) ?_
            simp only [Act.put, List.setIfInBounds_toArray, List.set_cons_zero, List.set_cons_succ]
            refine take_at (i := 5) (v := .pointer (some ⟨g, o + k * 2, none⟩)) (d := some 80) rfl rfl (by kernel_rfl) (by kernel_rfl) (by kernel_rfl) (fun _ _ _ h => h) (Or.inl ⟨by rfl, fun wS ⟨hS0, hS1, hS2, hS3, hS4, hS5⟩ => by go_simp; all_goals (rw [IntKind.wrap_i64]; omega)⟩) (by assumption) ?_
            simp only [Act.put, List.setIfInBounds_toArray, List.set_cons_zero, List.set_cons_succ]
            refine take_at (i := 6) (v := .int .i64 x) (d := some 81) rfl rfl (by kernel_rfl) (by kernel_rfl) (by kernel_rfl) (fun _ _ _ h => h) (Or.inl ⟨by rfl, fun wS ⟨hS0, hS1, hS2, hS3, hS4, hS5⟩ => by go_simp; all_goals (rw [IntKind.wrap_i64]; omega)⟩) (by assumption) ?_
            simp only [Act.put, List.setIfInBounds_toArray, List.set_cons_zero, List.set_cons_succ]
            refine take_at (i := 7) (v := .pointer (some ⟨w.heap.size, 3, none⟩)) (d := some 82) rfl rfl (by kernel_rfl) (by kernel_rfl) (by kernel_rfl) (fun _ _ _ h => h) (Or.inl ⟨by rfl, fun wS ⟨hS0, hS1, hS2, hS3, hS4, hS5⟩ => by go_simp; all_goals (rw [IntKind.wrap_i64]; omega)⟩) (by assumption) ?_
            simp only [Act.put, List.setIfInBounds_toArray, List.set_cons_zero, List.set_cons_succ]
            refine take_at (i := 8) (v := .slice (some ⟨g, o, none⟩) n2 cr) (d := some 83) rfl rfl (by kernel_rfl) (by kernel_rfl) (by kernel_rfl) (fun _ _ _ h => h) (Or.inl ⟨by rfl, fun wS ⟨hS0, hS1, hS2, hS3, hS4, hS5⟩ => by go_simp; all_goals (rw [IntKind.wrap_i64]; omega)⟩) (by assumption) ?_
            simp only [Act.put, List.setIfInBounds_toArray, List.set_cons_zero, List.set_cons_succ]
            refine take_at (i := 9) (v := .int .i64 (k : Int)) (d := some 84) rfl rfl (by kernel_rfl) (by kernel_rfl) (by kernel_rfl) (fun _ _ _ h => h) (Or.inl ⟨by rfl, fun wS ⟨hS0, hS1, hS2, hS3, hS4, hS5⟩ => by go_simp; all_goals (rw [IntKind.wrap_i64]; omega)⟩) (by assumption) ?_
            simp only [Act.put, List.setIfInBounds_toArray, List.set_cons_zero, List.set_cons_succ]
            refine take_at (i := 10) (v := .pointer (some ⟨g, o + k * 2, none⟩)) (d := some 85) rfl rfl (by kernel_rfl) (by kernel_rfl) (by kernel_rfl) (fun _ _ _ h => h) (Or.inl ⟨by rfl, fun wS ⟨hS0, hS1, hS2, hS3, hS4, hS5⟩ => by go_simp; all_goals (rw [IntKind.wrap_i64]; omega)⟩) (by assumption) ?_
            simp only [Act.put, List.setIfInBounds_toArray, List.set_cons_zero, List.set_cons_succ]
            refine take_at (i := 11) (v := .pointer (some ⟨g, o + k * 2 + 1, none⟩)) (d := some 86) rfl rfl (by kernel_rfl) (by kernel_rfl) (by kernel_rfl) (fun _ _ _ h => h) (Or.inl ⟨by rfl, fun wS ⟨hS0, hS1, hS2, hS3, hS4, hS5⟩ => by go_simp; all_goals (rw [IntKind.wrap_i64]; omega)⟩) (by assumption) ?_
            simp only [Act.put, List.setIfInBounds_toArray, List.set_cons_zero, List.set_cons_succ]
            refine take_at (i := 12) (v := .int .i64 y) (d := some 87) rfl rfl (by kernel_rfl) (by kernel_rfl) (by kernel_rfl) (fun _ _ _ h => h) (Or.inl ⟨by rfl, fun wS ⟨hS0, hS1, hS2, hS3, hS4, hS5⟩ => by go_simp; all_goals (rw [IntKind.wrap_i64]; omega)⟩) (by assumption) ?_
            simp only [Act.put, List.setIfInBounds_toArray, List.set_cons_zero, List.set_cons_succ]
            refine wpAnyH_ready (rs := [13]) (by kernel_rfl) (by simp) ?_
            refine AllReadyH.cons rfl (fun K hK => ?_) AllReadyH.nil
            go_simp
            have hX1 : Below wr.heap.size wr ((wr.alloc (.cells #[.int .i64 2, .int .i64 x, .int .i64 y, .int .i64 0, .int .i64 0] 3)).drew) := (below_alloc wr _).drew
            have BG : Blk ((wr.alloc (.cells #[.int .i64 2, .int .i64 x, .int .i64 y, .int .i64 0, .int .i64 0] 3)).drew) wr.heap.size (rowI [2, x, y, 0, 0]) 3 := Blk.new wr _ _
            obtain ⟨W1, hW1⟩ : ∃ W1, (wr.alloc (.cells #[.int .i64 2, .int .i64 x, .int .i64 y, .int .i64 0, .int .i64 0] 3)).drew = W1 := ⟨_, rfl⟩
            rw [hW1] at hX1 BG ⊢
            clear hW1 hHeld
            have BF1 := BF.after hX1
            have gw : g < wr.heap.size := by omega
            have Q01 := (hX1.cell (p := ⟨g, o + k * 2, none⟩) gw).trans p0
            have Q11 := (hX1.cell (p := ⟨g, o + k * 2 + 1, none⟩) gw).trans p1
            refine hK.out _ _ (⟨(BF1).cell 0 rfl, (BF1).cell 1 rfl, (BF1).cell 2 rfl, (BF1).cell 3 rfl, Q01, Q11⟩) (fun hHeld => ?_)
            clear hK K
            refine wpAnyH_ready (rs := [14]) (by kernel_rfl) (by simp) ?_
            refine AllReadyH.cons rfl (fun K hK => ?_) AllReadyH.nil
            go_simp
            have hX2 : Below W1.heap.size W1 (W1.alloc (.cells #[.slice (some ⟨wr.heap.size, 0, none⟩) 5 5] 53)) := below_alloc W1 _
            have hX3 := below_next hX1 (Nat.le_refl _) hX2
            have BF2 := BF1.after hX2
            have BG2 := BG.after hX2
            have Q02 := (hX3.cell (p := ⟨g, o + k * 2, none⟩) gw).trans p0
            have Q12 := (hX3.cell (p := ⟨g, o + k * 2 + 1, none⟩) gw).trans p1
            have HC2 := fun j u hu => new_cell1 W1 W1.heap.size rfl (.slice (some ⟨wr.heap.size, 0, none⟩) 5 5) 53 j u hu
            have hz2' : (W1.alloc (.cells #[.slice (some ⟨wr.heap.size, 0, none⟩) 5 5] 53)).heap.size = W1.heap.size + 1 := size_alloc _ _
            obtain ⟨W2, hW2⟩ : ∃ W2, W1.alloc (.cells #[.slice (some ⟨wr.heap.size, 0, none⟩) 5 5] 53) = W2 := ⟨_, rfl⟩
            rw [hW2] at hX2 hX3 BF2 BG2 Q02 Q12 HC2 hz2' ⊢
            have h1' : W2.ownsRow W5.heap.size 53 1 (.slice va nk vc) us.length us := World.ownsRow.kept h1 (grown_below hX3 none) (by cases va <;> simp [Value.ownBlock])
            clear hW2 hHeld
            refine hK.out _ _ (⟨(BF2).cell 0 rfl, (BF2).cell 1 rfl, (BF2).cell 2 rfl, (BF2).cell 3 rfl, Q02, Q12⟩) (fun hHeld => ?_)
            clear hK K
            refine wpAnyH_ready (rs := [15]) (by kernel_rfl) (by simp) ?_
            refine AllReadyH.cons rfl (fun K hK => ?_) AllReadyH.nil
            rw [if_pos (by rfl)]
            refine wp_append_own W2 (.tmp 75) (.tmp 89) 52 rfl W5.heap.size 53 i0 _ 1 24 Try.underlying52 hi hz0 hz1 hz2 rfl (by decide) (.slice va nk vc) us.length us rfl h1' ⟨W1.heap.size, 0, none⟩ 1 1 [.slice (some ⟨wr.heap.size, 0, none⟩) 5 5] rfl rfl ?c1 ?c2 ?c3 ?c4 ?c5 ?_
            case c1 => exact HC2
            case c2 => intro u hu; simp at hu; subst hu; rfl
            case c3 => unfold maxLen; omega
            case c4 => omega
            case c5 => have := hX3.size; omega
            intro v9 w9 hown9 hgrow9 _
            have HI9 : Hid (Its w9 W5.heap.size v9 (Lk ++ [[2, x, y, 0, 0]])) := hide (Its.more h1' (by rw [HUL.out]; exact h2) (fun i hi => by
              obtain ⟨q, qa, qb, qc⟩ := h3 i hi
              exact ⟨q, qa, qb, qc.after hX3⟩) rfl BG2 hown9 hgrow9)
            have HB9 : Hid (Below W5.heap.size W5 w9) := hide ((hb.out.trans (hX3.mono gs)).grown hgrow9 (by have := hX3.size; omega) (fun j e => (h1'.lt j e).1))
            have BF3 := blk_grown h1' BF2 (by decide) hgrow9
            have hb9 := below_next hB (Nat.le_refl _) HB9.out
            have Q03 := (hb9.cell (p := ⟨g, o + k * 2, none⟩) hg).trans c0
            have Q13 := (hb9.cell (p := ⟨g, o + k * 2 + 1, none⟩) hg).trans c1
            obtain ⟨va9, vc9, e9⟩ := HI9.out.form
            rw [List.length_append, HUL.out] at e9
            subst e9
            clear hHeld hown9 hgrow9
            simp only [Act.put, List.setIfInBounds_toArray]
            refine hK.out _ _ (⟨(BF3).cell 0 rfl, (BF3).cell 1 rfl, (BF3).cell 2 rfl, (BF3).cell 3 rfl, Q03, Q13⟩) (fun hHeld => ?_)
            clear hK K
            refine take_at (i := 16) (v := .slice va9 (nk + [[2, x, y, 0, 0]].length) vc9) (d := some 8) rfl rfl (by kernel_rfl) (by kernel_rfl) (by kernel_rfl) (fun _ _ _ h => h) (Or.inl ⟨by rfl, fun wS ⟨hS0, hS1, hS2, hS3, hS4, hS5⟩ => by go_simp; all_goals (rw [IntKind.wrap_i64]; omega)⟩) (by assumption) ?_
            simp only [Act.put]
            refine wpAnyH_done (by kernel_rfl) ?_ _
            clear hHeld
            go_wp2_with fail
            go_roundw
            case rel => exact ⟨k + 1, by omega, by go_num, hide (by rw [HS.out]; exact HI9.out), HB9⟩
            case measure => simp [intOf]; omega
          · have e1 : k = n2 := by omega
            have HI1 : Hid (Lsts wr u8 (itemsF P fl ce R)) := hide (by
              have := hI.out.lsts
              rw [e1, HRA.out] at this
              exact this)
            clear hI e1 hi hz0 hz1 hz2
            go_wp2_with fail
            refine (OF2.out _ _ HI1.out).mono ?_
            rintro e w6 ⟨op, or', rfl, hop, hor, hb6⟩
            have hb7 := hb.out.trans (hb6.mono gs)
            obtain ⟨oa, oc, e1⟩ : ∃ a c, op = .slice a n1 c := by obtain ⟨a, c, e, _⟩ := hop; exact ⟨a, c, by rw [e, HN1.out]⟩
            obtain ⟨qa, qc, e2⟩ : ∃ a c, or' = .slice a n2 c := by obtain ⟨a, c, e, _⟩ := hor; exact ⟨a, c, by rw [e, HN2.out]⟩
            subst e1 e2
            have B2 := Blk.new w6 #[.slice oa n1 oc, .int .i64 fl, .int .i64 ce, .slice qa n2 qc] 24
            have hb8 := below_alloc w6 (.cells #[.slice oa n1 oc, .int .i64 fl, .int .i64 ce, .slice qa n2 qc] 24)
            have hb9 := hb7.trans (hb8.mono (by have := hb7.size; omega))
            replace B0 := B0.after hb9
            replace B1 := B1.after hb9
            have HDP2 := HDP.out.below hb9
            have HDR2 := HDR.out.below hb9
            replace hop := hop.below hb8
            replace hor := hor.below hb8
            replace hB := below_next hB (Nat.le_refl _) hb9
            clear hb8 hb9 hb7 hb6 HDP HDR HI1 OF2 hbw j3
            go_wp2_with fail
            refine (AW _).mono ?_
            rintro e w7 ⟨rfl, hb⟩
            replace B0 := B0.after hb
            replace B1 := B1.after hb
            replace B2 := B2.after hb
            replace HDP2 := HDP2.below hb
            replace HDR2 := HDR2.below hb
            replace hop := hop.below hb
            replace hor := hor.below hb
            replace hB := below_next hB (Nat.le_refl _) hb
            clear hb
            generalize w6.heap.size = G2 at *
            have a0 := B0.cell 0 rfl
            have a1 := B0.cell 1 rfl
            have a2 := B0.cell 2 rfl
            have a3 := B0.cell 3 rfl
            have d0 := B1.cell 0 rfl
            have d1 := B1.cell 1 rfl
            have d2 := B1.cell 2 rfl
            have d3 := B1.cell 3 rfl
            go_wp2_with fail
            refine (SA _ hB _ _ HDP2 HDR2).mono ?_
            rintro e w8 ⟨rfl, hb⟩
            replace B0 := B0.after hb
            replace B2 := B2.after hb
            replace hop := hop.below hb
            replace hor := hor.below hb
            replace hB := below_next hB (Nat.le_refl _) hb
            clear hb a0 a1 a2 a3 d0 d1 d2 d3 HDP2 HDR2
            have a0 := B0.cell 0 rfl
            have a1 := B0.cell 1 rfl
            have a2 := B0.cell 2 rfl
            have a3 := B0.cell 3 rfl
            have d0 := B2.cell 0 rfl
            have d1 := B2.cell 1 rfl
            have d2 := B2.cell 2 rfl
            have d3 := B2.cell 3 rfl
            go_wp2_with fail
            refine (SA _ hB _ _ hop hor).mono ?_
            rintro e w9 ⟨rfl, hb⟩
            have hts2 : decide (((T.size : Nat) : Int) ≤ 2000) = true := by simp; omega
            go_wp2_with fail
            go_ret
            exact ⟨by first | rfl | exact ret_bool (by simp; omega), below_next hB (Nat.le_refl _) hb⟩
  · have hT := HIN.out hE
    subst hT
    clear HZ DE OF HIN HIS
    go_wp2_with fail
    all_goals refine (AW _).mono ?_
    all_goals rintro e w9 ⟨rfl, hb⟩
    all_goals go_wp2_with fail
    all_goals go_ret
    all_goals exact ⟨by first | rfl | exact ret_bool (by simp), below_next hB (Nat.le_refl _) hb⟩
end Go.Proofs.Ytnenbbkkhnlgbaa
