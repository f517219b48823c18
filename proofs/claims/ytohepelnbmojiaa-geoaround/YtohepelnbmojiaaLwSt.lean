/- GeoStays. -/
import Derived.Test.YtohepelnbmojiaaGeT
import Derived.Deep.DeepCutAuto
import Derived.Deep.RegionWith
namespace Go.Proofs.Ytohepelnbmojiaa
open Go.RowKit Go.Great

theorem Pts.own {w : World} {g n cap : Nat} {l : List Pt} (h : Pts w (.slice (some ⟨g, 0, none⟩) n cap) (l ++ [mark])) : Pts w (.slice (some ⟨g, 0, none⟩) l.length cap) l := by
  have := h.take l.length cap (by simp)
  rwa [List.take_left' rfl] at this
theorem side_own (l : List Pt) (p0 p1 : Int) (hl : l.length ≤ 4611686018427387904) {W : World} {g n cap : Nat} (h : Pts W (.slice (some ⟨g, 0, none⟩) n cap) (l ++ [mark])) : Calls Try.prog 27 #[.slice (some ⟨g, 0, none⟩) l.length cap, .agg #[.int .i64 p0, .int .i64 p1]] W fun e w' => e = .returned (.tuple #[.int .i64 (sdI l (p0, p1)), .int .i64 (sdE l (p0, p1))]) ∧ Below W.heap.size W w' :=
  callsIn_wide.1 (side_any l _ (p0, p1) W h.own hl)
theorem sd_none (l : List Pt) (p : Pt) : sdE l p = 0 ∨ sdI l p = 0 := by
  unfold sdE sdI
  split
  · split <;> simp
  · simp
theorem sd_ok {l : List Pt} {p : Pt} (h : sdE l p = 0) : simE l = 0 ∧ fitB p = true := by
  unfold sdE at h
  split at h
  · split at h
    · exact ⟨by assumption, by assumption⟩
    · omega
  · contradiction
theorem sim_len {l : List Pt} (h : simE l = 0) : 3 ≤ l.length ∧ l.length ≤ 64 ∧ l.all fitB = true := by
  unfold simE at h
  repeat (split at h <;> try omega)
  exact ⟨by omega, by omega, by simp_all⟩
set_option maxRecDepth 100000 in
set_option maxHeartbeats 8000000 in
theorem stays_walk (l : List Pt) (v : Value) (p0 p1 q0 q1 : Int) (w : World) (hv : PtsIn w v l) : Calls Try.prog 11 #[v, .agg #[.int .i64 p0, .int .i64 p1], .agg #[.int .i64 q0, .int .i64 q1]] w fun e w' => e = .returned (.bool true) ∧ Below w.heap.size w w' := by
  have AW := awake_any
  have LE := fun W' (hb : Below w.heap.size w W') => lent_any l v W' ⟨hv.1.below hb, hv.2⟩
  have hl : l.length ≤ 4611686018427387904 := by have := hv.2.2; omega
  have SP := fun (W : World) (g n cap : Nat) (h : Pts W (.slice (some ⟨g, 0, none⟩) n cap) (l ++ [mark])) => side_own l p0 p1 hl h
  have SQ := fun (W : World) (g n cap : Nat) (h : Pts W (.slice (some ⟨g, 0, none⟩) n cap) (l ++ [mark])) => side_own l q0 q1 hl h
  have np := sd_none l (p0, p1)
  have nq := sd_none l (q0, q1)
  have HOKP : Hid (sdE l (p0, p1) = 0 → simE l = 0 ∧ fitB (p0, p1) = true) := sd_ok
  have HOKQ : Hid (sdE l (q0, q1) = 0 → simE l = 0 ∧ fitB (q0, q1) = true) := sd_ok
  have HST : Hid (simE l = 0 → fitB (p0, p1) = true → fitB (q0, q1) = true → (∀ k, k < l.length → meetB (pt l k) (pt l (nxt l.length k)) (p0, p1) (q0, q1) = false) → sdI l (p0, p1) = sdI l (q0, q1) ∧ sdI l (p0, p1) ≠ 0) := stays
  have HME : Hid (∀ k, k < l.length → simE l = 0 → fitB (p0, p1) = true → fitB (q0, q1) = true → meI (pt l k) (pt l (nxt l.length k)) (p0, p1) (q0, q1) = meetB (pt l k) (pt l (nxt l.length k)) (p0, p1) (q0, q1) ∧ orE [pt l k, pt l (nxt l.length k), (p0, p1), (q0, q1)] = 0) := by
    intro k hk hs hp hq
    have ha := (sim_len hs).2.2
    have h1 := at_all ha hk
    have h2 := at_all ha (nxt_lt (m := l.length) (k := k) (by omega))
    have : [pt l k, pt l (nxt l.length k), (p0, p1), (q0, q1)].all fitB = true := by
      simp only [List.all_cons, List.all_nil, hp, hq, Bool.and_true]
      rw [show fitB (pt l k) = true from h1, show fitB (pt l (nxt l.length k)) = true from h2]; rfl
    unfold meI orE
    rw [if_pos this, if_pos this]
    exact ⟨rfl, rfl⟩
  have HV := hide hv.1
  obtain ⟨a, cap, rfl, hc0⟩ := hv.1
  clear hv hc0
  obtain ⟨m, hm⟩ : ∃ m, l.length = m := ⟨_, rfl⟩
  have HM := hide hm
  rw [hm] at LE SP SQ HST HME HV hl ⊢
  clear hm
  obtain ⟨S, hS⟩ : ∃ S, sdI l (p0, p1) = S := ⟨_, rfl⟩
  obtain ⟨E, hE⟩ : ∃ E, sdE l (p0, p1) = E := ⟨_, rfl⟩
  obtain ⟨S', hS'⟩ : ∃ S, sdI l (q0, q1) = S := ⟨_, rfl⟩
  obtain ⟨E', hE'⟩ : ∃ E, sdE l (q0, q1) = E := ⟨_, rfl⟩
  rw [hS, hE] at SP np
  rw [hS', hE'] at SQ nq
  rw [hS, hS'] at HST
  rw [hE] at HOKP
  rw [hE'] at HOKQ
  clear hS hE hS' hE'
  have NP := hide np
  have NQ := hide nq
  clear np nq
  go_enter Try.func11, Try.ntmps11
  go_wp2_with fail
  obtain ⟨W0, hW0, hB, B0, B1, hz⟩ := two_boxes w #[.int .i64 p0, .int .i64 p1] #[.int .i64 q0, .int .i64 q1] 23 23
  rw [hW0]
  clear hW0 hz
  go_cut [7, 8] (fun x y wx => x = .int .i64 S ∧ y = .int .i64 E ∧ Below W0.heap.size W0 wx)
  case first =>
    have c0 := B0.cell 0 rfl
    have c1 := B0.cell 1 rfl
    have lB := B0.lt
    go_region_with (first
      | (go_at_call 21; refine (LE _ (by first | exact hB.drew | exact hB)).mono ?_; rintro e w1 ⟨g1, c1', rfl, hP1, _, hb1⟩; have hb1' : Below W0.heap.size W0 w1 := below_next (Below.refl _ _).drew (Nat.le_refl _) hb1; have kk0 := (B0.after hb1').cell 0 rfl; have kk1 := (B0.after hb1').cell 1 rfl)
      | (go_at_call 27; refine (SP _ _ _ _ hP1).mono ?_; rintro e w2 ⟨rfl, hb2⟩))
    all_goals go_wp2_with fail
    all_goals go_meet
    all_goals exact ⟨rfl, rfl, below_next hb1' (Nat.le_refl _) hb2⟩
  case rest =>
    obtain ⟨rfl, rfl, hb⟩ := hcut
    replace B0 := B0.after hb
    replace B1 := B1.after hb
    replace hB := below_next hB (Nat.le_refl _) hb
    clear hb SP
    go_wp2_with fail
    obtain ⟨W1, hW1⟩ : ∃ W1, W1 = wc := ⟨_, rfl⟩
    subst hW1
    go_cut [9, 10] (fun x y wx => x = .int .i64 S' ∧ y = .int .i64 E' ∧ Below W1.heap.size W1 wx)
    case first =>
      have c0 := B1.cell 0 rfl
      have c1 := B1.cell 1 rfl
      have lB := B1.lt
      go_region_with (first
        | (go_at_call 21; refine (LE _ (by first | exact hB.drew | exact hB)).mono ?_; rintro e w1 ⟨g1, c1', rfl, hP1, _, hb1⟩; have hb1' : Below W1.heap.size W1 w1 := below_next (Below.refl _ _).drew (Nat.le_refl _) hb1; have kk0 := (B1.after hb1').cell 0 rfl; have kk1 := (B1.after hb1').cell 1 rfl)
        | (go_at_call 27; refine (SQ _ _ _ _ hP1).mono ?_; rintro e w2 ⟨rfl, hb2⟩))
      all_goals go_wp2_with fail
      all_goals go_meet
      all_goals exact ⟨rfl, rfl, below_next hb1' (Nat.le_refl _) hb2⟩
    case rest =>
      obtain ⟨rfl, rfl, hb⟩ := hcut
      replace B0 := B0.after hb
      replace B1 := B1.after hb
      replace hB := below_next hB (Nat.le_refl _) hb
      clear hb SQ LE
      have k0 := B0.cell 0 rfl
      have k1 := B0.cell 1 rfl
      have k2 := B1.cell 0 rfl
      have k3 := B1.cell 1 rfl
      obtain ⟨W2, hW2⟩ : ∃ W2, W2 = wc := ⟨_, rfl⟩
      subst hW2
      by_cases hE : E = 0 ∧ E' = 0
      · obtain ⟨rfl, rfl⟩ := hE
        obtain ⟨hs, hp⟩ := HOKP.out (by trivial)
        obtain ⟨_, hq⟩ := HOKQ.out (by trivial)
        obtain ⟨h3, h64, hall⟩ := sim_len hs
        have HV2 := HV.out.below hB
        obtain ⟨a', cap', hsl, hcc0⟩ := HV2
        have hml := HM.out
        injection hsl with ea em ec
        subst ea ec
        obtain ⟨g, o, rfl, hg, hcc⟩ := hcc0 (by omega)
        have HCC : Hid (∀ i, i < m → W2.cell? ⟨g, o + i * 2, none⟩ = some (.int .i64 (ptx l i)) ∧ W2.cell? ⟨g, o + i * 2 + 1, none⟩ = some (.int .i64 (pty l i))) := fun i hi => hcc i (by omega)
        have hm0 : 0 < m := by omega
        have hm64 : m ≤ 64 := by omega
        have ME := hide (fun k (hk : k < m) => HME.out k hk hs hp hq)
        have ST := hide (fun h => HST.out hs hp hq h)
        have HB := hide hB
        have HB0 := hide B0
        have HB1 := hide B1
        clear hs hp hq h3 h64 hall hml em hcc0 hcc HOKP HOKQ HST HME HV HM NP NQ B0 B1 hB k0 k1 k2 k3
        go_wp2_with fail
        go_loopw [11] (fun i wx => ∃ k : Nat, k ≤ m ∧ i = .int .i64 k ∧ Hid (∀ j, j < k → meetB (pt l j) (pt l (nxt m j)) (p0, p1) (q0, q1) = false) ∧ Hid (Below W2.heap.size W2 wx)) (fun i _ => m - (intOf i).toNat)
        case atStart => exact ⟨0, Nat.zero_le _, rfl, hide (fun j h => by omega), hide (Below.refl _ _)⟩
        case round =>
          obtain ⟨k, hk, rfl, hf, hbx⟩ := hrel
          by_cases hlt : k < m
          · have hrem : ((k : Int) + 1) % (m : Int) = ((nxt m k : Nat) : Int) := rfl
            have hnl : ((nxt m k : Nat) : Int) < m := by have := nxt_lt (k := k) hm0; omega
            obtain ⟨e1, e2⟩ := ME.out k hlt
            have MT := meetF_any (pt l k) (pt l (nxt m k)) (p0, p1) (q0, q1)
            obtain ⟨r, hr⟩ : ∃ r, meI (pt l k) (pt l (nxt m k)) (p0, p1) (q0, q1) = r := ⟨_, rfl⟩
            rw [e2, hr] at MT
            rw [hr] at e1
            clear hr
            have HE1 := hide e1
            clear e1 e2
            simp only [pV, pt] at MT
            have gb := hbx.out.size
            have c0 := fun x : BelowW wr => x.cell ((hbx.out.cell (p := ⟨g, o + k * 2, none⟩) hg).trans (HCC.out k hlt).1) (by omega)
            have c1 := fun x : BelowW wr => x.cell ((hbx.out.cell (p := ⟨g, o + k * 2 + 1, none⟩) hg).trans (HCC.out k hlt).2) (by omega)
            have d0 := fun x : BelowW wr => x.cell ((hbx.out.cell (p := ⟨g, o + nxt m k * 2, none⟩) hg).trans (HCC.out _ (nxt_lt hm0)).1) (by omega)
            have d1 := fun x : BelowW wr => x.cell ((hbx.out.cell (p := ⟨g, o + nxt m k * 2 + 1, none⟩) hg).trans (HCC.out _ (nxt_lt hm0)).2) (by omega)
            have k0 := (HB0.out.after hbx.out).at 0 rfl
            have k1 := (HB0.out.after hbx.out).at 1 rfl
            have k2 := (HB1.out.after hbx.out).at 0 rfl
            have k3 := (HB1.out.after hbx.out).at 1 rfl
            have hne : Nonempty (BelowW wr) := ⟨⟨wr, Below.refl _ _⟩⟩
            generalize ptx l k = xa at *
            generalize pty l k = ya at *
            generalize ptx l (nxt m k) = xb at *
            generalize pty l (nxt m k) = yb at *
            generalize hnk : nxt m k = kn at *
            have HNK := hide hnk
            clear hnk
            go_wp2_with fail
            refine wp_region_calm (by kernel_rfl) (by kernel_rfl) ?_
            repeat (go_big_quiet_step (first | (go_at_call 20; exact calm_of (MT _))))
            refine wpQuiet_nil ?_
            rintro w5 ⟨⟨q3, hq⟩, e3⟩
            have e4 : w5 = q3 := e3
            clear e3
            subst e4
            clear c0 c1 d0 d1 k0 k1 k2 k3 hne
            have hb5 := below_next hbx.out (Nat.le_refl _) hq
            cases r
            · go_wp2_with fail
              go_roundw
              case rel =>
                refine ⟨k + 1, by omega, by go_num, hide (fun j hj => ?_), hide hb5⟩
                by_cases ej : j = k
                · subst ej
                  rw [HNK.out]
                  exact HE1.out.symm
                · exact hf.out j (by omega)
              case measure => simp [intOf]; omega
            · go_wp2_with fail
              refine (AW _).mono ?_
              rintro e w9 ⟨rfl, hb9⟩
              go_wp2_with fail
              go_ret
              exact ⟨rfl, below_next (below_next HB.out (Nat.le_refl _) hb5) (Nat.le_refl _) hb9⟩
          · obtain ⟨e1, e2⟩ := ST.out (fun j hj => hf.out j (by omega))
            subst e1
            have HE2 := hide e2
            clear e2
            go_wp2_with fail
            refine (AW _).mono ?_
            rintro e w9 ⟨rfl, hb9⟩
            go_wp2_with fail
            go_ret
            exact ⟨ret_bool (by simp; exact HE2.out), below_next (below_next HB.out (Nat.le_refl _) hbx.out) (Nat.le_refl _) hb9⟩
      · have np := NP.out
        have nq := NQ.out
        clear NP NQ HST HME HOKP HOKQ HV HM
        by_cases e1 : E = 0
        · have e2 : ¬ E' = 0 := fun e => hE ⟨e1, e⟩
          have e3 : S' = 0 := by omega
          subst e1 e3
          clear np nq hE
          go_wp2_with fail
          refine (AW _).mono ?_
          rintro e w9 ⟨rfl, hb9⟩
          go_wp2_with fail
          all_goals (go_ret; exact ⟨by first | rfl | exact ret_bool (by simp), below_next hB (Nat.le_refl _) hb9⟩)
        · have e3 : S = 0 := by omega
          subst e3
          clear np hE
          rcases nq with e4 | e4
          · subst e4
            go_wp2_with fail
            refine (AW _).mono ?_
            rintro e w9 ⟨rfl, hb9⟩
            go_wp2_with fail
            all_goals (go_ret; exact ⟨by first | rfl | exact ret_bool (by simp), below_next hB (Nat.le_refl _) hb9⟩)
          · subst e4
            go_wp2_with fail
            refine (AW _).mono ?_
            rintro e w9 ⟨rfl, hb9⟩
            go_wp2_with fail
            all_goals (go_ret; exact ⟨by first | rfl | exact ret_bool (by simp), below_next hB (Nat.le_refl _) hb9⟩)
theorem GeoStays_walk (v : Value) (p0 p1 q0 q1 : Int) (w : World) (h : ∃ l, PtsIn w v l) : Calls Try.prog 11 #[v, .agg #[.int .i64 p0, .int .i64 p1], .agg #[.int .i64 q0, .int .i64 q1]] w fun e w' => e = .returned (.bool true) ∧ Below w.heap.size w w' := by
  obtain ⟨l, hl⟩ := h
  exact stays_walk l v p0 p1 q0 q1 w hl
end Go.Proofs.Ytohepelnbmojiaa
