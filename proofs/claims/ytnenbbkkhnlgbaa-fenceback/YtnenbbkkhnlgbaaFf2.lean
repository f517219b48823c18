/- The document's fence: Within, Holds, lane, Lane. -/
import Derived.Test.YtnenbbkkhnlgbaaFf1
namespace Go.Proofs.Ytnenbbkkhnlgbaa
open Go.RowKit Go.Great

theorem wi_of {P : List Pt} {x y : Pt} (hm : (mayB x.1 && mayB x.2 && mayB y.1 && mayB y.2) = true) (h : ∀ j, j < P.length → touchB (pt P j) (pt P (nxt P.length j)) x y = false) : wiB P x y = decide (sidI P P.length (x.1, y.1) = 1) := by
  unfold wiB
  rw [hm]
  have : ((List.range P.length).all fun k => !touchB (pt P k) (pt P (nxt P.length k)) x y) = true := by
    rw [List.all_eq_true]
    intro k hk
    rw [h k (List.mem_range.1 hk)]
    rfl
  rw [this]
  rfl
theorem wi_not {P : List Pt} {x y : Pt} {j : Nat} (hj : j < P.length) (h : touchB (pt P j) (pt P (nxt P.length j)) x y = true) : wiB P x y = false := by
  unfold wiB
  have : ((List.range P.length).all fun k => !touchB (pt P k) (pt P (nxt P.length k)) x y) = false := by
    rw [List.all_eq_false]
    exact ⟨j, List.mem_range.2 hj, by rw [h]; simp⟩
  rw [this]
  simp
set_option maxRecDepth 100000 in
set_option maxHeartbeats 4000000 in
theorem rwithin_any (P : List Pt) (v : Value) (x y : Pt) (w : World) (hv : Pts w v P) (hs : simE P = 0) : Calls Try.prog 53 #[v, pV x, pV y] w fun e w' => e = .returned (.bool (wiB P x y)) ∧ Below w.heap.size w w' := by
  obtain ⟨l3, l64, hall⟩ := sim_len hs
  have IN := fun W (hb : Below w.heap.size w W) (h : Fit (x.1, y.1)) => rinside_fn P v (x.1, y.1) W (hv.below hb) hs h
  have TC := fun k (hk : k < P.length) (h1 : Fit (x.1, y.1)) (h2 : Fit (x.2, y.2)) W => rtouch_any (pt P k) (pt P (nxt P.length k)) x y (fits_of hall k hk) (fits_of hall _ (nxt_lt (by omega))) h1 h2 W
  have HNO : Hid ((mayB x.1 && mayB x.2 && mayB y.1 && mayB y.2) = false → wiB P x y = false) := fun h => by unfold wiB; rw [h]; rfl
  have HFI : Hid ((mayB x.1 && mayB x.2 && mayB y.1 && mayB y.2) = true → Fit (x.1, y.1) ∧ Fit (x.2, y.2)) := fun h => by
    simp only [Bool.and_eq_true] at h
    obtain ⟨⟨⟨h1, h2⟩, h3⟩, h4⟩ := h
    exact ⟨fit_of (by rw [fit_may]; simp only [h1, h3]; rfl), fit_of (by rw [fit_may]; simp only [h2, h4]; rfl)⟩
  have HYE : Hid ((mayB x.1 && mayB x.2 && mayB y.1 && mayB y.2) = true → (∀ j, j < P.length → touchB (pt P j) (pt P (nxt P.length j)) x y = false) → wiB P x y = decide (sidI P P.length (x.1, y.1) = 1)) := wi_of
  have HTO : Hid (∀ j, j < P.length → touchB (pt P j) (pt P (nxt P.length j)) x y = true → wiB P x y = false) := fun j hj h => wi_not hj h
  have M1 := rmay_any x.1
  have M2 := rmay_any x.2
  have M3 := rmay_any y.1
  have M4 := rmay_any y.2
  generalize wiB P x y = r at HNO HYE HTO ⊢
  generalize sidI P P.length (x.1, y.1) = sd at IN HYE
  obtain ⟨a, cap, rfl, hc⟩ := hv
  obtain ⟨g, o, rfl, hg, hcc⟩ := hc (by omega)
  have HCC : Hid (∀ i, i < P.length → w.cell? ⟨g, o + i * 2, none⟩ = some (.int .i64 (ptx P i)) ∧ w.cell? ⟨g, o + i * 2 + 1, none⟩ = some (.int .i64 (pty P i))) := fun i hi => hcc i hi
  clear hc hcc hs hall
  obtain ⟨m, hm⟩ : ∃ m, P.length = m := ⟨_, rfl⟩
  rw [hm] at IN TC HYE HTO HCC l3 l64 ⊢
  clear hm
  have h0 : 0 < m := by omega
  obtain ⟨b1, hb1⟩ : ∃ b, mayB x.1 = b := ⟨_, rfl⟩
  obtain ⟨b2, hb2⟩ : ∃ b, mayB x.2 = b := ⟨_, rfl⟩
  obtain ⟨b3, hb3⟩ : ∃ b, mayB y.1 = b := ⟨_, rfl⟩
  obtain ⟨b4, hb4⟩ : ∃ b, mayB y.2 = b := ⟨_, rfl⟩
  rw [hb1, hb2, hb3, hb4] at HNO HFI HYE
  rw [hb1] at M1
  rw [hb2] at M2
  rw [hb3] at M3
  rw [hb4] at M4
  clear hb1 hb2 hb3 hb4
  obtain ⟨x1, hx1⟩ : ∃ z, x.1 = z := ⟨_, rfl⟩
  obtain ⟨x2, hx2⟩ : ∃ z, x.2 = z := ⟨_, rfl⟩
  obtain ⟨y1, hy1⟩ : ∃ z, y.1 = z := ⟨_, rfl⟩
  obtain ⟨y2, hy2⟩ : ∃ z, y.2 = z := ⟨_, rfl⟩
  simp only [pV, hx1, hx2, hy1, hy2] at *
  clear hx1 hx2 hy1 hy2
  go_enter Try.func53, Try.ntmps53
  obtain ⟨W0, hW0, hB, B0, B1, hz⟩ := two_boxes w #[.int .i64 x1, .int .i64 x2] #[.int .i64 y1, .int .i64 y2] 32 32
  have k0 := B0.cell 0 rfl
  have k1 := B0.cell 1 rfl
  have k2 := B1.cell 0 rfl
  have k3 := B1.cell 1 rfl
  by_cases hall : (b1 && b2 && b3 && b4) = true
  · obtain ⟨f1, f2⟩ := HFI.out hall
    have HYE2 := hide (HYE.out hall)
    simp only [Bool.and_eq_true] at hall
    obtain ⟨⟨⟨rfl, rfl⟩, rfl⟩, rfl⟩ := hall
    have IN2 := fun W hb => IN W hb f1
    have TC2 := fun k hk => TC k hk f1 f2
    clear IN TC HNO HFI HYE f1 f2
    go_wp2_with fail
    refine (M1 _).mono ?_
    rintro e w2 ⟨rfl, hw⟩
    obtain rfl := hw.symm
    go_wp2_with fail
    refine (M2 _).mono ?_
    rintro e w2 ⟨rfl, hw⟩
    obtain rfl := hw.symm
    go_wp2_with fail
    refine (M3 _).mono ?_
    rintro e w2 ⟨rfl, hw⟩
    obtain rfl := hw.symm
    go_wp2_with fail
    refine (M4 _).mono ?_
    rintro e w2 ⟨rfl, hw⟩
    obtain rfl := hw.symm
    clear M1 M2 M3 M4
    go_wp2_with fail
    try rw [hW0]
    clear hW0 k0 k1 k2 k3 hz
    have HB0 := hide B0
    have HB1 := hide B1
    have HBB := hide hB
    clear B0 B1 hB
    go_loopw [7] (fun i wx => ∃ k : Nat, k ≤ m ∧ i = .int .i64 k ∧ Hid (∀ j, j < k → touchB (pt P j) (pt P (nxt m j)) x y = false) ∧ Hid (Below W0.heap.size W0 wx)) (fun i _ => m - (intOf i).toNat)
    case atStart => exact ⟨0, Nat.zero_le _, rfl, hide (fun j h => by omega), hide (Below.refl _ _)⟩
    case round =>
      obtain ⟨k, hk, rfl, hf, hbx⟩ := hrel
      have hbw := below_next HBB.out (Nat.le_refl _) hbx.out
      have gb := hbw.size
      by_cases hlt : k < m
      · have hrem : ((k : Int) + 1) % (m : Int) = ((nxt m k : Nat) : Int) := rfl
        have hnl : ((nxt m k : Nat) : Int) < m := by have := nxt_lt (k := k) h0; omega
        have c0 := fun z : BelowW wr => z.cell ((hbw.cell (p := ⟨g, o + k * 2, none⟩) hg).trans (HCC.out k hlt).1) (by omega)
        have c1 := fun z : BelowW wr => z.cell ((hbw.cell (p := ⟨g, o + k * 2 + 1, none⟩) hg).trans (HCC.out k hlt).2) (by omega)
        have d0 := fun z : BelowW wr => z.cell ((hbw.cell (p := ⟨g, o + nxt m k * 2, none⟩) hg).trans (HCC.out _ (nxt_lt h0)).1) (by omega)
        have d1 := fun z : BelowW wr => z.cell ((hbw.cell (p := ⟨g, o + nxt m k * 2 + 1, none⟩) hg).trans (HCC.out _ (nxt_lt h0)).2) (by omega)
        have k0 := (HB0.out.after hbx.out).at 0 rfl
        have k1 := (HB0.out.after hbx.out).at 1 rfl
        have k2 := (HB1.out.after hbx.out).at 0 rfl
        have k3 := (HB1.out.after hbx.out).at 1 rfl
        have MT := TC2 k hlt
        obtain ⟨t, ht⟩ : ∃ t, touchB (pt P k) (pt P (nxt m k)) x y = t := ⟨_, rfl⟩
        rw [ht] at MT
        have HE1 := hide ht
        clear ht TC2
        simp only [pt] at MT
        have hne : Nonempty (BelowW wr) := ⟨⟨wr, Below.refl _ _⟩⟩
        generalize ptx P k = xa at *
        generalize pty P k = ya at *
        generalize ptx P (nxt m k) = xb at *
        generalize pty P (nxt m k) = yb at *
        generalize hnk : nxt m k = kn at *
        have HNK := hide hnk
        clear hnk
        go_wp2_with fail
        refine wp_region_calm (by kernel_rfl) (by kernel_rfl) ?_
        repeat (go_big_quiet_step (first | (go_at_call 82; exact calm_of (MT _))))
        refine wpQuiet_nil ?_
        rintro w5 ⟨⟨q3, hq⟩, e3⟩
        have e4 : w5 = q3 := e3
        clear e3
        subst e4
        clear c0 c1 d0 d1 k0 k1 k2 k3 hne MT
        have hb5 := below_next hbx.out (Nat.le_refl _) hq
        cases t
        · go_wp2_with fail
          go_roundw
          case rel =>
            refine ⟨k + 1, by omega, by go_num, hide (fun j hj => ?_), hide hb5⟩
            by_cases ej : j = k
            · subst ej
              rw [HNK.out]
              exact HE1.out
            · exact hf.out j (by omega)
          case measure => simp [intOf]; omega
        · go_wp2_with fail
          go_ret
          exact ⟨ret_bool (HTO.out k hlt (by rw [HNK.out]; exact HE1.out)).symm, below_next HBB.out (Nat.le_refl _) hb5⟩
      · have HQ := hide (HYE2.out (fun j hj => hf.out j (by omega)))
        have k0 := (HB0.out.after hbx.out).cell 0 rfl
        have k2 := (HB1.out.after hbx.out).cell 0 rfl
        have II := IN2 wr hbw
        go_wp2_with fail
        refine II.mono ?_
        rintro e w5 ⟨rfl, hb5⟩
        go_wp2_with fail
        go_ret
        exact ⟨ret_bool (by rw [HQ.out]; rw [Bool.eq_iff_iff]; simp), below_next hbw (Nat.le_refl _) hb5⟩
  · have HQ : Hid (r = false) := hide (HNO.out (by simpa using hall))
    have HAL := hide hall
    clear HNO HFI HYE HTO IN TC hall
    cases b1
    · go_wp2_with fail
      refine (M1 _).mono ?_
      rintro e w2 ⟨rfl, hw⟩
      obtain rfl := hw.symm
      go_wp2_with fail
      go_ret
      exact ⟨ret_bool HQ.out.symm, hB⟩
    · cases b2
      · go_wp2_with fail
        refine (M1 _).mono ?_
        rintro e w2 ⟨rfl, hw⟩
        obtain rfl := hw.symm
        go_wp2_with fail
        refine (M2 _).mono ?_
        rintro e w2 ⟨rfl, hw⟩
        obtain rfl := hw.symm
        go_wp2_with fail
        go_ret
        exact ⟨ret_bool HQ.out.symm, hB⟩
      · cases b3
        · go_wp2_with fail
          refine (M1 _).mono ?_
          rintro e w2 ⟨rfl, hw⟩
          obtain rfl := hw.symm
          go_wp2_with fail
          refine (M2 _).mono ?_
          rintro e w2 ⟨rfl, hw⟩
          obtain rfl := hw.symm
          go_wp2_with fail
          refine (M3 _).mono ?_
          rintro e w2 ⟨rfl, hw⟩
          obtain rfl := hw.symm
          go_wp2_with fail
          go_ret
          exact ⟨ret_bool HQ.out.symm, hB⟩
        · cases b4
          · go_wp2_with fail
            refine (M1 _).mono ?_
            rintro e w2 ⟨rfl, hw⟩
            obtain rfl := hw.symm
            go_wp2_with fail
            refine (M2 _).mono ?_
            rintro e w2 ⟨rfl, hw⟩
            obtain rfl := hw.symm
            go_wp2_with fail
            refine (M3 _).mono ?_
            rintro e w2 ⟨rfl, hw⟩
            obtain rfl := hw.symm
            go_wp2_with fail
            refine (M4 _).mono ?_
            rintro e w2 ⟨rfl, hw⟩
            obtain rfl := hw.symm
            go_wp2_with fail
            go_ret
            exact ⟨ret_bool HQ.out.symm, hB⟩
          · exact absurd rfl HAL.out
end Go.Proofs.Ytnenbbkkhnlgbaa
