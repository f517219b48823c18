/- The document's fence: Check, Within, Holds, lanes. -/
import Derived.Test.YtnenbbkkhnlgbaaFe5
import Derived.Test.YtnenbbkkhnlgbaaGrE
namespace Go.Proofs.Ytnenbbkkhnlgbaa
open Go.RowKit Go.Great

theorem rmay_any (n : Int) (w : World) : Calls Try.prog 48 #[.int .i64 n] w fun e w' => e = .returned (.bool (mayB n)) ∧ w' = w := by
  go_enter Try.func48, Try.ntmps48
  go_wp2
  all_goals (go_ret; refine ⟨ret_bool ?_, rfl⟩)
  all_goals (unfold mayB; simp; try omega)
theorem rinside_fn (P : List Pt) (v : Value) (q : Pt) (w : World) (hv : Pts w v P) (hs : simE P = 0) (hq : Fit q) : Calls Try.prog 50 #[v, pV q] w fun e w' => e = .returned (.int .i64 (sidI P P.length q)) ∧ Below w.heap.size w w' := by
  obtain ⟨l3, l64, hall⟩ := sim_len hs
  obtain ⟨a, cap, rfl, hc⟩ := hv
  obtain ⟨g, o, rfl, hg, hcc⟩ := hc (by omega)
  exact inside_any g o P.length cap P q (fits_of hall) hq w (poly_of (by omega) (by omega) hg hcc)
set_option maxRecDepth 100000 in
set_option maxHeartbeats 4000000 in
theorem rcheck_any (P R : List Pt) (fl ce : Int) (p r : Value) (w : World) (hp : Pts w p P) (hr : Pts w r R) (hP : P.length ≤ 4611686018427387904) (hR : R.length ≤ 4611686018427387904) : Calls Try.prog 19 #[fV p fl ce r] w fun e w' => e = .returned (.int .i64 (chk P fl ce R)) ∧ Below w.heap.size w w' := by
  have SI := fun W (hb : Below w.heap.size w W) => rsimple_any P p W (hp.below hb) hP
  have SD : Hid (simE P = 0 → ∀ q, Fit q → ∀ W, Below w.heap.size w W → Calls Try.prog 50 #[p, pV q] W fun e w' => e = .returned (.int .i64 (sidI P P.length q)) ∧ Below W.heap.size W w') := fun hs q hq W hb => rinside_fn P p q W (hp.below hb) hs hq
  have MF := rmay_any fl
  have MC := rmay_any ce
  have HC : Hid (chk P fl ce R = if simE P = 0 then (if (mayB fl && mayB ce) = true then (if 0 < fl ∨ ce ≤ 0 then 100 else if 8 < R.length then 4 else ralE P R) else 5) else simE P) := rfl
  generalize chk P fl ce R = c at HC ⊢
  obtain ⟨ap, cp, rfl, hcl⟩ := hp
  obtain ⟨ar, cr, rfl, hcr⟩ := hr
  obtain ⟨n, hn⟩ : ∃ n, R.length = n := ⟨_, rfl⟩
  obtain ⟨n', hn'⟩ : ∃ n, P.length = n := ⟨_, rfl⟩
  have HN := hide hn
  have HN' := hide hn'
  have HCR := hide hcr
  rw [hn] at hR HC ⊢
  rw [hn'] at SI SD ⊢
  clear hn hn' hcr hcl hP
  obtain ⟨s, hs⟩ : ∃ s, simE P = s := ⟨_, rfl⟩
  rw [hs] at SI HC SD
  clear hs
  obtain ⟨m1, hm1⟩ : ∃ b, mayB fl = b := ⟨_, rfl⟩
  obtain ⟨m2, hm2⟩ : ∃ b, mayB ce = b := ⟨_, rfl⟩
  rw [hm1, hm2] at HC
  rw [hm1] at MF
  rw [hm2] at MC
  clear hm1 hm2
  have HC1 : Hid (s ≠ 0 → c = s) := fun h => by rw [HC.out, if_neg h]
  have HC2 : Hid (s = 0 → (m1 && m2) = false → c = 5) := fun h e => by rw [HC.out, if_pos h, e]; rfl
  have HC3 : Hid (s = 0 → (m1 && m2) = true → 0 < fl ∨ ce ≤ 0 → c = 100) := fun h e k => by rw [HC.out, if_pos h, e, if_pos rfl, if_pos k]
  have HC4 : Hid (s = 0 → (m1 && m2) = true → ¬ (0 < fl ∨ ce ≤ 0) → 8 < n → c = 4) := fun h e k q => by rw [HC.out, if_pos h, e, if_pos rfl, if_neg k, if_pos q]
  have HC5 : Hid (s = 0 → (m1 && m2) = true → ¬ (0 < fl ∨ ce ≤ 0) → ¬ 8 < n → c = ralE P R) := fun h e k q => by rw [HC.out, if_pos h, e, if_pos rfl, if_neg k, if_neg q]
  clear HC
  simp only [fV]
  have B0 := Blk.new w (fC (.slice ap n' cp) fl ce (.slice ar n cr)) 24
  obtain ⟨W0, hW0⟩ : ∃ W0, w.alloc (.cells (fC (.slice ap n' cp) fl ce (.slice ar n cr)) 24) = W0 := ⟨_, rfl⟩
  have hB0 : Below w.heap.size w W0 := hW0 ▸ below_alloc _ _
  rw [hW0] at B0
  unfold fC at hW0 B0
  have k0 := B0.cell 0 rfl
  go_enter Try.func19, Try.ntmps19
  go_wp2_with fail
  try rw [hW0]
  clear hW0
  refine (SI _ hB0).mono ?_
  rintro e w1 ⟨rfl, hb1⟩
  replace B0 := B0.after hb1
  replace hB0 := below_next hB0 (Nat.le_refl _) hb1
  clear hb1 SI k0
  have k1 := B0.cell 1 rfl
  have k2 := B0.cell 2 rfl
  have k3 := B0.cell 3 rfl
  by_cases hs : s = 0
  · subst hs
    cases m1
    · go_wp2_with (go_at_call_of 48 (Value.int IntKind.i64 fl); refine (MF _).mono ?_; rintro e w2 ⟨rfl, rfl⟩)
      go_ret
      exact ⟨ret_int (HC2.out (by trivial) (by trivial)).symm, hB0⟩
    · cases m2
      · go_wp2_with fail
        refine (MF _).mono ?_
        rintro e w2 ⟨rfl, hw⟩
        obtain rfl := hw.symm
        go_wp2_with fail
        refine (MC _).mono ?_
        rintro e w2 ⟨rfl, hw⟩
        obtain rfl := hw.symm
        go_wp2_with fail
        go_ret
        exact ⟨ret_int (HC2.out (by trivial) (by trivial)).symm, hB0⟩
      · go_wp2_with fail
        refine (MF _).mono ?_
        rintro e w2 ⟨rfl, hw⟩
        obtain rfl := hw.symm
        go_wp2_with fail
        refine (MC _).mono ?_
        rintro e w2 ⟨rfl, hw⟩
        obtain rfl := hw.symm
        clear MF MC
        by_cases hf : 0 < fl
        · go_wp2_with fail
          all_goals go_ret
          all_goals exact ⟨ret_int (HC3.out (by trivial) (by trivial) (Or.inl hf)).symm, hB0⟩
        · by_cases hc : ce ≤ 0
          · go_wp2_with fail
            all_goals go_ret
            all_goals exact ⟨ret_int (HC3.out (by trivial) (by trivial) (Or.inr hc)).symm, hB0⟩
          · by_cases h8 : 8 < n
            · go_wp2_with fail
              all_goals go_ret
              all_goals exact ⟨ret_int (HC4.out (by trivial) (by trivial) (by omega) h8).symm, hB0⟩
            · have HCE : Hid (c = ralE P R) := HC5.out (by trivial) (by trivial) (by omega) h8
              have SD2 := hide (SD.out (by trivial))
              have h8' : n ≤ 8 := by omega
              clear HC1 HC2 HC3 HC4 HC5 SD
              go_wp2_with fail
              go_loopw [4] (fun i wx => ∃ k : Nat, k ≤ n ∧ i = .int .i64 k ∧ Hid (ralE P R = ralE P (R.drop k)) ∧ Hid (Below w.heap.size w wx) ∧ Hid (Blk wx w.heap.size #[.slice ap n' cp, .int .i64 fl, .int .i64 ce, .slice ar n cr] 24)) (fun i _ => n - (intOf i).toNat)
              case atStart => exact ⟨0, Nat.zero_le _, rfl, hide rfl, hide hB0, hide B0⟩
              case round =>
                obtain ⟨k, hk, rfl, hf', hbx, hBx⟩ := hrel
                clear B0 hB0 k1 k2 k3
                have j3 := hBx.out.cell 3 rfl
                by_cases hlt : k < n
                · obtain ⟨g, o, rfl, hg, hcc⟩ := HCR.out (by rw [HN.out]; omega)
                  obtain ⟨c0, c1⟩ := hcc k (by rw [HN.out]; exact hlt)
                  have q0 := (hbx.out.cell (p := ⟨g, o + k * 2, none⟩) hg).trans c0
                  have q1 := (hbx.out.cell (p := ⟨g, o + k * 2 + 1, none⟩) hg).trans c1
                  have FT := rfits_any (R.getD k (0, 0))
                  have SQ : Hid (fitB (R.getD k (0, 0)) = true → ∀ W, Below w.heap.size w W → Calls Try.prog 50 #[.slice ap n' cp, pV (R.getD k (0, 0))] W fun e w' => e = .returned (.int .i64 (sidI P n' (R.getD k (0, 0)))) ∧ Below W.heap.size W w') := fun h => SD2.out _ (fit_of h)
                  have HE := hide (ralE_at P (R := R) (k := k) (by rw [HN.out]; exact hlt))
                  rw [HN'.out] at HE
                  simp only [pV] at SQ FT
                  clear c0 c1 hcc
                  generalize fitB (R.getD k (0, 0)) = ft at *
                  generalize sidI P n' (R.getD k (0, 0)) = sd at *
                  generalize (R.getD k (0, 0)).1 = x at *
                  generalize (R.getD k (0, 0)).2 = y at *
                  have hsx := hbx.out.size
                  have lB := hBx.out.lt
                  go_wp2_with fail
                  refine (FT _).mono ?_
                  rintro e w5 ⟨rfl, hb5⟩
                  clear FT
                  have hb6 := below_next hbx.out (Nat.le_refl _) hb5
                  cases ft
                  · go_wp2_with fail
                    go_ret
                    exact ⟨ret_int (by rw [HCE.out, hf'.out, HE.out]; rfl), hb6⟩
                  · have SQ2 := SQ.out (by trivial)
                    clear SQ j3
                    have hs5 := hb5.size
                    have gw : g < wr.heap.size := by omega
                    have MT := fun z : BelowW w5 => SQ2 z.q (below_next hb6 (Nat.le_refl _) z.h)
                    have p0 := fun z : BelowW w5 => z.cell ((hb5.cell (p := ⟨g, o + k * 2, none⟩) gw).trans q0) (by omega)
                    have p1 := fun z : BelowW w5 => z.cell ((hb5.cell (p := ⟨g, o + k * 2 + 1, none⟩) gw).trans q1) (by omega)
                    have j0 := (hBx.out.after hb5).at 0 rfl
                    have j3 := (hBx.out.after hb5).at 3 rfl
                    have hne : Nonempty (BelowW w5) := ⟨⟨w5, Below.refl _ _⟩⟩
                    clear q0 q1 SQ2
                    go_wp2_with fail
                    refine wp_region_calm (by kernel_rfl) (by kernel_rfl) ?_
                    repeat (go_big_quiet_step (first | (go_at_call 50; exact calm_of (MT _))))
                    refine wpQuiet_nil ?_
                    rintro w6 ⟨⟨q3, hq⟩, e3⟩
                    have e4 : w6 = q3 := e3
                    clear e3
                    subst e4
                    clear p0 p1 j0 j3 hne MT
                    have hb7 := below_next hb6 (Nat.le_refl _) hq
                    by_cases h1 : sd = 1
                    · subst h1
                      go_wp2_with fail
                      go_roundw
                      case rel => exact ⟨k + 1, by omega, by go_num, hide (by rw [hf'.out, HE.out]; rfl), hide hb7, hide (hBx.out.after (below_next hb5 (Nat.le_refl _) hq))⟩
                      case measure => simp [intOf]; omega
                    · go_wp2_with fail
                      all_goals go_ret
                      all_goals exact ⟨ret_int (by rw [HCE.out, hf'.out, HE.out, if_pos (by trivial), if_neg h1]), hb7⟩
                · go_wp2_with fail
                  go_ret
                  exact ⟨ret_int (by rw [HCE.out, hf'.out, ralE_end P (by rw [HN.out]; omega)]), hbx.out⟩
  · go_wp2_with fail
    all_goals go_ret
    all_goals exact ⟨ret_int (HC1.out hs).symm, hB0⟩
end Go.Proofs.Ytnenbbkkhnlgbaa
