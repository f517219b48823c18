/- Package store: order. -/
import Derived.Test.YtcjahdgppnmdkaaSo10
set_option maxRecDepth 100000
namespace Go.Proofs.Ytcjahdgppnmdkaa
open Go.RowKit Go.Great

theorem bs_extract (l : List UInt8) (a b : Nat) : (bs l).extract a b = bs ((l.drop a).take (b - a)) := by
  apply ByteArray.ext
  apply Array.ext'
  simp [bs, ByteArray.data_extract, List.extract_eq_take_drop]
theorem secL_len {C : List UInt8} (hC : C.length = 8192) {s : Nat} (hs : s < 2) : (secL C s).length = 4096 := by
  unfold secL; rw [List.length_take, List.length_drop]; omega
theorem bs_at (l : List UInt8) (j : Nat) (h : j < (bs l).size) : (bs l)[j] = l.getD j 0 := by
  rw [← getD_ba (bs l) j h, bs_list]
theorem actI_cases (a b : UInt8) : actI a b = -1 ∨ actI a b = 0 ∧ (turnI a = 0 ∨ turnI a = 1 ∨ turnI a = 2) ∨ actI a b = 1 ∧ (turnI b = 0 ∨ turnI b = 1 ∨ turnI b = 2) := by
  unfold actI
  rcases turnI_cases a with h | h | h | h <;> rcases turnI_cases b with g | g | g | g <;> rw [h, g] <;> decide
theorem KOk.mono {k : Kp} {e f : Nat} (h : KOk k e) (hf : e ≤ f) : KOk k f := ⟨fun i hi => ⟨Nat.le_trans (h.1 i hi).1 hf, (h.1 i hi).2⟩, Nat.le_trans h.2 hf⟩
theorem restM_none (k : Kp) : restM k (-1) 0 0 3 = sizeK k := by
  have h : ∀ i : Nat, szM k (-1) 0 i = szK k i := fun i => by unfold szM; rw [if_neg (by omega)]
  show szM k (-1) 0 0 + (szM k (-1) 0 1 + (szM k (-1) 0 2 + 0)) = _
  rw [h, h, h]
  unfold sizeK
  omega
theorem bs_at0 {l : List UInt8} {a : ByteArray} (e : bs l = a) (h : 0 < a.size) : a[0]'h = l.getD 0 0 := by subst e; exact bs_at l 0 h
set_option maxHeartbeats 4000000 in
set_option maxRecDepth 100000 in
theorem order_any (w : World) (S R : Nat) (σ : St) (hon : On σ) (hF : Fl w R σ) (h : So w S (fp R) 0 0 0 kz) :
    Calls Try.prog 55 #[fp S, .string (bs σ.C)] w fun e w' => OrdEnd (bootS σ) S R w e w' := by
  have hRS := hF.ne h
  have hsz : (bs σ.C).size = 8192 := by rw [bs_size, hon.len]
  have hx1 : (bs σ.C).extract 0 4096 = bs (secL σ.C 0) := by rw [bs_extract]; rfl
  have hx2 : (bs σ.C).extract 4096 (bs σ.C).size = bs (secL σ.C 1) := by rw [hsz, bs_extract]; rfl
  have hz1 : Hid ((bs (secL σ.C 0)).size = 4096) := by show _ = _; rw [bs_size, secL_len hon.len (by omega)]
  have hz2 : Hid ((bs (secL σ.C 1)).size = 4096) := by show _ = _; rw [bs_size, secL_len hon.len (by omega)]
  have FD1 := fun wx p ac tu en k hh => find_any wx S p ac tu en k hh (bs (secL σ.C 0)) hz1.out
  have FD2 := fun wx p ac tu en k hh => find_any wx S p ac tu en k hh (bs (secL σ.C 1)) hz2.out
  simp only [bs_list] at FD1 FD2
  have HBT : Hid (bootS σ = if actI ((secL σ.C 0).getD 0 0) ((secL σ.C 1).getD 0 0) = -1 then fmtS σ ((secL σ.C 1).getD 0 0) else bootIn σ (actI ((secL σ.C 0).getD 0 0) ((secL σ.C 1).getD 0 0)).toNat) := by
    show _ = _
    unfold bootS
    rw [hon.off]; rfl
  have HB0 : Hid (bootIn σ 0 = if (svOf σ.C 0).2 then (if (secL σ.C 1).getD 0 0 ≠ 255 ∧ turnI ((secL σ.C 1).getD 0 0) = -1 then ((eraseS σ 1).1, if (eraseS σ 1).2 then some (svOf σ.C 0).1 else none) else (σ, some (svOf σ.C 0).1)) else moveS σ (svOf σ.C 0).1 (-1) []) := hide rfl
  have HB1 : Hid (bootIn σ 1 = if (svOf σ.C 1).2 then (if (secL σ.C 0).getD 0 0 ≠ 255 ∧ turnI ((secL σ.C 0).getD 0 0) = -1 then ((eraseS σ 0).1, if (eraseS σ 0).2 then some (svOf σ.C 1).1 else none) else (σ, some (svOf σ.C 1).1)) else moveS σ (svOf σ.C 1).1 (-1) []) := hide rfl
  unfold svOf at HB0 HB1
  have RK1 := rd_ok (secL σ.C 0) 4096 1 kz (by rw [secL_len hon.len (by omega)]; omega) KOk.kz
  have RK2 := rd_ok (secL σ.C 1) 4096 1 kz (by rw [secL_len hon.len (by omega)]; omega) KOk.kz
  rw [secL_len hon.len (by omega)] at RK1 RK2
  obtain ⟨⟨K1, E1, cl1⟩, hr1⟩ : ∃ r, rd (secL σ.C 0) 4096 1 kz = r := ⟨_, rfl⟩
  obtain ⟨⟨K2, E2, cl2⟩, hr2⟩ : ∃ r, rd (secL σ.C 1) 4096 1 kz = r := ⟨_, rfl⟩
  rw [hr1] at RK1 HB0
  rw [hr2] at RK2 HB1
  simp only at RK1 RK2 HB0 HB1
  obtain ⟨b1, hb1⟩ : ∃ b, (secL σ.C 0).getD 0 0 = b := ⟨_, rfl⟩
  obtain ⟨b2, hb2⟩ : ∃ b, (secL σ.C 1).getD 0 0 = b := ⟨_, rfl⟩
  rw [hb1] at HBT HB0 HB1
  rw [hb2] at HBT HB0 HB1
  have HR1 := hide hr1
  have HR2 := hide hr2
  clear hr1 hr2
  obtain ⟨a1, ha1⟩ : ∃ a, bs (secL σ.C 0) = a := ⟨_, rfl⟩
  obtain ⟨a2, ha2⟩ : ∃ a, bs (secL σ.C 1) = a := ⟨_, rfl⟩
  obtain ⟨s, hs⟩ : ∃ s, bs σ.C = s := ⟨_, rfl⟩
  have hi1 := @bs_at0 _ _ ha1
  have hi2 := @bs_at0 _ _ ha2
  rw [hb1] at hi1
  rw [hb2] at hi2
  simp only [ha1] at hx1 hz1 FD1
  simp only [ha2] at hx2 hz2 FD2
  rw [hs] at hx1 hx2 hsz ⊢
  have hl1 : 0 < a1.size := by rw [hz1.out]; omega
  have hl2 : 0 < a2.size := by rw [hz2.out]; omega
  have hs4 : (4096 : Int) ≤ (s.size : Int) := by rw [hsz]; omega
  have HSZ := hide hsz
  clear hb1 hb2 ha1 ha2 hs hsz
  have A := fun wx => act_any wx b1 b2
  have T1 := fun wx => turn_any wx b1
  have T2 := fun wx => turn_any wx b2
  have HC := actI_cases b1 b2
  obtain ⟨t, ht⟩ : ∃ t, actI b1 b2 = t := ⟨_, rfl⟩
  rw [ht] at HBT HC
  simp only [ht] at A
  clear ht
  have HS := hide h
  have HF := hide hF
  have c0 := h.c0
  have c1 := h.c1
  have hls := h.lt
  clear h hF
  go_enter Try.func55, Try.ntmps55
  go_wp2_with fail
  go_quiet (fail)
  go_wp2_with fail
  obtain ⟨W, hW⟩ : ∃ W, Hid (w.drewN nq = W) := ⟨_, hide rfl⟩
  rw [hW.out]
  have hS0 : So W S (fp R) 0 0 0 kz := by rw [← hW.out]; exact HS.out.drewN nq
  have hF0 : Fl W R σ := by rw [← hW.out]; exact HF.out.drewM nq
  have hK0 : Kep2 R S w W := by rw [← hW.out]; exact ((Kept.refl R w).drewM nq).l2 S
  have HS0 := hide hS0
  have HF0 := hide hF0
  have HK0 := hide hK0
  clear hS0 hF0 hK0 hx1 hx2 hs4 c0 c1
  go_cut [18] (fun _ wx => Hid (So wx S (fp R) t 0 0 kz) ∧ Hid (Fl wx R σ) ∧ Hid (Kep2 R S w wx))
  case first =>
    go_region_with (go_at_call 78; refine (A _).mono ?_; rintro e w2 ⟨rfl, b2⟩; have s2 := HS0.out.drew.below b2; have f2 := HF0.out.drew.below b2; have k2 := (HK0.out.drew).below b2; have m1 := s2.c1; have z1 := s2.frozen 1)
    all_goals go_wp2_with fail
    all_goals go_meet
    all_goals exact ⟨s2.s1 t, f2.kept ((Kept.refl S _).set _ _) hRS, k2.setD _ _⟩
  case rest =>
    obtain ⟨HS2, HF2, HK2⟩ := hcut
    clear HS0 HF0 HK0 hW HS HF
    have c1 := HS2.out.c1
    rcases HC with rfl | ⟨rfl, hT⟩ | ⟨rfl, hT⟩
    · have FM := format_any wc S R σ hon (-1) 0 0 HF2.out HS2.out b2
      have e1 := HBT.out
      rw [if_pos rfl] at e1
      have X1 := hide e1
      clear e1 HBT HB0 HB1 RK1 RK2 A T1 T2 FD1 FD2
      go_wp2_with fail
      refine FM.mono ?_
      intro e w3 h3
      have H3 := hide h3
      clear h3
      obtain ⟨ok, τ, s', rfl, g2, g3, g4, g5⟩ := H3.out
      clear H3
      obtain ⟨r, hr⟩ : ∃ r : Int, Hid ((if ok then 0 else 60) = r) := ⟨_, hide rfl⟩
      rw [show (if ok = true then (0 : Int) else 60) = r from hr.out]
      go_wp2_with fail
      go_ret
      exact (show OrdEnd _ _ _ _ _ _ from ⟨ok, τ, s', by rw [hr.out]; rfl, by rw [X1.out, g2], g3, g4, HK2.out.trans g5⟩)
    · obtain ⟨tu, htu, htu3⟩ : ∃ tu : Nat, turnI b1 = (tu : Int) ∧ tu < 3 := ⟨(turnI b1).toNat, by omega, by omega⟩
      have e1 := HBT.out
      rw [if_neg (by omega), show ((0 : Int)).toNat = 0 from rfl, HB0.out] at e1
      rw [show (turnI b1).toNat = tu by omega] at e1
      simp only [htu] at T1
      have X1 := hide e1
      clear e1 HBT HB0 HB1 hT htu A
      have c2 := HS2.out.c2
      have z2 := HS2.out.frozen 2
      go_wp2_with fail
      refine (T1 _).mono ?_
      rintro e w3 ⟨rfl, b3⟩
      have hS3 := HS2.out.below b3
      have HF3 := hide (HF2.out.below b3)
      have HK3 := hide (HK2.out.below b3)
      have m2 := hS3.c2
      have y2 := hS3.frozen 2
      have FD1 := FD1 _ _ _ _ _ _ (hS3.s2 (tu : Int))
      have HS3 := hide hS3
      have r1 := HR1.out
      rw [r1] at FD1
      simp only at FD1
      clear T1 hS3 r1 c2 z2 c1
      go_wp2_with fail
      refine FD1.mono ?_
      rintro e w4 ⟨rfl, s4, k4⟩
      have HS4 := hide s4
      have HF4 := hide ((HF3.out.kept ((Kept.refl S w3).set 2 (.int .i64 (tu : Int))) hRS).kept k4 hRS)
      have HK4 := hide ((HK3.out.setD 2 (.int .i64 (tu : Int))).trans (k4.r2 R))
      have d0 := s4.c0
      have d1 := s4.c1
      clear FD1 s4 k4 m2 y2 HS3 HF3 HK3 HS2 HF2 HK2
      cases cl1
      · have MV := move_any w4 S R σ hon 0 tu E1 K1 HF4.out HS4.out (by omega) htu3 (RK1.2.2.mono RK1.2.1) (-1) ⟨#[]⟩ (by show (0 : Nat) ≤ _; omega) (by rw [show (⟨#[]⟩ : ByteArray).size = 0 from rfl, restM_none]; have := RK1.2.2.2; omega)
        have e1 := X1.out
        simp only [Bool.false_eq_true, if_false] at e1
        have X2 := hide e1
        clear e1 X1 d0 d1
        go_wp2_with fail
        refine MV.mono ?_
        intro e w5 h5
        have H5 := hide (h5.ord.from HK4.out)
        clear h5 MV
        obtain ⟨ok, τ, s', rfl, g2, g3, g4, g5⟩ := H5.out
        clear H5
        obtain ⟨r, hr⟩ : ∃ r : Int, Hid ((if ok then 0 else 60) = r) := ⟨_, hide rfl⟩
        rw [show (if ok = true then (0 : Int) else 60) = r from hr.out]
        have G2 := hide g2
        have G4 := hide g4
        clear g2 g4
        go_wp2_with fail
        go_ret
        exact (show OrdEnd _ _ _ _ _ _ from ⟨ok, τ, s', by rw [hr.out]; rfl, by rw [X2.out]; exact G2.out, g3, G4.out, g5⟩)
      · have e1 := X1.out
        simp only [if_true] at e1
        have hq : ((b2.toNat : Int) != 255) = !decide (b2 = 255) := congrArg (!·) (nat_u8 b2 255 (by omega))
        by_cases hQ : b2 = 255
        · rw [decide_eq_true hQ] at hq
          rw [if_neg (by simp [hQ])] at e1
          have X2 := hide e1
          clear e1 X1 hQ
          go_wp2_with fail
          go_ret
          exact (show OrdEnd _ _ _ _ _ _ from ⟨true, σ, ⟨0, tu, E1, K1⟩, rfl, X2.out, HF4.out, (fun _ => HS4.out), HK4.out⟩)
        · rw [decide_eq_false hQ] at hq
          by_cases hN : turnI b2 = -1
          · rw [if_pos ⟨hQ, hN⟩] at e1
            have T2 := T2 w4
            rw [hN] at T2
            have X2 := hide e1
            clear e1 X1 hQ hN
            go_wp2_with fail
            refine T2.mono ?_
            rintro e w5 ⟨rfl, b5⟩
            have hS5 := HS4.out.below b5
            have HF5 := hide (HF4.out.below b5)
            have HK5 := hide (HK4.out.below b5)
            have i0 := hS5.c0
            have i1 := hS5.c1
            have HS5 := hide hS5
            have OT := other_any w5.drew 0 (by omega)
            have ER := erase_on w5.drew R σ HF5.out.drew hon (1 - 0) (by omega)
            simp only [show (1 - 0 : Nat) = 1 from rfl] at OT ER
            obtain ⟨⟨τ, ok⟩, hx⟩ : ∃ x, eraseS σ 1 = x := ⟨_, rfl⟩
            simp only [hx] at ER
            have x2 := X2.out
            rw [hx] at x2
            have X3 := hide x2
            obtain ⟨r, hr⟩ : ∃ r : Int, Hid ((if ok then 0 else 60) = r) := ⟨_, hide rfl⟩
            simp only [show (if ok = true then (0 : Int) else 60) = r from hr.out] at ER
            clear x2 X2 hx T2 d0 d1 HS4 HF4 HK4 b5 hS5
            go_wp2_with fail
            go_region_with (first
              | (go_at_call 83; refine OT.mono ?_; rintro e w6 ⟨rfl, hw⟩; obtain rfl := hw.symm; clear hw)
              | (go_at_call 82; refine ER.mono ?_; rintro e w7 ⟨rfl, f7, k7⟩))
            all_goals
              go_wp2_with fail
              go_ret
              exact (show OrdEnd _ _ _ _ _ _ from ⟨ok, τ, _, by rw [hr.out]; rfl, X3.out, f7, (fun _ => HS5.out.kept (Kept.drew1 k7) (Ne.symm hRS)), HK5.out.trans ((Kept.drew1 k7).l2 S)⟩)
          · rw [if_neg (fun c => hN c.2)] at e1
            have T2 := T2 w4
            have X2 := hide e1
            have hnn : (turnI b2 == -1) = false := by simp [hN]
            obtain ⟨t2, ht2⟩ : ∃ t2, turnI b2 = t2 := ⟨_, rfl⟩
            rw [ht2] at T2 hnn
            clear e1 X1 hQ hN ht2
            go_wp2_with fail
            refine T2.mono ?_
            rintro e w5 ⟨rfl, b5⟩
            clear T2
            go_wp2_with fail
            go_ret
            exact (show OrdEnd _ _ _ _ _ _ from ⟨true, σ, ⟨0, tu, E1, K1⟩, rfl, X2.out, HF4.out.below b5, (fun _ => HS4.out.below b5), HK4.out.below b5⟩)
    · obtain ⟨tu, htu, htu3⟩ : ∃ tu : Nat, turnI b2 = (tu : Int) ∧ tu < 3 := ⟨(turnI b2).toNat, by omega, by omega⟩
      have e1 := HBT.out
      rw [if_neg (by omega), show ((1 : Int)).toNat = 1 from rfl, HB1.out] at e1
      rw [show (turnI b2).toNat = tu by omega] at e1
      simp only [htu] at T2
      have X1 := hide e1
      clear e1 HBT HB0 HB1 hT htu A
      have c2 := HS2.out.c2
      have z2 := HS2.out.frozen 2
      go_wp2_with fail
      refine (T2 _).mono ?_
      rintro e w3 ⟨rfl, b3⟩
      have hS3 := HS2.out.below b3
      have HF3 := hide (HF2.out.below b3)
      have HK3 := hide (HK2.out.below b3)
      have m2 := hS3.c2
      have y2 := hS3.frozen 2
      have FD2 := FD2 _ _ _ _ _ _ (hS3.s2 (tu : Int))
      have HS3 := hide hS3
      have r1 := HR2.out
      rw [r1] at FD2
      simp only at FD2
      clear T2 hS3 r1 c2 z2 c1
      go_wp2_with fail
      refine FD2.mono ?_
      rintro e w4 ⟨rfl, s4, k4⟩
      have HS4 := hide s4
      have HF4 := hide ((HF3.out.kept ((Kept.refl S w3).set 2 (.int .i64 (tu : Int))) hRS).kept k4 hRS)
      have HK4 := hide ((HK3.out.setD 2 (.int .i64 (tu : Int))).trans (k4.r2 R))
      have d0 := s4.c0
      have d1 := s4.c1
      clear FD2 s4 k4 m2 y2 HS3 HF3 HK3 HS2 HF2 HK2
      cases cl2
      · have MV := move_any w4 S R σ hon 1 tu E2 K2 HF4.out HS4.out (by omega) htu3 (RK2.2.2.mono RK2.2.1) (-1) ⟨#[]⟩ (by show (0 : Nat) ≤ _; omega) (by rw [show (⟨#[]⟩ : ByteArray).size = 0 from rfl, restM_none]; have := RK2.2.2.2; omega)
        have e1 := X1.out
        simp only [Bool.false_eq_true, if_false] at e1
        have X2 := hide e1
        clear e1 X1 d0 d1
        go_wp2_with fail
        refine MV.mono ?_
        intro e w5 h5
        have H5 := hide (h5.ord.from HK4.out)
        clear h5 MV
        obtain ⟨ok, τ, s', rfl, g2, g3, g4, g5⟩ := H5.out
        clear H5
        obtain ⟨r, hr⟩ : ∃ r : Int, Hid ((if ok then 0 else 60) = r) := ⟨_, hide rfl⟩
        rw [show (if ok = true then (0 : Int) else 60) = r from hr.out]
        have G2 := hide g2
        have G4 := hide g4
        clear g2 g4
        go_wp2_with fail
        go_ret
        exact (show OrdEnd _ _ _ _ _ _ from ⟨ok, τ, s', by rw [hr.out]; rfl, by rw [X2.out]; exact G2.out, g3, G4.out, g5⟩)
      · have e1 := X1.out
        simp only [if_true] at e1
        have hq : ((b1.toNat : Int) != 255) = !decide (b1 = 255) := congrArg (!·) (nat_u8 b1 255 (by omega))
        by_cases hQ : b1 = 255
        · rw [decide_eq_true hQ] at hq
          rw [if_neg (by simp [hQ])] at e1
          have X2 := hide e1
          clear e1 X1 hQ
          go_wp2_with fail
          go_ret
          exact (show OrdEnd _ _ _ _ _ _ from ⟨true, σ, ⟨1, tu, E2, K2⟩, rfl, X2.out, HF4.out, (fun _ => HS4.out), HK4.out⟩)
        · rw [decide_eq_false hQ] at hq
          by_cases hN : turnI b1 = -1
          · rw [if_pos ⟨hQ, hN⟩] at e1
            have T1 := T1 w4
            rw [hN] at T1
            have X2 := hide e1
            clear e1 X1 hQ hN
            go_wp2_with fail
            refine T1.mono ?_
            rintro e w5 ⟨rfl, b5⟩
            have hS5 := HS4.out.below b5
            have HF5 := hide (HF4.out.below b5)
            have HK5 := hide (HK4.out.below b5)
            have i0 := hS5.c0
            have i1 := hS5.c1
            have HS5 := hide hS5
            have OT := other_any w5.drew 1 (by omega)
            have ER := erase_on w5.drew R σ HF5.out.drew hon (1 - 1) (by omega)
            simp only [show (1 - 1 : Nat) = 0 from rfl] at OT ER
            obtain ⟨⟨τ, ok⟩, hx⟩ : ∃ x, eraseS σ 0 = x := ⟨_, rfl⟩
            simp only [hx] at ER
            have x2 := X2.out
            rw [hx] at x2
            have X3 := hide x2
            obtain ⟨r, hr⟩ : ∃ r : Int, Hid ((if ok then 0 else 60) = r) := ⟨_, hide rfl⟩
            simp only [show (if ok = true then (0 : Int) else 60) = r from hr.out] at ER
            clear x2 X2 hx T1 d0 d1 HS4 HF4 HK4 b5 hS5
            go_wp2_with fail
            go_region_with (first
              | (go_at_call 83; refine OT.mono ?_; rintro e w6 ⟨rfl, hw⟩; obtain rfl := hw.symm; clear hw)
              | (go_at_call 82; refine ER.mono ?_; rintro e w7 ⟨rfl, f7, k7⟩))
            all_goals
              go_wp2_with fail
              go_ret
              exact (show OrdEnd _ _ _ _ _ _ from ⟨ok, τ, _, by rw [hr.out]; rfl, X3.out, f7, (fun _ => HS5.out.kept (Kept.drew1 k7) (Ne.symm hRS)), HK5.out.trans ((Kept.drew1 k7).l2 S)⟩)
          · rw [if_neg (fun c => hN c.2)] at e1
            have T1 := T1 w4
            have X2 := hide e1
            have hnn : (turnI b1 == -1) = false := by simp [hN]
            obtain ⟨t2, ht2⟩ : ∃ t2, turnI b1 = t2 := ⟨_, rfl⟩
            rw [ht2] at T1 hnn
            clear e1 X1 hQ hN ht2
            go_wp2_with fail
            refine T1.mono ?_
            rintro e w5 ⟨rfl, b5⟩
            clear T1
            go_wp2_with fail
            go_ret
            exact (show OrdEnd _ _ _ _ _ _ from ⟨true, σ, ⟨1, tu, E2, K2⟩, rfl, X2.out, HF4.out.below b5, (fun _ => HS4.out.below b5), HK4.out.below b5⟩)
end Go.Proofs.Ytcjahdgppnmdkaa
