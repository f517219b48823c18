/- So10, So11, So12, So13, So14. -/
import Derived.Test.YtapfaaaepnplcaaGreatDoorG35
import Derived.Test.YtapfaaaepnplcaaGreatDoorG18
set_option maxRecDepth 100000
set_option maxHeartbeats 2000000
namespace Go.Proofs.YtapfaaaepnplcaaGreatDoor
open Go.RowKit Go.Great
/-- what Boot's steps leave -/
def OrdEnd (x : St × Option Sv) (S R : Nat) (w : World) (e : Ending) (w' : World) : Prop :=
  ∃ (ok : Bool) (τ : St) (s' : Sv), e = .returned (.int .i64 (if ok then 0 else 60)) ∧ x = (τ, if ok then some s' else none) ∧ Fl w' R τ ∧ (ok = true → So w' S (fp R) s'.ac s'.tu s'.en s'.k) ∧ Kep2 R S w w'
theorem StEnd.ord {x : St × Option Sv} {s : Sv} {S R : Nat} {w : World} {e : Ending} {w' : World} (h : StEnd x s S R w e w') : OrdEnd x S R w e w' := by
  obtain ⟨ok, τ, s', h1, h2, h3, h4, h5⟩ := h
  refine ⟨ok, τ, s', h1, h2, h3, fun he => ?_, h5⟩
  rw [if_pos he] at h4
  exact h4
theorem OrdEnd.from {x : St × Option Sv} {S R : Nat} {w w0 : World} {e : Ending} {w' : World} (h : OrdEnd x S R w e w') (k : Kep2 R S w0 w) : OrdEnd x S R w0 e w' := by
  obtain ⟨ok, τ, s', h1, h2, h3, h4, h5⟩ := h
  exact ⟨ok, τ, s', h1, h2, h3, h4, k.trans h5⟩
theorem erase_on (w : World) (R : Nat) (σ : St) (h : Fl w R σ) (ho : On σ) (s : Nat) (hs : s < 2) : Calls Tryz.prog 83 #[fp R, .int .i64 (s : Int)] w fun e w' => e = .returned (.int .i64 (if (eraseS σ s).2 then 0 else 60)) ∧ Fl w' R (eraseS σ s).1 ∧ Kept R w w' := erase_in w R σ h ho.jk ho.off s hs
theorem kept3 (S : Nat) (w : World) (a b c : Nat) (x y z : Value) : Kept S w (((w.setCell ⟨S, a, none⟩ x).setCell ⟨S, b, none⟩ y).setCell ⟨S, c, none⟩ z) := (((Kept.refl S w).set _ _).set _ _).set _ _
theorem format_any (w : World) (S R : Nat) (σ : St) (hon : On σ) (ac tu en : Int) (hF : Fl w R σ) (h : So w S (fp R) ac tu en kz) (b : UInt8) :
    Calls Tryz.prog 79 #[fp S, .int .u8 (b.toNat : Int)] w fun e w' => OrdEnd (fmtS σ b) S R w e w' := by
  have hRS := hF.ne h
  have hne : ((b.toNat : Int) != 255) = !decide (b = 255) := congrArg (!·) (nat_u8 b 255 (by omega))
  have c0 := h.c0
  have HS := hide h
  have HF := hide hF
  clear h hF
  by_cases hb : b = 255
  · rw [decide_eq_true hb] at hne
    have HFM : Hid (fmtS σ b = fmt2 σ) := by show _ = _; unfold fmtS; rw [if_pos hb]
    clear hb
    go_enter Tryz.func79, Tryz.ntmps79
    have E2 := erase_on w R σ HF.out hon 0 (by omega)
    have hE2 := @eraseS_on σ 0 hon
    obtain ⟨⟨σ2, ok2⟩, hx2⟩ : ∃ x, eraseS σ 0 = x := ⟨_, rfl⟩
    rw [hx2] at E2 hE2
    simp only at E2 hE2
    cases ok2
    · simp only [Bool.false_eq_true, if_false] at E2
      have XX : Hid (fmt2 σ = (σ2, none)) := by show _ = _; unfold fmt2; rw [hx2]; rfl
      clear hx2 hE2
      go_wp2_with fail
      refine E2.mono ?_
      rintro e w2 ⟨rfl, f2, k2⟩
      clear E2
      go_wp2_with fail
      go_ret
      exact (show OrdEnd _ _ _ _ _ _ from ⟨false, σ2, ⟨0, 0, 0, kz⟩, rfl, by rw [HFM.out, XX.out]; rfl, f2, (fun he => by cases he), (Kep2.refl R S w).trans (k2.l2 S)⟩)
    · simp only [if_true] at E2
      have hon2 := hE2 rfl
      have XX : Hid (fmt2 σ = ((progS σ2 0 [15]).1, if (progS σ2 0 [15]).2 then some ⟨0, 0, 1, kz⟩ else none)) := by show _ = _; unfold fmt2; rw [hx2]; rfl
      clear hx2 hE2
      go_wp2_with fail
      refine E2.mono ?_
      rintro e w2 ⟨rfl, f2, k2⟩
      have s2 := HS.out.kept k2 (Ne.symm hRS)
      have m1 := s2.c1
      have m2 := s2.c2
      have m3 := s2.c3
      have z1 := s2.frozen 1
      have z2 := s2.frozen 2
      have z3 := s2.frozen 3
      have s3 := ((s2.s1 0).s2 0).s3 1
      have f3 := f2.kept (kept3 S w2 1 2 3 (.int .i64 0) (.int .i64 0) (.int .i64 1)) hRS
      have SG := sign_any _ S R σ2 hon2 0 0 1 kz f3 s3 (by omega) (by omega)
      rw [show (0 * 4096 : Nat) = 0 from rfl, show codeN 0 = 15 from rfl] at SG
      obtain ⟨⟨τ, ok3⟩, hx3⟩ : ∃ x, progS σ2 0 [15] = x := ⟨_, rfl⟩
      rw [hx3] at SG XX
      simp only at SG XX
      obtain ⟨r3, hr3⟩ : ∃ r : Int, Hid ((if ok3 then 0 else 60) = r) := ⟨_, hide rfl⟩
      rw [show (if ok3 = true then (0 : Int) else 60) = r3 from hr3.out] at SG
      have HF3 := hide f3
      have HS3 := hide s3
      clear hx3 E2 f3 s3
      go_wp2_with fail
      refine SG.mono ?_
      rintro e w5 ⟨rfl, f5, k5⟩
      go_wp2_with fail
      go_ret
      exact (show OrdEnd _ _ _ _ _ _ from ⟨ok3, τ, ⟨0, 0, 1, kz⟩, by rw [hr3.out]; rfl, by rw [HFM.out, XX.out], f5, fun _ => HS3.out.kept k5 (Ne.symm hRS), ((Kep2.refl R S w).trans (k2.l2 S)).trans (((kept3 S w2 1 2 3 (.int .i64 0) (.int .i64 0) (.int .i64 1)).r2 R).trans (k5.l2 S))⟩)
  · rw [decide_eq_false hb] at hne
    have E1 := erase_on w R σ HF.out hon 1 (by omega)
    have hE1 := @eraseS_on σ 1 hon
    have HF0 : Hid (fmtS σ b = if (eraseS σ 1).2 then fmt2 (eraseS σ 1).1 else ((eraseS σ 1).1, none)) := by show _ = _; unfold fmtS; rw [if_neg hb]
    clear hb
    obtain ⟨⟨σ1, ok1⟩, hx1⟩ : ∃ x, eraseS σ 1 = x := ⟨_, rfl⟩
    rw [hx1] at E1 hE1 HF0
    simp only at E1 hE1 HF0
    clear hx1
    go_enter Tryz.func79, Tryz.ntmps79
    cases ok1
    · simp only [Bool.false_eq_true, if_false] at E1 HF0
      go_wp2_with fail
      refine E1.mono ?_
      rintro e w1 ⟨rfl, f1, k1⟩
      clear E1
      go_wp2_with fail
      go_ret
      exact (show OrdEnd _ _ _ _ _ _ from ⟨false, σ1, ⟨0, 0, 0, kz⟩, rfl, HF0.out, f1, (fun he => by cases he), k1.l2 S⟩)
    · simp only [if_true] at E1 HF0
      have hon1 := hE1 rfl
      have HFM : Hid (fmtS σ b = fmt2 σ1) := HF0
      go_wp2_with fail
      refine E1.mono ?_
      rintro e w1 ⟨rfl, f1, k1⟩
      have HS1 := hide (HS.out.kept k1 (Ne.symm hRS))
      have c01 := HS1.out.c0
      have HF1 := hide f1
      have K1 := hide (k1.l2 S)
      clear E1 f1 k1 HF0 hE1 c0
      have E2 := erase_on w1 R σ1 HF1.out hon1 0 (by omega)
      have hE2 := @eraseS_on σ1 0 hon1
      obtain ⟨⟨σ2, ok2⟩, hx2⟩ : ∃ x, eraseS σ1 0 = x := ⟨_, rfl⟩
      rw [hx2] at E2 hE2
      simp only at E2 hE2
      cases ok2
      · simp only [Bool.false_eq_true, if_false] at E2
        have XX : Hid (fmt2 σ1 = (σ2, none)) := by show _ = _; unfold fmt2; rw [hx2]; rfl
        clear hx2 hE2
        go_wp2_with fail
        refine E2.mono ?_
        rintro e w2 ⟨rfl, f2, k2⟩
        clear E2
        go_wp2_with fail
        go_ret
        exact (show OrdEnd _ _ _ _ _ _ from ⟨false, σ2, ⟨0, 0, 0, kz⟩, rfl, by rw [HFM.out, XX.out]; rfl, f2, (fun he => by cases he), K1.out.trans (k2.l2 S)⟩)
      · simp only [if_true] at E2
        have hon2 := hE2 rfl
        have XX : Hid (fmt2 σ1 = ((progS σ2 0 [15]).1, if (progS σ2 0 [15]).2 then some ⟨0, 0, 1, kz⟩ else none)) := by show _ = _; unfold fmt2; rw [hx2]; rfl
        clear hx2 hE2
        go_wp2_with fail
        refine E2.mono ?_
        rintro e w2 ⟨rfl, f2, k2⟩
        have s2 := HS1.out.kept k2 (Ne.symm hRS)
        have m1 := s2.c1
        have m2 := s2.c2
        have m3 := s2.c3
        have z1 := s2.frozen 1
        have z2 := s2.frozen 2
        have z3 := s2.frozen 3
        have s3 := ((s2.s1 0).s2 0).s3 1
        have f3 := f2.kept (kept3 S w2 1 2 3 (.int .i64 0) (.int .i64 0) (.int .i64 1)) hRS
        have SG := sign_any _ S R σ2 hon2 0 0 1 kz f3 s3 (by omega) (by omega)
        rw [show (0 * 4096 : Nat) = 0 from rfl, show codeN 0 = 15 from rfl] at SG
        obtain ⟨⟨τ, ok3⟩, hx3⟩ : ∃ x, progS σ2 0 [15] = x := ⟨_, rfl⟩
        rw [hx3] at SG XX
        simp only at SG XX
        obtain ⟨r3, hr3⟩ : ∃ r : Int, Hid ((if ok3 then 0 else 60) = r) := ⟨_, hide rfl⟩
        rw [show (if ok3 = true then (0 : Int) else 60) = r3 from hr3.out] at SG
        have HF3 := hide f3
        have HS3 := hide s3
        clear hx3 E2 f3 s3
        go_wp2_with fail
        refine SG.mono ?_
        rintro e w5 ⟨rfl, f5, k5⟩
        go_wp2_with fail
        go_ret
        exact (show OrdEnd _ _ _ _ _ _ from ⟨ok3, τ, ⟨0, 0, 1, kz⟩, by rw [hr3.out]; rfl, by rw [HFM.out, XX.out], f5, fun _ => HS3.out.kept k5 (Ne.symm hRS), (K1.out.trans (k2.l2 S)).trans (((kept3 S w2 1 2 3 (.int .i64 0) (.int .i64 0) (.int .i64 1)).r2 R).trans (k5.l2 S))⟩)
end Go.Proofs.YtapfaaaepnplcaaGreatDoor
set_option maxRecDepth 100000
set_option maxHeartbeats 4000000
namespace Go.Proofs.YtapfaaaepnplcaaGreatDoor
open Go.RowKit Go.Great
theorem bs_extract (l : List UInt8) (a b : Nat) : (bs l).extract a b = bs ((l.drop a).take (b - a)) := by
  apply ByteArray.ext
  apply Array.ext'
  simp [bs, ByteArray.data_extract, List.extract_eq_take_drop]
theorem secL_len {C : List UInt8} (hC : C.length = 8192) {s : Nat} (hs : s < 2) : (secL C s).length = 4096 := by
  unfold secL; rw [List.length_take, List.length_drop]; omega
theorem bs_at (l : List UInt8) (j : Nat) (h : j < (bs l).size) : (bs l)[j] = l.getD j 0 := by
  rw [← getD_ba (bs l) j h, bs_list]
theorem actI_cases (a b : UInt8) : actI a b = -1 ∨ actI a b = 0 ∧ (turnI a = 0 ∨ turnI a = 1 ∨ turnI a = 2) ∨ actI a b = 1 ∧ (turnI b = 0 ∨ turnI b = 1 ∨ turnI b = 2) := by
  unfold actI
  rcases turnI_cases a with h | h | h | h <;> rcases turnI_cases b with g | g | g | g <;> rw [h, g] <;> decide
theorem KOk.mono {k : Kp} {e f : Nat} (h : KOk k e) (hf : e ≤ f) : KOk k f := ⟨fun i hi => ⟨Nat.le_trans (h.1 i hi).1 hf, (h.1 i hi).2⟩, Nat.le_trans h.2 hf⟩
theorem restM_none (k : Kp) : restM k (-1) 0 0 3 = sizeK k := by
  have h : ∀ i : Nat, szM k (-1) 0 i = szK k i := fun i => by unfold szM; rw [if_neg (by omega)]
  show szM k (-1) 0 0 + (szM k (-1) 0 1 + (szM k (-1) 0 2 + 0)) = _
  rw [h, h, h]
  unfold sizeK
  omega
theorem bs_at0 {l : List UInt8} {a : ByteArray} (e : bs l = a) (h : 0 < a.size) : a[0]'h = l.getD 0 0 := by subst e; exact bs_at l 0 h
theorem order_any (w : World) (S R : Nat) (σ : St) (hon : On σ) (hF : Fl w R σ) (h : So w S (fp R) 0 0 0 kz) :
    Calls Tryz.prog 37 #[fp S, .string (bs σ.C)] w fun e w' => OrdEnd (bootS σ) S R w e w' := by
  have hRS := hF.ne h
  have hsz : (bs σ.C).size = 8192 := by rw [bs_size, hon.len]
  have hx1 : (bs σ.C).extract 0 4096 = bs (secL σ.C 0) := by rw [bs_extract]; rfl
  have hx2 : (bs σ.C).extract 4096 (bs σ.C).size = bs (secL σ.C 1) := by rw [hsz, bs_extract]; rfl
  have hz1 : Hid ((bs (secL σ.C 0)).size = 4096) := by show _ = _; rw [bs_size, secL_len hon.len (by omega)]
  have hz2 : Hid ((bs (secL σ.C 1)).size = 4096) := by show _ = _; rw [bs_size, secL_len hon.len (by omega)]
  have FD1 := fun wx p ac tu en k hh => find_any wx S p ac tu en k hh (bs (secL σ.C 0)) hz1.out
  have FD2 := fun wx p ac tu en k hh => find_any wx S p ac tu en k hh (bs (secL σ.C 1)) hz2.out
  simp only [bs_list] at FD1 FD2
  have HBT : Hid (bootS σ = if actI ((secL σ.C 0).getD 0 0) ((secL σ.C 1).getD 0 0) = -1 then fmtS σ ((secL σ.C 1).getD 0 0) else bootIn σ (actI ((secL σ.C 0).getD 0 0) ((secL σ.C 1).getD 0 0)).toNat) := by
    show _ = _
    unfold bootS
    rw [hon.off]; rfl
  have HB0 : Hid (bootIn σ 0 = if (svOf σ.C 0).2 then (if (secL σ.C 1).getD 0 0 ≠ 255 ∧ turnI ((secL σ.C 1).getD 0 0) = -1 then ((eraseS σ 1).1, if (eraseS σ 1).2 then some (svOf σ.C 0).1 else none) else (σ, some (svOf σ.C 0).1)) else moveS σ (svOf σ.C 0).1 (-1) []) := hide rfl
  have HB1 : Hid (bootIn σ 1 = if (svOf σ.C 1).2 then (if (secL σ.C 0).getD 0 0 ≠ 255 ∧ turnI ((secL σ.C 0).getD 0 0) = -1 then ((eraseS σ 0).1, if (eraseS σ 0).2 then some (svOf σ.C 1).1 else none) else (σ, some (svOf σ.C 1).1)) else moveS σ (svOf σ.C 1).1 (-1) []) := hide rfl
  unfold svOf at HB0 HB1
  have RK1 := rd_ok (secL σ.C 0) 4096 1 kz (by rw [secL_len hon.len (by omega)]; omega) KOk.kz
  have RK2 := rd_ok (secL σ.C 1) 4096 1 kz (by rw [secL_len hon.len (by omega)]; omega) KOk.kz
  rw [secL_len hon.len (by omega)] at RK1 RK2
  obtain ⟨⟨K1, E1, cl1⟩, hr1⟩ : ∃ r, rd (secL σ.C 0) 4096 1 kz = r := ⟨_, rfl⟩
  obtain ⟨⟨K2, E2, cl2⟩, hr2⟩ : ∃ r, rd (secL σ.C 1) 4096 1 kz = r := ⟨_, rfl⟩
  rw [hr1] at RK1 HB0
  rw [hr2] at RK2 HB1
  simp only at RK1 RK2 HB0 HB1
  obtain ⟨b1, hb1⟩ : ∃ b, (secL σ.C 0).getD 0 0 = b := ⟨_, rfl⟩
  obtain ⟨b2, hb2⟩ : ∃ b, (secL σ.C 1).getD 0 0 = b := ⟨_, rfl⟩
  rw [hb1] at HBT HB0 HB1
  rw [hb2] at HBT HB0 HB1
  have HR1 := hide hr1
  have HR2 := hide hr2
  clear hr1 hr2
  obtain ⟨a1, ha1⟩ : ∃ a, bs (secL σ.C 0) = a := ⟨_, rfl⟩
  obtain ⟨a2, ha2⟩ : ∃ a, bs (secL σ.C 1) = a := ⟨_, rfl⟩
  obtain ⟨s, hs⟩ : ∃ s, bs σ.C = s := ⟨_, rfl⟩
  have hi1 := @bs_at0 _ _ ha1
  have hi2 := @bs_at0 _ _ ha2
  rw [hb1] at hi1
  rw [hb2] at hi2
  simp only [ha1] at hx1 hz1 FD1
  simp only [ha2] at hx2 hz2 FD2
  rw [hs] at hx1 hx2 hsz ⊢
  have hl1 : 0 < a1.size := by rw [hz1.out]; omega
  have hl2 : 0 < a2.size := by rw [hz2.out]; omega
  have hs4 : (4096 : Int) ≤ (s.size : Int) := by rw [hsz]; omega
  have HSZ := hide hsz
  clear hb1 hb2 ha1 ha2 hs hsz
  have A := fun wx => act_any wx b1 b2
  have T1 := fun wx => turn_any wx b1
  have T2 := fun wx => turn_any wx b2
  have HC := actI_cases b1 b2
  obtain ⟨t, ht⟩ : ∃ t, actI b1 b2 = t := ⟨_, rfl⟩
  rw [ht] at HBT HC
  simp only [ht] at A
  clear ht
  have HS := hide h
  have HF := hide hF
  have c0 := h.c0
  have c1 := h.c1
  have hls := h.lt
  clear h hF
  go_enter Tryz.func37, Tryz.ntmps37
  go_wp2_with fail
  go_quiet (fail)
  go_wp2_with fail
  obtain ⟨W, hW⟩ : ∃ W, Hid (w.drewN nq = W) := ⟨_, hide rfl⟩
  rw [hW.out]
  have hS0 : So W S (fp R) 0 0 0 kz := by rw [← hW.out]; exact HS.out.drewN nq
  have hF0 : Fl W R σ := by rw [← hW.out]; exact HF.out.drewM nq
  have hK0 : Kep2 R S w W := by rw [← hW.out]; exact ((Kept.refl R w).drewM nq).l2 S
  have HS0 := hide hS0
  have HF0 := hide hF0
  have HK0 := hide hK0
  clear hS0 hF0 hK0 hx1 hx2 hs4 c0 c1
  go_cut [18] (fun _ wx => Hid (So wx S (fp R) t 0 0 kz) ∧ Hid (Fl wx R σ) ∧ Hid (Kep2 R S w wx))
  case first =>
    go_region_with (go_at_call 78; refine (A _).mono ?_; rintro e w2 ⟨rfl, b2⟩; have s2 := HS0.out.drew.below b2; have f2 := HF0.out.drew.below b2; have k2 := (HK0.out.drew).below b2; have m1 := s2.c1; have z1 := s2.frozen 1)
    all_goals go_wp2_with fail
    all_goals go_meet
    all_goals exact ⟨s2.s1 t, f2.kept ((Kept.refl S _).set _ _) hRS, k2.setD _ _⟩
  case rest =>
    obtain ⟨HS2, HF2, HK2⟩ := hcut
    clear HS0 HF0 HK0 hW HS HF
    have c1 := HS2.out.c1
    rcases HC with rfl | ⟨rfl, hT⟩ | ⟨rfl, hT⟩
    · have FM := format_any wc S R σ hon (-1) 0 0 HF2.out HS2.out b2
      have e1 := HBT.out
      rw [if_pos rfl] at e1
      have X1 := hide e1
      clear e1 HBT HB0 HB1 RK1 RK2 A T1 T2 FD1 FD2
      go_wp2_with fail
      refine FM.mono ?_
      intro e w3 h3
      have H3 := hide h3
      clear h3
      obtain ⟨ok, τ, s', rfl, g2, g3, g4, g5⟩ := H3.out
      clear H3
      obtain ⟨r, hr⟩ : ∃ r : Int, Hid ((if ok then 0 else 60) = r) := ⟨_, hide rfl⟩
      rw [show (if ok = true then (0 : Int) else 60) = r from hr.out]
      go_wp2_with fail
      go_ret
      exact (show OrdEnd _ _ _ _ _ _ from ⟨ok, τ, s', by rw [hr.out]; rfl, by rw [X1.out, g2], g3, g4, HK2.out.trans g5⟩)
    · obtain ⟨tu, htu, htu3⟩ : ∃ tu : Nat, turnI b1 = (tu : Int) ∧ tu < 3 := ⟨(turnI b1).toNat, by omega, by omega⟩
      have e1 := HBT.out
      rw [if_neg (by omega), show ((0 : Int)).toNat = 0 from rfl, HB0.out] at e1
      rw [show (turnI b1).toNat = tu by omega] at e1
      simp only [htu] at T1
      have X1 := hide e1
      clear e1 HBT HB0 HB1 hT htu A
      have c2 := HS2.out.c2
      have z2 := HS2.out.frozen 2
      go_wp2_with fail
      refine (T1 _).mono ?_
      rintro e w3 ⟨rfl, b3⟩
      have hS3 := HS2.out.below b3
      have HF3 := hide (HF2.out.below b3)
      have HK3 := hide (HK2.out.below b3)
      have m2 := hS3.c2
      have y2 := hS3.frozen 2
      have FD1 := FD1 _ _ _ _ _ _ (hS3.s2 (tu : Int))
      have HS3 := hide hS3
      have r1 := HR1.out
      rw [r1] at FD1
      simp only at FD1
      clear T1 hS3 r1 c2 z2 c1
      go_wp2_with fail
      refine FD1.mono ?_
      rintro e w4 ⟨rfl, s4, k4⟩
      have HS4 := hide s4
      have HF4 := hide ((HF3.out.kept ((Kept.refl S w3).set 2 (.int .i64 (tu : Int))) hRS).kept k4 hRS)
      have HK4 := hide ((HK3.out.setD 2 (.int .i64 (tu : Int))).trans (k4.r2 R))
      have d0 := s4.c0
      have d1 := s4.c1
      clear FD1 s4 k4 m2 y2 HS3 HF3 HK3 HS2 HF2 HK2
      cases cl1
      · have MV := move_any w4 S R σ hon 0 tu E1 K1 HF4.out HS4.out (by omega) htu3 (RK1.2.2.mono RK1.2.1) (-1) ⟨#[]⟩ (by show (0 : Nat) ≤ _; omega) (by rw [show (⟨#[]⟩ : ByteArray).size = 0 from rfl, restM_none]; have := RK1.2.2.2; omega)
        have e1 := X1.out
        simp only [Bool.false_eq_true, if_false] at e1
        have X2 := hide e1
        clear e1 X1 d0 d1
        go_wp2_with fail
        refine MV.mono ?_
        intro e w5 h5
        have H5 := hide (h5.ord.from HK4.out)
        clear h5 MV
        obtain ⟨ok, τ, s', rfl, g2, g3, g4, g5⟩ := H5.out
        clear H5
        obtain ⟨r, hr⟩ : ∃ r : Int, Hid ((if ok then 0 else 60) = r) := ⟨_, hide rfl⟩
        rw [show (if ok = true then (0 : Int) else 60) = r from hr.out]
        have G2 := hide g2
        have G4 := hide g4
        clear g2 g4
        go_wp2_with fail
        go_ret
        exact (show OrdEnd _ _ _ _ _ _ from ⟨ok, τ, s', by rw [hr.out]; rfl, by rw [X2.out]; exact G2.out, g3, G4.out, g5⟩)
      · have e1 := X1.out
        simp only [if_true] at e1
        have hq : ((b2.toNat : Int) != 255) = !decide (b2 = 255) := congrArg (!·) (nat_u8 b2 255 (by omega))
        by_cases hQ : b2 = 255
        · rw [decide_eq_true hQ] at hq
          rw [if_neg (by simp [hQ])] at e1
          have X2 := hide e1
          clear e1 X1 hQ
          go_wp2_with fail
          go_ret
          exact (show OrdEnd _ _ _ _ _ _ from ⟨true, σ, ⟨0, tu, E1, K1⟩, rfl, X2.out, HF4.out, (fun _ => HS4.out), HK4.out⟩)
        · rw [decide_eq_false hQ] at hq
          by_cases hN : turnI b2 = -1
          · rw [if_pos ⟨hQ, hN⟩] at e1
            have T2 := T2 w4
            rw [hN] at T2
            have X2 := hide e1
            clear e1 X1 hQ hN
            go_wp2_with fail
            refine T2.mono ?_
            rintro e w5 ⟨rfl, b5⟩
            have hS5 := HS4.out.below b5
            have HF5 := hide (HF4.out.below b5)
            have HK5 := hide (HK4.out.below b5)
            have i0 := hS5.c0
            have i1 := hS5.c1
            have HS5 := hide hS5
            have OT := other_any w5.drew 0 (by omega)
            have ER := erase_on w5.drew R σ HF5.out.drew hon (1 - 0) (by omega)
            simp only [show (1 - 0 : Nat) = 1 from rfl] at OT ER
            obtain ⟨⟨τ, ok⟩, hx⟩ : ∃ x, eraseS σ 1 = x := ⟨_, rfl⟩
            simp only [hx] at ER
            have x2 := X2.out
            rw [hx] at x2
            have X3 := hide x2
            obtain ⟨r, hr⟩ : ∃ r : Int, Hid ((if ok then 0 else 60) = r) := ⟨_, hide rfl⟩
            simp only [show (if ok = true then (0 : Int) else 60) = r from hr.out] at ER
            clear x2 X2 hx T2 d0 d1 HS4 HF4 HK4 b5 hS5
            go_wp2_with fail
            go_region_with (first
              | (go_at_call 84; refine OT.mono ?_; rintro e w6 ⟨rfl, hw⟩; obtain rfl := hw.symm; clear hw)
              | (go_at_call 83; refine ER.mono ?_; rintro e w7 ⟨rfl, f7, k7⟩))
            all_goals
              go_wp2_with fail
              go_ret
              exact (show OrdEnd _ _ _ _ _ _ from ⟨ok, τ, _, by rw [hr.out]; rfl, X3.out, f7, (fun _ => HS5.out.kept (Kept.drew1 k7) (Ne.symm hRS)), HK5.out.trans ((Kept.drew1 k7).l2 S)⟩)
          · rw [if_neg (fun c => hN c.2)] at e1
            have T2 := T2 w4
            have X2 := hide e1
            have hnn : (turnI b2 == -1) = false := by simp [hN]
            obtain ⟨t2, ht2⟩ : ∃ t2, turnI b2 = t2 := ⟨_, rfl⟩
            rw [ht2] at T2 hnn
            clear e1 X1 hQ hN ht2
            go_wp2_with fail
            refine T2.mono ?_
            rintro e w5 ⟨rfl, b5⟩
            clear T2
            go_wp2_with fail
            go_ret
            exact (show OrdEnd _ _ _ _ _ _ from ⟨true, σ, ⟨0, tu, E1, K1⟩, rfl, X2.out, HF4.out.below b5, (fun _ => HS4.out.below b5), HK4.out.below b5⟩)
    · obtain ⟨tu, htu, htu3⟩ : ∃ tu : Nat, turnI b2 = (tu : Int) ∧ tu < 3 := ⟨(turnI b2).toNat, by omega, by omega⟩
      have e1 := HBT.out
      rw [if_neg (by omega), show ((1 : Int)).toNat = 1 from rfl, HB1.out] at e1
      rw [show (turnI b2).toNat = tu by omega] at e1
      simp only [htu] at T2
      have X1 := hide e1
      clear e1 HBT HB0 HB1 hT htu A
      have c2 := HS2.out.c2
      have z2 := HS2.out.frozen 2
      go_wp2_with fail
      refine (T2 _).mono ?_
      rintro e w3 ⟨rfl, b3⟩
      have hS3 := HS2.out.below b3
      have HF3 := hide (HF2.out.below b3)
      have HK3 := hide (HK2.out.below b3)
      have m2 := hS3.c2
      have y2 := hS3.frozen 2
      have FD2 := FD2 _ _ _ _ _ _ (hS3.s2 (tu : Int))
      have HS3 := hide hS3
      have r1 := HR2.out
      rw [r1] at FD2
      simp only at FD2
      clear T2 hS3 r1 c2 z2 c1
      go_wp2_with fail
      refine FD2.mono ?_
      rintro e w4 ⟨rfl, s4, k4⟩
      have HS4 := hide s4
      have HF4 := hide ((HF3.out.kept ((Kept.refl S w3).set 2 (.int .i64 (tu : Int))) hRS).kept k4 hRS)
      have HK4 := hide ((HK3.out.setD 2 (.int .i64 (tu : Int))).trans (k4.r2 R))
      have d0 := s4.c0
      have d1 := s4.c1
      clear FD2 s4 k4 m2 y2 HS3 HF3 HK3 HS2 HF2 HK2
      cases cl2
      · have MV := move_any w4 S R σ hon 1 tu E2 K2 HF4.out HS4.out (by omega) htu3 (RK2.2.2.mono RK2.2.1) (-1) ⟨#[]⟩ (by show (0 : Nat) ≤ _; omega) (by rw [show (⟨#[]⟩ : ByteArray).size = 0 from rfl, restM_none]; have := RK2.2.2.2; omega)
        have e1 := X1.out
        simp only [Bool.false_eq_true, if_false] at e1
        have X2 := hide e1
        clear e1 X1 d0 d1
        go_wp2_with fail
        refine MV.mono ?_
        intro e w5 h5
        have H5 := hide (h5.ord.from HK4.out)
        clear h5 MV
        obtain ⟨ok, τ, s', rfl, g2, g3, g4, g5⟩ := H5.out
        clear H5
        obtain ⟨r, hr⟩ : ∃ r : Int, Hid ((if ok then 0 else 60) = r) := ⟨_, hide rfl⟩
        rw [show (if ok = true then (0 : Int) else 60) = r from hr.out]
        have G2 := hide g2
        have G4 := hide g4
        clear g2 g4
        go_wp2_with fail
        go_ret
        exact (show OrdEnd _ _ _ _ _ _ from ⟨ok, τ, s', by rw [hr.out]; rfl, by rw [X2.out]; exact G2.out, g3, G4.out, g5⟩)
      · have e1 := X1.out
        simp only [if_true] at e1
        have hq : ((b1.toNat : Int) != 255) = !decide (b1 = 255) := congrArg (!·) (nat_u8 b1 255 (by omega))
        by_cases hQ : b1 = 255
        · rw [decide_eq_true hQ] at hq
          rw [if_neg (by simp [hQ])] at e1
          have X2 := hide e1
          clear e1 X1 hQ
          go_wp2_with fail
          go_ret
          exact (show OrdEnd _ _ _ _ _ _ from ⟨true, σ, ⟨1, tu, E2, K2⟩, rfl, X2.out, HF4.out, (fun _ => HS4.out), HK4.out⟩)
        · rw [decide_eq_false hQ] at hq
          by_cases hN : turnI b1 = -1
          · rw [if_pos ⟨hQ, hN⟩] at e1
            have T1 := T1 w4
            rw [hN] at T1
            have X2 := hide e1
            clear e1 X1 hQ hN
            go_wp2_with fail
            refine T1.mono ?_
            rintro e w5 ⟨rfl, b5⟩
            have hS5 := HS4.out.below b5
            have HF5 := hide (HF4.out.below b5)
            have HK5 := hide (HK4.out.below b5)
            have i0 := hS5.c0
            have i1 := hS5.c1
            have HS5 := hide hS5
            have OT := other_any w5.drew 1 (by omega)
            have ER := erase_on w5.drew R σ HF5.out.drew hon (1 - 1) (by omega)
            simp only [show (1 - 1 : Nat) = 0 from rfl] at OT ER
            obtain ⟨⟨τ, ok⟩, hx⟩ : ∃ x, eraseS σ 0 = x := ⟨_, rfl⟩
            simp only [hx] at ER
            have x2 := X2.out
            rw [hx] at x2
            have X3 := hide x2
            obtain ⟨r, hr⟩ : ∃ r : Int, Hid ((if ok then 0 else 60) = r) := ⟨_, hide rfl⟩
            simp only [show (if ok = true then (0 : Int) else 60) = r from hr.out] at ER
            clear x2 X2 hx T1 d0 d1 HS4 HF4 HK4 b5 hS5
            go_wp2_with fail
            go_region_with (first
              | (go_at_call 84; refine OT.mono ?_; rintro e w6 ⟨rfl, hw⟩; obtain rfl := hw.symm; clear hw)
              | (go_at_call 83; refine ER.mono ?_; rintro e w7 ⟨rfl, f7, k7⟩))
            all_goals
              go_wp2_with fail
              go_ret
              exact (show OrdEnd _ _ _ _ _ _ from ⟨ok, τ, _, by rw [hr.out]; rfl, X3.out, f7, (fun _ => HS5.out.kept (Kept.drew1 k7) (Ne.symm hRS)), HK5.out.trans ((Kept.drew1 k7).l2 S)⟩)
          · rw [if_neg (fun c => hN c.2)] at e1
            have T1 := T1 w4
            have X2 := hide e1
            have hnn : (turnI b1 == -1) = false := by simp [hN]
            obtain ⟨t2, ht2⟩ : ∃ t2, turnI b1 = t2 := ⟨_, rfl⟩
            rw [ht2] at T1 hnn
            clear e1 X1 hQ hN ht2
            go_wp2_with fail
            refine T1.mono ?_
            rintro e w5 ⟨rfl, b5⟩
            clear T1
            go_wp2_with fail
            go_ret
            exact (show OrdEnd _ _ _ _ _ _ from ⟨true, σ, ⟨1, tu, E2, K2⟩, rfl, X2.out, HF4.out.below b5, (fun _ => HS4.out.below b5), HK4.out.below b5⟩)
end Go.Proofs.YtapfaaaepnplcaaGreatDoor
set_option maxRecDepth 100000
set_option maxHeartbeats 1000000
namespace Go.Proofs.YtapfaaaepnplcaaGreatDoor
open Go.RowKit Go.Great
/-- a store that can be asked -/
structure Ask (s : Sv) : Prop where
  ac : s.ac < 2
  tu : s.tu < 3
  en : s.en ≤ 4096
  k : KOk s.k 4096
theorem needN_rest (k : Kp) (i n : Nat) (hi : i < 3) : 1 + restM k (i : Int) n 0 3 = needN k i n := by
  show 1 + (szM k (i : Int) n 0 + (szM k (i : Int) n 1 + (szM k (i : Int) n 2 + 0))) = _
  unfold szM needN szK
  obtain rfl | rfl | rfl : i = 0 ∨ i = 1 ∨ i = 2 := by omega
  all_goals
    cases (k 0).th <;> cases (k 1).th <;> cases (k 2).th <;> simp <;> omega
/-- write: add or move -/
def wriS (σ : St) (s : Sv) (i : Nat) (v : List UInt8) : St × Option Sv :=
  if s.en + 4 + v.length ≤ 4096 then ((addS s.ac i v ⟨σ, s.en, s.k⟩).1.σ, if (addS s.ac i v ⟨σ, s.en, s.k⟩).2 then some ⟨s.ac, s.tu, (addS s.ac i v ⟨σ, s.en, s.k⟩).1.en, (addS s.ac i v ⟨σ, s.en, s.k⟩).1.k⟩ else none)
  else moveS σ s (i : Int) v
theorem addS_fail {s i : Nat} {t : List UInt8} {m : Mv} (h : (addS s i t m).2 = false) : (addS s i t m).1.en = m.en ∧ (addS s i t m).1.k = m.k := by
  unfold addS at h ⊢
  by_cases hc : (progS m.σ (s * 4096 + m.en) (recB i t)).2 = true
  · rw [if_pos hc] at h; cases h
  · rw [if_neg hc]; exact ⟨rfl, rfl⟩
theorem write_any (w : World) (S R : Nat) (σ : St) (hon : On σ) (s : Sv) (ha : Ask s) (hF : Fl w R σ) (h : So w S (fp R) s.ac s.tu s.en s.k) (i : Nat) (hi : i < 3) (tv : ByteArray) (htv : tv.size ≤ 2000) (hn : needN s.k i tv.size ≤ 4096) :
    Calls Tryz.prog 256 #[fp S, .int .i64 (i : Int), .string tv] w fun e w' => StEnd (wriS σ s i tv.data.toList) s S R w e w' := by
  have c3 := h.c3
  by_cases hc : s.en + 4 + tv.size ≤ 4096
  · have A := add_any_So7 w S R σ hon s.ac s.tu s.en s.k i tv hF h ha.ac hi htv hc
    have hfl := @addS_fail s.ac i tv.data.toList ⟨σ, s.en, s.k⟩
    have HW : Hid (wriS σ s i tv.data.toList = ((addS s.ac i tv.data.toList ⟨σ, s.en, s.k⟩).1.σ, if (addS s.ac i tv.data.toList ⟨σ, s.en, s.k⟩).2 then some ⟨s.ac, s.tu, (addS s.ac i tv.data.toList ⟨σ, s.en, s.k⟩).1.en, (addS s.ac i tv.data.toList ⟨σ, s.en, s.k⟩).1.k⟩ else none)) := by
      show _ = _
      unfold wriS
      rw [if_pos (by rw [list_size]; exact hc)]
    obtain ⟨⟨m, ok⟩, hx⟩ : ∃ x, addS s.ac i tv.data.toList ⟨σ, s.en, s.k⟩ = x := ⟨_, rfl⟩
    rw [hx] at A HW hfl
    simp only at A HW hfl
    obtain ⟨r, hr⟩ : ∃ r : Int, Hid ((if ok then 0 else 60) = r) := ⟨_, hide rfl⟩
    rw [show (if ok = true then (0 : Int) else 60) = r from hr.out] at A
    obtain ⟨en, hen⟩ : ∃ en, Hid (s.en = en) := ⟨_, hide rfl⟩
    rw [hen.out] at c3
    obtain ⟨n, hnn⟩ : ∃ n, tv.size = n := ⟨_, rfl⟩
    have hc1 : (en : Int) + 4 + (n : Int) ≤ 4096 := by have := hen.out; omega
    clear hx hc hn
    go_enter Tryz.func256, Tryz.ntmps256
    go_wp2_with fail
    refine A.mono ?_
    rintro e w1 ⟨rfl, f1, s1, k1⟩
    have S1 := hide s1
    clear s1 A
    go_wp2_with fail
    go_ret
    cases ok
    · have g := hfl rfl
      have := S1.out
      rw [g.1, g.2] at this
      exact (show StEnd _ _ _ _ _ _ _ from ⟨false, m.σ, s, by rw [hr.out]; rfl, HW.out, f1, this, k1⟩)
    · exact (show StEnd _ _ _ _ _ _ _ from ⟨true, m.σ, ⟨s.ac, s.tu, m.en, m.k⟩, by rw [hr.out]; rfl, HW.out, f1, S1.out, k1⟩)
  · have A := move_any w S R σ hon s.ac s.tu s.en s.k hF h ha.ac ha.tu ha.k (i : Int) tv htv (by rw [needN_rest _ _ _ hi]; exact hn)
    have HW : Hid (wriS σ s i tv.data.toList = moveS σ s (i : Int) tv.data.toList) := by
      show _ = _
      unfold wriS
      rw [if_neg (by rw [list_size]; exact hc)]
    obtain ⟨en, hen⟩ : ∃ en, Hid (s.en = en) := ⟨_, hide rfl⟩
    rw [hen.out] at c3
    obtain ⟨n, hnn⟩ : ∃ n, tv.size = n := ⟨_, rfl⟩
    have he1 : (en : Int) ≤ 4096 := by have := hen.out; have := ha.en; omega
    have hn1 : (n : Int) ≤ 2000 := by omega
    have hc1 : decide ((en : Int) + 4 + (n : Int) ≤ 4096) = false := decide_eq_false (by have := hen.out; omega)
    clear hc hn htv
    go_enter Tryz.func256, Tryz.ntmps256
    go_wp2_with fail
    refine A.mono ?_
    intro e w1 h1
    have H1 := hide h1
    clear h1 A
    obtain ⟨ok, τ, s', rfl, g2, g3, g4, g5⟩ := H1.out
    clear H1
    obtain ⟨r, hr⟩ : ∃ r : Int, Hid ((if ok then 0 else 60) = r) := ⟨_, hide rfl⟩
    rw [show (if ok = true then (0 : Int) else 60) = r from hr.out]
    have G2 := hide g2
    have G4 := hide g4
    clear g2 g4
    go_wp2_with fail
    go_ret
    exact (show StEnd _ _ _ _ _ _ _ from ⟨ok, τ, s', by rw [hr.out]; rfl, by rw [HW.out]; exact G2.out, g3, G4.out, g5⟩)
theorem put_nil (w : World) (id : Int) (v : ByteArray) : Calls Tryz.prog 175 #[.pointer none, .int .i64 id, .string v] w fun e w' => e = .returned (.int .i64 2) ∧ w' = w := by
  go_enter Tryz.func175, Tryz.ntmps175
  go_wp2
  go_ret
  exact ⟨rfl, rfl⟩
theorem put_stands (w : World) (S : Nat) (ac tu en : Int) (k : Kp) (h : So w S (.pointer none) ac tu en k) (id : Int) (v : ByteArray) : Calls Tryz.prog 175 #[fp S, .int .i64 id, .string v] w fun e w' => e = .returned (.int .i64 60) ∧ w' = w := by
  have c0 := h.c0
  go_enter Tryz.func175, Tryz.ntmps175
  go_wp2
  go_ret
  exact ⟨rfl, rfl⟩
/-- what Put leaves -/
def PutEnd (x : St × Option Sv × Int) (S R : Nat) (w : World) (e : Ending) (w' : World) : Prop :=
  ∃ (τ : St) (o : Option Sv) (r : Int), e = .returned (.int .i64 r) ∧ x = (τ, o, r) ∧ Fl w' R τ ∧ (∀ s', o = some s' → So w' S (fp R) s'.ac s'.tu s'.en s'.k) ∧ (o = none → So w' S (.pointer none) 0 0 0 kz) ∧ Kep2 R S w w'
theorem put_arg (w : World) (S R : Nat) (σ : St) (s : Sv) (hF : Fl w R σ) (h : So w S (fp R) s.ac s.tu s.en s.k) (id : Int) (tv : ByteArray) (hb : ¬ (0 ≤ id ∧ id < 3) ∨ 2000 < tv.size) :
    Calls Tryz.prog 175 #[fp S, .int .i64 id, .string tv] w fun e w' => PutEnd (putS σ s id tv.data.toList) S R w e w' := by
  have HX : Hid (putS σ s id tv.data.toList = (σ, some s, 1)) := by
    show _ = _
    unfold putS
    rw [if_pos (by rw [list_size]; exact hb)]
  have O := obj_any w id
  have c0 := h.c0
  go_enter Tryz.func175, Tryz.ntmps175
  by_cases hid : 0 ≤ id ∧ id < 3
  · have e0 : (decide (0 ≤ id) && decide (id < 3)) = true := by simp; omega
    rw [e0] at O
    have hz : (2000 : Int) < (tv.size : Int) := by omega
    clear hb hid
    go_wp2_with (go_at_call 161; refine O.mono ?_; rintro e w1 ⟨rfl, rfl⟩)
    go_ret
    exact (show PutEnd _ _ _ _ _ _ from ⟨σ, some s, 1, rfl, HX.out, hF, (fun s' e => by injection e with e; subst e; exact h), (fun e => by cases e), Kep2.refl _ _ _⟩)
  · have e0 : (decide (0 ≤ id) && decide (id < 3)) = false := by simp; omega
    rw [e0] at O
    clear hb hid
    go_wp2_with (go_at_call 161; refine O.mono ?_; rintro e w1 ⟨rfl, rfl⟩)
    go_ret
    exact (show PutEnd _ _ _ _ _ _ from ⟨σ, some s, 1, rfl, HX.out, hF, (fun s' e => by injection e with e; subst e; exact h), (fun e => by cases e), Kep2.refl _ _ _⟩)
theorem wri_put (σ : St) (s : Sv) (i : Nat) (hi : i < 3) (v : List UInt8) (hv : v.length ≤ 2000) (hn : needN s.k i v.length ≤ 4096) : putS σ s (i : Int) v = ((wriS σ s i v).1, (wriS σ s i v).2, if (wriS σ s i v).2.isSome then 0 else 60) := by
  unfold putS wriS
  rw [if_neg (by omega), show ((i : Int)).toNat = i by omega, if_neg (by omega)]
  by_cases hc : s.en + 4 + v.length ≤ 4096
  · rw [if_pos hc, if_pos hc]
    cases hb : (addS s.ac i v ⟨σ, s.en, s.k⟩).2
    · simp
    · simp
  · rw [if_neg hc, if_neg hc]
theorem put_in (w : World) (S R : Nat) (σ : St) (hon : On σ) (s : Sv) (ha : Ask s) (hF : Fl w R σ) (h : So w S (fp R) s.ac s.tu s.en s.k) (i : Nat) (hi : i < 3) (tv : ByteArray) (htv : tv.size ≤ 2000) :
    Calls Tryz.prog 175 #[fp S, .int .i64 (i : Int), .string tv] w fun e w' => PutEnd (putS σ s (i : Int) tv.data.toList) S R w e w' := by
  have O := obj_any w (i : Int)
  have e0 : (decide (0 ≤ (i : Int)) && decide ((i : Int) < 3)) = true := by simp; omega
  rw [e0] at O
  have c0 := h.c0
  have N := need_any w S (fp R) s.ac s.tu s.en s.k h (fun j hj => (ha.k.1 j hj).2) i tv.size htv
  obtain ⟨q, hq⟩ : ∃ q, Hid (needN s.k i tv.size = q) := ⟨_, hide rfl⟩
  rw [hq.out] at N
  obtain ⟨n, hnn⟩ : ∃ n, tv.size = n := ⟨_, rfl⟩
  have hn1 : (n : Int) ≤ 2000 := by omega
  have HTV := hide htv
  by_cases hc : q ≤ 4096
  · have A := fun w1 (b1 : Below w.heap.size w w1) => write_any w1 S R σ hon s ha (hF.below b1) (h.below b1) i hi tv HTV.out (by rw [hq.out]; exact hc)
    have HX := hide (wri_put σ s i hi tv.data.toList (by rw [list_size]; exact HTV.out) (by rw [list_size, hq.out]; exact hc))
    have hc1 : (q : Int) ≤ 4096 := by omega
    rw [hnn] at N
    clear hc htv
    go_enter Tryz.func175, Tryz.ntmps175
    go_wp2_with (go_at_call 161; refine O.mono ?_; rintro e w1 ⟨rfl, hw⟩; obtain rfl := hw.symm; clear hw)
    refine N.mono ?_
    rintro e w1 ⟨rfl, b1⟩
    have A1 := A w1 b1
    have B1 := hide b1
    clear A N b1
    go_wp2_with fail
    refine A1.mono ?_
    intro e w2 h2
    have H2 := hide h2
    clear h2 A1
    obtain ⟨ok, τ, s', rfl, g2, g3, g4, g5⟩ := H2.out
    clear H2
    cases ok
    · simp only [Bool.false_eq_true, if_false] at g2 g4
      have G2 := hide g2
      have G4 := hide g4
      have q0 := g4.c0
      have z0 := g4.frozen 0
      have q1 := g4.c1
      have z1 := g4.frozen 1
      have q2 := g4.c2
      have z2 := g4.frozen 2
      have q3 := g4.c3
      have z3 := g4.frozen 3
      have q4 := g4.c4
      have z4 := g4.frozen 4
      have q5 := g4.c5
      have z5 := g4.frozen 5
      have q6 := g4.c6
      have z6 := g4.frozen 6
      have q7 := g4.c7
      have z7 := g4.frozen 7
      have q8 := g4.c8
      have z8 := g4.frozen 8
      have q9 := g4.c9
      have z9 := g4.frozen 9
      have q10 := g4.c10
      have z10 := g4.frozen 10
      have q11 := g4.c11
      have z11 := g4.frozen 11
      have q12 := g4.c12
      have z12 := g4.frozen 12
      have hRS := g3.ne g4
      clear g2 g4
      go_wp2_with fail
      go_ret
      exact (show PutEnd _ _ _ _ _ _ from ⟨τ, none, 60, rfl, by rw [HX.out, G2.out]; rfl, g3.kept (Kept.all13 (Kept.refl S w2) _ _ _ _ _ _ _ _ _ _ _ _ _) hRS, (fun s' e => by cases e), (fun _ => G4.out.all (.pointer none) 0 0 0 kz), ((below_kept B1.out R).l2 S).trans (g5.trans ((Kept.all13 (Kept.refl S w2) _ _ _ _ _ _ _ _ _ _ _ _ _).r2 R))⟩)
    · simp only [if_true] at g2 g4
      have G2 := hide g2
      have G4 := hide g4
      clear g2 g4
      go_wp2_with fail
      go_ret
      exact (show PutEnd _ _ _ _ _ _ from ⟨τ, some s', 0, rfl, by rw [HX.out, G2.out]; rfl, g3, (fun s1 e => by injection e with e; subst e; exact G4.out), (fun e => by cases e), ((below_kept B1.out R).l2 S).trans g5⟩)
  · have HX : Hid (putS σ s (i : Int) tv.data.toList = (σ, some s, 70)) := by
      show _ = _
      unfold putS
      rw [if_neg (by rw [list_size]; omega), show ((i : Int)).toNat = i by omega, if_pos (by rw [list_size, hq.out]; omega)]
    have hc1 : (4096 : Int) < (q : Int) := by omega
    rw [hnn] at N
    clear hc htv
    go_enter Tryz.func175, Tryz.ntmps175
    go_wp2_with (go_at_call 161; refine O.mono ?_; rintro e w1 ⟨rfl, hw⟩; obtain rfl := hw.symm; clear hw)
    refine N.mono ?_
    rintro e w1 ⟨rfl, b1⟩
    go_wp2_with fail
    go_ret
    exact (show PutEnd _ _ _ _ _ _ from ⟨σ, some s, 70, rfl, HX.out, hF.below b1, (fun s' e => by injection e with e; subst e; exact h.below b1), (fun e => by cases e), (below_kept b1 R).l2 S⟩)
theorem put_any (w : World) (S R : Nat) (σ : St) (hon : On σ) (s : Sv) (ha : Ask s) (hF : Fl w R σ) (h : So w S (fp R) s.ac s.tu s.en s.k) (id : Int) (tv : ByteArray) :
    Calls Tryz.prog 175 #[fp S, .int .i64 id, .string tv] w fun e w' => PutEnd (putS σ s id tv.data.toList) S R w e w' := by
  by_cases hb : ¬ (0 ≤ id ∧ id < 3) ∨ 2000 < tv.size
  · exact put_arg w S R σ s hF h id tv hb
  · obtain ⟨i, rfl⟩ := Int.eq_ofNat_of_zero_le (show 0 ≤ id by omega)
    exact put_in w S R σ hon s ha hF h i (by omega) tv (by omega)
theorem get_nil (w : World) (id : Int) : Calls Tryz.prog 85 #[.pointer none, .int .i64 id] w fun e w' => e = .returned (.tuple #[.string ⟨#[]⟩, .bool false]) ∧ w' = w := by
  go_enter Tryz.func85, Tryz.ntmps85
  go_wp2
  go_ret2
  exact ⟨rfl, rfl⟩
theorem get_out (w : World) (S : Nat) (id : Int) (hid : ¬ (0 ≤ id ∧ id < 3)) : Calls Tryz.prog 85 #[fp S, .int .i64 id] w fun e w' => e = .returned (.tuple #[.string ⟨#[]⟩, .bool false]) ∧ w' = w := by
  have O := obj_any w id
  have e0 : (decide (0 ≤ id) && decide (id < 3)) = false := by simp; omega
  rw [e0] at O
  clear hid
  go_enter Tryz.func85, Tryz.ntmps85
  go_wp2_with (go_at_call 161; refine O.mono ?_; rintro e w1 ⟨rfl, hw⟩; obtain rfl := hw.symm; clear hw)
  go_ret2
  exact ⟨rfl, rfl⟩
theorem get_not (w : World) (S : Nat) (p : Value) (ac tu en : Int) (k : Kp) (h : So w S p ac tu en k) (i : Nat) (hi : i < 3) (ht : (k i).th = false) : Calls Tryz.prog 85 #[fp S, .int .i64 (i : Int)] w fun e w' => e = .returned (.tuple #[.string ⟨#[]⟩, .bool false]) ∧ w' = w := by
  have O := obj_any w (i : Int)
  have e0 : (decide (0 ≤ (i : Int)) && decide ((i : Int) < 3)) = true := by simp; omega
  rw [e0] at O
  have c4 := h.c4
  have c7 := h.c7
  have c10 := h.c10
  clear e0
  obtain rfl | rfl | rfl : i = 0 ∨ i = 1 ∨ i = 2 := by omega
  all_goals
    go_enter Tryz.func85, Tryz.ntmps85
    go_wp2_with (go_at_call 161; refine O.mono ?_; rintro e w1 ⟨rfl, hw⟩; obtain rfl := hw.symm; clear hw)
    go_ret2
    exact ⟨rfl, rfl⟩
theorem get_there (w : World) (S R : Nat) (σ : St) (hon : On σ) (s : Sv) (ha : Ask s) (hF : Fl w R σ) (h : So w S (fp R) s.ac s.tu s.en s.k) (i : Nat) (hi : i < 3) (ht : (s.k i).th = true) : Calls Tryz.prog 85 #[fp S, .int .i64 (i : Int)] w fun e w' => e = .returned (.tuple #[.string (bs (txt σ.C s.ac (s.k i))), .bool true]) ∧ Below w.heap.size w w' := by
  have O := obj_any w (i : Int)
  have e0 : (decide (0 ≤ (i : Int)) && decide ((i : Int) < 3)) = true := by simp; omega
  rw [e0] at O
  have RD := read_st w S R σ hF hon.off s.ac s.tu s.en s.k h ha.ac i hi (by have := (ha.k.1 i ht).1; omega)
  obtain ⟨t, hx⟩ : ∃ t, bs (txt σ.C s.ac (s.k i)) = t := ⟨_, rfl⟩
  rw [hx] at RD ⊢
  have c4 := h.c4
  have c7 := h.c7
  have c10 := h.c10
  clear e0 hx
  obtain rfl | rfl | rfl : i = 0 ∨ i = 1 ∨ i = 2 := by omega
  all_goals
    go_enter Tryz.func85, Tryz.ntmps85
    go_wp2_with (go_at_call 161; refine O.mono ?_; rintro e w1 ⟨rfl, hw⟩; obtain rfl := hw.symm; clear hw)
    refine RD.mono ?_
    rintro e w1 ⟨rfl, b1⟩
    go_wp2_with fail
    go_ret2
    exact ⟨rfl, b1⟩
/-- what Get answers -/
def getV (o : Option (List UInt8)) : Value := match o with | some l => .tuple #[.string (bs l), .bool true] | none => .tuple #[.string ⟨#[]⟩, .bool false]
theorem get_any (w : World) (S R : Nat) (σ : St) (hon : On σ) (s : Sv) (ha : Ask s) (hF : Fl w R σ) (h : So w S (fp R) s.ac s.tu s.en s.k) (id : Int) : Calls Tryz.prog 85 #[fp S, .int .i64 id] w fun e w' => e = .returned (getV (getS σ.C s id)) ∧ Below w.heap.size w w' := by
  by_cases hid : 0 ≤ id ∧ id < 3
  · obtain ⟨i, rfl⟩ := Int.eq_ofNat_of_zero_le hid.1
    cases ht : (s.k i).th
    · rw [getS, if_neg (by rw [show ((i : Int)).toNat = i by omega, ht]; simp)]
      refine (get_not w S _ _ _ _ _ h i (by omega) ht).mono ?_
      rintro e w1 ⟨rfl, rfl⟩
      exact ⟨rfl, Below.refl _ _⟩
    · rw [getS, if_pos (by rw [show ((i : Int)).toNat = i by omega, ht]; exact ⟨hid.1, hid.2, rfl⟩), show ((i : Int)).toNat = i by omega]
      exact get_there w S R σ hon s ha hF h i (by omega) ht
  · rw [getS, if_neg (fun c => hid ⟨c.1, c.2.1⟩)]
    refine (get_out w S id hid).mono ?_
    rintro e w1 ⟨rfl, rfl⟩
    exact ⟨rfl, Below.refl _ _⟩
theorem get_stands (w : World) (S : Nat) (p : Value) (ac tu en : Int) (h : So w S p ac tu en kz) (id : Int) : Calls Tryz.prog 85 #[fp S, .int .i64 id] w fun e w' => e = .returned (.tuple #[.string ⟨#[]⟩, .bool false]) ∧ w' = w := by
  by_cases hid : 0 ≤ id ∧ id < 3
  · obtain ⟨i, rfl⟩ := Int.eq_ofNat_of_zero_le hid.1
    exact get_not w S p ac tu en kz h i (by omega) rfl
  · exact get_out w S id hid
end Go.Proofs.YtapfaaaepnplcaaGreatDoor
set_option maxRecDepth 100000
namespace Go.Proofs.YtapfaaaepnplcaaGreatDoor
open Go.RowKit Go.Great
theorem boot_nil (w : World) : Calls Tryz.prog 14 #[.pointer none] w fun e w' => e = .returned (.tuple #[.pointer none, .int .i64 2]) ∧ w' = w := by
  go_enter Tryz.func14, Tryz.ntmps14
  go_wp2_with fail
  refine (read_nil w 0 8192).mono ?_
  rintro e w1 ⟨rfl, rfl⟩
  go_wp2_with fail
  go_ret2
  exact ⟨rfl, rfl⟩
/-- what Boot leaves -/
def BootEnd (x : St × Option Sv) (R : Nat) (w : World) (e : Ending) (w' : World) : Prop :=
  ∃ (ok : Bool) (τ : St) (s' : Sv) (S : Nat), e = .returned (.tuple #[if ok then fp S else .pointer none, .int .i64 (if ok then 0 else 60)]) ∧ x = (τ, if ok then some s' else none) ∧ Fl w' R τ ∧ (ok = true → So w' S (fp R) s'.ac s'.tu s'.en s'.k) ∧ w.heap.size ≤ S ∧ Kept R w w'
theorem so_zero (w : World) (p : Value) : So (w.alloc (.cells #[p, .int .i64 0, .int .i64 0, .int .i64 0, .bool false, .int .i64 0, .int .i64 0, .bool false, .int .i64 0, .int .i64 0, .bool false, .int .i64 0, .int .i64 0] 133)) w.heap.size p 0 0 0 kz := ⟨heap_alloc_new _ _⟩
theorem kep_new {w w1 w2 : World} {R : Nat} (b : Below w.heap.size w w1) (g : Kep2 R w.heap.size w1 w2) : Kept R w w2 :=
  ⟨g.os.trans b.os, g.tape.trans b.tape, g.output.trans b.output, Nat.le_trans b.size g.size, fun k hk h1 => (g.block k (Nat.lt_of_lt_of_le hk b.size) (fun e => h1 (by rw [e])) (Nat.ne_of_lt hk)).trans (b.block k hk)⟩
theorem boot_any (w : World) (R : Nat) (σ : St) (hF : Fl w R σ) (hj : σ.jk.size ≤ 4096) : Calls Tryz.prog 14 #[fp R] w fun e w' => BootEnd (bootS σ) R w e w' := by
  cases ho : σ.off
  · have hon : On σ := ⟨hF.len, ho, hj⟩
    have RD := read_in w R σ hF ho 0 8192 (by omega)
    rw [List.drop_zero, List.take_of_length_le (by rw [hF.len]; omega)] at RD
    have b1 := below_alloc w (.cells #[fp R, .int .i64 0, .int .i64 0, .int .i64 0, .bool false, .int .i64 0, .int .i64 0, .bool false, .int .i64 0, .int .i64 0, .bool false, .int .i64 0, .int .i64 0] 133)
    have OD := order_any _ w.heap.size R σ hon (hF.below b1) (so_zero w (fp R))
    obtain ⟨x, hx⟩ : ∃ x, bootS σ = x := ⟨_, rfl⟩
    rw [hx] at OD ⊢
    obtain ⟨t, ht⟩ : ∃ t, bs σ.C = t := ⟨_, rfl⟩
    rw [ht] at RD OD
    have HB := hide b1
    have hlr := hF.lt
    clear hx ht b1 hF
    go_enter Tryz.func14, Tryz.ntmps14
    go_wp2_with fail
    refine RD.mono ?_
    rintro e w1 ⟨rfl, hw⟩
    obtain rfl := hw.symm
    clear hw RD
    go_wp2_with fail
    refine OD.mono ?_
    intro e w2 h2
    have H2 := hide h2
    clear h2 OD
    obtain ⟨ok, τ, s', rfl, g2, g3, g4, g5⟩ := H2.out
    clear H2
    have G2 := hide g2
    have G4 := hide g4
    have G5 : Hid (Kept R w w2) := hide (kep_new HB.out g5)
    clear g2 g4 g5
    cases ok
    · go_wp2_with fail
      go_ret2
      exact (show BootEnd _ _ _ _ _ from ⟨false, τ, s', w.heap.size, rfl, G2.out, g3, (fun e => by cases e), Nat.le_refl _, G5.out⟩)
    · go_wp2_with fail
      go_ret2
      exact (show BootEnd _ _ _ _ _ from ⟨true, τ, s', w.heap.size, rfl, G2.out, g3, (fun _ => G4.out trivial), Nat.le_refl _, G5.out⟩)
  · have RD := read_off w R σ hF ho 0 8192
    have HX : Hid (bootS σ = (σ, none)) := by show _ = _; unfold bootS; rw [if_pos ho]
    clear ho
    go_enter Tryz.func14, Tryz.ntmps14
    go_wp2_with fail
    refine RD.mono ?_
    rintro e w1 ⟨rfl, hw⟩
    obtain rfl := hw.symm
    clear hw RD
    go_wp2_with fail
    go_ret2
    exact (show BootEnd _ _ _ _ _ from ⟨false, σ, ⟨0, 0, 0, kz⟩, w.heap.size, rfl, HX.out, hF, (fun e => by cases e), Nat.le_refl _, Kept.refl _ _⟩)
end Go.Proofs.YtapfaaaepnplcaaGreatDoor
set_option maxRecDepth 100000
set_option maxHeartbeats 2000000
namespace Go.Proofs.YtapfaaaepnplcaaGreatDoor
open Go.RowKit Go.Great
theorem put_ok {σ : St} {s s' : Sv} {i : Nat} {v : List UInt8} (hi : i < 3) (hv : v.length ≤ 2000) (hn : needN s.k i v.length ≤ 4096) (h : (putS σ s (i : Int) v).2.1 = some s') : (putS σ s (i : Int) v).2.2 = 0 := by
  rw [wri_put σ s i hi v hv hn] at h ⊢
  have h2 : (wriS σ s i v).2 = some s' := h
  show (if (wriS σ s i v).2.isSome = true then (0 : Int) else 60) = 0
  rw [h2]; rfl
/-- an image that begins with L, blank behind it -/
def im (L : List UInt8) : List UInt8 := L ++ List.replicate (8192 - L.length) 255
theorem im_len (L : List UInt8) (h : L.length ≤ 8192) : (im L).length = 8192 := by simp [im]; omega
theorem and255 (x : UInt8) : 255 &&& x = x := by
  apply UInt8.toBitVec_inj.1
  show (255#8 &&& x.toBitVec) = x.toBitVec
  rw [show (255#8) = BitVec.allOnes 8 from rfl, BitVec.allOnes_and]
theorem im_prog (L d : List UInt8) (h : L.length + d.length ≤ 8192) : onL (im L) L.length d.length (andL d) = im (L ++ d) := by
  apply List.ext_getElem
  · rw [onL_length, im_len L (by omega), im_len _ (by simp; omega)]
  · intro k h1 h2
    have hk : k < 8192 := by rw [onL_length, im_len L (by omega)] at h1; exact h1
    rw [onL_at]
    by_cases c1 : k < L.length
    · rw [if_neg (by omega)]
      simp only [im, List.append_assoc]
      rw [List.getElem_append_left c1, List.getElem_append_left c1]
    · by_cases c2 : k < L.length + d.length
      · rw [if_pos (by omega)]
        simp only [im]
        rw [List.getElem_append_right (by omega), List.getElem_replicate, List.getElem_append_left (by simp; omega), List.getElem_append_right (by omega)]
        unfold andL
        rw [getD_at _ _ (by omega), and255]
      · rw [if_neg (by omega)]
        simp only [im]
        rw [List.getElem_append_right (by omega), List.getElem_replicate, List.getElem_append_right (by simp; omega), List.getElem_replicate]
def imS (L : List UInt8) (n : Int) : St := ⟨im L, false, n, false, 0, ⟨#[]⟩⟩
theorem prog_im (L d : List UInt8) (n : Nat) (h : L.length + d.length ≤ 8192) (hn : n ≤ 1000000) : progS (imS L n) L.length d = (imS (L ++ d) ((n + d.length : Nat) : Int), true) := by
  rw [progS_pre d (imS L n) L.length (fun e => by cases e) (by show _ ≤ (im L).length; rw [im_len L (by omega)]; omega) (by show (0 : Int) ≤ (n : Int); omega) (by show (n : Int) + _ ≤ _; omega)]
  unfold imS
  simp only [im_prog L d h, Bool.false_eq_true, if_false]
  rw [Int.natCast_add]
theorem add_im (L : List UInt8) (n en i : Nat) (k : Kp) (t : List UInt8) (he : L.length = en) (h : en + 4 + t.length ≤ 4096) (hn : n ≤ 1000000) : addS 0 i t ⟨imS L n, en, k⟩ = (⟨imS (L ++ recB i t) ((n + (4 + t.length) : Nat) : Int), en + 4 + t.length, upd k i ⟨true, en + 3, t.length⟩⟩, true) := by
  subst he
  unfold addS
  have := prog_im L (recB i t) n (by rw [recB_length]; omega) hn
  rw [recB_length] at this
  simp only [Nat.zero_mul, Nat.zero_add]
  rw [this]
  rfl
theorem put_im (L : List UInt8) (n : Nat) (s : Sv) (i : Nat) (t : List UInt8) (hi : i < 3) (hac : s.ac = 0) (he : L.length = s.en) (h : s.en + 4 + t.length ≤ 4096) (ht : t.length ≤ 2000) (hn : n ≤ 1000000) (hN : needN s.k i t.length ≤ 4096) : putS (imS L n) s (i : Int) t = (imS (L ++ recB i t) ((n + (4 + t.length) : Nat) : Int), some ⟨0, s.tu, s.en + 4 + t.length, upd s.k i ⟨true, s.en + 3, t.length⟩⟩, 0) := by
  unfold putS
  rw [if_neg (by omega), show ((i : Int)).toNat = i by omega, if_neg (by omega), if_pos h, hac, add_im L n s.en i s.k t he h hn]
  rfl
def n0 : St := st0 (List.replicate 8192 255)
def v1 : Sv := ⟨0, 0, 1, kz⟩
theorem im_nil : im [] = List.replicate 8192 255 := rfl
theorem era_im (L : List UInt8) (hL : L = []) (n : Nat) (hn : n ≤ 1000000) (s : Nat) : eraseS (imS L n) s = (imS L ((n + 1 : Nat) : Int), true) := by
  have e : stepS (imS L n) = (imS L ((n + 1 : Nat) : Int), ⟨#[]⟩, true) := by
    unfold stepS imS
    simp only [Bool.false_eq_true, false_and, if_false]
    rw [show wrap64 ((n : Int) + 1) = ((n + 1 : Nat) : Int) by unfold wrap64; omega]
  unfold eraseS
  rw [e]
  simp only [if_true]
  have : onL (imS L ((n + 1 : Nat) : Int)).C (s * 4096) 4096 (fun _ _ => 255) = im L := by
    subst hL
    show onL (im []) _ _ _ = im []
    rw [im_nil]
    apply List.ext_getElem
    · rw [onL_length]
    · intro k h1 h2
      rw [onL_at, List.getElem_replicate]
      split <;> rfl
  rw [this]
  rfl
theorem n0_im : n0 = imS [] 0 := rfl
theorem za1 : bootS n0 = (imS [15] 2, some v1) := by
  unfold bootS
  rw [if_neg (by rw [n0_im]; exact Bool.false_ne_true)]
  have e1 : (secL n0.C 0).getD 0 0 = 255 := by kernel_rfl
  have e2 : (secL n0.C 1).getD 0 0 = 255 := by
    unfold secL
    rw [getD_at _ _ (by show 0 < (List.take 4096 (List.drop (1 * 4096) (List.replicate 8192 255))).length; rw [List.length_take, List.length_drop, List.length_replicate]; omega), List.getElem_take, List.getElem_drop]
    exact List.getElem_replicate _
  rw [e1, e2, if_pos (by decide)]
  unfold fmtS
  rw [if_pos rfl]
  unfold fmt2
  have e3 : eraseS (imS [] 0) 0 = (imS [] 1, true) := era_im [] rfl 0 (by omega) 0
  have : progS (imS [] 1) 0 [15] = (imS [15] 2, true) := prog_im [] [15] 1 (by simp) (by omega)
  rw [n0_im, e3]
  simp only [if_true]
  rw [this]
  rfl
def v2 : Sv := ⟨0, 0, 7, upd kz 0 ⟨true, 4, 2⟩⟩
def v3 : Sv := ⟨0, 0, 11, upd (upd kz 0 ⟨true, 4, 2⟩) 2 ⟨true, 10, 0⟩⟩
def n1 : St := imS [15] 2
def n2 : St := imS [15, 0, 2, 0, 97, 98, 0] 8
def n3 : St := imS [15, 0, 2, 0, 97, 98, 0, 2, 0, 0, 0] 12
theorem nble {a b : Nat} (h : Nat.ble a b = true) : a ≤ b := Nat.le_of_ble_eq_true h
theorem zp1 : putS n1 v1 0 [97, 98] = (n2, some v2, 0) := put_im [15] 2 v1 0 [97, 98] (by omega) rfl rfl (nble rfl) (nble rfl) (by omega) (nble rfl)
theorem zp2 : putS n2 v2 2 [] = (n3, some v3, 0) := put_im [15, 0, 2, 0, 97, 98, 0] 8 v2 2 [] (by omega) rfl rfl (nble rfl) (nble rfl) (by omega) (nble rfl)
theorem zp3 : putS n3 v3 3 [] = (n3, some v3, 1) := by unfold putS; rw [if_pos (by omega)]
theorem za5 : getV (getS n3.C v3 0) = .tuple #[.string ⟨#[97, 98]⟩, .bool true] := by kernel_rfl
theorem za6 : getV (getS n3.C v3 1) = .tuple #[.string ⟨#[]⟩, .bool false] := by kernel_rfl
theorem za7 : getV (getS n3.C v3 2) = .tuple #[.string ⟨#[]⟩, .bool true] := by kernel_rfl
theorem za8 : readR n3 0 12 = (⟨#[15, 0, 2, 0, 97, 98, 0, 2, 0, 0, 0, 255]⟩, 0) := by kernel_rfl
theorem ask1 : Ask v1 := ⟨by decide, by decide, nble rfl, KOk.kz.mono (by omega)⟩
theorem kok2 : KOk v2.k 7 := KOk.kz.upd 0 (by omega) 2 (by omega)
theorem ask2 : Ask v2 := ⟨by decide, by decide, nble rfl, kok2.mono (by omega)⟩
theorem ask3 : Ask v3 := ⟨by decide, by decide, nble rfl, (kok2.upd 2 (by omega) 0 (by omega)).mono (by omega)⟩
theorem put_at (w : World) (S R : Nat) (σ τ : St) (s : Sv) (o : Option Sv) (r : Int) (id : Int) (tv : ByteArray) (hF : Fl w R σ) (ho : σ.off = false) (hj : σ.jk.size = 0) (ha : Ask s) (h : So w S (fp R) s.ac s.tu s.en s.k) (hx : putS σ s id tv.data.toList = (τ, o, r)) :
    Calls Tryz.prog 175 #[fp S, .int .i64 id, .string tv] w fun e w' => e = .returned (.int .i64 r) ∧ Fl w' R τ ∧ (∀ s', o = some s' → So w' S (fp R) s'.ac s'.tu s'.en s'.k) ∧ (o = none → So w' S (.pointer none) 0 0 0 kz) ∧ Kep2 R S w w' := by
  refine (put_any w S R σ ⟨hF.len, ho, by omega⟩ s ha hF h id tv).mono ?_
  rintro e w1 ⟨τ', o', r', h1, h2, h3, h4, h5, h6⟩
  rw [hx] at h2
  injection h2 with e1 e2
  injection e2 with e2 e3
  subst e1 e2 e3
  exact ⟨h1, h3, h4, h5, h6⟩
theorem boot_at (w : World) (R : Nat) (σ τ : St) (s : Sv) (hF : Fl w R σ) (hj : σ.jk.size = 0) (hx : bootS σ = (τ, some s)) :
    Calls Tryz.prog 14 #[fp R] w fun e w' => ∃ S, e = .returned (.tuple #[fp S, .int .i64 0]) ∧ Fl w' R τ ∧ So w' S (fp R) s.ac s.tu s.en s.k ∧ w.heap.size ≤ S ∧ Kept R w w' := by
  refine (boot_any w R σ hF (by omega)).mono ?_
  rintro e w1 ⟨ok, τ', s', S, h1, h2, h3, h4, h5, h6⟩
  rw [hx] at h2
  cases ok
  · simp at h2
  · simp at h2
    obtain ⟨rfl, rfl⟩ := h2
    exact ⟨S, h1, h3, h4 rfl, h5, h6⟩
end Go.Proofs.YtapfaaaepnplcaaGreatDoor
