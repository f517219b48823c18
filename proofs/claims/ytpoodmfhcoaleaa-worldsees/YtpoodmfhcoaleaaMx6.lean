/- Package mixer, walked: Work. -/
import Derived.Test.YtpoodmfhcoaleaaMx5
namespace Go.Proofs.Ytpoodmfhcoaleaa
open Go.RowKit Go.Great

/-- the sums over the first i arms -/
def sC (c0 c1 c2 c3 c4 c5 c6 c7 : Int) : Nat → Array Value
  | 0 => wC (0) (0) (0) (0)
  | 1 => wC ((c0 + c1)) ((c0 + c1)) ((c0 + c1)) ((c0 - c1))
  | 2 => wC ((c0 + c1) + (c2 + c3)) ((c0 + c1) - (c2 + c3)) ((c0 + c1) + (c2 + c3)) ((c0 - c1) + (c2 - c3))
  | 3 => wC ((c0 + c1) + (c2 + c3) + (c4 + c5)) ((c0 + c1) - (c2 + c3) - (c4 + c5)) ((c0 + c1) + (c2 + c3) - (c4 + c5)) ((c0 - c1) + (c2 - c3) + (c4 - c5))
  | _ => wC ((c0 + c1) + (c2 + c3) + (c4 + c5) + (c6 + c7)) ((c0 + c1) - (c2 + c3) - (c4 + c5) + (c6 + c7)) ((c0 + c1) + (c2 + c3) - (c4 + c5) - (c6 + c7)) ((c0 - c1) + (c2 - c3) + (c4 - c5) + (c6 - c7))
/-- what motors that were kept within their limits do together -/
def wkV (c0 c1 c2 c3 c4 c5 c6 c7 : Int) : Value := wV (((c0 + c1) + (c2 + c3) + (c4 + c5) + (c6 + c7)) / 4) (((c0 + c1) - (c2 + c3) - (c4 + c5) + (c6 + c7)) / 4) (((c0 + c1) + (c2 + c3) - (c4 + c5) - (c6 + c7)) / 4) (((c0 - c1) + (c2 - c3) + (c4 - c5) + (c6 - c7)) / 4)
theorem sC_set0 {c0 c1 c2 c3 c4 c5 c6 c7 a b c d : Int} (h0 : a = (c0 + c1)) (h1 : b = (c0 + c1)) (h2 : c = (c0 + c1)) (h3 : d = (c0 - c1)) : ((((sC c0 c1 c2 c3 c4 c5 c6 c7 0).setIfInBounds 0 (.int .i64 a)).setIfInBounds 1 (.int .i64 b)).setIfInBounds 2 (.int .i64 c)).setIfInBounds 3 (.int .i64 d) = sC c0 c1 c2 c3 c4 c5 c6 c7 1 := by rw [h0, h1, h2, h3]; rfl
theorem sC_set1 {c0 c1 c2 c3 c4 c5 c6 c7 a b c d : Int} (h0 : a = (c0 + c1) + (c2 + c3)) (h1 : b = (c0 + c1) - (c2 + c3)) (h2 : c = (c0 + c1) + (c2 + c3)) (h3 : d = (c0 - c1) + (c2 - c3)) : ((((sC c0 c1 c2 c3 c4 c5 c6 c7 1).setIfInBounds 0 (.int .i64 a)).setIfInBounds 1 (.int .i64 b)).setIfInBounds 2 (.int .i64 c)).setIfInBounds 3 (.int .i64 d) = sC c0 c1 c2 c3 c4 c5 c6 c7 2 := by rw [h0, h1, h2, h3]; rfl
theorem sC_set2 {c0 c1 c2 c3 c4 c5 c6 c7 a b c d : Int} (h0 : a = (c0 + c1) + (c2 + c3) + (c4 + c5)) (h1 : b = (c0 + c1) - (c2 + c3) - (c4 + c5)) (h2 : c = (c0 + c1) + (c2 + c3) - (c4 + c5)) (h3 : d = (c0 - c1) + (c2 - c3) + (c4 - c5)) : ((((sC c0 c1 c2 c3 c4 c5 c6 c7 2).setIfInBounds 0 (.int .i64 a)).setIfInBounds 1 (.int .i64 b)).setIfInBounds 2 (.int .i64 c)).setIfInBounds 3 (.int .i64 d) = sC c0 c1 c2 c3 c4 c5 c6 c7 3 := by rw [h0, h1, h2, h3]; rfl
theorem sC_set3 {c0 c1 c2 c3 c4 c5 c6 c7 a b c d : Int} (h0 : a = (c0 + c1) + (c2 + c3) + (c4 + c5) + (c6 + c7)) (h1 : b = (c0 + c1) - (c2 + c3) - (c4 + c5) + (c6 + c7)) (h2 : c = (c0 + c1) + (c2 + c3) - (c4 + c5) - (c6 + c7)) (h3 : d = (c0 - c1) + (c2 - c3) + (c4 - c5) + (c6 - c7)) : ((((sC c0 c1 c2 c3 c4 c5 c6 c7 3).setIfInBounds 0 (.int .i64 a)).setIfInBounds 1 (.int .i64 b)).setIfInBounds 2 (.int .i64 c)).setIfInBounds 3 (.int .i64 d) = sC c0 c1 c2 c3 c4 c5 c6 c7 4 := by rw [h0, h1, h2, h3]; rfl
set_option maxHeartbeats 4000000 in
theorem work_any (m0 m1 m2 m3 m4 m5 m6 m7 : Int) (w : World) : Calls Try.prog 21 #[eV m0 m1 m2 m3 m4 m5 m6 m7] w fun e w' => e = .returned (wkV (clamp m0 0 600) (clamp m1 0 600) (clamp m2 0 600) (clamp m3 0 600) (clamp m4 0 600) (clamp m5 0 600) (clamp m6 0 600) (clamp m7 0 600)) ∧ Below w.heap.size w w' := by
  have C0 := hide (fun W => clamp_any m0 0 600 W)
  have hc0 : 0 ≤ clamp m0 0 600 ∧ clamp m0 0 600 ≤ 600 := clamp_in (by decide)
  generalize clamp m0 0 600 = c0 at *
  have C1 := hide (fun W => clamp_any m1 0 600 W)
  have hc1 : 0 ≤ clamp m1 0 600 ∧ clamp m1 0 600 ≤ 600 := clamp_in (by decide)
  generalize clamp m1 0 600 = c1 at *
  have C2 := hide (fun W => clamp_any m2 0 600 W)
  have hc2 : 0 ≤ clamp m2 0 600 ∧ clamp m2 0 600 ≤ 600 := clamp_in (by decide)
  generalize clamp m2 0 600 = c2 at *
  have C3 := hide (fun W => clamp_any m3 0 600 W)
  have hc3 : 0 ≤ clamp m3 0 600 ∧ clamp m3 0 600 ≤ 600 := clamp_in (by decide)
  generalize clamp m3 0 600 = c3 at *
  have C4 := hide (fun W => clamp_any m4 0 600 W)
  have hc4 : 0 ≤ clamp m4 0 600 ∧ clamp m4 0 600 ≤ 600 := clamp_in (by decide)
  generalize clamp m4 0 600 = c4 at *
  have C5 := hide (fun W => clamp_any m5 0 600 W)
  have hc5 : 0 ≤ clamp m5 0 600 ∧ clamp m5 0 600 ≤ 600 := clamp_in (by decide)
  generalize clamp m5 0 600 = c5 at *
  have C6 := hide (fun W => clamp_any m6 0 600 W)
  have hc6 : 0 ≤ clamp m6 0 600 ∧ clamp m6 0 600 ≤ 600 := clamp_in (by decide)
  generalize clamp m6 0 600 = c6 at *
  have C7 := hide (fun W => clamp_any m7 0 600 W)
  have hc7 : 0 ≤ clamp m7 0 600 ∧ clamp m7 0 600 ≤ 600 := clamp_in (by decide)
  generalize clamp m7 0 600 = c7 at *
  obtain ⟨W0, hW0, b0, M0, R0, S0, hz0⟩ := three_boxes w (eC m0 m1 m2 m3 m4 m5 m6 m7) (wC 0 0 0 0) (wC 0 0 0 0) 26 46 46
  have Hb := hide b0
  have HM := hide M0
  have HR := hide R0
  have HS := hide S0
  clear b0 M0 R0 S0
  go_enter Try.func21, Try.ntmps21
  go_wp2_with (go_at_call 39; refine (sides_any _).mono ?_; rintro e w1 ⟨rfl, hb1⟩; replace HM := hide (HM.out.after hb1); replace HR := hide (HR.out.after hb1); replace HS := hide (HS.out.after hb1); replace Hb := hide (below_next Hb.out (Nat.le_refl _) hb1); clear hb1 hW0 hz0)
  go_loopw [10] (fun v wr => ∃ i : Nat, v = .int .i64 (i : Int) ∧ i ≤ 4 ∧ Blk wr w.heap.size (eC m0 m1 m2 m3 m4 m5 m6 m7) 26 ∧ Blk wr (w.heap.size + 1) (wC 0 0 0 0) 46 ∧ Blk wr (w.heap.size + 1 + 1) (sC c0 c1 c2 c3 c4 c5 c6 c7 i) 46 ∧ Below w.heap.size w wr) (fun v _ => 4 - (intOf v).toNat)
  case atStart => exact ⟨0, rfl, by omega, HM.out, HR.out, HS.out, Hb.out⟩
  case round =>
    clear HM HR HS Hb
    obtain ⟨i, rfl, hi, hM, hR, hS, hb⟩ := hrel
    have HM := hide hM
    have HR := hide hR
    have HS := hide hS
    have Hb := hide hb
    have hz := hS.lt
    clear hM hR hS hb
    obtain rfl | rfl | rfl | rfl | rfl : i = 0 ∨ i = 1 ∨ i = 2 ∨ i = 3 ∨ i = 4 := by omega
    · have IX := sd0
      go_upto_region 5 with fail
      clear IX
      have HD := hide (Blk.new wr #[.int .i64 1, .int .i64 1] 62)
      replace HM := hide (HM.out.alloc (.cells #[.int .i64 1, .int .i64 1] 62))
      replace HR := hide (HR.out.alloc (.cells #[.int .i64 1, .int .i64 1] 62))
      replace HS := hide (HS.out.alloc (.cells #[.int .i64 1, .int .i64 1] 62))
      replace Hb := hide (Hb.out.alloc Hb.out.size (.cells #[.int .i64 1, .int .i64 1] 62))
      generalize wr.alloc (.cells #[.int .i64 1, .int .i64 1] 62) = W1 at *
      generalize wr.heap.size = d at *
      have k0 := HM.out.cell 0 rfl
      have k1 := HM.out.cell 1 rfl
      obtain ⟨s0, s1, s2, s3⟩ := four_cells HS.out
      obtain ⟨d0, d1⟩ := two_cells HD.out
      obtain ⟨f0, f1, f2, f3⟩ := four_set HS.out
      have nd : ¬ d = w.heap.size + 1 + 1 := by omega
      go_upto_region 7 with (first | (go_at_call_of 31 (Value.int IntKind.i64 m0); refine (C0.out _).mono ?_; rintro e w2 ⟨rfl, hw⟩; obtain rfl := hw.symm) | (go_at_call_of 31 (Value.int IntKind.i64 m1); refine (C1.out _).mono ?_; rintro e w2 ⟨rfl, hw⟩; obtain rfl := hw.symm))
      clear k0 k1
      go_wp2_with fail
      go_roundw
      case rel => exact ⟨1, by go_num, by omega, HM.out.other4 (by omega) _ _ _ _, HR.out.other4 (by omega) _ _ _ _, blk_cells ((((HS.out.set 0 _).set 1 _).set 2 _).set 3 _) (sC_set0 (by omega) (by omega) (by omega) (by omega)), below_set4 Hb.out _ _ _ _ _ (by omega) Hb.out.size⟩
      case measure => simp [intOf]
    · have IX := sd1
      go_upto_region 5 with fail
      clear IX
      have HD := hide (Blk.new wr #[.int .i64 (-1), .int .i64 1] 62)
      replace HM := hide (HM.out.alloc (.cells #[.int .i64 (-1), .int .i64 1] 62))
      replace HR := hide (HR.out.alloc (.cells #[.int .i64 (-1), .int .i64 1] 62))
      replace HS := hide (HS.out.alloc (.cells #[.int .i64 (-1), .int .i64 1] 62))
      replace Hb := hide (Hb.out.alloc Hb.out.size (.cells #[.int .i64 (-1), .int .i64 1] 62))
      generalize wr.alloc (.cells #[.int .i64 (-1), .int .i64 1] 62) = W1 at *
      generalize wr.heap.size = d at *
      have k0 := HM.out.cell 2 rfl
      have k1 := HM.out.cell 3 rfl
      obtain ⟨s0, s1, s2, s3⟩ := four_cells HS.out
      obtain ⟨d0, d1⟩ := two_cells HD.out
      obtain ⟨f0, f1, f2, f3⟩ := four_set HS.out
      have nd : ¬ d = w.heap.size + 1 + 1 := by omega
      go_upto_region 7 with (first | (go_at_call_of 31 (Value.int IntKind.i64 m2); refine (C2.out _).mono ?_; rintro e w2 ⟨rfl, hw⟩; obtain rfl := hw.symm) | (go_at_call_of 31 (Value.int IntKind.i64 m3); refine (C3.out _).mono ?_; rintro e w2 ⟨rfl, hw⟩; obtain rfl := hw.symm))
      clear k0 k1
      go_wp2_with fail
      go_roundw
      case rel => exact ⟨2, by go_num, by omega, HM.out.other4 (by omega) _ _ _ _, HR.out.other4 (by omega) _ _ _ _, blk_cells ((((HS.out.set 0 _).set 1 _).set 2 _).set 3 _) (sC_set1 (by omega) (by omega) (by omega) (by omega)), below_set4 Hb.out _ _ _ _ _ (by omega) Hb.out.size⟩
      case measure => simp [intOf]
    · have IX := sd2
      go_upto_region 5 with fail
      clear IX
      have HD := hide (Blk.new wr #[.int .i64 (-1), .int .i64 (-1)] 62)
      replace HM := hide (HM.out.alloc (.cells #[.int .i64 (-1), .int .i64 (-1)] 62))
      replace HR := hide (HR.out.alloc (.cells #[.int .i64 (-1), .int .i64 (-1)] 62))
      replace HS := hide (HS.out.alloc (.cells #[.int .i64 (-1), .int .i64 (-1)] 62))
      replace Hb := hide (Hb.out.alloc Hb.out.size (.cells #[.int .i64 (-1), .int .i64 (-1)] 62))
      generalize wr.alloc (.cells #[.int .i64 (-1), .int .i64 (-1)] 62) = W1 at *
      generalize wr.heap.size = d at *
      have k0 := HM.out.cell 4 rfl
      have k1 := HM.out.cell 5 rfl
      obtain ⟨s0, s1, s2, s3⟩ := four_cells HS.out
      obtain ⟨d0, d1⟩ := two_cells HD.out
      obtain ⟨f0, f1, f2, f3⟩ := four_set HS.out
      have nd : ¬ d = w.heap.size + 1 + 1 := by omega
      go_upto_region 7 with (first | (go_at_call_of 31 (Value.int IntKind.i64 m4); refine (C4.out _).mono ?_; rintro e w2 ⟨rfl, hw⟩; obtain rfl := hw.symm) | (go_at_call_of 31 (Value.int IntKind.i64 m5); refine (C5.out _).mono ?_; rintro e w2 ⟨rfl, hw⟩; obtain rfl := hw.symm))
      clear k0 k1
      go_wp2_with fail
      go_roundw
      case rel => exact ⟨3, by go_num, by omega, HM.out.other4 (by omega) _ _ _ _, HR.out.other4 (by omega) _ _ _ _, blk_cells ((((HS.out.set 0 _).set 1 _).set 2 _).set 3 _) (sC_set2 (by omega) (by omega) (by omega) (by omega)), below_set4 Hb.out _ _ _ _ _ (by omega) Hb.out.size⟩
      case measure => simp [intOf]
    · have IX := sd3
      go_upto_region 5 with fail
      clear IX
      have HD := hide (Blk.new wr #[.int .i64 1, .int .i64 (-1)] 62)
      replace HM := hide (HM.out.alloc (.cells #[.int .i64 1, .int .i64 (-1)] 62))
      replace HR := hide (HR.out.alloc (.cells #[.int .i64 1, .int .i64 (-1)] 62))
      replace HS := hide (HS.out.alloc (.cells #[.int .i64 1, .int .i64 (-1)] 62))
      replace Hb := hide (Hb.out.alloc Hb.out.size (.cells #[.int .i64 1, .int .i64 (-1)] 62))
      generalize wr.alloc (.cells #[.int .i64 1, .int .i64 (-1)] 62) = W1 at *
      generalize wr.heap.size = d at *
      have k0 := HM.out.cell 6 rfl
      have k1 := HM.out.cell 7 rfl
      obtain ⟨s0, s1, s2, s3⟩ := four_cells HS.out
      obtain ⟨d0, d1⟩ := two_cells HD.out
      obtain ⟨f0, f1, f2, f3⟩ := four_set HS.out
      have nd : ¬ d = w.heap.size + 1 + 1 := by omega
      go_upto_region 7 with (first | (go_at_call_of 31 (Value.int IntKind.i64 m6); refine (C6.out _).mono ?_; rintro e w2 ⟨rfl, hw⟩; obtain rfl := hw.symm) | (go_at_call_of 31 (Value.int IntKind.i64 m7); refine (C7.out _).mono ?_; rintro e w2 ⟨rfl, hw⟩; obtain rfl := hw.symm))
      clear k0 k1
      go_wp2_with fail
      go_roundw
      case rel => exact ⟨4, by go_num, by omega, HM.out.other4 (by omega) _ _ _ _, HR.out.other4 (by omega) _ _ _ _, blk_cells ((((HS.out.set 0 _).set 1 _).set 2 _).set 3 _) (sC_set3 (by omega) (by omega) (by omega) (by omega)), below_set4 Hb.out _ _ _ _ _ (by omega) Hb.out.size⟩
      case measure => simp [intOf]
    · obtain ⟨s0, s1, s2, s3⟩ := four_cells HS.out
      obtain ⟨r0, r1, r2, r3⟩ := four_cells HR.out
      obtain ⟨f0, f1, f2, f3⟩ := four_set HR.out
      have V : Hid (wkV c0 c1 c2 c3 c4 c5 c6 c7 = wV (((c0 + c1) + (c2 + c3) + (c4 + c5) + (c6 + c7)) / 4) (((c0 + c1) - (c2 + c3) - (c4 + c5) + (c6 + c7)) / 4) (((c0 + c1) + (c2 + c3) - (c4 + c5) - (c6 + c7)) / 4) (((c0 - c1) + (c2 - c3) + (c4 - c5) + (c6 - c7)) / 4)) := hide rfl
      obtain ⟨z0, e0⟩ : ∃ z, Hid ((c0 + c1) + (c2 + c3) + (c4 + c5) + (c6 + c7) = z) := ⟨_, hide rfl⟩
      have O0 := hide (fun W => over_any z0 4 W (by have := e0.out; unfold I64; omega) (by decide))
      rw [e0.out] at s0 V
      clear e0
      obtain ⟨z1, e1⟩ : ∃ z, Hid ((c0 + c1) - (c2 + c3) - (c4 + c5) + (c6 + c7) = z) := ⟨_, hide rfl⟩
      have O1 := hide (fun W => over_any z1 4 W (by have := e1.out; unfold I64; omega) (by decide))
      rw [e1.out] at s1 V
      clear e1
      obtain ⟨z2, e2⟩ : ∃ z, Hid ((c0 + c1) + (c2 + c3) - (c4 + c5) - (c6 + c7) = z) := ⟨_, hide rfl⟩
      have O2 := hide (fun W => over_any z2 4 W (by have := e2.out; unfold I64; omega) (by decide))
      rw [e2.out] at s2 V
      clear e2
      obtain ⟨z3, e3⟩ : ∃ z, Hid ((c0 - c1) + (c2 - c3) + (c4 - c5) + (c6 - c7) = z) := ⟨_, hide rfl⟩
      have O3 := hide (fun W => over_any z3 4 W (by have := e3.out; unfold I64; omega) (by decide))
      rw [e3.out] at s3 V
      clear e3
      clear hc0 hc1 hc2 hc3 hc4 hc5 hc6 hc7
      go_wp2_with fail
      refine reg_last 13 rfl rfl _ rfl (by kernel_rfl) (by kernel_rfl) (by kernel_rfl) ?_
      simp only [List.take_succ_cons, List.take_zero]
      repeat (quiet_step (first
        | (go_at_call_of 40 (Value.int IntKind.i64 z0); exact Calls.quiet_of_same (O0.out _))
        | (go_at_call_of 40 (Value.int IntKind.i64 z1); exact Calls.quiet_of_same (O1.out _))
        | (go_at_call_of 40 (Value.int IntKind.i64 z2); exact Calls.quiet_of_same (O2.out _))
        | (go_at_call_of 40 (Value.int IntKind.i64 z3); exact Calls.quiet_of_same (O3.out _))))
      refine wpQuiet_nil ?_
      intro nq
      go_simp
      go_wp2_with fail
      refine bodyPost_ret (wr_back (p := 2) (by kernel_rfl) _ _ (w.heap.size + 1) _ _ _ _ rfl ((blk_drewN HR.out nq).set4 _ _ _ _)) rfl ⟨by rw [V.out], ?_⟩
      exact below_set4 (below_drewN Hb.out nq) _ _ _ _ _ (by omega) (below_drewN Hb.out nq).size
end Go.Proofs.Ytpoodmfhcoaleaa
