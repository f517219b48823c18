/- The document's mixer, walked: Work. -/
import Derived.Test.YtpoodmfhcoaleaaMr1
namespace Go.Proofs.Ytpoodmfhcoaleaa
open Go.RowKit Go.Great

set_option maxHeartbeats 8000000 in
set_option maxRecDepth 100000 in
theorem rwork_any (m0 m1 m2 m3 m4 m5 m6 m7 : Int) (w : World) : Calls Try.prog 25 #[eV m0 m1 m2 m3 m4 m5 m6 m7] w fun e w' => e = .returned (wkV (clamp m0 0 600) (clamp m1 0 600) (clamp m2 0 600) (clamp m3 0 600) (clamp m4 0 600) (clamp m5 0 600) (clamp m6 0 600) (clamp m7 0 600)) ∧ Below w.heap.size w w' := by
  have C0 := hide (fun W => rclampX m0 0 600 W)
  have hc0 : 0 ≤ clamp m0 0 600 ∧ clamp m0 0 600 ≤ 600 := clamp_in (by decide)
  generalize clamp m0 0 600 = c0 at *
  have C1 := hide (fun W => rclampX m1 0 600 W)
  have hc1 : 0 ≤ clamp m1 0 600 ∧ clamp m1 0 600 ≤ 600 := clamp_in (by decide)
  generalize clamp m1 0 600 = c1 at *
  have C2 := hide (fun W => rclampX m2 0 600 W)
  have hc2 : 0 ≤ clamp m2 0 600 ∧ clamp m2 0 600 ≤ 600 := clamp_in (by decide)
  generalize clamp m2 0 600 = c2 at *
  have C3 := hide (fun W => rclampX m3 0 600 W)
  have hc3 : 0 ≤ clamp m3 0 600 ∧ clamp m3 0 600 ≤ 600 := clamp_in (by decide)
  generalize clamp m3 0 600 = c3 at *
  have C4 := hide (fun W => rclampX m4 0 600 W)
  have hc4 : 0 ≤ clamp m4 0 600 ∧ clamp m4 0 600 ≤ 600 := clamp_in (by decide)
  generalize clamp m4 0 600 = c4 at *
  have C5 := hide (fun W => rclampX m5 0 600 W)
  have hc5 : 0 ≤ clamp m5 0 600 ∧ clamp m5 0 600 ≤ 600 := clamp_in (by decide)
  generalize clamp m5 0 600 = c5 at *
  have C6 := hide (fun W => rclampX m6 0 600 W)
  have hc6 : 0 ≤ clamp m6 0 600 ∧ clamp m6 0 600 ≤ 600 := clamp_in (by decide)
  generalize clamp m6 0 600 = c6 at *
  have C7 := hide (fun W => rclampX m7 0 600 W)
  have hc7 : 0 ≤ clamp m7 0 600 ∧ clamp m7 0 600 ≤ 600 := clamp_in (by decide)
  generalize clamp m7 0 600 = c7 at *
  have V : Hid (wkV c0 c1 c2 c3 c4 c5 c6 c7 = wV (((c0 + c1) + (c2 + c3) + (c4 + c5) + (c6 + c7)) / 4) (((c0 + c1) - (c2 + c3) - (c4 + c5) + (c6 + c7)) / 4) (((c0 + c1) + (c2 + c3) - (c4 + c5) - (c6 + c7)) / 4) (((c0 - c1) + (c2 - c3) + (c4 - c5) + (c6 - c7)) / 4)) := hide rfl
  have hp0 : 0 ≤ c0 + c1 ∧ c0 + c1 ≤ 1200 := by omega
  have hq0 : -600 ≤ c0 - c1 ∧ c0 - c1 ≤ 600 := by omega
  obtain ⟨p0, ep0⟩ : ∃ p, c0 + c1 = p := ⟨_, rfl⟩
  obtain ⟨q0, eq0⟩ : ∃ q, c0 - c1 = q := ⟨_, rfl⟩
  rw [ep0] at hp0
  rw [eq0] at hq0
  rw [ep0] at V
  rw [eq0] at V
  have hp1 : 0 ≤ c2 + c3 ∧ c2 + c3 ≤ 1200 := by omega
  have hq1 : -600 ≤ c2 - c3 ∧ c2 - c3 ≤ 600 := by omega
  obtain ⟨p1, ep1⟩ : ∃ p, c2 + c3 = p := ⟨_, rfl⟩
  obtain ⟨q1, eq1⟩ : ∃ q, c2 - c3 = q := ⟨_, rfl⟩
  rw [ep1] at hp1
  rw [eq1] at hq1
  rw [ep1] at V
  rw [eq1] at V
  have hp2 : 0 ≤ c4 + c5 ∧ c4 + c5 ≤ 1200 := by omega
  have hq2 : -600 ≤ c4 - c5 ∧ c4 - c5 ≤ 600 := by omega
  obtain ⟨p2, ep2⟩ : ∃ p, c4 + c5 = p := ⟨_, rfl⟩
  obtain ⟨q2, eq2⟩ : ∃ q, c4 - c5 = q := ⟨_, rfl⟩
  rw [ep2] at hp2
  rw [eq2] at hq2
  rw [ep2] at V
  rw [eq2] at V
  have hp3 : 0 ≤ c6 + c7 ∧ c6 + c7 ≤ 1200 := by omega
  have hq3 : -600 ≤ c6 - c7 ∧ c6 - c7 ≤ 600 := by omega
  obtain ⟨p3, ep3⟩ : ∃ p, c6 + c7 = p := ⟨_, rfl⟩
  obtain ⟨q3, eq3⟩ : ∃ q, c6 - c7 = q := ⟨_, rfl⟩
  rw [ep3] at hp3
  rw [eq3] at hq3
  rw [ep3] at V
  rw [eq3] at V
  obtain ⟨W0, hW0, b0, M0, R0, P0, Q0, hz0⟩ := four_boxesM w (eC m0 m1 m2 m3 m4 m5 m6 m7) (wC 0 0 0 0) (wC 0 0 0 0) (wC 0 0 0 0) 26 46 57 57
  have Hb := hide b0
  have HM := hide M0
  have HR := hide R0
  have HP := hide P0
  have HQ := hide Q0
  clear b0 M0 R0 P0 Q0
  go_enter Try.func25, Try.ntmps25
  go_wp2_with fail
  go_loopw [5] (fun v wr => ∃ i : Nat, v = .int .i64 (i : Int) ∧ i ≤ 4 ∧ Blk wr w.heap.size (eC m0 m1 m2 m3 m4 m5 m6 m7) 26 ∧ Blk wr (w.heap.size + 1) (wC 0 0 0 0) 46 ∧ Blk wr (w.heap.size + 1 + 1) (tyC p0 p1 p2 p3 i) 57 ∧ Blk wr (w.heap.size + 1 + 1 + 1) (tyC q0 q1 q2 q3 i) 57 ∧ Below w.heap.size w wr) (fun v _ => 4 - (intOf v).toNat)
  case atStart => exact ⟨0, rfl, by omega, HM.out, HR.out, HP.out, HQ.out, Hb.out⟩
  case round =>
    clear HM HR HP HQ Hb hW0 hz0
    obtain ⟨i, rfl, hi, hM, hR, hP, hQ, hb⟩ := hrel
    have HM := hide hM
    have HR := hide hR
    have HP := hide hP
    have HQ := hide hQ
    have Hb := hide hb
    have hz := hQ.lt
    clear hM hR hP hQ hb
    obtain rfl | rfl | rfl | rfl | rfl : i = 0 ∨ i = 1 ∨ i = 2 ∨ i = 3 ∨ i = 4 := by omega
    · clear C2 C3 C4 C5 C6 C7 hc2 hc3 hc4 hc5 hc6 hc7 hp1 hq1 ep1 eq1 hp2 hq2 ep2 eq2 hp3 hq3 ep3 eq3
      have k0 := HM.out.cell 0 rfl
      have k1 := HM.out.cell 1 rfl
      have x0 := HP.out.cell 0 rfl
      have y0 := HQ.out.cell 0 rfl
      have f0 := HP.out.frozen 0
      have g0 := HQ.out.frozen 0
      go_upto_region 7 with (first | (go_at_call_of 34 (Value.int IntKind.i64 m0); refine (C0.out _).mono ?_; rintro e w2 ⟨rfl, hw⟩; obtain rfl := hw.symm) | (go_at_call_of 34 (Value.int IntKind.i64 m1); refine (C1.out _).mono ?_; rintro e w2 ⟨rfl, hw⟩; obtain rfl := hw.symm))
      clear k0 k1
      go_wp2_with fail
      go_roundw
      case rel => exact ⟨1, by go_num, by omega, (HM.out.setOther (by omega) _ _).setOther (by omega) _ _, (HR.out.setOther (by omega) _ _).setOther (by omega) _ _, (blk_cells (HP.out.set 0 _) tyC_set0).setOther (by omega) _ _, blk_cells ((HQ.out.setOther (by omega) _ _).set 0 _) tyC_set0, below_set (below_set Hb.out _ _ _ (by omega) Hb.out.size) _ _ _ (by omega) (by rw [setCell_size]; exact Hb.out.size)⟩
      case measure => simp [intOf]
    · clear C0 C1 C4 C5 C6 C7 hc0 hc1 hc4 hc5 hc6 hc7 hp0 hq0 ep0 eq0 hp2 hq2 ep2 eq2 hp3 hq3 ep3 eq3
      have k0 := HM.out.cell 2 rfl
      have k1 := HM.out.cell 3 rfl
      have x0 := HP.out.cell 1 rfl
      have y0 := HQ.out.cell 1 rfl
      have f0 := HP.out.frozen 1
      have g0 := HQ.out.frozen 1
      go_upto_region 7 with (first | (go_at_call_of 34 (Value.int IntKind.i64 m2); refine (C2.out _).mono ?_; rintro e w2 ⟨rfl, hw⟩; obtain rfl := hw.symm) | (go_at_call_of 34 (Value.int IntKind.i64 m3); refine (C3.out _).mono ?_; rintro e w2 ⟨rfl, hw⟩; obtain rfl := hw.symm))
      clear k0 k1
      go_wp2_with fail
      go_roundw
      case rel => exact ⟨2, by go_num, by omega, (HM.out.setOther (by omega) _ _).setOther (by omega) _ _, (HR.out.setOther (by omega) _ _).setOther (by omega) _ _, (blk_cells (HP.out.set 1 _) tyC_set1).setOther (by omega) _ _, blk_cells ((HQ.out.setOther (by omega) _ _).set 1 _) tyC_set1, below_set (below_set Hb.out _ _ _ (by omega) Hb.out.size) _ _ _ (by omega) (by rw [setCell_size]; exact Hb.out.size)⟩
      case measure => simp [intOf]
    · clear C0 C1 C2 C3 C6 C7 hc0 hc1 hc2 hc3 hc6 hc7 hp0 hq0 ep0 eq0 hp1 hq1 ep1 eq1 hp3 hq3 ep3 eq3
      have k0 := HM.out.cell 4 rfl
      have k1 := HM.out.cell 5 rfl
      have x0 := HP.out.cell 2 rfl
      have y0 := HQ.out.cell 2 rfl
      have f0 := HP.out.frozen 2
      have g0 := HQ.out.frozen 2
      go_upto_region 7 with (first | (go_at_call_of 34 (Value.int IntKind.i64 m4); refine (C4.out _).mono ?_; rintro e w2 ⟨rfl, hw⟩; obtain rfl := hw.symm) | (go_at_call_of 34 (Value.int IntKind.i64 m5); refine (C5.out _).mono ?_; rintro e w2 ⟨rfl, hw⟩; obtain rfl := hw.symm))
      clear k0 k1
      go_wp2_with fail
      go_roundw
      case rel => exact ⟨3, by go_num, by omega, (HM.out.setOther (by omega) _ _).setOther (by omega) _ _, (HR.out.setOther (by omega) _ _).setOther (by omega) _ _, (blk_cells (HP.out.set 2 _) tyC_set2).setOther (by omega) _ _, blk_cells ((HQ.out.setOther (by omega) _ _).set 2 _) tyC_set2, below_set (below_set Hb.out _ _ _ (by omega) Hb.out.size) _ _ _ (by omega) (by rw [setCell_size]; exact Hb.out.size)⟩
      case measure => simp [intOf]
    · clear C0 C1 C2 C3 C4 C5 hc0 hc1 hc2 hc3 hc4 hc5 hp0 hq0 ep0 eq0 hp1 hq1 ep1 eq1 hp2 hq2 ep2 eq2
      have k0 := HM.out.cell 6 rfl
      have k1 := HM.out.cell 7 rfl
      have x0 := HP.out.cell 3 rfl
      have y0 := HQ.out.cell 3 rfl
      have f0 := HP.out.frozen 3
      have g0 := HQ.out.frozen 3
      go_upto_region 7 with (first | (go_at_call_of 34 (Value.int IntKind.i64 m6); refine (C6.out _).mono ?_; rintro e w2 ⟨rfl, hw⟩; obtain rfl := hw.symm) | (go_at_call_of 34 (Value.int IntKind.i64 m7); refine (C7.out _).mono ?_; rintro e w2 ⟨rfl, hw⟩; obtain rfl := hw.symm))
      clear k0 k1
      go_wp2_with fail
      go_roundw
      case rel => exact ⟨4, by go_num, by omega, (HM.out.setOther (by omega) _ _).setOther (by omega) _ _, (HR.out.setOther (by omega) _ _).setOther (by omega) _ _, (blk_cells (HP.out.set 3 _) tyC_set3).setOther (by omega) _ _, blk_cells ((HQ.out.setOther (by omega) _ _).set 3 _) tyC_set3, below_set (below_set Hb.out _ _ _ (by omega) Hb.out.size) _ _ _ (by omega) (by rw [setCell_size]; exact Hb.out.size)⟩
      case measure => simp [intOf]
    · clear hc0 hc1 hc2 hc3 hc4 hc5 hc6 hc7 ep0 ep1 ep2 ep3 eq0 eq1 eq2 eq3 C0 C1 C2 C3 C4 C5 C6 C7
      obtain ⟨z0, ez0⟩ : ∃ z, p0 + p1 + p2 + p3 = z := ⟨_, rfl⟩
      have wz0 : Hid (IntKind.i64.wrap (IntKind.i64.wrap (IntKind.i64.wrap (p0 + p1) + p2) + p3) = z0) := hide (by rw [← ez0]; simp only [IntKind.wrap_i64]; omega)
      have O0 := hide (fun W => rfloorX z0 4 W (by omega) (by decide))
      rw [ez0] at V
      clear ez0
      obtain ⟨z1, ez1⟩ : ∃ z, p0 - p1 - p2 + p3 = z := ⟨_, rfl⟩
      have wz1 : Hid (IntKind.i64.wrap (IntKind.i64.wrap (IntKind.i64.wrap (p0 - p1) - p2) + p3) = z1) := hide (by rw [← ez1]; simp only [IntKind.wrap_i64]; omega)
      have O1 := hide (fun W => rfloorX z1 4 W (by omega) (by decide))
      rw [ez1] at V
      clear ez1
      obtain ⟨z2, ez2⟩ : ∃ z, p0 + p1 - p2 - p3 = z := ⟨_, rfl⟩
      have wz2 : Hid (IntKind.i64.wrap (IntKind.i64.wrap (IntKind.i64.wrap (p0 + p1) - p2) - p3) = z2) := hide (by rw [← ez2]; simp only [IntKind.wrap_i64]; omega)
      have O2 := hide (fun W => rfloorX z2 4 W (by omega) (by decide))
      rw [ez2] at V
      clear ez2
      obtain ⟨z3, ez3⟩ : ∃ z, q0 + q1 + q2 + q3 = z := ⟨_, rfl⟩
      have wz3 : Hid (IntKind.i64.wrap (IntKind.i64.wrap (IntKind.i64.wrap (q0 + q1) + q2) + q3) = z3) := hide (by rw [← ez3]; simp only [IntKind.wrap_i64]; omega)
      have O3 := hide (fun W => rfloorX z3 4 W (by omega) (by decide))
      rw [ez3] at V
      clear ez3
      obtain ⟨x0, x1, x2, x3⟩ := four_cells HP.out
      obtain ⟨y0, y1, y2, y3⟩ := four_cells HQ.out
      obtain ⟨r0, r1, r2, r3⟩ := four_cells HR.out
      obtain ⟨f0, f1, f2, f3⟩ := four_set HR.out
      go_wp2_with fail
      refine reg_last 49 rfl rfl _ rfl (by kernel_rfl) (by kernel_rfl) (by kernel_rfl) ?_
      simp only [List.take_succ_cons, List.take_zero]
      repeat (quiet_step (first
        | (go_at_call_of 30 (Value.int IntKind.i64 (IntKind.i64.wrap (IntKind.i64.wrap (IntKind.i64.wrap (p0 + p1) + p2) + p3))); rw [wz0.out]; exact Calls.quiet_of_same (O0.out _))
        | (go_at_call_of 30 (Value.int IntKind.i64 (IntKind.i64.wrap (IntKind.i64.wrap (IntKind.i64.wrap (p0 - p1) - p2) + p3))); rw [wz1.out]; exact Calls.quiet_of_same (O1.out _))
        | (go_at_call_of 30 (Value.int IntKind.i64 (IntKind.i64.wrap (IntKind.i64.wrap (IntKind.i64.wrap (p0 + p1) - p2) - p3))); rw [wz2.out]; exact Calls.quiet_of_same (O2.out _))
        | (go_at_call_of 30 (Value.int IntKind.i64 (IntKind.i64.wrap (IntKind.i64.wrap (IntKind.i64.wrap (q0 + q1) + q2) + q3))); rw [wz3.out]; exact Calls.quiet_of_same (O3.out _))))
      refine wpQuiet_nil ?_
      intro nq
      go_simp
      go_wp2_with fail
      refine bodyPost_ret (wr_back (p := 2) (by kernel_rfl) _ _ (w.heap.size + 1) _ _ _ _ rfl ((blk_drewN HR.out nq).set4 _ _ _ _)) rfl ⟨by rw [V.out], ?_⟩
      exact below_set4 (below_drewN Hb.out nq) _ _ _ _ _ (by omega) (below_drewN Hb.out nq).size
end Go.Proofs.Ytpoodmfhcoaleaa
