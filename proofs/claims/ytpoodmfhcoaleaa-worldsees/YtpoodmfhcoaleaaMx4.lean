/- Package mixer, walked: the arms' twists where a motor is dead. -/
import Derived.Test.YtpoodmfhcoaleaaMx3
namespace Go.Proofs.Ytpoodmfhcoaleaa
open Go.RowKit Go.Great

/-- an arm's push -/
def pk (k p0 p1 p2 p3 : Int) : Int := if k = 0 then p0 else if k = 1 then p1 else if k = 2 then p2 else p3
/-- the twist of the dead motor's arm -/
def lone (d p0 p1 p2 p3 : Int) : Int := if d % 2 = 0 then -(pk (d / 2) p0 p1 p2 p3) else pk (d / 2) p0 p1 p2 p3
/-- the others' -/
def rst (d p0 p1 p2 p3 t : Int) : Int := (4 * t - lone d p0 p1 p2 p3) / 3
/-- an arm's twist -/
def tw (d p0 p1 p2 p3 t a : Int) : Int := if a = d / 2 then lone d p0 p1 p2 p3 else clamp (rst d p0 p1 p2 p3 t) (-(pk a p0 p1 p2 p3)) (pk a p0 p1 p2 p3)
/-- the twists of the first i arms -/
def tyC (c0 c1 c2 c3 : Int) : Nat → Array Value
  | 0 => wC 0 0 0 0
  | 1 => wC c0 0 0 0
  | 2 => wC c0 c1 0 0
  | 3 => wC c0 c1 c2 0
  | _ => wC c0 c1 c2 c3
theorem tyC_set0 {c0 c1 c2 c3 : Int} : (tyC c0 c1 c2 c3 0).setIfInBounds 0 (.int .i64 c0) = tyC c0 c1 c2 c3 1 := rfl
theorem tyC_set1 {c0 c1 c2 c3 : Int} : (tyC c0 c1 c2 c3 1).setIfInBounds 1 (.int .i64 c1) = tyC c0 c1 c2 c3 2 := rfl
theorem tyC_set2 {c0 c1 c2 c3 : Int} : (tyC c0 c1 c2 c3 2).setIfInBounds 2 (.int .i64 c2) = tyC c0 c1 c2 c3 3 := rfl
theorem tyC_set3 {c0 c1 c2 c3 : Int} : (tyC c0 c1 c2 c3 3).setIfInBounds 3 (.int .i64 c3) = tyC c0 c1 c2 c3 4 := rfl
theorem ret4 {a b c d a' b' c' d' : Int} (h0 : a = a') (h1 : b = b') (h2 : c = c') (h3 : d = d') : Ending.returned (.agg #[.int .i64 a, .int .i64 b, .int .i64 c, .int .i64 d]) = .returned (wV a' b' c' d') := by rw [h0, h1, h2, h3]
set_option maxHeartbeats 2000000 in
theorem around_0 (p0 p1 p2 p3 t : Int) (w : World) (h0 : 0 ≤ p0 ∧ p0 ≤ 1000) (h1 : 0 ≤ p1 ∧ p1 ≤ 1000) (h2 : 0 ≤ p2 ∧ p2 ≤ 1000) (h3 : 0 ≤ p3 ∧ p3 ≤ 1000) (ht : -1000 ≤ t ∧ t ≤ 1000) : Calls Try.prog 37 #[.int .i64 0, wV p0 p1 p2 p3, .int .i64 t] w fun e w' => e = .returned (wV (tw 0 p0 p1 p2 p3 t 0) (tw 0 p0 p1 p2 p3 t 1) (tw 0 p0 p1 p2 p3 t 2) (tw 0 p0 p1 p2 p3 t 3)) ∧ Below w.heap.size w w' := by
  obtain ⟨z, hzz⟩ : ∃ z, Hid (4 * t - (-p0) = z) := ⟨_, hide rfl⟩
  have hz1 : I64 z := by have := hzz.out; unfold I64; omega
  have OV := hide (fun W => over_any z 3 W hz1 (by decide))
  obtain ⟨q, hq⟩ : ∃ q, Hid (z / 3 = q) := ⟨_, hide rfl⟩
  rw [hq.out] at OV
  clear hz1
  obtain ⟨c0, hc0⟩ : ∃ c, Hid (clamp q (-p0) p0 = c) := ⟨_, hide rfl⟩
  have C0 := hide (fun W => clamp_any q (-p0) p0 W)
  rw [hc0.out] at C0
  obtain ⟨c1, hc1⟩ : ∃ c, Hid (clamp q (-p1) p1 = c) := ⟨_, hide rfl⟩
  have C1 := hide (fun W => clamp_any q (-p1) p1 W)
  rw [hc1.out] at C1
  obtain ⟨c2, hc2⟩ : ∃ c, Hid (clamp q (-p2) p2 = c) := ⟨_, hide rfl⟩
  have C2 := hide (fun W => clamp_any q (-p2) p2 W)
  rw [hc2.out] at C2
  obtain ⟨c3, hc3⟩ : ∃ c, Hid (clamp q (-p3) p3 = c) := ⟨_, hide rfl⟩
  have C3 := hide (fun W => clamp_any q (-p3) p3 W)
  rw [hc3.out] at C3
  have EN : Hid (Ending.returned (wV (tw 0 p0 p1 p2 p3 t 0) (tw 0 p0 p1 p2 p3 t 1) (tw 0 p0 p1 p2 p3 t 2) (tw 0 p0 p1 p2 p3 t 3)) = .returned (wV (-p0) c1 c2 c3)) := hide (by
    have hl : lone 0 p0 p1 p2 p3 = (-p0) := by simp [lone, pk]
    have hr : rst 0 p0 p1 p2 p3 t = q := by unfold rst; rw [hl, hzz.out, hq.out]
    refine ret4 ?_ ?_ ?_ ?_
    · unfold tw; rw [if_pos (by decide), hl]
    · unfold tw; rw [if_neg (by decide), hr]; exact hc1.out
    · unfold tw; rw [if_neg (by decide), hr]; exact hc2.out
    · unfold tw; rw [if_neg (by decide), hr]; exact hc3.out
    )
  rw [EN.out]
  clear EN hc0 hc1 hc2 hc3 hq
  obtain ⟨W0, hW0, b0, P0, R0, hz0⟩ := two_boxes w (wC p0 p1 p2 p3) (wC 0 0 0 0) 57 57
  have Hb := hide b0
  have HR := hide R0
  have HP := hide P0
  obtain ⟨q0, q1, q2, q3⟩ := four_cells P0
  clear b0 R0 P0
  have hzz2 : 4 * t - (-p0) = z := hzz.out
  go_enter Try.func37, Try.ntmps37
  go_upto_region 6 with (go_at_call 40; go_simp; first | rw [hzz2] | skip; refine (OV.out _).mono ?_; rintro e w1 ⟨rfl, hw⟩; obtain rfl := hw.symm)
  clear hzz hzz2
  have HT := hide (Blk.new W0 (wC 0 0 0 0) 57)
  replace HP := hide (HP.out.alloc (.cells (wC 0 0 0 0) 57))
  replace HR := hide (HR.out.alloc (.cells (wC 0 0 0 0) 57))
  replace Hb := hide (Hb.out.alloc Hb.out.size (.cells (wC 0 0 0 0) 57))
  clear q0 q1 q2 q3
  go_upto_region 7 with fail
  rw [hz0] at HT
  clear hz0 hW0
  generalize W0.alloc (.cells (wC 0 0 0 0) 57) = W1 at *
  obtain ⟨q0, q1, q2, q3⟩ := four_cells HP.out
  go_wp2_with fail
  clear q0 q1 q2 q3
  go_loopw [29] (fun v wr => ∃ i : Nat, v = .int .i64 (i : Int) ∧ i ≤ 4 ∧ Blk wr (w.heap.size + 1) (wC 0 0 0 0) 57 ∧ Blk wr (w.heap.size + 2) (tyC c0 c1 c2 c3 i) 57 ∧ Below w.heap.size w wr) (fun v _ => 4 - (intOf v).toNat)
  case atStart => exact ⟨0, rfl, by omega, HR.out, HT.out, Hb.out⟩
  case round =>
    clear HT HR HP Hb
    obtain ⟨i, rfl, hi, hR, hT, hb⟩ := hrel
    have HT := hide hT
    have HR := hide hR
    have Hb := hide hb
    have hz := hT.lt
    clear hT hR hb
    obtain rfl | rfl | rfl | rfl | rfl : i = 0 ∨ i = 1 ∨ i = 2 ∨ i = 3 ∨ i = 4 := by omega
    · have IX := wi0
      have m0 := HT.out.cell 0 rfl
      have f0 := HT.out.frozen 0
      go_wp2_with (first | (go_at_call 31; refine (C0.out _).mono ?_; rintro e w2 ⟨rfl, hw⟩; obtain rfl := hw.symm))
      go_roundw
      case rel => exact ⟨1, by go_num, by omega, HR.out.setOther (by omega) _ _, blk_cells (HT.out.set 0 _) tyC_set0, below_set Hb.out _ _ _ (by omega) Hb.out.size⟩
      case measure => simp [intOf]
    · have IX := wi1
      have m0 := HT.out.cell 1 rfl
      have f0 := HT.out.frozen 1
      go_wp2_with (first | (go_at_call 31; refine (C1.out _).mono ?_; rintro e w2 ⟨rfl, hw⟩; obtain rfl := hw.symm))
      go_roundw
      case rel => exact ⟨2, by go_num, by omega, HR.out.setOther (by omega) _ _, blk_cells (HT.out.set 1 _) tyC_set1, below_set Hb.out _ _ _ (by omega) Hb.out.size⟩
      case measure => simp [intOf]
    · have IX := wi2
      have m0 := HT.out.cell 2 rfl
      have f0 := HT.out.frozen 2
      go_wp2_with (first | (go_at_call 31; refine (C2.out _).mono ?_; rintro e w2 ⟨rfl, hw⟩; obtain rfl := hw.symm))
      go_roundw
      case rel => exact ⟨3, by go_num, by omega, HR.out.setOther (by omega) _ _, blk_cells (HT.out.set 2 _) tyC_set2, below_set Hb.out _ _ _ (by omega) Hb.out.size⟩
      case measure => simp [intOf]
    · have IX := wi3
      have m0 := HT.out.cell 3 rfl
      have f0 := HT.out.frozen 3
      go_wp2_with (first | (go_at_call 31; refine (C3.out _).mono ?_; rintro e w2 ⟨rfl, hw⟩; obtain rfl := hw.symm))
      go_roundw
      case rel => exact ⟨4, by go_num, by omega, HR.out.setOther (by omega) _ _, blk_cells (HT.out.set 3 _) tyC_set3, below_set Hb.out _ _ _ (by omega) Hb.out.size⟩
      case measure => simp [intOf]
    · have m0 := HT.out.cell 0 rfl
      have f0 := HT.out.frozen 0
      go_upto_region 13 with fail
      have HT2 := hide (HT.out.set 0 (.int .i64 (-p0)))
      have HR2 := hide (HR.out.setOther (show w.heap.size + 1 ≠ w.heap.size + 2 by omega) 0 (.int .i64 (-p0)))
      have Hb2 := hide (below_set Hb.out (w.heap.size + 2) 0 (.int .i64 (-p0)) (by omega) Hb.out.size)
      clear m0 f0 HT HR Hb
      generalize wr.setCell ⟨w.heap.size + 2, 0, none⟩ (.int .i64 (-p0)) = W2 at *
      have HT3 : Hid (Blk W2 (w.heap.size + 2) (wC (-p0) c1 c2 c3) 57) := hide HT2.out
      obtain ⟨m0, m1, m2, m3⟩ := four_cells HT3.out
      obtain ⟨r0, r1, r2, r3⟩ := four_cells HR2.out
      obtain ⟨f0, f1, f2, f3⟩ := four_set HR2.out
      go_wp2_with fail
      exact bodyPost_ret (four_back (p := 6) (by kernel_rfl) _ _ (w.heap.size + 1) _ _ _ _ rfl (HR2.out.set4 _ _ _ _)) rfl ⟨rfl, below_set4 Hb2.out _ _ _ _ _ (by omega) Hb2.out.size⟩
set_option maxHeartbeats 2000000 in
theorem around_1 (p0 p1 p2 p3 t : Int) (w : World) (h0 : 0 ≤ p0 ∧ p0 ≤ 1000) (h1 : 0 ≤ p1 ∧ p1 ≤ 1000) (h2 : 0 ≤ p2 ∧ p2 ≤ 1000) (h3 : 0 ≤ p3 ∧ p3 ≤ 1000) (ht : -1000 ≤ t ∧ t ≤ 1000) : Calls Try.prog 37 #[.int .i64 1, wV p0 p1 p2 p3, .int .i64 t] w fun e w' => e = .returned (wV (tw 1 p0 p1 p2 p3 t 0) (tw 1 p0 p1 p2 p3 t 1) (tw 1 p0 p1 p2 p3 t 2) (tw 1 p0 p1 p2 p3 t 3)) ∧ Below w.heap.size w w' := by
  obtain ⟨z, hzz⟩ : ∃ z, Hid (4 * t - p0 = z) := ⟨_, hide rfl⟩
  have hz1 : I64 z := by have := hzz.out; unfold I64; omega
  have OV := hide (fun W => over_any z 3 W hz1 (by decide))
  obtain ⟨q, hq⟩ : ∃ q, Hid (z / 3 = q) := ⟨_, hide rfl⟩
  rw [hq.out] at OV
  clear hz1
  obtain ⟨c0, hc0⟩ : ∃ c, Hid (clamp q (-p0) p0 = c) := ⟨_, hide rfl⟩
  have C0 := hide (fun W => clamp_any q (-p0) p0 W)
  rw [hc0.out] at C0
  obtain ⟨c1, hc1⟩ : ∃ c, Hid (clamp q (-p1) p1 = c) := ⟨_, hide rfl⟩
  have C1 := hide (fun W => clamp_any q (-p1) p1 W)
  rw [hc1.out] at C1
  obtain ⟨c2, hc2⟩ : ∃ c, Hid (clamp q (-p2) p2 = c) := ⟨_, hide rfl⟩
  have C2 := hide (fun W => clamp_any q (-p2) p2 W)
  rw [hc2.out] at C2
  obtain ⟨c3, hc3⟩ : ∃ c, Hid (clamp q (-p3) p3 = c) := ⟨_, hide rfl⟩
  have C3 := hide (fun W => clamp_any q (-p3) p3 W)
  rw [hc3.out] at C3
  have EN : Hid (Ending.returned (wV (tw 1 p0 p1 p2 p3 t 0) (tw 1 p0 p1 p2 p3 t 1) (tw 1 p0 p1 p2 p3 t 2) (tw 1 p0 p1 p2 p3 t 3)) = .returned (wV p0 c1 c2 c3)) := hide (by
    have hl : lone 1 p0 p1 p2 p3 = p0 := by simp [lone, pk]
    have hr : rst 1 p0 p1 p2 p3 t = q := by unfold rst; rw [hl, hzz.out, hq.out]
    refine ret4 ?_ ?_ ?_ ?_
    · unfold tw; rw [if_pos (by decide), hl]
    · unfold tw; rw [if_neg (by decide), hr]; exact hc1.out
    · unfold tw; rw [if_neg (by decide), hr]; exact hc2.out
    · unfold tw; rw [if_neg (by decide), hr]; exact hc3.out
    )
  rw [EN.out]
  clear EN hc0 hc1 hc2 hc3 hq
  obtain ⟨W0, hW0, b0, P0, R0, hz0⟩ := two_boxes w (wC p0 p1 p2 p3) (wC 0 0 0 0) 57 57
  have Hb := hide b0
  have HR := hide R0
  have HP := hide P0
  obtain ⟨q0, q1, q2, q3⟩ := four_cells P0
  clear b0 R0 P0
  have hzz2 : 4 * t - p0 = z := hzz.out
  go_enter Try.func37, Try.ntmps37
  go_upto_region 6 with (go_at_call 40; go_simp; first | rw [hzz2] | skip; refine (OV.out _).mono ?_; rintro e w1 ⟨rfl, hw⟩; obtain rfl := hw.symm)
  clear hzz hzz2
  have HT := hide (Blk.new W0 (wC 0 0 0 0) 57)
  replace HP := hide (HP.out.alloc (.cells (wC 0 0 0 0) 57))
  replace HR := hide (HR.out.alloc (.cells (wC 0 0 0 0) 57))
  replace Hb := hide (Hb.out.alloc Hb.out.size (.cells (wC 0 0 0 0) 57))
  clear q0 q1 q2 q3
  go_upto_region 7 with fail
  rw [hz0] at HT
  clear hz0 hW0
  generalize W0.alloc (.cells (wC 0 0 0 0) 57) = W1 at *
  obtain ⟨q0, q1, q2, q3⟩ := four_cells HP.out
  go_wp2_with fail
  clear q0 q1 q2 q3
  go_loopw [29] (fun v wr => ∃ i : Nat, v = .int .i64 (i : Int) ∧ i ≤ 4 ∧ Blk wr (w.heap.size + 1) (wC 0 0 0 0) 57 ∧ Blk wr (w.heap.size + 2) (tyC c0 c1 c2 c3 i) 57 ∧ Below w.heap.size w wr) (fun v _ => 4 - (intOf v).toNat)
  case atStart => exact ⟨0, rfl, by omega, HR.out, HT.out, Hb.out⟩
  case round =>
    clear HT HR HP Hb
    obtain ⟨i, rfl, hi, hR, hT, hb⟩ := hrel
    have HT := hide hT
    have HR := hide hR
    have Hb := hide hb
    have hz := hT.lt
    clear hT hR hb
    obtain rfl | rfl | rfl | rfl | rfl : i = 0 ∨ i = 1 ∨ i = 2 ∨ i = 3 ∨ i = 4 := by omega
    · have IX := wi0
      have m0 := HT.out.cell 0 rfl
      have f0 := HT.out.frozen 0
      go_wp2_with (first | (go_at_call 31; refine (C0.out _).mono ?_; rintro e w2 ⟨rfl, hw⟩; obtain rfl := hw.symm))
      go_roundw
      case rel => exact ⟨1, by go_num, by omega, HR.out.setOther (by omega) _ _, blk_cells (HT.out.set 0 _) tyC_set0, below_set Hb.out _ _ _ (by omega) Hb.out.size⟩
      case measure => simp [intOf]
    · have IX := wi1
      have m0 := HT.out.cell 1 rfl
      have f0 := HT.out.frozen 1
      go_wp2_with (first | (go_at_call 31; refine (C1.out _).mono ?_; rintro e w2 ⟨rfl, hw⟩; obtain rfl := hw.symm))
      go_roundw
      case rel => exact ⟨2, by go_num, by omega, HR.out.setOther (by omega) _ _, blk_cells (HT.out.set 1 _) tyC_set1, below_set Hb.out _ _ _ (by omega) Hb.out.size⟩
      case measure => simp [intOf]
    · have IX := wi2
      have m0 := HT.out.cell 2 rfl
      have f0 := HT.out.frozen 2
      go_wp2_with (first | (go_at_call 31; refine (C2.out _).mono ?_; rintro e w2 ⟨rfl, hw⟩; obtain rfl := hw.symm))
      go_roundw
      case rel => exact ⟨3, by go_num, by omega, HR.out.setOther (by omega) _ _, blk_cells (HT.out.set 2 _) tyC_set2, below_set Hb.out _ _ _ (by omega) Hb.out.size⟩
      case measure => simp [intOf]
    · have IX := wi3
      have m0 := HT.out.cell 3 rfl
      have f0 := HT.out.frozen 3
      go_wp2_with (first | (go_at_call 31; refine (C3.out _).mono ?_; rintro e w2 ⟨rfl, hw⟩; obtain rfl := hw.symm))
      go_roundw
      case rel => exact ⟨4, by go_num, by omega, HR.out.setOther (by omega) _ _, blk_cells (HT.out.set 3 _) tyC_set3, below_set Hb.out _ _ _ (by omega) Hb.out.size⟩
      case measure => simp [intOf]
    · have m0 := HT.out.cell 0 rfl
      have f0 := HT.out.frozen 0
      go_upto_region 13 with fail
      have HT2 := hide (HT.out.set 0 (.int .i64 p0))
      have HR2 := hide (HR.out.setOther (show w.heap.size + 1 ≠ w.heap.size + 2 by omega) 0 (.int .i64 p0))
      have Hb2 := hide (below_set Hb.out (w.heap.size + 2) 0 (.int .i64 p0) (by omega) Hb.out.size)
      clear m0 f0 HT HR Hb
      generalize wr.setCell ⟨w.heap.size + 2, 0, none⟩ (.int .i64 p0) = W2 at *
      have HT3 : Hid (Blk W2 (w.heap.size + 2) (wC p0 c1 c2 c3) 57) := hide HT2.out
      obtain ⟨m0, m1, m2, m3⟩ := four_cells HT3.out
      obtain ⟨r0, r1, r2, r3⟩ := four_cells HR2.out
      obtain ⟨f0, f1, f2, f3⟩ := four_set HR2.out
      go_wp2_with fail
      exact bodyPost_ret (four_back (p := 6) (by kernel_rfl) _ _ (w.heap.size + 1) _ _ _ _ rfl (HR2.out.set4 _ _ _ _)) rfl ⟨rfl, below_set4 Hb2.out _ _ _ _ _ (by omega) Hb2.out.size⟩
set_option maxHeartbeats 2000000 in
theorem around_2 (p0 p1 p2 p3 t : Int) (w : World) (h0 : 0 ≤ p0 ∧ p0 ≤ 1000) (h1 : 0 ≤ p1 ∧ p1 ≤ 1000) (h2 : 0 ≤ p2 ∧ p2 ≤ 1000) (h3 : 0 ≤ p3 ∧ p3 ≤ 1000) (ht : -1000 ≤ t ∧ t ≤ 1000) : Calls Try.prog 37 #[.int .i64 2, wV p0 p1 p2 p3, .int .i64 t] w fun e w' => e = .returned (wV (tw 2 p0 p1 p2 p3 t 0) (tw 2 p0 p1 p2 p3 t 1) (tw 2 p0 p1 p2 p3 t 2) (tw 2 p0 p1 p2 p3 t 3)) ∧ Below w.heap.size w w' := by
  obtain ⟨z, hzz⟩ : ∃ z, Hid (4 * t - (-p1) = z) := ⟨_, hide rfl⟩
  have hz1 : I64 z := by have := hzz.out; unfold I64; omega
  have OV := hide (fun W => over_any z 3 W hz1 (by decide))
  obtain ⟨q, hq⟩ : ∃ q, Hid (z / 3 = q) := ⟨_, hide rfl⟩
  rw [hq.out] at OV
  clear hz1
  obtain ⟨c0, hc0⟩ : ∃ c, Hid (clamp q (-p0) p0 = c) := ⟨_, hide rfl⟩
  have C0 := hide (fun W => clamp_any q (-p0) p0 W)
  rw [hc0.out] at C0
  obtain ⟨c1, hc1⟩ : ∃ c, Hid (clamp q (-p1) p1 = c) := ⟨_, hide rfl⟩
  have C1 := hide (fun W => clamp_any q (-p1) p1 W)
  rw [hc1.out] at C1
  obtain ⟨c2, hc2⟩ : ∃ c, Hid (clamp q (-p2) p2 = c) := ⟨_, hide rfl⟩
  have C2 := hide (fun W => clamp_any q (-p2) p2 W)
  rw [hc2.out] at C2
  obtain ⟨c3, hc3⟩ : ∃ c, Hid (clamp q (-p3) p3 = c) := ⟨_, hide rfl⟩
  have C3 := hide (fun W => clamp_any q (-p3) p3 W)
  rw [hc3.out] at C3
  have EN : Hid (Ending.returned (wV (tw 2 p0 p1 p2 p3 t 0) (tw 2 p0 p1 p2 p3 t 1) (tw 2 p0 p1 p2 p3 t 2) (tw 2 p0 p1 p2 p3 t 3)) = .returned (wV c0 (-p1) c2 c3)) := hide (by
    have hl : lone 2 p0 p1 p2 p3 = (-p1) := by simp [lone, pk]
    have hr : rst 2 p0 p1 p2 p3 t = q := by unfold rst; rw [hl, hzz.out, hq.out]
    refine ret4 ?_ ?_ ?_ ?_
    · unfold tw; rw [if_neg (by decide), hr]; exact hc0.out
    · unfold tw; rw [if_pos (by decide), hl]
    · unfold tw; rw [if_neg (by decide), hr]; exact hc2.out
    · unfold tw; rw [if_neg (by decide), hr]; exact hc3.out
    )
  rw [EN.out]
  clear EN hc0 hc1 hc2 hc3 hq
  obtain ⟨W0, hW0, b0, P0, R0, hz0⟩ := two_boxes w (wC p0 p1 p2 p3) (wC 0 0 0 0) 57 57
  have Hb := hide b0
  have HR := hide R0
  have HP := hide P0
  obtain ⟨q0, q1, q2, q3⟩ := four_cells P0
  clear b0 R0 P0
  have hzz2 : 4 * t - (-p1) = z := hzz.out
  go_enter Try.func37, Try.ntmps37
  go_upto_region 6 with (go_at_call 40; go_simp; first | rw [hzz2] | skip; refine (OV.out _).mono ?_; rintro e w1 ⟨rfl, hw⟩; obtain rfl := hw.symm)
  clear hzz hzz2
  have HT := hide (Blk.new W0 (wC 0 0 0 0) 57)
  replace HP := hide (HP.out.alloc (.cells (wC 0 0 0 0) 57))
  replace HR := hide (HR.out.alloc (.cells (wC 0 0 0 0) 57))
  replace Hb := hide (Hb.out.alloc Hb.out.size (.cells (wC 0 0 0 0) 57))
  clear q0 q1 q2 q3
  go_upto_region 7 with fail
  rw [hz0] at HT
  clear hz0 hW0
  generalize W0.alloc (.cells (wC 0 0 0 0) 57) = W1 at *
  obtain ⟨q0, q1, q2, q3⟩ := four_cells HP.out
  go_wp2_with fail
  clear q0 q1 q2 q3
  go_loopw [29] (fun v wr => ∃ i : Nat, v = .int .i64 (i : Int) ∧ i ≤ 4 ∧ Blk wr (w.heap.size + 1) (wC 0 0 0 0) 57 ∧ Blk wr (w.heap.size + 2) (tyC c0 c1 c2 c3 i) 57 ∧ Below w.heap.size w wr) (fun v _ => 4 - (intOf v).toNat)
  case atStart => exact ⟨0, rfl, by omega, HR.out, HT.out, Hb.out⟩
  case round =>
    clear HT HR HP Hb
    obtain ⟨i, rfl, hi, hR, hT, hb⟩ := hrel
    have HT := hide hT
    have HR := hide hR
    have Hb := hide hb
    have hz := hT.lt
    clear hT hR hb
    obtain rfl | rfl | rfl | rfl | rfl : i = 0 ∨ i = 1 ∨ i = 2 ∨ i = 3 ∨ i = 4 := by omega
    · have IX := wi0
      have m0 := HT.out.cell 0 rfl
      have f0 := HT.out.frozen 0
      go_wp2_with (first | (go_at_call 31; refine (C0.out _).mono ?_; rintro e w2 ⟨rfl, hw⟩; obtain rfl := hw.symm))
      go_roundw
      case rel => exact ⟨1, by go_num, by omega, HR.out.setOther (by omega) _ _, blk_cells (HT.out.set 0 _) tyC_set0, below_set Hb.out _ _ _ (by omega) Hb.out.size⟩
      case measure => simp [intOf]
    · have IX := wi1
      have m0 := HT.out.cell 1 rfl
      have f0 := HT.out.frozen 1
      go_wp2_with (first | (go_at_call 31; refine (C1.out _).mono ?_; rintro e w2 ⟨rfl, hw⟩; obtain rfl := hw.symm))
      go_roundw
      case rel => exact ⟨2, by go_num, by omega, HR.out.setOther (by omega) _ _, blk_cells (HT.out.set 1 _) tyC_set1, below_set Hb.out _ _ _ (by omega) Hb.out.size⟩
      case measure => simp [intOf]
    · have IX := wi2
      have m0 := HT.out.cell 2 rfl
      have f0 := HT.out.frozen 2
      go_wp2_with (first | (go_at_call 31; refine (C2.out _).mono ?_; rintro e w2 ⟨rfl, hw⟩; obtain rfl := hw.symm))
      go_roundw
      case rel => exact ⟨3, by go_num, by omega, HR.out.setOther (by omega) _ _, blk_cells (HT.out.set 2 _) tyC_set2, below_set Hb.out _ _ _ (by omega) Hb.out.size⟩
      case measure => simp [intOf]
    · have IX := wi3
      have m0 := HT.out.cell 3 rfl
      have f0 := HT.out.frozen 3
      go_wp2_with (first | (go_at_call 31; refine (C3.out _).mono ?_; rintro e w2 ⟨rfl, hw⟩; obtain rfl := hw.symm))
      go_roundw
      case rel => exact ⟨4, by go_num, by omega, HR.out.setOther (by omega) _ _, blk_cells (HT.out.set 3 _) tyC_set3, below_set Hb.out _ _ _ (by omega) Hb.out.size⟩
      case measure => simp [intOf]
    · have m0 := HT.out.cell 1 rfl
      have f0 := HT.out.frozen 1
      go_upto_region 13 with fail
      have HT2 := hide (HT.out.set 1 (.int .i64 (-p1)))
      have HR2 := hide (HR.out.setOther (show w.heap.size + 1 ≠ w.heap.size + 2 by omega) 1 (.int .i64 (-p1)))
      have Hb2 := hide (below_set Hb.out (w.heap.size + 2) 1 (.int .i64 (-p1)) (by omega) Hb.out.size)
      clear m0 f0 HT HR Hb
      generalize wr.setCell ⟨w.heap.size + 2, 1, none⟩ (.int .i64 (-p1)) = W2 at *
      have HT3 : Hid (Blk W2 (w.heap.size + 2) (wC c0 (-p1) c2 c3) 57) := hide HT2.out
      obtain ⟨m0, m1, m2, m3⟩ := four_cells HT3.out
      obtain ⟨r0, r1, r2, r3⟩ := four_cells HR2.out
      obtain ⟨f0, f1, f2, f3⟩ := four_set HR2.out
      go_wp2_with fail
      exact bodyPost_ret (four_back (p := 6) (by kernel_rfl) _ _ (w.heap.size + 1) _ _ _ _ rfl (HR2.out.set4 _ _ _ _)) rfl ⟨rfl, below_set4 Hb2.out _ _ _ _ _ (by omega) Hb2.out.size⟩
set_option maxHeartbeats 2000000 in
theorem around_3 (p0 p1 p2 p3 t : Int) (w : World) (h0 : 0 ≤ p0 ∧ p0 ≤ 1000) (h1 : 0 ≤ p1 ∧ p1 ≤ 1000) (h2 : 0 ≤ p2 ∧ p2 ≤ 1000) (h3 : 0 ≤ p3 ∧ p3 ≤ 1000) (ht : -1000 ≤ t ∧ t ≤ 1000) : Calls Try.prog 37 #[.int .i64 3, wV p0 p1 p2 p3, .int .i64 t] w fun e w' => e = .returned (wV (tw 3 p0 p1 p2 p3 t 0) (tw 3 p0 p1 p2 p3 t 1) (tw 3 p0 p1 p2 p3 t 2) (tw 3 p0 p1 p2 p3 t 3)) ∧ Below w.heap.size w w' := by
  obtain ⟨z, hzz⟩ : ∃ z, Hid (4 * t - p1 = z) := ⟨_, hide rfl⟩
  have hz1 : I64 z := by have := hzz.out; unfold I64; omega
  have OV := hide (fun W => over_any z 3 W hz1 (by decide))
  obtain ⟨q, hq⟩ : ∃ q, Hid (z / 3 = q) := ⟨_, hide rfl⟩
  rw [hq.out] at OV
  clear hz1
  obtain ⟨c0, hc0⟩ : ∃ c, Hid (clamp q (-p0) p0 = c) := ⟨_, hide rfl⟩
  have C0 := hide (fun W => clamp_any q (-p0) p0 W)
  rw [hc0.out] at C0
  obtain ⟨c1, hc1⟩ : ∃ c, Hid (clamp q (-p1) p1 = c) := ⟨_, hide rfl⟩
  have C1 := hide (fun W => clamp_any q (-p1) p1 W)
  rw [hc1.out] at C1
  obtain ⟨c2, hc2⟩ : ∃ c, Hid (clamp q (-p2) p2 = c) := ⟨_, hide rfl⟩
  have C2 := hide (fun W => clamp_any q (-p2) p2 W)
  rw [hc2.out] at C2
  obtain ⟨c3, hc3⟩ : ∃ c, Hid (clamp q (-p3) p3 = c) := ⟨_, hide rfl⟩
  have C3 := hide (fun W => clamp_any q (-p3) p3 W)
  rw [hc3.out] at C3
  have EN : Hid (Ending.returned (wV (tw 3 p0 p1 p2 p3 t 0) (tw 3 p0 p1 p2 p3 t 1) (tw 3 p0 p1 p2 p3 t 2) (tw 3 p0 p1 p2 p3 t 3)) = .returned (wV c0 p1 c2 c3)) := hide (by
    have hl : lone 3 p0 p1 p2 p3 = p1 := by simp [lone, pk]
    have hr : rst 3 p0 p1 p2 p3 t = q := by unfold rst; rw [hl, hzz.out, hq.out]
    refine ret4 ?_ ?_ ?_ ?_
    · unfold tw; rw [if_neg (by decide), hr]; exact hc0.out
    · unfold tw; rw [if_pos (by decide), hl]
    · unfold tw; rw [if_neg (by decide), hr]; exact hc2.out
    · unfold tw; rw [if_neg (by decide), hr]; exact hc3.out
    )
  rw [EN.out]
  clear EN hc0 hc1 hc2 hc3 hq
  obtain ⟨W0, hW0, b0, P0, R0, hz0⟩ := two_boxes w (wC p0 p1 p2 p3) (wC 0 0 0 0) 57 57
  have Hb := hide b0
  have HR := hide R0
  have HP := hide P0
  obtain ⟨q0, q1, q2, q3⟩ := four_cells P0
  clear b0 R0 P0
  have hzz2 : 4 * t - p1 = z := hzz.out
  go_enter Try.func37, Try.ntmps37
  go_upto_region 6 with (go_at_call 40; go_simp; first | rw [hzz2] | skip; refine (OV.out _).mono ?_; rintro e w1 ⟨rfl, hw⟩; obtain rfl := hw.symm)
  clear hzz hzz2
  have HT := hide (Blk.new W0 (wC 0 0 0 0) 57)
  replace HP := hide (HP.out.alloc (.cells (wC 0 0 0 0) 57))
  replace HR := hide (HR.out.alloc (.cells (wC 0 0 0 0) 57))
  replace Hb := hide (Hb.out.alloc Hb.out.size (.cells (wC 0 0 0 0) 57))
  clear q0 q1 q2 q3
  go_upto_region 7 with fail
  rw [hz0] at HT
  clear hz0 hW0
  generalize W0.alloc (.cells (wC 0 0 0 0) 57) = W1 at *
  obtain ⟨q0, q1, q2, q3⟩ := four_cells HP.out
  go_wp2_with fail
  clear q0 q1 q2 q3
  go_loopw [29] (fun v wr => ∃ i : Nat, v = .int .i64 (i : Int) ∧ i ≤ 4 ∧ Blk wr (w.heap.size + 1) (wC 0 0 0 0) 57 ∧ Blk wr (w.heap.size + 2) (tyC c0 c1 c2 c3 i) 57 ∧ Below w.heap.size w wr) (fun v _ => 4 - (intOf v).toNat)
  case atStart => exact ⟨0, rfl, by omega, HR.out, HT.out, Hb.out⟩
  case round =>
    clear HT HR HP Hb
    obtain ⟨i, rfl, hi, hR, hT, hb⟩ := hrel
    have HT := hide hT
    have HR := hide hR
    have Hb := hide hb
    have hz := hT.lt
    clear hT hR hb
    obtain rfl | rfl | rfl | rfl | rfl : i = 0 ∨ i = 1 ∨ i = 2 ∨ i = 3 ∨ i = 4 := by omega
    · have IX := wi0
      have m0 := HT.out.cell 0 rfl
      have f0 := HT.out.frozen 0
      go_wp2_with (first | (go_at_call 31; refine (C0.out _).mono ?_; rintro e w2 ⟨rfl, hw⟩; obtain rfl := hw.symm))
      go_roundw
      case rel => exact ⟨1, by go_num, by omega, HR.out.setOther (by omega) _ _, blk_cells (HT.out.set 0 _) tyC_set0, below_set Hb.out _ _ _ (by omega) Hb.out.size⟩
      case measure => simp [intOf]
    · have IX := wi1
      have m0 := HT.out.cell 1 rfl
      have f0 := HT.out.frozen 1
      go_wp2_with (first | (go_at_call 31; refine (C1.out _).mono ?_; rintro e w2 ⟨rfl, hw⟩; obtain rfl := hw.symm))
      go_roundw
      case rel => exact ⟨2, by go_num, by omega, HR.out.setOther (by omega) _ _, blk_cells (HT.out.set 1 _) tyC_set1, below_set Hb.out _ _ _ (by omega) Hb.out.size⟩
      case measure => simp [intOf]
    · have IX := wi2
      have m0 := HT.out.cell 2 rfl
      have f0 := HT.out.frozen 2
      go_wp2_with (first | (go_at_call 31; refine (C2.out _).mono ?_; rintro e w2 ⟨rfl, hw⟩; obtain rfl := hw.symm))
      go_roundw
      case rel => exact ⟨3, by go_num, by omega, HR.out.setOther (by omega) _ _, blk_cells (HT.out.set 2 _) tyC_set2, below_set Hb.out _ _ _ (by omega) Hb.out.size⟩
      case measure => simp [intOf]
    · have IX := wi3
      have m0 := HT.out.cell 3 rfl
      have f0 := HT.out.frozen 3
      go_wp2_with (first | (go_at_call 31; refine (C3.out _).mono ?_; rintro e w2 ⟨rfl, hw⟩; obtain rfl := hw.symm))
      go_roundw
      case rel => exact ⟨4, by go_num, by omega, HR.out.setOther (by omega) _ _, blk_cells (HT.out.set 3 _) tyC_set3, below_set Hb.out _ _ _ (by omega) Hb.out.size⟩
      case measure => simp [intOf]
    · have m0 := HT.out.cell 1 rfl
      have f0 := HT.out.frozen 1
      go_upto_region 13 with fail
      have HT2 := hide (HT.out.set 1 (.int .i64 p1))
      have HR2 := hide (HR.out.setOther (show w.heap.size + 1 ≠ w.heap.size + 2 by omega) 1 (.int .i64 p1))
      have Hb2 := hide (below_set Hb.out (w.heap.size + 2) 1 (.int .i64 p1) (by omega) Hb.out.size)
      clear m0 f0 HT HR Hb
      generalize wr.setCell ⟨w.heap.size + 2, 1, none⟩ (.int .i64 p1) = W2 at *
      have HT3 : Hid (Blk W2 (w.heap.size + 2) (wC c0 p1 c2 c3) 57) := hide HT2.out
      obtain ⟨m0, m1, m2, m3⟩ := four_cells HT3.out
      obtain ⟨r0, r1, r2, r3⟩ := four_cells HR2.out
      obtain ⟨f0, f1, f2, f3⟩ := four_set HR2.out
      go_wp2_with fail
      exact bodyPost_ret (four_back (p := 6) (by kernel_rfl) _ _ (w.heap.size + 1) _ _ _ _ rfl (HR2.out.set4 _ _ _ _)) rfl ⟨rfl, below_set4 Hb2.out _ _ _ _ _ (by omega) Hb2.out.size⟩
set_option maxHeartbeats 2000000 in
theorem around_4 (p0 p1 p2 p3 t : Int) (w : World) (h0 : 0 ≤ p0 ∧ p0 ≤ 1000) (h1 : 0 ≤ p1 ∧ p1 ≤ 1000) (h2 : 0 ≤ p2 ∧ p2 ≤ 1000) (h3 : 0 ≤ p3 ∧ p3 ≤ 1000) (ht : -1000 ≤ t ∧ t ≤ 1000) : Calls Try.prog 37 #[.int .i64 4, wV p0 p1 p2 p3, .int .i64 t] w fun e w' => e = .returned (wV (tw 4 p0 p1 p2 p3 t 0) (tw 4 p0 p1 p2 p3 t 1) (tw 4 p0 p1 p2 p3 t 2) (tw 4 p0 p1 p2 p3 t 3)) ∧ Below w.heap.size w w' := by
  obtain ⟨z, hzz⟩ : ∃ z, Hid (4 * t - (-p2) = z) := ⟨_, hide rfl⟩
  have hz1 : I64 z := by have := hzz.out; unfold I64; omega
  have OV := hide (fun W => over_any z 3 W hz1 (by decide))
  obtain ⟨q, hq⟩ : ∃ q, Hid (z / 3 = q) := ⟨_, hide rfl⟩
  rw [hq.out] at OV
  clear hz1
  obtain ⟨c0, hc0⟩ : ∃ c, Hid (clamp q (-p0) p0 = c) := ⟨_, hide rfl⟩
  have C0 := hide (fun W => clamp_any q (-p0) p0 W)
  rw [hc0.out] at C0
  obtain ⟨c1, hc1⟩ : ∃ c, Hid (clamp q (-p1) p1 = c) := ⟨_, hide rfl⟩
  have C1 := hide (fun W => clamp_any q (-p1) p1 W)
  rw [hc1.out] at C1
  obtain ⟨c2, hc2⟩ : ∃ c, Hid (clamp q (-p2) p2 = c) := ⟨_, hide rfl⟩
  have C2 := hide (fun W => clamp_any q (-p2) p2 W)
  rw [hc2.out] at C2
  obtain ⟨c3, hc3⟩ : ∃ c, Hid (clamp q (-p3) p3 = c) := ⟨_, hide rfl⟩
  have C3 := hide (fun W => clamp_any q (-p3) p3 W)
  rw [hc3.out] at C3
  have EN : Hid (Ending.returned (wV (tw 4 p0 p1 p2 p3 t 0) (tw 4 p0 p1 p2 p3 t 1) (tw 4 p0 p1 p2 p3 t 2) (tw 4 p0 p1 p2 p3 t 3)) = .returned (wV c0 c1 (-p2) c3)) := hide (by
    have hl : lone 4 p0 p1 p2 p3 = (-p2) := by simp [lone, pk]
    have hr : rst 4 p0 p1 p2 p3 t = q := by unfold rst; rw [hl, hzz.out, hq.out]
    refine ret4 ?_ ?_ ?_ ?_
    · unfold tw; rw [if_neg (by decide), hr]; exact hc0.out
    · unfold tw; rw [if_neg (by decide), hr]; exact hc1.out
    · unfold tw; rw [if_pos (by decide), hl]
    · unfold tw; rw [if_neg (by decide), hr]; exact hc3.out
    )
  rw [EN.out]
  clear EN hc0 hc1 hc2 hc3 hq
  obtain ⟨W0, hW0, b0, P0, R0, hz0⟩ := two_boxes w (wC p0 p1 p2 p3) (wC 0 0 0 0) 57 57
  have Hb := hide b0
  have HR := hide R0
  have HP := hide P0
  obtain ⟨q0, q1, q2, q3⟩ := four_cells P0
  clear b0 R0 P0
  have hzz2 : 4 * t - (-p2) = z := hzz.out
  go_enter Try.func37, Try.ntmps37
  go_upto_region 6 with (go_at_call 40; go_simp; first | rw [hzz2] | skip; refine (OV.out _).mono ?_; rintro e w1 ⟨rfl, hw⟩; obtain rfl := hw.symm)
  clear hzz hzz2
  have HT := hide (Blk.new W0 (wC 0 0 0 0) 57)
  replace HP := hide (HP.out.alloc (.cells (wC 0 0 0 0) 57))
  replace HR := hide (HR.out.alloc (.cells (wC 0 0 0 0) 57))
  replace Hb := hide (Hb.out.alloc Hb.out.size (.cells (wC 0 0 0 0) 57))
  clear q0 q1 q2 q3
  go_upto_region 7 with fail
  rw [hz0] at HT
  clear hz0 hW0
  generalize W0.alloc (.cells (wC 0 0 0 0) 57) = W1 at *
  obtain ⟨q0, q1, q2, q3⟩ := four_cells HP.out
  go_wp2_with fail
  clear q0 q1 q2 q3
  go_loopw [29] (fun v wr => ∃ i : Nat, v = .int .i64 (i : Int) ∧ i ≤ 4 ∧ Blk wr (w.heap.size + 1) (wC 0 0 0 0) 57 ∧ Blk wr (w.heap.size + 2) (tyC c0 c1 c2 c3 i) 57 ∧ Below w.heap.size w wr) (fun v _ => 4 - (intOf v).toNat)
  case atStart => exact ⟨0, rfl, by omega, HR.out, HT.out, Hb.out⟩
  case round =>
    clear HT HR HP Hb
    obtain ⟨i, rfl, hi, hR, hT, hb⟩ := hrel
    have HT := hide hT
    have HR := hide hR
    have Hb := hide hb
    have hz := hT.lt
    clear hT hR hb
    obtain rfl | rfl | rfl | rfl | rfl : i = 0 ∨ i = 1 ∨ i = 2 ∨ i = 3 ∨ i = 4 := by omega
    · have IX := wi0
      have m0 := HT.out.cell 0 rfl
      have f0 := HT.out.frozen 0
      go_wp2_with (first | (go_at_call 31; refine (C0.out _).mono ?_; rintro e w2 ⟨rfl, hw⟩; obtain rfl := hw.symm))
      go_roundw
      case rel => exact ⟨1, by go_num, by omega, HR.out.setOther (by omega) _ _, blk_cells (HT.out.set 0 _) tyC_set0, below_set Hb.out _ _ _ (by omega) Hb.out.size⟩
      case measure => simp [intOf]
    · have IX := wi1
      have m0 := HT.out.cell 1 rfl
      have f0 := HT.out.frozen 1
      go_wp2_with (first | (go_at_call 31; refine (C1.out _).mono ?_; rintro e w2 ⟨rfl, hw⟩; obtain rfl := hw.symm))
      go_roundw
      case rel => exact ⟨2, by go_num, by omega, HR.out.setOther (by omega) _ _, blk_cells (HT.out.set 1 _) tyC_set1, below_set Hb.out _ _ _ (by omega) Hb.out.size⟩
      case measure => simp [intOf]
    · have IX := wi2
      have m0 := HT.out.cell 2 rfl
      have f0 := HT.out.frozen 2
      go_wp2_with (first | (go_at_call 31; refine (C2.out _).mono ?_; rintro e w2 ⟨rfl, hw⟩; obtain rfl := hw.symm))
      go_roundw
      case rel => exact ⟨3, by go_num, by omega, HR.out.setOther (by omega) _ _, blk_cells (HT.out.set 2 _) tyC_set2, below_set Hb.out _ _ _ (by omega) Hb.out.size⟩
      case measure => simp [intOf]
    · have IX := wi3
      have m0 := HT.out.cell 3 rfl
      have f0 := HT.out.frozen 3
      go_wp2_with (first | (go_at_call 31; refine (C3.out _).mono ?_; rintro e w2 ⟨rfl, hw⟩; obtain rfl := hw.symm))
      go_roundw
      case rel => exact ⟨4, by go_num, by omega, HR.out.setOther (by omega) _ _, blk_cells (HT.out.set 3 _) tyC_set3, below_set Hb.out _ _ _ (by omega) Hb.out.size⟩
      case measure => simp [intOf]
    · have m0 := HT.out.cell 2 rfl
      have f0 := HT.out.frozen 2
      go_upto_region 13 with fail
      have HT2 := hide (HT.out.set 2 (.int .i64 (-p2)))
      have HR2 := hide (HR.out.setOther (show w.heap.size + 1 ≠ w.heap.size + 2 by omega) 2 (.int .i64 (-p2)))
      have Hb2 := hide (below_set Hb.out (w.heap.size + 2) 2 (.int .i64 (-p2)) (by omega) Hb.out.size)
      clear m0 f0 HT HR Hb
      generalize wr.setCell ⟨w.heap.size + 2, 2, none⟩ (.int .i64 (-p2)) = W2 at *
      have HT3 : Hid (Blk W2 (w.heap.size + 2) (wC c0 c1 (-p2) c3) 57) := hide HT2.out
      obtain ⟨m0, m1, m2, m3⟩ := four_cells HT3.out
      obtain ⟨r0, r1, r2, r3⟩ := four_cells HR2.out
      obtain ⟨f0, f1, f2, f3⟩ := four_set HR2.out
      go_wp2_with fail
      exact bodyPost_ret (four_back (p := 6) (by kernel_rfl) _ _ (w.heap.size + 1) _ _ _ _ rfl (HR2.out.set4 _ _ _ _)) rfl ⟨rfl, below_set4 Hb2.out _ _ _ _ _ (by omega) Hb2.out.size⟩
set_option maxHeartbeats 2000000 in
theorem around_5 (p0 p1 p2 p3 t : Int) (w : World) (h0 : 0 ≤ p0 ∧ p0 ≤ 1000) (h1 : 0 ≤ p1 ∧ p1 ≤ 1000) (h2 : 0 ≤ p2 ∧ p2 ≤ 1000) (h3 : 0 ≤ p3 ∧ p3 ≤ 1000) (ht : -1000 ≤ t ∧ t ≤ 1000) : Calls Try.prog 37 #[.int .i64 5, wV p0 p1 p2 p3, .int .i64 t] w fun e w' => e = .returned (wV (tw 5 p0 p1 p2 p3 t 0) (tw 5 p0 p1 p2 p3 t 1) (tw 5 p0 p1 p2 p3 t 2) (tw 5 p0 p1 p2 p3 t 3)) ∧ Below w.heap.size w w' := by
  obtain ⟨z, hzz⟩ : ∃ z, Hid (4 * t - p2 = z) := ⟨_, hide rfl⟩
  have hz1 : I64 z := by have := hzz.out; unfold I64; omega
  have OV := hide (fun W => over_any z 3 W hz1 (by decide))
  obtain ⟨q, hq⟩ : ∃ q, Hid (z / 3 = q) := ⟨_, hide rfl⟩
  rw [hq.out] at OV
  clear hz1
  obtain ⟨c0, hc0⟩ : ∃ c, Hid (clamp q (-p0) p0 = c) := ⟨_, hide rfl⟩
  have C0 := hide (fun W => clamp_any q (-p0) p0 W)
  rw [hc0.out] at C0
  obtain ⟨c1, hc1⟩ : ∃ c, Hid (clamp q (-p1) p1 = c) := ⟨_, hide rfl⟩
  have C1 := hide (fun W => clamp_any q (-p1) p1 W)
  rw [hc1.out] at C1
  obtain ⟨c2, hc2⟩ : ∃ c, Hid (clamp q (-p2) p2 = c) := ⟨_, hide rfl⟩
  have C2 := hide (fun W => clamp_any q (-p2) p2 W)
  rw [hc2.out] at C2
  obtain ⟨c3, hc3⟩ : ∃ c, Hid (clamp q (-p3) p3 = c) := ⟨_, hide rfl⟩
  have C3 := hide (fun W => clamp_any q (-p3) p3 W)
  rw [hc3.out] at C3
  have EN : Hid (Ending.returned (wV (tw 5 p0 p1 p2 p3 t 0) (tw 5 p0 p1 p2 p3 t 1) (tw 5 p0 p1 p2 p3 t 2) (tw 5 p0 p1 p2 p3 t 3)) = .returned (wV c0 c1 p2 c3)) := hide (by
    have hl : lone 5 p0 p1 p2 p3 = p2 := by simp [lone, pk]
    have hr : rst 5 p0 p1 p2 p3 t = q := by unfold rst; rw [hl, hzz.out, hq.out]
    refine ret4 ?_ ?_ ?_ ?_
    · unfold tw; rw [if_neg (by decide), hr]; exact hc0.out
    · unfold tw; rw [if_neg (by decide), hr]; exact hc1.out
    · unfold tw; rw [if_pos (by decide), hl]
    · unfold tw; rw [if_neg (by decide), hr]; exact hc3.out
    )
  rw [EN.out]
  clear EN hc0 hc1 hc2 hc3 hq
  obtain ⟨W0, hW0, b0, P0, R0, hz0⟩ := two_boxes w (wC p0 p1 p2 p3) (wC 0 0 0 0) 57 57
  have Hb := hide b0
  have HR := hide R0
  have HP := hide P0
  obtain ⟨q0, q1, q2, q3⟩ := four_cells P0
  clear b0 R0 P0
  have hzz2 : 4 * t - p2 = z := hzz.out
  go_enter Try.func37, Try.ntmps37
  go_upto_region 6 with (go_at_call 40; go_simp; first | rw [hzz2] | skip; refine (OV.out _).mono ?_; rintro e w1 ⟨rfl, hw⟩; obtain rfl := hw.symm)
  clear hzz hzz2
  have HT := hide (Blk.new W0 (wC 0 0 0 0) 57)
  replace HP := hide (HP.out.alloc (.cells (wC 0 0 0 0) 57))
  replace HR := hide (HR.out.alloc (.cells (wC 0 0 0 0) 57))
  replace Hb := hide (Hb.out.alloc Hb.out.size (.cells (wC 0 0 0 0) 57))
  clear q0 q1 q2 q3
  go_upto_region 7 with fail
  rw [hz0] at HT
  clear hz0 hW0
  generalize W0.alloc (.cells (wC 0 0 0 0) 57) = W1 at *
  obtain ⟨q0, q1, q2, q3⟩ := four_cells HP.out
  go_wp2_with fail
  clear q0 q1 q2 q3
  go_loopw [29] (fun v wr => ∃ i : Nat, v = .int .i64 (i : Int) ∧ i ≤ 4 ∧ Blk wr (w.heap.size + 1) (wC 0 0 0 0) 57 ∧ Blk wr (w.heap.size + 2) (tyC c0 c1 c2 c3 i) 57 ∧ Below w.heap.size w wr) (fun v _ => 4 - (intOf v).toNat)
  case atStart => exact ⟨0, rfl, by omega, HR.out, HT.out, Hb.out⟩
  case round =>
    clear HT HR HP Hb
    obtain ⟨i, rfl, hi, hR, hT, hb⟩ := hrel
    have HT := hide hT
    have HR := hide hR
    have Hb := hide hb
    have hz := hT.lt
    clear hT hR hb
    obtain rfl | rfl | rfl | rfl | rfl : i = 0 ∨ i = 1 ∨ i = 2 ∨ i = 3 ∨ i = 4 := by omega
    · have IX := wi0
      have m0 := HT.out.cell 0 rfl
      have f0 := HT.out.frozen 0
      go_wp2_with (first | (go_at_call 31; refine (C0.out _).mono ?_; rintro e w2 ⟨rfl, hw⟩; obtain rfl := hw.symm))
      go_roundw
      case rel => exact ⟨1, by go_num, by omega, HR.out.setOther (by omega) _ _, blk_cells (HT.out.set 0 _) tyC_set0, below_set Hb.out _ _ _ (by omega) Hb.out.size⟩
      case measure => simp [intOf]
    · have IX := wi1
      have m0 := HT.out.cell 1 rfl
      have f0 := HT.out.frozen 1
      go_wp2_with (first | (go_at_call 31; refine (C1.out _).mono ?_; rintro e w2 ⟨rfl, hw⟩; obtain rfl := hw.symm))
      go_roundw
      case rel => exact ⟨2, by go_num, by omega, HR.out.setOther (by omega) _ _, blk_cells (HT.out.set 1 _) tyC_set1, below_set Hb.out _ _ _ (by omega) Hb.out.size⟩
      case measure => simp [intOf]
    · have IX := wi2
      have m0 := HT.out.cell 2 rfl
      have f0 := HT.out.frozen 2
      go_wp2_with (first | (go_at_call 31; refine (C2.out _).mono ?_; rintro e w2 ⟨rfl, hw⟩; obtain rfl := hw.symm))
      go_roundw
      case rel => exact ⟨3, by go_num, by omega, HR.out.setOther (by omega) _ _, blk_cells (HT.out.set 2 _) tyC_set2, below_set Hb.out _ _ _ (by omega) Hb.out.size⟩
      case measure => simp [intOf]
    · have IX := wi3
      have m0 := HT.out.cell 3 rfl
      have f0 := HT.out.frozen 3
      go_wp2_with (first | (go_at_call 31; refine (C3.out _).mono ?_; rintro e w2 ⟨rfl, hw⟩; obtain rfl := hw.symm))
      go_roundw
      case rel => exact ⟨4, by go_num, by omega, HR.out.setOther (by omega) _ _, blk_cells (HT.out.set 3 _) tyC_set3, below_set Hb.out _ _ _ (by omega) Hb.out.size⟩
      case measure => simp [intOf]
    · have m0 := HT.out.cell 2 rfl
      have f0 := HT.out.frozen 2
      go_upto_region 13 with fail
      have HT2 := hide (HT.out.set 2 (.int .i64 p2))
      have HR2 := hide (HR.out.setOther (show w.heap.size + 1 ≠ w.heap.size + 2 by omega) 2 (.int .i64 p2))
      have Hb2 := hide (below_set Hb.out (w.heap.size + 2) 2 (.int .i64 p2) (by omega) Hb.out.size)
      clear m0 f0 HT HR Hb
      generalize wr.setCell ⟨w.heap.size + 2, 2, none⟩ (.int .i64 p2) = W2 at *
      have HT3 : Hid (Blk W2 (w.heap.size + 2) (wC c0 c1 p2 c3) 57) := hide HT2.out
      obtain ⟨m0, m1, m2, m3⟩ := four_cells HT3.out
      obtain ⟨r0, r1, r2, r3⟩ := four_cells HR2.out
      obtain ⟨f0, f1, f2, f3⟩ := four_set HR2.out
      go_wp2_with fail
      exact bodyPost_ret (four_back (p := 6) (by kernel_rfl) _ _ (w.heap.size + 1) _ _ _ _ rfl (HR2.out.set4 _ _ _ _)) rfl ⟨rfl, below_set4 Hb2.out _ _ _ _ _ (by omega) Hb2.out.size⟩
set_option maxHeartbeats 2000000 in
theorem around_6 (p0 p1 p2 p3 t : Int) (w : World) (h0 : 0 ≤ p0 ∧ p0 ≤ 1000) (h1 : 0 ≤ p1 ∧ p1 ≤ 1000) (h2 : 0 ≤ p2 ∧ p2 ≤ 1000) (h3 : 0 ≤ p3 ∧ p3 ≤ 1000) (ht : -1000 ≤ t ∧ t ≤ 1000) : Calls Try.prog 37 #[.int .i64 6, wV p0 p1 p2 p3, .int .i64 t] w fun e w' => e = .returned (wV (tw 6 p0 p1 p2 p3 t 0) (tw 6 p0 p1 p2 p3 t 1) (tw 6 p0 p1 p2 p3 t 2) (tw 6 p0 p1 p2 p3 t 3)) ∧ Below w.heap.size w w' := by
  obtain ⟨z, hzz⟩ : ∃ z, Hid (4 * t - (-p3) = z) := ⟨_, hide rfl⟩
  have hz1 : I64 z := by have := hzz.out; unfold I64; omega
  have OV := hide (fun W => over_any z 3 W hz1 (by decide))
  obtain ⟨q, hq⟩ : ∃ q, Hid (z / 3 = q) := ⟨_, hide rfl⟩
  rw [hq.out] at OV
  clear hz1
  obtain ⟨c0, hc0⟩ : ∃ c, Hid (clamp q (-p0) p0 = c) := ⟨_, hide rfl⟩
  have C0 := hide (fun W => clamp_any q (-p0) p0 W)
  rw [hc0.out] at C0
  obtain ⟨c1, hc1⟩ : ∃ c, Hid (clamp q (-p1) p1 = c) := ⟨_, hide rfl⟩
  have C1 := hide (fun W => clamp_any q (-p1) p1 W)
  rw [hc1.out] at C1
  obtain ⟨c2, hc2⟩ : ∃ c, Hid (clamp q (-p2) p2 = c) := ⟨_, hide rfl⟩
  have C2 := hide (fun W => clamp_any q (-p2) p2 W)
  rw [hc2.out] at C2
  obtain ⟨c3, hc3⟩ : ∃ c, Hid (clamp q (-p3) p3 = c) := ⟨_, hide rfl⟩
  have C3 := hide (fun W => clamp_any q (-p3) p3 W)
  rw [hc3.out] at C3
  have EN : Hid (Ending.returned (wV (tw 6 p0 p1 p2 p3 t 0) (tw 6 p0 p1 p2 p3 t 1) (tw 6 p0 p1 p2 p3 t 2) (tw 6 p0 p1 p2 p3 t 3)) = .returned (wV c0 c1 c2 (-p3))) := hide (by
    have hl : lone 6 p0 p1 p2 p3 = (-p3) := by simp [lone, pk]
    have hr : rst 6 p0 p1 p2 p3 t = q := by unfold rst; rw [hl, hzz.out, hq.out]
    refine ret4 ?_ ?_ ?_ ?_
    · unfold tw; rw [if_neg (by decide), hr]; exact hc0.out
    · unfold tw; rw [if_neg (by decide), hr]; exact hc1.out
    · unfold tw; rw [if_neg (by decide), hr]; exact hc2.out
    · unfold tw; rw [if_pos (by decide), hl]
    )
  rw [EN.out]
  clear EN hc0 hc1 hc2 hc3 hq
  obtain ⟨W0, hW0, b0, P0, R0, hz0⟩ := two_boxes w (wC p0 p1 p2 p3) (wC 0 0 0 0) 57 57
  have Hb := hide b0
  have HR := hide R0
  have HP := hide P0
  obtain ⟨q0, q1, q2, q3⟩ := four_cells P0
  clear b0 R0 P0
  have hzz2 : 4 * t - (-p3) = z := hzz.out
  go_enter Try.func37, Try.ntmps37
  go_upto_region 6 with (go_at_call 40; go_simp; first | rw [hzz2] | skip; refine (OV.out _).mono ?_; rintro e w1 ⟨rfl, hw⟩; obtain rfl := hw.symm)
  clear hzz hzz2
  have HT := hide (Blk.new W0 (wC 0 0 0 0) 57)
  replace HP := hide (HP.out.alloc (.cells (wC 0 0 0 0) 57))
  replace HR := hide (HR.out.alloc (.cells (wC 0 0 0 0) 57))
  replace Hb := hide (Hb.out.alloc Hb.out.size (.cells (wC 0 0 0 0) 57))
  clear q0 q1 q2 q3
  go_upto_region 7 with fail
  rw [hz0] at HT
  clear hz0 hW0
  generalize W0.alloc (.cells (wC 0 0 0 0) 57) = W1 at *
  obtain ⟨q0, q1, q2, q3⟩ := four_cells HP.out
  go_wp2_with fail
  clear q0 q1 q2 q3
  go_loopw [29] (fun v wr => ∃ i : Nat, v = .int .i64 (i : Int) ∧ i ≤ 4 ∧ Blk wr (w.heap.size + 1) (wC 0 0 0 0) 57 ∧ Blk wr (w.heap.size + 2) (tyC c0 c1 c2 c3 i) 57 ∧ Below w.heap.size w wr) (fun v _ => 4 - (intOf v).toNat)
  case atStart => exact ⟨0, rfl, by omega, HR.out, HT.out, Hb.out⟩
  case round =>
    clear HT HR HP Hb
    obtain ⟨i, rfl, hi, hR, hT, hb⟩ := hrel
    have HT := hide hT
    have HR := hide hR
    have Hb := hide hb
    have hz := hT.lt
    clear hT hR hb
    obtain rfl | rfl | rfl | rfl | rfl : i = 0 ∨ i = 1 ∨ i = 2 ∨ i = 3 ∨ i = 4 := by omega
    · have IX := wi0
      have m0 := HT.out.cell 0 rfl
      have f0 := HT.out.frozen 0
      go_wp2_with (first | (go_at_call 31; refine (C0.out _).mono ?_; rintro e w2 ⟨rfl, hw⟩; obtain rfl := hw.symm))
      go_roundw
      case rel => exact ⟨1, by go_num, by omega, HR.out.setOther (by omega) _ _, blk_cells (HT.out.set 0 _) tyC_set0, below_set Hb.out _ _ _ (by omega) Hb.out.size⟩
      case measure => simp [intOf]
    · have IX := wi1
      have m0 := HT.out.cell 1 rfl
      have f0 := HT.out.frozen 1
      go_wp2_with (first | (go_at_call 31; refine (C1.out _).mono ?_; rintro e w2 ⟨rfl, hw⟩; obtain rfl := hw.symm))
      go_roundw
      case rel => exact ⟨2, by go_num, by omega, HR.out.setOther (by omega) _ _, blk_cells (HT.out.set 1 _) tyC_set1, below_set Hb.out _ _ _ (by omega) Hb.out.size⟩
      case measure => simp [intOf]
    · have IX := wi2
      have m0 := HT.out.cell 2 rfl
      have f0 := HT.out.frozen 2
      go_wp2_with (first | (go_at_call 31; refine (C2.out _).mono ?_; rintro e w2 ⟨rfl, hw⟩; obtain rfl := hw.symm))
      go_roundw
      case rel => exact ⟨3, by go_num, by omega, HR.out.setOther (by omega) _ _, blk_cells (HT.out.set 2 _) tyC_set2, below_set Hb.out _ _ _ (by omega) Hb.out.size⟩
      case measure => simp [intOf]
    · have IX := wi3
      have m0 := HT.out.cell 3 rfl
      have f0 := HT.out.frozen 3
      go_wp2_with (first | (go_at_call 31; refine (C3.out _).mono ?_; rintro e w2 ⟨rfl, hw⟩; obtain rfl := hw.symm))
      go_roundw
      case rel => exact ⟨4, by go_num, by omega, HR.out.setOther (by omega) _ _, blk_cells (HT.out.set 3 _) tyC_set3, below_set Hb.out _ _ _ (by omega) Hb.out.size⟩
      case measure => simp [intOf]
    · have m0 := HT.out.cell 3 rfl
      have f0 := HT.out.frozen 3
      go_upto_region 13 with fail
      have HT2 := hide (HT.out.set 3 (.int .i64 (-p3)))
      have HR2 := hide (HR.out.setOther (show w.heap.size + 1 ≠ w.heap.size + 2 by omega) 3 (.int .i64 (-p3)))
      have Hb2 := hide (below_set Hb.out (w.heap.size + 2) 3 (.int .i64 (-p3)) (by omega) Hb.out.size)
      clear m0 f0 HT HR Hb
      generalize wr.setCell ⟨w.heap.size + 2, 3, none⟩ (.int .i64 (-p3)) = W2 at *
      have HT3 : Hid (Blk W2 (w.heap.size + 2) (wC c0 c1 c2 (-p3)) 57) := hide HT2.out
      obtain ⟨m0, m1, m2, m3⟩ := four_cells HT3.out
      obtain ⟨r0, r1, r2, r3⟩ := four_cells HR2.out
      obtain ⟨f0, f1, f2, f3⟩ := four_set HR2.out
      go_wp2_with fail
      exact bodyPost_ret (four_back (p := 6) (by kernel_rfl) _ _ (w.heap.size + 1) _ _ _ _ rfl (HR2.out.set4 _ _ _ _)) rfl ⟨rfl, below_set4 Hb2.out _ _ _ _ _ (by omega) Hb2.out.size⟩
set_option maxHeartbeats 2000000 in
theorem around_7 (p0 p1 p2 p3 t : Int) (w : World) (h0 : 0 ≤ p0 ∧ p0 ≤ 1000) (h1 : 0 ≤ p1 ∧ p1 ≤ 1000) (h2 : 0 ≤ p2 ∧ p2 ≤ 1000) (h3 : 0 ≤ p3 ∧ p3 ≤ 1000) (ht : -1000 ≤ t ∧ t ≤ 1000) : Calls Try.prog 37 #[.int .i64 7, wV p0 p1 p2 p3, .int .i64 t] w fun e w' => e = .returned (wV (tw 7 p0 p1 p2 p3 t 0) (tw 7 p0 p1 p2 p3 t 1) (tw 7 p0 p1 p2 p3 t 2) (tw 7 p0 p1 p2 p3 t 3)) ∧ Below w.heap.size w w' := by
  obtain ⟨z, hzz⟩ : ∃ z, Hid (4 * t - p3 = z) := ⟨_, hide rfl⟩
  have hz1 : I64 z := by have := hzz.out; unfold I64; omega
  have OV := hide (fun W => over_any z 3 W hz1 (by decide))
  obtain ⟨q, hq⟩ : ∃ q, Hid (z / 3 = q) := ⟨_, hide rfl⟩
  rw [hq.out] at OV
  clear hz1
  obtain ⟨c0, hc0⟩ : ∃ c, Hid (clamp q (-p0) p0 = c) := ⟨_, hide rfl⟩
  have C0 := hide (fun W => clamp_any q (-p0) p0 W)
  rw [hc0.out] at C0
  obtain ⟨c1, hc1⟩ : ∃ c, Hid (clamp q (-p1) p1 = c) := ⟨_, hide rfl⟩
  have C1 := hide (fun W => clamp_any q (-p1) p1 W)
  rw [hc1.out] at C1
  obtain ⟨c2, hc2⟩ : ∃ c, Hid (clamp q (-p2) p2 = c) := ⟨_, hide rfl⟩
  have C2 := hide (fun W => clamp_any q (-p2) p2 W)
  rw [hc2.out] at C2
  obtain ⟨c3, hc3⟩ : ∃ c, Hid (clamp q (-p3) p3 = c) := ⟨_, hide rfl⟩
  have C3 := hide (fun W => clamp_any q (-p3) p3 W)
  rw [hc3.out] at C3
  have EN : Hid (Ending.returned (wV (tw 7 p0 p1 p2 p3 t 0) (tw 7 p0 p1 p2 p3 t 1) (tw 7 p0 p1 p2 p3 t 2) (tw 7 p0 p1 p2 p3 t 3)) = .returned (wV c0 c1 c2 p3)) := hide (by
    have hl : lone 7 p0 p1 p2 p3 = p3 := by simp [lone, pk]
    have hr : rst 7 p0 p1 p2 p3 t = q := by unfold rst; rw [hl, hzz.out, hq.out]
    refine ret4 ?_ ?_ ?_ ?_
    · unfold tw; rw [if_neg (by decide), hr]; exact hc0.out
    · unfold tw; rw [if_neg (by decide), hr]; exact hc1.out
    · unfold tw; rw [if_neg (by decide), hr]; exact hc2.out
    · unfold tw; rw [if_pos (by decide), hl]
    )
  rw [EN.out]
  clear EN hc0 hc1 hc2 hc3 hq
  obtain ⟨W0, hW0, b0, P0, R0, hz0⟩ := two_boxes w (wC p0 p1 p2 p3) (wC 0 0 0 0) 57 57
  have Hb := hide b0
  have HR := hide R0
  have HP := hide P0
  obtain ⟨q0, q1, q2, q3⟩ := four_cells P0
  clear b0 R0 P0
  have hzz2 : 4 * t - p3 = z := hzz.out
  go_enter Try.func37, Try.ntmps37
  go_upto_region 6 with (go_at_call 40; go_simp; first | rw [hzz2] | skip; refine (OV.out _).mono ?_; rintro e w1 ⟨rfl, hw⟩; obtain rfl := hw.symm)
  clear hzz hzz2
  have HT := hide (Blk.new W0 (wC 0 0 0 0) 57)
  replace HP := hide (HP.out.alloc (.cells (wC 0 0 0 0) 57))
  replace HR := hide (HR.out.alloc (.cells (wC 0 0 0 0) 57))
  replace Hb := hide (Hb.out.alloc Hb.out.size (.cells (wC 0 0 0 0) 57))
  clear q0 q1 q2 q3
  go_upto_region 7 with fail
  rw [hz0] at HT
  clear hz0 hW0
  generalize W0.alloc (.cells (wC 0 0 0 0) 57) = W1 at *
  obtain ⟨q0, q1, q2, q3⟩ := four_cells HP.out
  go_wp2_with fail
  clear q0 q1 q2 q3
  go_loopw [29] (fun v wr => ∃ i : Nat, v = .int .i64 (i : Int) ∧ i ≤ 4 ∧ Blk wr (w.heap.size + 1) (wC 0 0 0 0) 57 ∧ Blk wr (w.heap.size + 2) (tyC c0 c1 c2 c3 i) 57 ∧ Below w.heap.size w wr) (fun v _ => 4 - (intOf v).toNat)
  case atStart => exact ⟨0, rfl, by omega, HR.out, HT.out, Hb.out⟩
  case round =>
    clear HT HR HP Hb
    obtain ⟨i, rfl, hi, hR, hT, hb⟩ := hrel
    have HT := hide hT
    have HR := hide hR
    have Hb := hide hb
    have hz := hT.lt
    clear hT hR hb
    obtain rfl | rfl | rfl | rfl | rfl : i = 0 ∨ i = 1 ∨ i = 2 ∨ i = 3 ∨ i = 4 := by omega
    · have IX := wi0
      have m0 := HT.out.cell 0 rfl
      have f0 := HT.out.frozen 0
      go_wp2_with (first | (go_at_call 31; refine (C0.out _).mono ?_; rintro e w2 ⟨rfl, hw⟩; obtain rfl := hw.symm))
      go_roundw
      case rel => exact ⟨1, by go_num, by omega, HR.out.setOther (by omega) _ _, blk_cells (HT.out.set 0 _) tyC_set0, below_set Hb.out _ _ _ (by omega) Hb.out.size⟩
      case measure => simp [intOf]
    · have IX := wi1
      have m0 := HT.out.cell 1 rfl
      have f0 := HT.out.frozen 1
      go_wp2_with (first | (go_at_call 31; refine (C1.out _).mono ?_; rintro e w2 ⟨rfl, hw⟩; obtain rfl := hw.symm))
      go_roundw
      case rel => exact ⟨2, by go_num, by omega, HR.out.setOther (by omega) _ _, blk_cells (HT.out.set 1 _) tyC_set1, below_set Hb.out _ _ _ (by omega) Hb.out.size⟩
      case measure => simp [intOf]
    · have IX := wi2
      have m0 := HT.out.cell 2 rfl
      have f0 := HT.out.frozen 2
      go_wp2_with (first | (go_at_call 31; refine (C2.out _).mono ?_; rintro e w2 ⟨rfl, hw⟩; obtain rfl := hw.symm))
      go_roundw
      case rel => exact ⟨3, by go_num, by omega, HR.out.setOther (by omega) _ _, blk_cells (HT.out.set 2 _) tyC_set2, below_set Hb.out _ _ _ (by omega) Hb.out.size⟩
      case measure => simp [intOf]
    · have IX := wi3
      have m0 := HT.out.cell 3 rfl
      have f0 := HT.out.frozen 3
      go_wp2_with (first | (go_at_call 31; refine (C3.out _).mono ?_; rintro e w2 ⟨rfl, hw⟩; obtain rfl := hw.symm))
      go_roundw
      case rel => exact ⟨4, by go_num, by omega, HR.out.setOther (by omega) _ _, blk_cells (HT.out.set 3 _) tyC_set3, below_set Hb.out _ _ _ (by omega) Hb.out.size⟩
      case measure => simp [intOf]
    · have m0 := HT.out.cell 3 rfl
      have f0 := HT.out.frozen 3
      go_upto_region 13 with fail
      have HT2 := hide (HT.out.set 3 (.int .i64 p3))
      have HR2 := hide (HR.out.setOther (show w.heap.size + 1 ≠ w.heap.size + 2 by omega) 3 (.int .i64 p3))
      have Hb2 := hide (below_set Hb.out (w.heap.size + 2) 3 (.int .i64 p3) (by omega) Hb.out.size)
      clear m0 f0 HT HR Hb
      generalize wr.setCell ⟨w.heap.size + 2, 3, none⟩ (.int .i64 p3) = W2 at *
      have HT3 : Hid (Blk W2 (w.heap.size + 2) (wC c0 c1 c2 p3) 57) := hide HT2.out
      obtain ⟨m0, m1, m2, m3⟩ := four_cells HT3.out
      obtain ⟨r0, r1, r2, r3⟩ := four_cells HR2.out
      obtain ⟨f0, f1, f2, f3⟩ := four_set HR2.out
      go_wp2_with fail
      exact bodyPost_ret (four_back (p := 6) (by kernel_rfl) _ _ (w.heap.size + 1) _ _ _ _ rfl (HR2.out.set4 _ _ _ _)) rfl ⟨rfl, below_set4 Hb2.out _ _ _ _ _ (by omega) Hb2.out.size⟩
theorem around_any (d p0 p1 p2 p3 t : Int) (w : World) (hd : 0 ≤ d ∧ d ≤ 7) (h0 : 0 ≤ p0 ∧ p0 ≤ 1000) (h1 : 0 ≤ p1 ∧ p1 ≤ 1000) (h2 : 0 ≤ p2 ∧ p2 ≤ 1000) (h3 : 0 ≤ p3 ∧ p3 ≤ 1000) (ht : -1000 ≤ t ∧ t ≤ 1000) : Calls Try.prog 37 #[.int .i64 d, wV p0 p1 p2 p3, .int .i64 t] w fun e w' => e = .returned (wV (tw d p0 p1 p2 p3 t 0) (tw d p0 p1 p2 p3 t 1) (tw d p0 p1 p2 p3 t 2) (tw d p0 p1 p2 p3 t 3)) ∧ Below w.heap.size w w' := by
  obtain rfl | rfl | rfl | rfl | rfl | rfl | rfl | rfl : d = 0 ∨ d = 1 ∨ d = 2 ∨ d = 3 ∨ d = 4 ∨ d = 5 ∨ d = 6 ∨ d = 7 := by omega
  · exact around_0 p0 p1 p2 p3 t w h0 h1 h2 h3 ht
  · exact around_1 p0 p1 p2 p3 t w h0 h1 h2 h3 ht
  · exact around_2 p0 p1 p2 p3 t w h0 h1 h2 h3 ht
  · exact around_3 p0 p1 p2 p3 t w h0 h1 h2 h3 ht
  · exact around_4 p0 p1 p2 p3 t w h0 h1 h2 h3 ht
  · exact around_5 p0 p1 p2 p3 t w h0 h1 h2 h3 ht
  · exact around_6 p0 p1 p2 p3 t w h0 h1 h2 h3 ht
  · exact around_7 p0 p1 p2 p3 t w h0 h1 h2 h3 ht
end Go.Proofs.Ytpoodmfhcoaleaa
