/- The document's world, walked: Step. -/
import Derived.Test.YtpoodmfhcoaleaaWd5
namespace Go.Proofs.Ytpoodmfhcoaleaa
open Go.RowKit Go.Great

/-- places and velocities of the first i axes are new -/
def nA (p0 p1 p2 v0 v1 v2 q0 q1 q2 V0 V1 V2 h r c : Int) : Nat → Array Value
  | 0 => woC p0 p1 p2 v0 v1 v2 h r c
  | 1 => woC q0 p1 p2 V0 v1 v2 h r c
  | 2 => woC q0 q1 p2 V0 V1 v2 h r c
  | _ => woC q0 q1 q2 V0 V1 V2 h r c
theorem turn_sum {h r x y : Int} (hx : h.tmod 1048576 = x) (hy : r.tmod 1048576 = y) : (-1048576 < x ∧ x < 1048576) ∧ (-1048576 < y ∧ y < 1048576) ∧ (x + y + 2097152).tmod 1048576 = (h + r) % 1048576 ∧ (x + y + 2097152) % 1048576 = (h + r) % 1048576 := by
  have h1 := Int.mul_tdiv_add_tmod h 1048576
  have h2 := Int.mul_tdiv_add_tmod r 1048576
  have a1 := Int.tmod_lt_of_pos h (show (0 : Int) < 1048576 by omega)
  have a2 := Int.tmod_lt_of_pos (-h) (show (0 : Int) < 1048576 by omega)
  have b1 := Int.tmod_lt_of_pos r (show (0 : Int) < 1048576 by omega)
  have b2 := Int.tmod_lt_of_pos (-r) (show (0 : Int) < 1048576 by omega)
  rw [Int.neg_tmod] at a2 b2
  rw [hx] at h1 a1 a2
  rw [hy] at h2 b1 b2
  have e : (x + y + 2097152).tmod 1048576 = (x + y + 2097152) % 1048576 := Int.tmod_eq_emod_of_nonneg (by omega)
  refine ⟨by omega, by omega, ?_, ?_⟩
  · rw [e]; omega
  · omega
theorem rstep_bad (o : Wo) (d a b c dr : Int) (m0 m1 m2 m3 m4 m5 m6 m7 : Int) (w : World) (hd : d < 0 ∨ 8 < d) : Calls Try.prog 8 #[woV o, eV m0 m1 m2 m3 m4 m5 m6 m7, .int .i64 d, tV a b c, .int .i64 dr] w fun e w' => e = .returned (.tuple #[woV ⟨0, 0, 0, 0, 0, 0, 0, 0, 0⟩, .int .i64 1]) ∧ Below w.heap.size w w' := by
  obtain ⟨p0, p1, p2, v0, v1, v2, h, r, ch⟩ := o
  obtain ⟨W0, hW0, b0, HA, HM, HI, HR, hz0⟩ := four_boxesM w (woC p0 p1 p2 v0 v1 v2 h r ch) (eC m0 m1 m2 m3 m4 m5 m6 m7) (tC a b c) (woC 0 0 0 0 0 0 0 0 0) 24 26 22 24
  obtain ⟨f0, f1, f2, f3, f4, f5, f6, f7, f8⟩ := nine_froz HR
  obtain ⟨g0, g1, g2, g3, g4, g5, g6, g7, g8⟩ := nine_cells HR
  have HR := hide HR
  have Hb := hide b0
  clear b0 HA HM HI
  by_cases h0 : d < 0
  · clear hd
    go_enter Try.func8, Try.ntmps8
    go_wp2_with fail
    exact bodyPost_ret (wo_back2 (p := 10) (u := 11) (by kernel_rfl) _ _ (w.heap.size + 1 + 1 + 1) _ _ _ _ _ _ _ _ _ _ rfl rfl (HR.out.set9 _ _ _ _ _ _ _ _ _)) rfl ⟨rfl, below_set9 Hb.out _ _ _ _ _ _ _ _ _ _ (by omega) Hb.out.size⟩
  · have h8 : 8 < d := by omega
    clear hd
    go_enter Try.func8, Try.ntmps8
    go_wp2_with fail
    exact bodyPost_ret (wo_back2 (p := 10) (u := 11) (by kernel_rfl) _ _ (w.heap.size + 1 + 1 + 1) _ _ _ _ _ _ _ _ _ _ rfl rfl (HR.out.set9 _ _ _ _ _ _ _ _ _)) rfl ⟨rfl, below_set9 Hb.out _ _ _ _ _ _ _ _ _ _ (by omega) Hb.out.size⟩
set_option maxHeartbeats 8000000 in
set_option maxRecDepth 100000 in
theorem rstep_any (o : Wo) (d a b c dr l x y t : Int) (m0 m1 m2 m3 m4 m5 m6 m7 : Int) (w : World) (ho : WOk o) (hd : 0 ≤ d ∧ d ≤ 8) (ha : I64 a) (hb : I64 b) (hc : I64 c) (hdr : I64 dr) (hW : wkV (clamp (kil d 1 m0) 0 600) (clamp (kil d 2 m1) 0 600) (clamp (kil d 3 m2) 0 600) (clamp (kil d 4 m3) 0 600) (clamp (kil d 5 m4) 0 600) (clamp (kil d 6 m5) 0 600) (clamp (kil d 7 m6) 0 600) (clamp (kil d 8 m7) 0 600) = wV l x y t) : Calls Try.prog 8 #[woV o, eV m0 m1 m2 m3 m4 m5 m6 m7, .int .i64 d, tV a b c, .int .i64 dr] w fun e w' => e = .returned (.tuple #[woV (stepS o l x y t a b c dr), .int .i64 0]) ∧ Below w.heap.size w w' := by
  obtain ⟨il, ix, iy, it⟩ := wk_in hW (clamp_in (by decide)) (clamp_in (by decide)) (clamp_in (by decide)) (clamp_in (by decide)) (clamp_in (by decide)) (clamp_in (by decide)) (clamp_in (by decide)) (clamp_in (by decide))
  have WK := hide (fun W => rwork_any (kil d 1 m0) (kil d 2 m1) (kil d 3 m2) (kil d 4 m3) (kil d 5 m4) (kil d 6 m5) (kil d 7 m6) (kil d 8 m7) W)
  rw [hW] at WK
  obtain ⟨k0, e0⟩ : ∃ k, Hid (kil d 1 m0 = k) := ⟨_, hide rfl⟩
  obtain ⟨k1, e1⟩ : ∃ k, Hid (kil d 2 m1 = k) := ⟨_, hide rfl⟩
  obtain ⟨k2, e2⟩ : ∃ k, Hid (kil d 3 m2 = k) := ⟨_, hide rfl⟩
  obtain ⟨k3, e3⟩ : ∃ k, Hid (kil d 4 m3 = k) := ⟨_, hide rfl⟩
  obtain ⟨k4, e4⟩ : ∃ k, Hid (kil d 5 m4 = k) := ⟨_, hide rfl⟩
  obtain ⟨k5, e5⟩ : ∃ k, Hid (kil d 6 m5 = k) := ⟨_, hide rfl⟩
  obtain ⟨k6, e6⟩ : ∃ k, Hid (kil d 7 m6 = k) := ⟨_, hide rfl⟩
  obtain ⟨k7, e7⟩ : ∃ k, Hid (kil d 8 m7 = k) := ⟨_, hide rfl⟩
  rw [e0.out, e1.out, e2.out, e3.out, e4.out, e5.out, e6.out, e7.out] at WK
  obtain ⟨p0, p1, p2, v0, v1, v2, h, r, ch⟩ := o
  obtain ⟨i0, i1, i2, i3, i4, i5, i6, i7, i8⟩ := ho
  simp only [] at i0 i1 i2 i3 i4 i5 i6 i7 i8
  have A1 := hide (fun W => ref_add_any v0 x W i3 ix)
  have A2 := hide (fun W => ref_add_any (sat (v0 + x)) a W (sat_any _) ha)
  have B1 := hide (fun W => ref_add_any v1 y W i4 iy)
  have B2 := hide (fun W => ref_add_any (sat (v1 + y)) b W (sat_any _) hb)
  have C1 := hide (fun W => ref_add_any v2 l W i5 il)
  have C2 := hide (fun W => ref_add_any (sat (v2 + l)) c W (sat_any _) hc)
  have C3 := hide (fun W => ref_sub_any (gov v2 l c) 392 W (sat_any _) (i64_of (by decide)))
  have P0 := hide (fun W => ref_add_any p0 (gov v0 x a) W i0 (sat_any _))
  have P1 := hide (fun W => ref_add_any p1 (gov v1 y b) W i1 (sat_any _))
  have P2 := hide (fun W => ref_add_any p2 (goz v2 l c) W i2 (sat_any _))
  have RR := hide (fun W => ref_add_any r t W i7 it)
  have SB := hide (fun W => ref_sub_any ch dr W i8 hdr)
  rw [show sat (sat (v0 + x) + a) = gov v0 x a from rfl] at A2
  rw [show sat (sat (v1 + y) + b) = gov v1 y b from rfl] at B2
  rw [show sat (sat (v2 + l) + c) = gov v2 l c from rfl] at C2
  rw [show sat (gov v2 l c - 392) = goz v2 l c from rfl] at C3
  unfold stepS flyS
  simp only []
  generalize sat (p0 + gov v0 x a) = q0 at *
  generalize sat (p1 + gov v1 y b) = q1 at *
  generalize sat (p2 + goz v2 l c) = q2 at *
  generalize sat (r + t) = q7 at *
  generalize gov v0 x a = V0 at *
  generalize gov v1 y b = V1 at *
  generalize goz v2 l c = V2 at *
  generalize gov v2 l c = U2 at *
  generalize sat (v0 + x) = s0 at *
  generalize sat (v1 + y) = s1 at *
  generalize sat (v2 + l) = s2 at *
  generalize sat (ch - dr) = cc at *
  obtain ⟨Z, hZ⟩ : ∃ Z : Wo, Hid ((if q2 ≤ 0 then (⟨p0, p1, 0, 0, 0, 0, h % 1048576, 0, cc⟩ : Wo) else ⟨q0, q1, q2, V0, V1, V2, (h + q7) % 1048576, q7, cc⟩) = Z) := ⟨_, hide rfl⟩
  rw [hZ.out]
  clear i0 i1 i2 i3 i4 i5 i6 i7 i8 il ix iy it ha hb hc hdr hW
  obtain ⟨W0, hW0, b0, A0, M0, I0, R0, hz0⟩ := four_boxesM w (woC p0 p1 p2 v0 v1 v2 h r ch) (eC m0 m1 m2 m3 m4 m5 m6 m7) (tC a b c) (woC 0 0 0 0 0 0 0 0 0) 24 26 22 24
  obtain ⟨a0, a1, a2, a3, a4, a5, a6, a7⟩ := eight_cells M0
  have HA := hide A0
  have HI := hide I0
  have HR := hide R0
  have Hb := hide b0
  clear b0 A0 M0 I0 R0
  have d0 : ¬ d < 0 := by omega
  have d8 : ¬ 8 < d := by omega
  go_enter Try.func8, Try.ntmps8
  go_upto_region 4 with fail
  have HM := hide (Blk.new W0 (eC m0 m1 m2 m3 m4 m5 m6 m7) 26)
  rw [hz0] at HM
  replace HA := hide (HA.out.alloc (.cells (eC m0 m1 m2 m3 m4 m5 m6 m7) 26))
  replace HI := hide (HI.out.alloc (.cells (eC m0 m1 m2 m3 m4 m5 m6 m7) 26))
  replace HR := hide (HR.out.alloc (.cells (eC m0 m1 m2 m3 m4 m5 m6 m7) 26))
  replace Hb := hide (below_next Hb.out (Nat.le_refl _) (below_alloc W0 (.cells (eC m0 m1 m2 m3 m4 m5 m6 m7) 26)))
  clear a0 a1 a2 a3 a4 a5 a6 a7 hW0
  try rw [hz0]
  generalize W0.alloc (.cells (eC m0 m1 m2 m3 m4 m5 m6 m7) 26) = W1 at *
  clear hz0
  go_upto_if 26 with fail
  go_cut [] (fun wx => Blk wx w.heap.size (woC p0 p1 p2 v0 v1 v2 h r ch) 24 ∧ Blk wx (w.heap.size + 4) (eC k0 k1 k2 k3 k4 k5 k6 k7) 26 ∧ Blk wx (w.heap.size + 1 + 1) (tC a b c) 22 ∧ Blk wx (w.heap.size + 1 + 1 + 1) (woC 0 0 0 0 0 0 0 0 0) 24 ∧ Below w.heap.size w wx)
  case first =>
    clear WK A1 A2 B1 B2 C1 C2 C3 P0 P1 P2 RR SB hZ
    obtain rfl | rfl | rfl | rfl | rfl | rfl | rfl | rfl | rfl : d = 0 ∨ d = 1 ∨ d = 2 ∨ d = 3 ∨ d = 4 ∨ d = 5 ∨ d = 6 ∨ d = 7 ∨ d = 8 := by omega
    · have hk : m0 = k0 ∧ m1 = k1 ∧ m2 = k2 ∧ m3 = k3 ∧ m4 = k4 ∧ m5 = k5 ∧ m6 = k6 ∧ m7 = k7 := ⟨e0.out, e1.out, e2.out, e3.out, e4.out, e5.out, e6.out, e7.out⟩
      obtain ⟨rfl, rfl, rfl, rfl, rfl, rfl, rfl, rfl⟩ := hk
      go_wp2_with fail
      go_meet
      exact ⟨HA.out, HM.out, HI.out, HR.out, Hb.out⟩
    · have hk : 0 = k0 ∧ m1 = k1 ∧ m2 = k2 ∧ m3 = k3 ∧ m4 = k4 ∧ m5 = k5 ∧ m6 = k6 ∧ m7 = k7 := ⟨e0.out, e1.out, e2.out, e3.out, e4.out, e5.out, e6.out, e7.out⟩
      obtain ⟨rfl, rfl, rfl, rfl, rfl, rfl, rfl, rfl⟩ := hk
      have c0 := HM.out.cell 0 rfl
      have f0 := HM.out.frozen 0
      go_wp2_with fail
      go_meet
      exact ⟨HA.out.setOther (by omega) _ _, HM.out.set 0 _, HI.out.setOther (by omega) _ _, HR.out.setOther (by omega) _ _, below_set Hb.out _ _ _ (by omega) Hb.out.size⟩
    · have hk : m0 = k0 ∧ 0 = k1 ∧ m2 = k2 ∧ m3 = k3 ∧ m4 = k4 ∧ m5 = k5 ∧ m6 = k6 ∧ m7 = k7 := ⟨e0.out, e1.out, e2.out, e3.out, e4.out, e5.out, e6.out, e7.out⟩
      obtain ⟨rfl, rfl, rfl, rfl, rfl, rfl, rfl, rfl⟩ := hk
      have c0 := HM.out.cell 1 rfl
      have f0 := HM.out.frozen 1
      go_wp2_with fail
      go_meet
      exact ⟨HA.out.setOther (by omega) _ _, HM.out.set 1 _, HI.out.setOther (by omega) _ _, HR.out.setOther (by omega) _ _, below_set Hb.out _ _ _ (by omega) Hb.out.size⟩
    · have hk : m0 = k0 ∧ m1 = k1 ∧ 0 = k2 ∧ m3 = k3 ∧ m4 = k4 ∧ m5 = k5 ∧ m6 = k6 ∧ m7 = k7 := ⟨e0.out, e1.out, e2.out, e3.out, e4.out, e5.out, e6.out, e7.out⟩
      obtain ⟨rfl, rfl, rfl, rfl, rfl, rfl, rfl, rfl⟩ := hk
      have c0 := HM.out.cell 2 rfl
      have f0 := HM.out.frozen 2
      go_wp2_with fail
      go_meet
      exact ⟨HA.out.setOther (by omega) _ _, HM.out.set 2 _, HI.out.setOther (by omega) _ _, HR.out.setOther (by omega) _ _, below_set Hb.out _ _ _ (by omega) Hb.out.size⟩
    · have hk : m0 = k0 ∧ m1 = k1 ∧ m2 = k2 ∧ 0 = k3 ∧ m4 = k4 ∧ m5 = k5 ∧ m6 = k6 ∧ m7 = k7 := ⟨e0.out, e1.out, e2.out, e3.out, e4.out, e5.out, e6.out, e7.out⟩
      obtain ⟨rfl, rfl, rfl, rfl, rfl, rfl, rfl, rfl⟩ := hk
      have c0 := HM.out.cell 3 rfl
      have f0 := HM.out.frozen 3
      go_wp2_with fail
      go_meet
      exact ⟨HA.out.setOther (by omega) _ _, HM.out.set 3 _, HI.out.setOther (by omega) _ _, HR.out.setOther (by omega) _ _, below_set Hb.out _ _ _ (by omega) Hb.out.size⟩
    · have hk : m0 = k0 ∧ m1 = k1 ∧ m2 = k2 ∧ m3 = k3 ∧ 0 = k4 ∧ m5 = k5 ∧ m6 = k6 ∧ m7 = k7 := ⟨e0.out, e1.out, e2.out, e3.out, e4.out, e5.out, e6.out, e7.out⟩
      obtain ⟨rfl, rfl, rfl, rfl, rfl, rfl, rfl, rfl⟩ := hk
      have c0 := HM.out.cell 4 rfl
      have f0 := HM.out.frozen 4
      go_wp2_with fail
      go_meet
      exact ⟨HA.out.setOther (by omega) _ _, HM.out.set 4 _, HI.out.setOther (by omega) _ _, HR.out.setOther (by omega) _ _, below_set Hb.out _ _ _ (by omega) Hb.out.size⟩
    · have hk : m0 = k0 ∧ m1 = k1 ∧ m2 = k2 ∧ m3 = k3 ∧ m4 = k4 ∧ 0 = k5 ∧ m6 = k6 ∧ m7 = k7 := ⟨e0.out, e1.out, e2.out, e3.out, e4.out, e5.out, e6.out, e7.out⟩
      obtain ⟨rfl, rfl, rfl, rfl, rfl, rfl, rfl, rfl⟩ := hk
      have c0 := HM.out.cell 5 rfl
      have f0 := HM.out.frozen 5
      go_wp2_with fail
      go_meet
      exact ⟨HA.out.setOther (by omega) _ _, HM.out.set 5 _, HI.out.setOther (by omega) _ _, HR.out.setOther (by omega) _ _, below_set Hb.out _ _ _ (by omega) Hb.out.size⟩
    · have hk : m0 = k0 ∧ m1 = k1 ∧ m2 = k2 ∧ m3 = k3 ∧ m4 = k4 ∧ m5 = k5 ∧ 0 = k6 ∧ m7 = k7 := ⟨e0.out, e1.out, e2.out, e3.out, e4.out, e5.out, e6.out, e7.out⟩
      obtain ⟨rfl, rfl, rfl, rfl, rfl, rfl, rfl, rfl⟩ := hk
      have c0 := HM.out.cell 6 rfl
      have f0 := HM.out.frozen 6
      go_wp2_with fail
      go_meet
      exact ⟨HA.out.setOther (by omega) _ _, HM.out.set 6 _, HI.out.setOther (by omega) _ _, HR.out.setOther (by omega) _ _, below_set Hb.out _ _ _ (by omega) Hb.out.size⟩
    · have hk : m0 = k0 ∧ m1 = k1 ∧ m2 = k2 ∧ m3 = k3 ∧ m4 = k4 ∧ m5 = k5 ∧ m6 = k6 ∧ 0 = k7 := ⟨e0.out, e1.out, e2.out, e3.out, e4.out, e5.out, e6.out, e7.out⟩
      obtain ⟨rfl, rfl, rfl, rfl, rfl, rfl, rfl, rfl⟩ := hk
      have c0 := HM.out.cell 7 rfl
      have f0 := HM.out.frozen 7
      go_wp2_with fail
      go_meet
      exact ⟨HA.out.setOther (by omega) _ _, HM.out.set 7 _, HI.out.setOther (by omega) _ _, HR.out.setOther (by omega) _ _, below_set Hb.out _ _ _ (by omega) Hb.out.size⟩
  case rest =>
    obtain ⟨hA, hM, hI, hR, hb⟩ := hcut
    clear HA HM HI HR Hb e0 e1 e2 e3 e4 e5 e6 e7 d0 d8 hd
    have HA := hide hA
    have HI := hide hI
    have HR := hide hR
    have Hb := hide hb
    obtain ⟨a0, a1, a2, a3, a4, a5, a6, a7⟩ := eight_cells hM
    clear hA hM hI hR hb
    go_upto_region 7 with (go_at_call 25; refine (WK.out _).mono ?_; rintro e w2 ⟨rfl, hb2⟩; have Hb2 := hide hb2; clear hb2)
    have HZlt : Hid (w.heap.size + 1 + 1 + 1 < w2.heap.size) := hide (Nat.lt_of_lt_of_le HR.out.lt Hb2.out.size)
    have HWr := hide (Blk.new w2 (wC l x y t) 46)
    replace HA := hide ((HA.out.after Hb2.out).alloc (.cells (wC l x y t) 46))
    replace HI := hide ((HI.out.after Hb2.out).alloc (.cells (wC l x y t) 46))
    replace HR := hide ((HR.out.after Hb2.out).alloc (.cells (wC l x y t) 46))
    replace Hb := hide (below_next (below_next Hb.out (Nat.le_refl _) Hb2.out) (Nat.le_refl _) (below_alloc w2 (.cells (wC l x y t) 46)))
    have HZ3 : Hid ((w2.alloc (.cells (wC l x y t) 46)).heap.size = w2.heap.size + 1) := hide (size_alloc _ _)
    clear a0 a1 a2 a3 a4 a5 a6 a7 Hb2 WK
    generalize w2.alloc (.cells (wC l x y t) 46) = W3 at *
    generalize w2.heap.size = gw at *
    obtain ⟨r0, r1, r2, r3⟩ := four_cells HWr.out
    go_upto_region 8 with fail
    have HPu := hide (Blk.new W3 (tC x y l) 22)
    rw [HZ3.out] at HPu
    have HZ4 : Hid ((W3.alloc (.cells (tC x y l) 22)).heap.size = gw + 2) := hide (by rw [size_alloc, HZ3.out])
    replace HA := hide (HA.out.alloc (.cells (tC x y l) 22))
    replace HI := hide (HI.out.alloc (.cells (tC x y l) 22))
    replace HR := hide (HR.out.alloc (.cells (tC x y l) 22))
    replace HWr := hide (HWr.out.alloc (.cells (tC x y l) 22))
    replace Hb := hide (below_next Hb.out (Nat.le_refl _) (below_alloc W3 (.cells (tC x y l) 22)))
    try rw [HZ3.out]
    clear r0 r1 r2 r3 HZ3
    generalize W3.alloc (.cells (tC x y l) 22) = W4 at *
    obtain ⟨a0, a1, a2, a3, a4, a5, a6, a7, a8⟩ := nine_cells HA.out
    go_upto_region 9 with fail
    have HN := hide (Blk.new W4 (woC p0 p1 p2 v0 v1 v2 h r ch) 24)
    rw [HZ4.out] at HN
    replace HA := hide (HA.out.alloc (.cells (woC p0 p1 p2 v0 v1 v2 h r ch) 24))
    replace HI := hide (HI.out.alloc (.cells (woC p0 p1 p2 v0 v1 v2 h r ch) 24))
    replace HR := hide (HR.out.alloc (.cells (woC p0 p1 p2 v0 v1 v2 h r ch) 24))
    replace HWr := hide (HWr.out.alloc (.cells (woC p0 p1 p2 v0 v1 v2 h r ch) 24))
    replace HPu := hide (HPu.out.alloc (.cells (woC p0 p1 p2 v0 v1 v2 h r ch) 24))
    replace Hb := hide (below_next Hb.out (Nat.le_refl _) (below_alloc W4 (.cells (woC p0 p1 p2 v0 v1 v2 h r ch) 24)))
    try rw [HZ4.out]
    clear a0 a1 a2 a3 a4 a5 a6 a7 a8 HZ4
    generalize W4.alloc (.cells (woC p0 p1 p2 v0 v1 v2 h r ch) 24) = W5 at *
    go_wp2_with fail
    go_loopw [16] (fun v wr => ∃ i : Nat, v = .int .i64 (i : Int) ∧ i ≤ 3 ∧ Blk wr w.heap.size (woC p0 p1 p2 v0 v1 v2 h r ch) 24 ∧ Blk wr (w.heap.size + 1 + 1) (tC a b c) 22 ∧ Blk wr (w.heap.size + 1 + 1 + 1) (woC 0 0 0 0 0 0 0 0 0) 24 ∧ Blk wr gw (wC l x y t) 46 ∧ Blk wr (gw + 1) (tC x y l) 22 ∧ Blk wr (gw + 2) (nA p0 p1 p2 v0 v1 v2 q0 q1 q2 V0 V1 V2 h r ch i) 24 ∧ Below w.heap.size w wr) (fun v _ => 3 - (intOf v).toNat)
    case atStart => exact ⟨0, rfl, by omega, HA.out, HI.out, HR.out, HWr.out, HPu.out, HN.out, Hb.out⟩
    case round =>
      clear HA HI HR HWr HPu HN Hb
      obtain ⟨i, rfl, hi, hA, hI, hR, hWr, hPu, hN, hb⟩ := hrel
      have HA := hide hA
      have HI := hide hI
      have HR := hide hR
      have HWr := hide hWr
      have HPu := hide hPu
      have HN := hide hN
      have Hb := hide hb
      have hlt := HZlt.out
      clear hA hI hR hWr hPu hN hb
      obtain rfl | rfl | rfl | rfl : i = 0 ∨ i = 1 ∨ i = 2 ∨ i = 3 := by omega
      · clear B1 B2 C1 C2 C3 P1 P2 RR SB hZ
        have c1 : ∀ z : BelowW wr, z.q.cell? ⟨w.heap.size, 3, none⟩ = some (.int .i64 v0) := HA.out.at 3 rfl
        have c2 : ∀ z : BelowW wr, z.q.cell? ⟨gw + 1, 0, none⟩ = some (.int .i64 x) := HPu.out.at 0 rfl
        have c3 : ∀ z : BelowW wr, z.q.cell? ⟨w.heap.size + 1 + 1, 0, none⟩ = some (.int .i64 a) := HI.out.at 0 rfl
        go_wp2_with fail
        have hne : Nonempty (BelowW wr) := ⟨⟨wr, Below.refl _ _⟩⟩
        refine reg_last_calm 15 rfl rfl _ rfl (by kernel_rfl) (by kernel_rfl) (by kernel_rfl) ?_
        simp only [List.take_succ_cons, List.take_zero]
        repeat (go_big_quiet_step (first | (go_at_call_of 26 (Value.int IntKind.i64 v0); exact calm_of (A1.out _)) | (go_at_call_of 26 (Value.int IntKind.i64 s0); exact calm_of (A2.out _))))
        refine wpQuiet_nil ?_
        rintro _ ⟨z, rfl⟩
        clear c1 c2 c3 hne
        replace HA := hide (HA.out.after z.h)
        replace HI := hide (HI.out.after z.h)
        replace HR := hide (HR.out.after z.h)
        replace HWr := hide (HWr.out.after z.h)
        replace HPu := hide (HPu.out.after z.h)
        replace HN := hide (HN.out.after z.h)
        replace Hb := hide (below_next Hb.out (Nat.le_refl _) z.h)
        generalize z.q = W6 at *
        clear z
        have n0 : W6.cell? ⟨gw + 2, 3, none⟩ = some (.int .i64 v0) := HN.out.cell 3 rfl
        have f0 := HN.out.frozen 3
        go_simp
        clear n0 f0
        replace HN := hide (show Blk _ (gw + 2) (woC p0 p1 p2 V0 v1 v2 h r ch) 24 from HN.out.set 3 (.int .i64 V0))
        replace HA := hide (HA.out.setOther (C := gw + 2) (by omega) 3 (.int .i64 V0))
        replace HI := hide (HI.out.setOther (C := gw + 2) (by omega) 3 (.int .i64 V0))
        replace HR := hide (HR.out.setOther (C := gw + 2) (by omega) 3 (.int .i64 V0))
        replace HWr := hide (HWr.out.setOther (C := gw + 2) (by omega) 3 (.int .i64 V0))
        replace HPu := hide (HPu.out.setOther (C := gw + 2) (by omega) 3 (.int .i64 V0))
        replace Hb := hide (below_set Hb.out (gw + 2) 3 (.int .i64 V0) (by omega) Hb.out.size)
        generalize W6.setCell ⟨gw + 2, 3, none⟩ (.int .i64 V0) = W7 at *
        have c1 : ∀ z : BelowW W7, z.q.cell? ⟨w.heap.size, 0, none⟩ = some (.int .i64 p0) := HA.out.at 0 rfl
        have c2 : ∀ z : BelowW W7, z.q.cell? ⟨gw + 2, 3, none⟩ = some (.int .i64 V0) := HN.out.at 3 rfl
        go_wp2_with fail
        have hne : Nonempty (BelowW W7) := ⟨⟨W7, Below.refl _ _⟩⟩
        refine reg_last_calm 12 rfl rfl _ rfl (by kernel_rfl) (by kernel_rfl) (by kernel_rfl) ?_
        simp only [List.take_succ_cons, List.take_zero]
        repeat (go_big_quiet_step ((go_at_call 26; exact calm_of (P0.out _))))
        refine wpQuiet_nil ?_
        rintro _ ⟨z, rfl⟩
        clear c1 c2 hne
        replace HA := hide (HA.out.after z.h)
        replace HI := hide (HI.out.after z.h)
        replace HR := hide (HR.out.after z.h)
        replace HWr := hide (HWr.out.after z.h)
        replace HPu := hide (HPu.out.after z.h)
        replace HN := hide (HN.out.after z.h)
        replace Hb := hide (below_next Hb.out (Nat.le_refl _) z.h)
        generalize z.q = W10 at *
        clear z
        have n0 : W10.cell? ⟨gw + 2, 0, none⟩ = some (.int .i64 p0) := HN.out.cell 0 rfl
        have f0 := HN.out.frozen 0
        go_simp
        go_wp2_with fail
        go_roundw
        case rel => exact ⟨1, by go_num, by omega, HA.out.setOther (by omega) _ _, HI.out.setOther (by omega) _ _, HR.out.setOther (by omega) _ _, HWr.out.setOther (by omega) _ _, HPu.out.setOther (by omega) _ _, HN.out.set 0 _, below_set Hb.out _ _ _ (by omega) Hb.out.size⟩
        case measure => simp [intOf]
      · clear A1 A2 C1 C2 C3 P0 P2 RR SB hZ
        have c1 : ∀ z : BelowW wr, z.q.cell? ⟨w.heap.size, 4, none⟩ = some (.int .i64 v1) := HA.out.at 4 rfl
        have c2 : ∀ z : BelowW wr, z.q.cell? ⟨gw + 1, 1, none⟩ = some (.int .i64 y) := HPu.out.at 1 rfl
        have c3 : ∀ z : BelowW wr, z.q.cell? ⟨w.heap.size + 1 + 1, 1, none⟩ = some (.int .i64 b) := HI.out.at 1 rfl
        go_wp2_with fail
        have hne : Nonempty (BelowW wr) := ⟨⟨wr, Below.refl _ _⟩⟩
        refine reg_last_calm 15 rfl rfl _ rfl (by kernel_rfl) (by kernel_rfl) (by kernel_rfl) ?_
        simp only [List.take_succ_cons, List.take_zero]
        repeat (go_big_quiet_step (first | (go_at_call_of 26 (Value.int IntKind.i64 v1); exact calm_of (B1.out _)) | (go_at_call_of 26 (Value.int IntKind.i64 s1); exact calm_of (B2.out _))))
        refine wpQuiet_nil ?_
        rintro _ ⟨z, rfl⟩
        clear c1 c2 c3 hne
        replace HA := hide (HA.out.after z.h)
        replace HI := hide (HI.out.after z.h)
        replace HR := hide (HR.out.after z.h)
        replace HWr := hide (HWr.out.after z.h)
        replace HPu := hide (HPu.out.after z.h)
        replace HN := hide (HN.out.after z.h)
        replace Hb := hide (below_next Hb.out (Nat.le_refl _) z.h)
        generalize z.q = W6 at *
        clear z
        have n0 : W6.cell? ⟨gw + 2, 4, none⟩ = some (.int .i64 v1) := HN.out.cell 4 rfl
        have f0 := HN.out.frozen 4
        go_simp
        clear n0 f0
        replace HN := hide (show Blk _ (gw + 2) (woC q0 p1 p2 V0 V1 v2 h r ch) 24 from HN.out.set 4 (.int .i64 V1))
        replace HA := hide (HA.out.setOther (C := gw + 2) (by omega) 4 (.int .i64 V1))
        replace HI := hide (HI.out.setOther (C := gw + 2) (by omega) 4 (.int .i64 V1))
        replace HR := hide (HR.out.setOther (C := gw + 2) (by omega) 4 (.int .i64 V1))
        replace HWr := hide (HWr.out.setOther (C := gw + 2) (by omega) 4 (.int .i64 V1))
        replace HPu := hide (HPu.out.setOther (C := gw + 2) (by omega) 4 (.int .i64 V1))
        replace Hb := hide (below_set Hb.out (gw + 2) 4 (.int .i64 V1) (by omega) Hb.out.size)
        generalize W6.setCell ⟨gw + 2, 4, none⟩ (.int .i64 V1) = W7 at *
        have c1 : ∀ z : BelowW W7, z.q.cell? ⟨w.heap.size, 1, none⟩ = some (.int .i64 p1) := HA.out.at 1 rfl
        have c2 : ∀ z : BelowW W7, z.q.cell? ⟨gw + 2, 4, none⟩ = some (.int .i64 V1) := HN.out.at 4 rfl
        go_wp2_with fail
        have hne : Nonempty (BelowW W7) := ⟨⟨W7, Below.refl _ _⟩⟩
        refine reg_last_calm 12 rfl rfl _ rfl (by kernel_rfl) (by kernel_rfl) (by kernel_rfl) ?_
        simp only [List.take_succ_cons, List.take_zero]
        repeat (go_big_quiet_step ((go_at_call 26; exact calm_of (P1.out _))))
        refine wpQuiet_nil ?_
        rintro _ ⟨z, rfl⟩
        clear c1 c2 hne
        replace HA := hide (HA.out.after z.h)
        replace HI := hide (HI.out.after z.h)
        replace HR := hide (HR.out.after z.h)
        replace HWr := hide (HWr.out.after z.h)
        replace HPu := hide (HPu.out.after z.h)
        replace HN := hide (HN.out.after z.h)
        replace Hb := hide (below_next Hb.out (Nat.le_refl _) z.h)
        generalize z.q = W10 at *
        clear z
        have n0 : W10.cell? ⟨gw + 2, 1, none⟩ = some (.int .i64 p1) := HN.out.cell 1 rfl
        have f0 := HN.out.frozen 1
        go_simp
        go_wp2_with fail
        go_roundw
        case rel => exact ⟨2, by go_num, by omega, HA.out.setOther (by omega) _ _, HI.out.setOther (by omega) _ _, HR.out.setOther (by omega) _ _, HWr.out.setOther (by omega) _ _, HPu.out.setOther (by omega) _ _, HN.out.set 1 _, below_set Hb.out _ _ _ (by omega) Hb.out.size⟩
        case measure => simp [intOf]
      · clear A1 A2 B1 B2 P0 P1 RR SB hZ
        have c1 : ∀ z : BelowW wr, z.q.cell? ⟨w.heap.size, 5, none⟩ = some (.int .i64 v2) := HA.out.at 5 rfl
        have c2 : ∀ z : BelowW wr, z.q.cell? ⟨gw + 1, 2, none⟩ = some (.int .i64 l) := HPu.out.at 2 rfl
        have c3 : ∀ z : BelowW wr, z.q.cell? ⟨w.heap.size + 1 + 1, 2, none⟩ = some (.int .i64 c) := HI.out.at 2 rfl
        go_wp2_with fail
        have hne : Nonempty (BelowW wr) := ⟨⟨wr, Below.refl _ _⟩⟩
        refine reg_last_calm 15 rfl rfl _ rfl (by kernel_rfl) (by kernel_rfl) (by kernel_rfl) ?_
        simp only [List.take_succ_cons, List.take_zero]
        repeat (go_big_quiet_step (first | (go_at_call_of 26 (Value.int IntKind.i64 v2); exact calm_of (C1.out _)) | (go_at_call_of 26 (Value.int IntKind.i64 s2); exact calm_of (C2.out _))))
        refine wpQuiet_nil ?_
        rintro _ ⟨z, rfl⟩
        clear c1 c2 c3 hne
        replace HA := hide (HA.out.after z.h)
        replace HI := hide (HI.out.after z.h)
        replace HR := hide (HR.out.after z.h)
        replace HWr := hide (HWr.out.after z.h)
        replace HPu := hide (HPu.out.after z.h)
        replace HN := hide (HN.out.after z.h)
        replace Hb := hide (below_next Hb.out (Nat.le_refl _) z.h)
        generalize z.q = W6 at *
        clear z
        have n0 : W6.cell? ⟨gw + 2, 5, none⟩ = some (.int .i64 v2) := HN.out.cell 5 rfl
        have f0 := HN.out.frozen 5
        go_simp
        clear n0 f0
        replace HN := hide (show Blk _ (gw + 2) (woC q0 q1 p2 V0 V1 U2 h r ch) 24 from HN.out.set 5 (.int .i64 U2))
        replace HA := hide (HA.out.setOther (C := gw + 2) (by omega) 5 (.int .i64 U2))
        replace HI := hide (HI.out.setOther (C := gw + 2) (by omega) 5 (.int .i64 U2))
        replace HR := hide (HR.out.setOther (C := gw + 2) (by omega) 5 (.int .i64 U2))
        replace HWr := hide (HWr.out.setOther (C := gw + 2) (by omega) 5 (.int .i64 U2))
        replace HPu := hide (HPu.out.setOther (C := gw + 2) (by omega) 5 (.int .i64 U2))
        replace Hb := hide (below_set Hb.out (gw + 2) 5 (.int .i64 U2) (by omega) Hb.out.size)
        generalize W6.setCell ⟨gw + 2, 5, none⟩ (.int .i64 U2) = W7 at *
        have n5 : W7.cell? ⟨gw + 2, 5, none⟩ = some (.int .i64 U2) := HN.out.cell 5 rfl
        have f5 := HN.out.frozen 5
        go_upto_region 15 with (go_at_call 27; refine (C3.out _).mono ?_; rintro e w8 ⟨rfl, hb8⟩; have Hb8 := hide hb8; clear hb8; have m5 : w8.cell? ⟨gw + 2, 5, none⟩ = some (.int .i64 U2) := (HN.out.after Hb8.out).cell 5 rfl; have mf5 := (HN.out.after Hb8.out).frozen 5)
        clear n5 f5 m5 mf5
        replace HA := hide (HA.out.after Hb8.out)
        replace HI := hide (HI.out.after Hb8.out)
        replace HR := hide (HR.out.after Hb8.out)
        replace HWr := hide (HWr.out.after Hb8.out)
        replace HPu := hide (HPu.out.after Hb8.out)
        replace HN := hide (HN.out.after Hb8.out)
        replace Hb := hide (below_next Hb.out (Nat.le_refl _) Hb8.out)
        replace HN := hide (show Blk _ (gw + 2) (woC q0 q1 p2 V0 V1 V2 h r ch) 24 from HN.out.set 5 (.int .i64 V2))
        replace HA := hide (HA.out.setOther (C := gw + 2) (by omega) 5 (.int .i64 V2))
        replace HI := hide (HI.out.setOther (C := gw + 2) (by omega) 5 (.int .i64 V2))
        replace HR := hide (HR.out.setOther (C := gw + 2) (by omega) 5 (.int .i64 V2))
        replace HWr := hide (HWr.out.setOther (C := gw + 2) (by omega) 5 (.int .i64 V2))
        replace HPu := hide (HPu.out.setOther (C := gw + 2) (by omega) 5 (.int .i64 V2))
        replace Hb := hide (below_set Hb.out (gw + 2) 5 (.int .i64 V2) (by omega) Hb.out.size)
        clear Hb8
        generalize w8.setCell ⟨gw + 2, 5, none⟩ (.int .i64 V2) = W9 at *
        have c1 : ∀ z : BelowW W9, z.q.cell? ⟨w.heap.size, 2, none⟩ = some (.int .i64 p2) := HA.out.at 2 rfl
        have c2 : ∀ z : BelowW W9, z.q.cell? ⟨gw + 2, 5, none⟩ = some (.int .i64 V2) := HN.out.at 5 rfl
        go_wp2_with fail
        have hne : Nonempty (BelowW W9) := ⟨⟨W9, Below.refl _ _⟩⟩
        refine reg_last_calm 12 rfl rfl _ rfl (by kernel_rfl) (by kernel_rfl) (by kernel_rfl) ?_
        simp only [List.take_succ_cons, List.take_zero]
        repeat (go_big_quiet_step ((go_at_call 26; exact calm_of (P2.out _))))
        refine wpQuiet_nil ?_
        rintro _ ⟨z, rfl⟩
        clear c1 c2 hne
        replace HA := hide (HA.out.after z.h)
        replace HI := hide (HI.out.after z.h)
        replace HR := hide (HR.out.after z.h)
        replace HWr := hide (HWr.out.after z.h)
        replace HPu := hide (HPu.out.after z.h)
        replace HN := hide (HN.out.after z.h)
        replace Hb := hide (below_next Hb.out (Nat.le_refl _) z.h)
        generalize z.q = W10 at *
        clear z
        have n0 : W10.cell? ⟨gw + 2, 2, none⟩ = some (.int .i64 p2) := HN.out.cell 2 rfl
        have f0 := HN.out.frozen 2
        go_simp
        go_wp2_with fail
        go_roundw
        case rel => exact ⟨3, by go_num, by omega, HA.out.setOther (by omega) _ _, HI.out.setOther (by omega) _ _, HR.out.setOther (by omega) _ _, HWr.out.setOther (by omega) _ _, HPu.out.setOther (by omega) _ _, HN.out.set 2 _, below_set Hb.out _ _ _ (by omega) Hb.out.size⟩
        case measure => simp [intOf]
      · clear A1 A2 B1 B2 C1 C2 C3 P0 P1 P2
        replace HN := hide (show Blk _ (gw + 2) (woC q0 q1 q2 V0 V1 V2 h r ch) 24 from HN.out)
        have c1 := HA.out.cell 7 rfl
        have c2 := HWr.out.cell 3 rfl
        go_upto_region 17 with (go_at_call 26; refine (RR.out _).mono ?_; rintro e w8 ⟨rfl, hb8⟩; have Hb8 := hide hb8; clear hb8; have m5 := (HN.out.after Hb8.out).cell 7 rfl; have mf5 := (HN.out.after Hb8.out).frozen 7)
        clear c1 c2 m5 mf5 RR
        replace HA := hide (HA.out.after Hb8.out)
        replace HI := hide (HI.out.after Hb8.out)
        replace HR := hide (HR.out.after Hb8.out)
        replace HWr := hide (HWr.out.after Hb8.out)
        replace HPu := hide (HPu.out.after Hb8.out)
        replace HN := hide (HN.out.after Hb8.out)
        replace Hb := hide (below_next Hb.out (Nat.le_refl _) Hb8.out)
        replace HN := hide (show Blk _ (gw + 2) (woC q0 q1 q2 V0 V1 V2 h q7 ch) 24 from HN.out.set 7 (.int .i64 q7))
        replace HA := hide (HA.out.setOther (C := gw + 2) (by omega) 7 (.int .i64 q7))
        replace HI := hide (HI.out.setOther (C := gw + 2) (by omega) 7 (.int .i64 q7))
        replace HR := hide (HR.out.setOther (C := gw + 2) (by omega) 7 (.int .i64 q7))
        replace HWr := hide (HWr.out.setOther (C := gw + 2) (by omega) 7 (.int .i64 q7))
        replace HPu := hide (HPu.out.setOther (C := gw + 2) (by omega) 7 (.int .i64 q7))
        replace Hb := hide (below_set Hb.out (gw + 2) 7 (.int .i64 q7) (by omega) Hb.out.size)
        clear Hb8
        generalize w8.setCell ⟨gw + 2, 7, none⟩ (.int .i64 q7) = W9 at *
        have cp : W9.cell? ⟨gw + 2, 2, none⟩ = some (.int .i64 q2) := HN.out.cell 2 rfl
        clear HWr HPu
        by_cases hp : q2 ≤ 0
        · have hz' := hZ.out
          rw [if_pos hp] at hz'
          subst hz'
          clear hZ
          obtain ⟨a0, a1, a2, a3, a4, a5, a6, a7, a8⟩ := nine_cells HA.out
          obtain ⟨n0, n1, n2, n3, n4, n5, n6, n7, n8⟩ := nine_cells HN.out
          obtain ⟨f0, f1, f2, f3, f4, f5, f6, f7, f8⟩ := nine_froz HN.out
          go_upto_region 21 with fail
          replace HN := hide (show Blk _ (gw + 2) (woC p0 p1 0 0 0 0 h 0 ch) 24 from ((((((HN.out.set 0 (.int .i64 p0)).set 1 (.int .i64 p1)).set 2 (.int .i64 0)).set 3 (.int .i64 0)).set 4 (.int .i64 0)).set 5 (.int .i64 0)).set 7 (.int .i64 0))
          replace HA := hide ((((((((HA.out.setOther (C := gw + 2) (by omega) 0 (.int .i64 p0)).setOther (C := gw + 2) (by omega) 1 (.int .i64 p1)).setOther (C := gw + 2) (by omega) 2 (.int .i64 0)).setOther (C := gw + 2) (by omega) 3 (.int .i64 0)).setOther (C := gw + 2) (by omega) 4 (.int .i64 0)).setOther (C := gw + 2) (by omega) 5 (.int .i64 0)).setOther (C := gw + 2) (by omega) 7 (.int .i64 0)))
          replace HR := hide ((((((((HR.out.setOther (C := gw + 2) (by omega) 0 (.int .i64 p0)).setOther (C := gw + 2) (by omega) 1 (.int .i64 p1)).setOther (C := gw + 2) (by omega) 2 (.int .i64 0)).setOther (C := gw + 2) (by omega) 3 (.int .i64 0)).setOther (C := gw + 2) (by omega) 4 (.int .i64 0)).setOther (C := gw + 2) (by omega) 5 (.int .i64 0)).setOther (C := gw + 2) (by omega) 7 (.int .i64 0)))
          replace Hb := hide ((below_set (below_set (below_set (below_set (below_set (below_set (below_set Hb.out (gw + 2) 0 (.int .i64 p0) (by omega) (by (try simp only [setCell_size]); exact Hb.out.size)) (gw + 2) 1 (.int .i64 p1) (by omega) (by (try simp only [setCell_size]); exact Hb.out.size)) (gw + 2) 2 (.int .i64 0) (by omega) (by (try simp only [setCell_size]); exact Hb.out.size)) (gw + 2) 3 (.int .i64 0) (by omega) (by (try simp only [setCell_size]); exact Hb.out.size)) (gw + 2) 4 (.int .i64 0) (by omega) (by (try simp only [setCell_size]); exact Hb.out.size)) (gw + 2) 5 (.int .i64 0) (by omega) (by (try simp only [setCell_size]); exact Hb.out.size)) (gw + 2) 7 (.int .i64 0) (by omega) (by (try simp only [setCell_size]); exact Hb.out.size)))
          clear a0 a1 a2 a3 a4 a5 a6 a7 a8 n0 n1 n2 n3 n4 n5 n6 n7 n8 f0 f1 f2 f3 f4 f5 f6 f7 f8 cp
          generalize ((((((W9.setCell ⟨gw + 2, 0, none⟩ (.int .i64 p0)).setCell ⟨gw + 2, 1, none⟩ (.int .i64 p1)).setCell ⟨gw + 2, 2, none⟩ (.int .i64 0)).setCell ⟨gw + 2, 3, none⟩ (.int .i64 0)).setCell ⟨gw + 2, 4, none⟩ (.int .i64 0)).setCell ⟨gw + 2, 5, none⟩ (.int .i64 0)).setCell ⟨gw + 2, 7, none⟩ (.int .i64 0) = W11 at *
          obtain ⟨x1, hx1⟩ : ∃ y, h.tmod 1048576 = y := ⟨_, rfl⟩
          obtain ⟨⟨t1, t2⟩, _, tE, tE2⟩ := turn_sum (r := 0) hx1 (show (0 : Int).tmod 1048576 = 0 from rfl)
          rw [Int.add_zero, Int.add_zero] at tE tE2
          have TE := hide tE
          have TE2 := hide tE2
          clear tE tE2
          have c1 := HA.out.cell 6 rfl
          have c3 := HA.out.cell 8 rfl
          have n6 := HN.out.cell 6 rfl
          have n7 := HN.out.cell 7 rfl
          have n8 := HN.out.cell 8 rfl
          have f6 := HN.out.frozen 6
          have f8 := HN.out.frozen 8
          go_upto_region 22 with fail
          first | rw [TE.out] | rw [TE2.out] | skip
          clear TE TE2 hx1
          replace HN := hide (show Blk _ (gw + 2) (woC p0 p1 0 0 0 0 (h % 1048576) 0 ch) 24 from HN.out.set 6 (.int .i64 (h % 1048576)))
          replace HA := hide (HA.out.setOther (C := gw + 2) (by omega) 6 (.int .i64 (h % 1048576)))
          replace HR := hide (HR.out.setOther (C := gw + 2) (by omega) 6 (.int .i64 (h % 1048576)))
          replace Hb := hide (below_set Hb.out (gw + 2) 6 (.int .i64 (h % 1048576)) (by omega) Hb.out.size)
          clear c1 c3 n6 n7 n8 f6 f8
          generalize W11.setCell ⟨gw + 2, 6, none⟩ (.int .i64 (h % 1048576)) = W12 at *
          have c3 := HA.out.cell 8 rfl
          go_upto_region 23 with (go_at_call 27; refine (SB.out _).mono ?_; rintro e w13 ⟨rfl, hb13⟩; have Hb13 := hide hb13; clear hb13; have m5 := (HN.out.after Hb13.out).cell 8 rfl; have mf5 := (HN.out.after Hb13.out).frozen 8)
          clear c3 m5 mf5
          replace HN := hide (show Blk _ (gw + 2) (woC p0 p1 0 0 0 0 (h % 1048576) 0 cc) 24 from (HN.out.after Hb13.out).set 8 (.int .i64 cc))
          replace HR := hide ((HR.out.after Hb13.out).setOther (C := gw + 2) (by omega) 8 (.int .i64 cc))
          replace Hb := hide (below_set (below_next Hb.out (Nat.le_refl _) Hb13.out) (gw + 2) 8 (.int .i64 cc) (by omega) (Nat.le_trans Hb.out.size Hb13.out.size))
          clear Hb13 HA
          generalize w13.setCell ⟨gw + 2, 8, none⟩ (.int .i64 cc) = W14 at *
          obtain ⟨a0, a1, a2, a3, a4, a5, a6, a7, a8⟩ := nine_cells HN.out
          obtain ⟨f0, f1, f2, f3, f4, f5, f6, f7, f8⟩ := nine_froz HR.out
          obtain ⟨g0, g1, g2, g3, g4, g5, g6, g7, g8⟩ := nine_cells HR.out
          go_wp2_with fail
          exact bodyPost_ret (wo_back2 (p := 10) (u := 11) (by kernel_rfl) _ _ (w.heap.size + 1 + 1 + 1) _ _ _ _ _ _ _ _ _ _ rfl rfl (HR.out.set9 _ _ _ _ _ _ _ _ _)) rfl ⟨rfl, below_set9 Hb.out _ _ _ _ _ _ _ _ _ _ (by omega) Hb.out.size⟩
        · have hz' := hZ.out
          rw [if_neg hp] at hz'
          subst hz'
          clear hZ
          have cp2 := cp
          clear cp2
          obtain ⟨x1, hx1⟩ : ∃ y, h.tmod 1048576 = y := ⟨_, rfl⟩
          obtain ⟨x2, hx2⟩ : ∃ y, q7.tmod 1048576 = y := ⟨_, rfl⟩
          obtain ⟨⟨t1, t2⟩, ⟨t3, t4⟩, tE, tE2⟩ := turn_sum hx1 hx2
          have TE := hide tE
          have TE2 := hide tE2
          clear tE tE2
          have c1 := HA.out.cell 6 rfl
          have c3 := HA.out.cell 8 rfl
          have n6 := HN.out.cell 6 rfl
          have n7 := HN.out.cell 7 rfl
          have n8 := HN.out.cell 8 rfl
          have f6 := HN.out.frozen 6
          have f8 := HN.out.frozen 8
          go_upto_region 22 with fail
          first | rw [TE.out] | rw [TE2.out] | skip
          clear TE TE2 hx1 hx2
          replace HN := hide (show Blk _ (gw + 2) (woC q0 q1 q2 V0 V1 V2 ((h + q7) % 1048576) q7 ch) 24 from HN.out.set 6 (.int .i64 ((h + q7) % 1048576)))
          replace HA := hide (HA.out.setOther (C := gw + 2) (by omega) 6 (.int .i64 ((h + q7) % 1048576)))
          replace HR := hide (HR.out.setOther (C := gw + 2) (by omega) 6 (.int .i64 ((h + q7) % 1048576)))
          replace Hb := hide (below_set Hb.out (gw + 2) 6 (.int .i64 ((h + q7) % 1048576)) (by omega) Hb.out.size)
          clear c1 c3 n6 n7 n8 f6 f8
          generalize W9.setCell ⟨gw + 2, 6, none⟩ (.int .i64 ((h + q7) % 1048576)) = W12 at *
          have c3 := HA.out.cell 8 rfl
          go_upto_region 23 with (go_at_call 27; refine (SB.out _).mono ?_; rintro e w13 ⟨rfl, hb13⟩; have Hb13 := hide hb13; clear hb13; have m5 := (HN.out.after Hb13.out).cell 8 rfl; have mf5 := (HN.out.after Hb13.out).frozen 8)
          clear c3 m5 mf5
          replace HN := hide (show Blk _ (gw + 2) (woC q0 q1 q2 V0 V1 V2 ((h + q7) % 1048576) q7 cc) 24 from (HN.out.after Hb13.out).set 8 (.int .i64 cc))
          replace HR := hide ((HR.out.after Hb13.out).setOther (C := gw + 2) (by omega) 8 (.int .i64 cc))
          replace Hb := hide (below_set (below_next Hb.out (Nat.le_refl _) Hb13.out) (gw + 2) 8 (.int .i64 cc) (by omega) (Nat.le_trans Hb.out.size Hb13.out.size))
          clear Hb13 HA
          generalize w13.setCell ⟨gw + 2, 8, none⟩ (.int .i64 cc) = W14 at *
          obtain ⟨a0, a1, a2, a3, a4, a5, a6, a7, a8⟩ := nine_cells HN.out
          obtain ⟨f0, f1, f2, f3, f4, f5, f6, f7, f8⟩ := nine_froz HR.out
          obtain ⟨g0, g1, g2, g3, g4, g5, g6, g7, g8⟩ := nine_cells HR.out
          go_wp2_with fail
          exact bodyPost_ret (wo_back2 (p := 10) (u := 11) (by kernel_rfl) _ _ (w.heap.size + 1 + 1 + 1) _ _ _ _ _ _ _ _ _ _ rfl rfl (HR.out.set9 _ _ _ _ _ _ _ _ _)) rfl ⟨rfl, below_set9 Hb.out _ _ _ _ _ _ _ _ _ _ (by omega) Hb.out.size⟩
end Go.Proofs.Ytpoodmfhcoaleaa
