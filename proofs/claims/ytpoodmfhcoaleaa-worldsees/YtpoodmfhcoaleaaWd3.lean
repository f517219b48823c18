/- Package world, walked: Step. -/
import Derived.Test.YtpoodmfhcoaleaaWd2
namespace Go.Proofs.Ytpoodmfhcoaleaa
open Go.RowKit Go.Great

/-- a motor's command, none where it is the dead one -/
def kil (d : Int) (k : Int) (m : Int) : Int := if d = k then 0 else m
/-- a world a tick later -/
def stepS (o : Wo) (l x y t a b c d : Int) : Wo :=
  if (flyS o l x y t a b c).p2 ≤ 0 then ⟨o.p0, o.p1, 0, 0, 0, 0, o.h % 1048576, 0, sat (o.c - d)⟩
  else { flyS o l x y t a b c with h := (o.h + sat (o.r + t)) % 1048576, c := sat (o.c - d) }
theorem wk_in {c0 c1 c2 c3 c4 c5 c6 c7 l x y t : Int} (H : wkV c0 c1 c2 c3 c4 c5 c6 c7 = wV l x y t) (h0 : 0 ≤ c0 ∧ c0 ≤ 600) (h1 : 0 ≤ c1 ∧ c1 ≤ 600) (h2 : 0 ≤ c2 ∧ c2 ≤ 600) (h3 : 0 ≤ c3 ∧ c3 ≤ 600) (h4 : 0 ≤ c4 ∧ c4 ≤ 600) (h5 : 0 ≤ c5 ∧ c5 ≤ 600) (h6 : 0 ≤ c6 ∧ c6 ≤ 600) (h7 : 0 ≤ c7 ∧ c7 ≤ 600) : I64 l ∧ I64 x ∧ I64 y ∧ I64 t := by
  unfold wkV at H
  injection H with H
  injection H with H
  simp only [List.cons.injEq, Value.int.injEq, true_and, and_true] at H
  obtain ⟨e0, e1, e2, e3⟩ := H
  unfold I64
  omega
theorem stepS_ok {o : Wo} {l x y t a b c d : Int} (ho : WOk o) : WOk (stepS o l x y t a b c d) := by
  have m : ∀ z : Int, I64 (z % 1048576) := fun z => by unfold I64; omega
  unfold stepS
  split
  · exact ⟨ho.p0, ho.p1, i64_0, i64_0, i64_0, i64_0, m _, i64_0, sat_any _⟩
  · exact ⟨sat_any _, sat_any _, sat_any _, sat_any _, sat_any _, sat_any _, m _, sat_any _, sat_any _⟩
theorem step_bad (o : Wo) (d a b c dr : Int) (m0 m1 m2 m3 m4 m5 m6 m7 : Int) (w : World) (hd : d < 0 ∨ 8 < d) : Calls Try.prog 7 #[woV o, eV m0 m1 m2 m3 m4 m5 m6 m7, .int .i64 d, tV a b c, .int .i64 dr] w fun e w' => e = .returned (.tuple #[woV ⟨0, 0, 0, 0, 0, 0, 0, 0, 0⟩, .int .i64 1]) ∧ Below w.heap.size w w' := by
  obtain ⟨p0, p1, p2, v0, v1, v2, h, r, ch⟩ := o
  obtain ⟨W0, hW0, b0, HA, HM, HI, HR, hz0⟩ := four_boxesM w (woC p0 p1 p2 v0 v1 v2 h r ch) (eC m0 m1 m2 m3 m4 m5 m6 m7) (tC a b c) (woC 0 0 0 0 0 0 0 0 0) 24 26 22 24
  obtain ⟨f0, f1, f2, f3, f4, f5, f6, f7, f8⟩ := nine_froz HR
  obtain ⟨g0, g1, g2, g3, g4, g5, g6, g7, g8⟩ := nine_cells HR
  have HR := hide HR
  have Hb := hide b0
  clear b0 HA HM HI
  by_cases h0 : d < 0
  · clear hd
    go_enter Try.func7, Try.ntmps7
    go_wp2_with fail
    exact bodyPost_ret (wo_back2 (p := 10) (u := 11) (by kernel_rfl) _ _ (w.heap.size + 1 + 1 + 1) _ _ _ _ _ _ _ _ _ _ rfl rfl (HR.out.set9 _ _ _ _ _ _ _ _ _)) rfl ⟨rfl, below_set9 Hb.out _ _ _ _ _ _ _ _ _ _ (by omega) Hb.out.size⟩
  · have h8 : 8 < d := by omega
    clear hd
    go_enter Try.func7, Try.ntmps7
    go_wp2_with fail
    exact bodyPost_ret (wo_back2 (p := 10) (u := 11) (by kernel_rfl) _ _ (w.heap.size + 1 + 1 + 1) _ _ _ _ _ _ _ _ _ _ rfl rfl (HR.out.set9 _ _ _ _ _ _ _ _ _)) rfl ⟨rfl, below_set9 Hb.out _ _ _ _ _ _ _ _ _ _ (by omega) Hb.out.size⟩
set_option maxHeartbeats 4000000 in
set_option maxRecDepth 100000 in
theorem step_any (o : Wo) (d a b c dr l x y t : Int) (m0 m1 m2 m3 m4 m5 m6 m7 : Int) (w : World) (ho : WOk o) (hd : 0 ≤ d ∧ d ≤ 8) (ha : I64 a) (hb : I64 b) (hc : I64 c) (hdr : I64 dr) (hW : wkV (clamp (kil d 1 m0) 0 600) (clamp (kil d 2 m1) 0 600) (clamp (kil d 3 m2) 0 600) (clamp (kil d 4 m3) 0 600) (clamp (kil d 5 m4) 0 600) (clamp (kil d 6 m5) 0 600) (clamp (kil d 7 m6) 0 600) (clamp (kil d 8 m7) 0 600) = wV l x y t) : Calls Try.prog 7 #[woV o, eV m0 m1 m2 m3 m4 m5 m6 m7, .int .i64 d, tV a b c, .int .i64 dr] w fun e w' => e = .returned (.tuple #[woV (stepS o l x y t a b c dr), .int .i64 0]) ∧ Below w.heap.size w w' := by
  obtain ⟨il, ix, iy, it⟩ := wk_in hW (clamp_in (by decide)) (clamp_in (by decide)) (clamp_in (by decide)) (clamp_in (by decide)) (clamp_in (by decide)) (clamp_in (by decide)) (clamp_in (by decide)) (clamp_in (by decide))
  have WK := hide (fun W => work_any (kil d 1 m0) (kil d 2 m1) (kil d 3 m2) (kil d 4 m3) (kil d 5 m4) (kil d 6 m5) (kil d 7 m6) (kil d 8 m7) W)
  rw [hW] at WK
  have FL := hide (fun W => flyW_any o l x y t a b c W ho il ix iy it ha hb hc)
  have ST := hide (fun W => standW_any o W)
  have SB := hide (fun W => sub_any o.c dr W ho.c hdr)
  obtain ⟨k0, e0⟩ : ∃ k, Hid (kil d 1 m0 = k) := ⟨_, hide rfl⟩
  obtain ⟨k1, e1⟩ : ∃ k, Hid (kil d 2 m1 = k) := ⟨_, hide rfl⟩
  obtain ⟨k2, e2⟩ : ∃ k, Hid (kil d 3 m2 = k) := ⟨_, hide rfl⟩
  obtain ⟨k3, e3⟩ : ∃ k, Hid (kil d 4 m3 = k) := ⟨_, hide rfl⟩
  obtain ⟨k4, e4⟩ : ∃ k, Hid (kil d 5 m4 = k) := ⟨_, hide rfl⟩
  obtain ⟨k5, e5⟩ : ∃ k, Hid (kil d 6 m5 = k) := ⟨_, hide rfl⟩
  obtain ⟨k6, e6⟩ : ∃ k, Hid (kil d 7 m6 = k) := ⟨_, hide rfl⟩
  obtain ⟨k7, e7⟩ : ∃ k, Hid (kil d 8 m7 = k) := ⟨_, hide rfl⟩
  rw [e0.out, e1.out, e2.out, e3.out, e4.out, e5.out, e6.out, e7.out] at WK
  have hS : stepS o l x y t a b c dr = if (flyS o l x y t a b c).p2 ≤ 0 then ⟨o.p0, o.p1, 0, 0, 0, 0, o.h % 1048576, 0, sat (o.c - dr)⟩ else { flyS o l x y t a b c with h := (o.h + (flyS o l x y t a b c).r) % 1048576, c := sat (o.c - dr) } := rfl
  have hH : (flyS o l x y t a b c).h = o.h ∧ (flyS o l x y t a b c).c = o.c := ⟨rfl, rfl⟩
  obtain ⟨cc, ecc⟩ : ∃ k, sat (o.c - dr) = k := ⟨_, rfl⟩
  rw [ecc] at SB hS
  rw [hS]
  generalize flyS o l x y t a b c = F at *
  unfold standS at ST
  obtain ⟨p0, p1, p2, v0, v1, v2, h, r, ch⟩ := o
  obtain ⟨P0, P1, P2, V0, V1, V2, H, R, C⟩ := F
  simp only [] at hH
  obtain ⟨rfl, rfl⟩ := hH
  simp only [] at ST SB ⊢
  obtain ⟨Z, hZ⟩ : ∃ Z : Wo, Hid ((if P2 ≤ 0 then (⟨p0, p1, 0, 0, 0, 0, H % 1048576, 0, cc⟩ : Wo) else ⟨P0, P1, P2, V0, V1, V2, (H + R) % 1048576, R, cc⟩) = Z) := ⟨_, hide rfl⟩
  rw [hZ.out]
  clear ho ha hb hc hdr hW il ix iy it hS ecc
  obtain ⟨W0, hW0, b0, A0, M0, I0, R0, hz0⟩ := four_boxesM w (woC p0 p1 p2 v0 v1 v2 H r C) (eC m0 m1 m2 m3 m4 m5 m6 m7) (tC a b c) (woC 0 0 0 0 0 0 0 0 0) 24 26 22 24
  have HA := hide A0
  have HM := hide M0
  have HI := hide I0
  have HR := hide R0
  have Hb := hide b0
  clear b0 A0 M0 I0 R0
  have d0 : ¬ d < 0 := by omega
  have d8 : ¬ 8 < d := by omega
  go_enter Try.func7, Try.ntmps7
  go_upto_if 21 with fail
  go_cut [] (fun wx => Blk wx w.heap.size (woC p0 p1 p2 v0 v1 v2 H r C) 24 ∧ Blk wx (w.heap.size + 1) (eC k0 k1 k2 k3 k4 k5 k6 k7) 26 ∧ Blk wx (w.heap.size + 1 + 1) (tC a b c) 22 ∧ Blk wx (w.heap.size + 1 + 1 + 1) (woC 0 0 0 0 0 0 0 0 0) 24 ∧ Below w.heap.size w wx)
  case first =>
    clear WK FL ST SB
    obtain rfl | rfl | rfl | rfl | rfl | rfl | rfl | rfl | rfl : d = 0 ∨ d = 1 ∨ d = 2 ∨ d = 3 ∨ d = 4 ∨ d = 5 ∨ d = 6 ∨ d = 7 ∨ d = 8 := by omega
    · have hk : m0 = k0 ∧ m1 = k1 ∧ m2 = k2 ∧ m3 = k3 ∧ m4 = k4 ∧ m5 = k5 ∧ m6 = k6 ∧ m7 = k7 := ⟨e0.out, e1.out, e2.out, e3.out, e4.out, e5.out, e6.out, e7.out⟩
      obtain ⟨rfl, rfl, rfl, rfl, rfl, rfl, rfl, rfl⟩ := hk
      go_wp2_with fail
      go_meet
      exact ⟨HA.out, HM.out, HI.out, HR.out, Hb.out⟩
    · have hk : 0 = k0 ∧ m1 = k1 ∧ m2 = k2 ∧ m3 = k3 ∧ m4 = k4 ∧ m5 = k5 ∧ m6 = k6 ∧ m7 = k7 := ⟨e0.out, e1.out, e2.out, e3.out, e4.out, e5.out, e6.out, e7.out⟩
      obtain ⟨rfl, rfl, rfl, rfl, rfl, rfl, rfl, rfl⟩ := hk
      have c0 := HM.out.cell 0 rfl
      have f0 := HM.out.frozen 0
      go_wp2_with fail
      go_meet
      exact ⟨HA.out.setOther (by omega) _ _, HM.out.set 0 _, HI.out.setOther (by omega) _ _, HR.out.setOther (by omega) _ _, below_set Hb.out _ _ _ (by omega) Hb.out.size⟩
    · have hk : m0 = k0 ∧ 0 = k1 ∧ m2 = k2 ∧ m3 = k3 ∧ m4 = k4 ∧ m5 = k5 ∧ m6 = k6 ∧ m7 = k7 := ⟨e0.out, e1.out, e2.out, e3.out, e4.out, e5.out, e6.out, e7.out⟩
      obtain ⟨rfl, rfl, rfl, rfl, rfl, rfl, rfl, rfl⟩ := hk
      have c0 := HM.out.cell 1 rfl
      have f0 := HM.out.frozen 1
      go_wp2_with fail
      go_meet
      exact ⟨HA.out.setOther (by omega) _ _, HM.out.set 1 _, HI.out.setOther (by omega) _ _, HR.out.setOther (by omega) _ _, below_set Hb.out _ _ _ (by omega) Hb.out.size⟩
    · have hk : m0 = k0 ∧ m1 = k1 ∧ 0 = k2 ∧ m3 = k3 ∧ m4 = k4 ∧ m5 = k5 ∧ m6 = k6 ∧ m7 = k7 := ⟨e0.out, e1.out, e2.out, e3.out, e4.out, e5.out, e6.out, e7.out⟩
      obtain ⟨rfl, rfl, rfl, rfl, rfl, rfl, rfl, rfl⟩ := hk
      have c0 := HM.out.cell 2 rfl
      have f0 := HM.out.frozen 2
      go_wp2_with fail
      go_meet
      exact ⟨HA.out.setOther (by omega) _ _, HM.out.set 2 _, HI.out.setOther (by omega) _ _, HR.out.setOther (by omega) _ _, below_set Hb.out _ _ _ (by omega) Hb.out.size⟩
    · have hk : m0 = k0 ∧ m1 = k1 ∧ m2 = k2 ∧ 0 = k3 ∧ m4 = k4 ∧ m5 = k5 ∧ m6 = k6 ∧ m7 = k7 := ⟨e0.out, e1.out, e2.out, e3.out, e4.out, e5.out, e6.out, e7.out⟩
      obtain ⟨rfl, rfl, rfl, rfl, rfl, rfl, rfl, rfl⟩ := hk
      have c0 := HM.out.cell 3 rfl
      have f0 := HM.out.frozen 3
      go_wp2_with fail
      go_meet
      exact ⟨HA.out.setOther (by omega) _ _, HM.out.set 3 _, HI.out.setOther (by omega) _ _, HR.out.setOther (by omega) _ _, below_set Hb.out _ _ _ (by omega) Hb.out.size⟩
    · have hk : m0 = k0 ∧ m1 = k1 ∧ m2 = k2 ∧ m3 = k3 ∧ 0 = k4 ∧ m5 = k5 ∧ m6 = k6 ∧ m7 = k7 := ⟨e0.out, e1.out, e2.out, e3.out, e4.out, e5.out, e6.out, e7.out⟩
      obtain ⟨rfl, rfl, rfl, rfl, rfl, rfl, rfl, rfl⟩ := hk
      have c0 := HM.out.cell 4 rfl
      have f0 := HM.out.frozen 4
      go_wp2_with fail
      go_meet
      exact ⟨HA.out.setOther (by omega) _ _, HM.out.set 4 _, HI.out.setOther (by omega) _ _, HR.out.setOther (by omega) _ _, below_set Hb.out _ _ _ (by omega) Hb.out.size⟩
    · have hk : m0 = k0 ∧ m1 = k1 ∧ m2 = k2 ∧ m3 = k3 ∧ m4 = k4 ∧ 0 = k5 ∧ m6 = k6 ∧ m7 = k7 := ⟨e0.out, e1.out, e2.out, e3.out, e4.out, e5.out, e6.out, e7.out⟩
      obtain ⟨rfl, rfl, rfl, rfl, rfl, rfl, rfl, rfl⟩ := hk
      have c0 := HM.out.cell 5 rfl
      have f0 := HM.out.frozen 5
      go_wp2_with fail
      go_meet
      exact ⟨HA.out.setOther (by omega) _ _, HM.out.set 5 _, HI.out.setOther (by omega) _ _, HR.out.setOther (by omega) _ _, below_set Hb.out _ _ _ (by omega) Hb.out.size⟩
    · have hk : m0 = k0 ∧ m1 = k1 ∧ m2 = k2 ∧ m3 = k3 ∧ m4 = k4 ∧ m5 = k5 ∧ 0 = k6 ∧ m7 = k7 := ⟨e0.out, e1.out, e2.out, e3.out, e4.out, e5.out, e6.out, e7.out⟩
      obtain ⟨rfl, rfl, rfl, rfl, rfl, rfl, rfl, rfl⟩ := hk
      have c0 := HM.out.cell 6 rfl
      have f0 := HM.out.frozen 6
      go_wp2_with fail
      go_meet
      exact ⟨HA.out.setOther (by omega) _ _, HM.out.set 6 _, HI.out.setOther (by omega) _ _, HR.out.setOther (by omega) _ _, below_set Hb.out _ _ _ (by omega) Hb.out.size⟩
    · have hk : m0 = k0 ∧ m1 = k1 ∧ m2 = k2 ∧ m3 = k3 ∧ m4 = k4 ∧ m5 = k5 ∧ m6 = k6 ∧ 0 = k7 := ⟨e0.out, e1.out, e2.out, e3.out, e4.out, e5.out, e6.out, e7.out⟩
      obtain ⟨rfl, rfl, rfl, rfl, rfl, rfl, rfl, rfl⟩ := hk
      have c0 := HM.out.cell 7 rfl
      have f0 := HM.out.frozen 7
      go_wp2_with fail
      go_meet
      exact ⟨HA.out.setOther (by omega) _ _, HM.out.set 7 _, HI.out.setOther (by omega) _ _, HR.out.setOther (by omega) _ _, below_set Hb.out _ _ _ (by omega) Hb.out.size⟩
  case rest =>
    obtain ⟨hA, hM, hI, hR, hb⟩ := hcut
    clear HA HM HI HR Hb e0 e1 e2 e3 e4 e5 e6 e7 d0 d8 hd
    have HA := hide hA
    have HM := hide hM
    have HI := hide hI
    have HR := hide hR
    have Hb := hide hb
    clear hA hM hI hR hb
    go_upto_region 5 with fail
    go_cut [12] (fun vv wx => ∃ bn, vv = .pointer (some ⟨bn, 0, none⟩) ∧ w.heap.size + 1 + 1 + 1 < bn ∧ Blk wx bn (woC P0 P1 P2 V0 V1 V2 H R C) 24 ∧ Blk wx w.heap.size (woC p0 p1 p2 v0 v1 v2 H r C) 24 ∧ Blk wx (w.heap.size + 1 + 1 + 1) (woC 0 0 0 0 0 0 0 0 0) 24 ∧ Below w.heap.size w wx)
    case first =>
      refine reg_last_held (fun wx => wx.cell? ⟨w.heap.size, 0, none⟩ = some (.int .i64 p0) ∧ wx.cell? ⟨w.heap.size, 1, none⟩ = some (.int .i64 p1) ∧ wx.cell? ⟨w.heap.size, 2, none⟩ = some (.int .i64 p2) ∧ wx.cell? ⟨w.heap.size, 3, none⟩ = some (.int .i64 v0) ∧ wx.cell? ⟨w.heap.size, 4, none⟩ = some (.int .i64 v1) ∧ wx.cell? ⟨w.heap.size, 5, none⟩ = some (.int .i64 v2) ∧ wx.cell? ⟨w.heap.size, 6, none⟩ = some (.int .i64 H) ∧ wx.cell? ⟨w.heap.size, 7, none⟩ = some (.int .i64 r) ∧ wx.cell? ⟨w.heap.size, 8, none⟩ = some (.int .i64 C) ∧ wx.cell? ⟨(w.heap.size + 1), 0, none⟩ = some (.int .i64 k0) ∧ wx.cell? ⟨(w.heap.size + 1), 1, none⟩ = some (.int .i64 k1) ∧ wx.cell? ⟨(w.heap.size + 1), 2, none⟩ = some (.int .i64 k2) ∧ wx.cell? ⟨(w.heap.size + 1), 3, none⟩ = some (.int .i64 k3) ∧ wx.cell? ⟨(w.heap.size + 1), 4, none⟩ = some (.int .i64 k4) ∧ wx.cell? ⟨(w.heap.size + 1), 5, none⟩ = some (.int .i64 k5) ∧ wx.cell? ⟨(w.heap.size + 1), 6, none⟩ = some (.int .i64 k6) ∧ wx.cell? ⟨(w.heap.size + 1), 7, none⟩ = some (.int .i64 k7) ∧ wx.cell? ⟨(w.heap.size + 1 + 1), 0, none⟩ = some (.int .i64 a) ∧ wx.cell? ⟨(w.heap.size + 1 + 1), 1, none⟩ = some (.int .i64 b) ∧ wx.cell? ⟨(w.heap.size + 1 + 1), 2, none⟩ = some (.int .i64 c)) 6 rfl rfl _ rfl (by kernel_rfl) (by kernel_rfl) (⟨HA.out.cell 0 rfl, HA.out.cell 1 rfl, HA.out.cell 2 rfl, HA.out.cell 3 rfl, HA.out.cell 4 rfl, HA.out.cell 5 rfl, HA.out.cell 6 rfl, HA.out.cell 7 rfl, HA.out.cell 8 rfl, HM.out.cell 0 rfl, HM.out.cell 1 rfl, HM.out.cell 2 rfl, HM.out.cell 3 rfl, HM.out.cell 4 rfl, HM.out.cell 5 rfl, HM.out.cell 6 rfl, HM.out.cell 7 rfl, HI.out.cell 0 rfl, HI.out.cell 1 rfl, HI.out.cell 2 rfl⟩) (fun hHeld => ?_)
      simp only [List.take_succ_cons, List.take_zero]
      replace HA := hide (blk_drew HA.out)
      replace HM := hide (blk_drew HM.out)
      replace HI := hide (blk_drew HI.out)
      replace HR := hide (blk_drew HR.out)
      replace Hb := hide (Hb.out.drew)
      generalize wc.drew = Wd at *
      refine take_at (i := 0) (v := .agg #[.int .i64 p0, .int .i64 p1, .int .i64 p2, .int .i64 v0, .int .i64 v1, .int .i64 v2, .int .i64 H, .int .i64 r, .int .i64 C]) (d := some 25) rfl rfl (by kernel_rfl) (by kernel_rfl) (by kernel_rfl) (fun _ _ _ h => h) (Or.inl ⟨by rfl, fun wS ⟨hS0, hS1, hS2, hS3, hS4, hS5, hS6, hS7, hS8, hS9, hS10, hS11, hS12, hS13, hS14, hS15, hS16, hS17, hS18, hS19⟩ => by go_simp; all_goals (rw [IntKind.wrap_i64]; omega)⟩) (by assumption) ?_
      simp only [Act.put, List.setIfInBounds_toArray, List.set_cons_zero, List.set_cons_succ]
      refine take_at (i := 1) (v := .agg #[.int .i64 k0, .int .i64 k1, .int .i64 k2, .int .i64 k3, .int .i64 k4, .int .i64 k5, .int .i64 k6, .int .i64 k7]) (d := some 26) rfl rfl (by kernel_rfl) (by kernel_rfl) (by kernel_rfl) (fun _ _ _ h => h) (Or.inl ⟨by rfl, fun wS ⟨hS0, hS1, hS2, hS3, hS4, hS5, hS6, hS7, hS8, hS9, hS10, hS11, hS12, hS13, hS14, hS15, hS16, hS17, hS18, hS19⟩ => by go_simp; all_goals (rw [IntKind.wrap_i64]; omega)⟩) (by assumption) ?_
      simp only [Act.put, List.setIfInBounds_toArray, List.set_cons_zero, List.set_cons_succ]
      refine take_at (i := 3) (v := .agg #[.int .i64 a, .int .i64 b, .int .i64 c]) (d := some 28) rfl rfl (by kernel_rfl) (by kernel_rfl) (by kernel_rfl) (fun _ _ _ h => h) (Or.inl ⟨by rfl, fun wS ⟨hS0, hS1, hS2, hS3, hS4, hS5, hS6, hS7, hS8, hS9, hS10, hS11, hS12, hS13, hS14, hS15, hS16, hS17, hS18, hS19⟩ => by go_simp; all_goals (rw [IntKind.wrap_i64]; omega)⟩) (by assumption) ?_
      simp only [Act.put, List.setIfInBounds_toArray, List.set_cons_zero, List.set_cons_succ]
      clear hHeld
      refine wpAnyH_ready (rs := [2, 5]) (by kernel_rfl) (by simp) ?_
      refine AllReadyH.cons rfl (fun K hK => ?_) (AllReadyH.cons rfl (fun K hK => ?_) AllReadyH.nil)
      · go_simp
        refine (WK.out _).mono ?_
        rintro e wt1 ⟨rfl, hb⟩
        replace HA := hide (HA.out.after hb)
        replace HM := hide (HM.out.after hb)
        replace HI := hide (HI.out.after hb)
        replace HR := hide (HR.out.after hb)
        replace Hb := hide (below_next Hb.out (Nat.le_refl _) hb)
        clear hb
        refine hK.out _ _ (⟨HA.out.cell 0 rfl, HA.out.cell 1 rfl, HA.out.cell 2 rfl, HA.out.cell 3 rfl, HA.out.cell 4 rfl, HA.out.cell 5 rfl, HA.out.cell 6 rfl, HA.out.cell 7 rfl, HA.out.cell 8 rfl, HM.out.cell 0 rfl, HM.out.cell 1 rfl, HM.out.cell 2 rfl, HM.out.cell 3 rfl, HM.out.cell 4 rfl, HM.out.cell 5 rfl, HM.out.cell 6 rfl, HM.out.cell 7 rfl, HI.out.cell 0 rfl, HI.out.cell 1 rfl, HI.out.cell 2 rfl⟩) (fun hHeld => ?_)
        clear hK K
        clear hHeld
        refine wpAnyH_ready (rs := [4, 5]) (by kernel_rfl) (by simp) ?_
        refine AllReadyH.cons rfl (fun K hK => ?_) (AllReadyH.cons rfl (fun K hK => ?_) AllReadyH.nil)
        · go_simp
          refine (FL.out _).mono ?_
          rintro e wt2 ⟨rfl, hb⟩
          replace HA := hide (HA.out.after hb)
          replace HM := hide (HM.out.after hb)
          replace HI := hide (HI.out.after hb)
          replace HR := hide (HR.out.after hb)
          replace Hb := hide (below_next Hb.out (Nat.le_refl _) hb)
          clear hb
          refine hK.out _ _ (⟨HA.out.cell 0 rfl, HA.out.cell 1 rfl, HA.out.cell 2 rfl, HA.out.cell 3 rfl, HA.out.cell 4 rfl, HA.out.cell 5 rfl, HA.out.cell 6 rfl, HA.out.cell 7 rfl, HA.out.cell 8 rfl, HM.out.cell 0 rfl, HM.out.cell 1 rfl, HM.out.cell 2 rfl, HM.out.cell 3 rfl, HM.out.cell 4 rfl, HM.out.cell 5 rfl, HM.out.cell 6 rfl, HM.out.cell 7 rfl, HI.out.cell 0 rfl, HI.out.cell 1 rfl, HI.out.cell 2 rfl⟩) (fun hHeld => ?_)
          clear hK K
          clear hHeld
          refine wpAnyH_ready (rs := [5]) (by kernel_rfl) (by simp) ?_
          refine AllReadyH.cons rfl (fun K hK => ?_) AllReadyH.nil
          go_simp
          have HZ := hide (Blk.new wt2 (woC 0 0 0 0 0 0 0 0 0) 24)
          have hzb := HR.out.lt
          replace HA := hide (HA.out.after (below_alloc wt2 (.cells (woC 0 0 0 0 0 0 0 0 0) 24)))
          replace HM := hide (HM.out.after (below_alloc wt2 (.cells (woC 0 0 0 0 0 0 0 0 0) 24)))
          replace HI := hide (HI.out.after (below_alloc wt2 (.cells (woC 0 0 0 0 0 0 0 0 0) 24)))
          replace HR := hide (HR.out.after (below_alloc wt2 (.cells (woC 0 0 0 0 0 0 0 0 0) 24)))
          replace Hb := hide (below_next Hb.out (Nat.le_refl _) (below_alloc wt2 (.cells (woC 0 0 0 0 0 0 0 0 0) 24)))
          generalize wt2.heap.size = bz at *
          generalize wt2.alloc (.cells (woC 0 0 0 0 0 0 0 0 0) 24) = wt3 at *
          refine hK.out _ _ (⟨HA.out.cell 0 rfl, HA.out.cell 1 rfl, HA.out.cell 2 rfl, HA.out.cell 3 rfl, HA.out.cell 4 rfl, HA.out.cell 5 rfl, HA.out.cell 6 rfl, HA.out.cell 7 rfl, HA.out.cell 8 rfl, HM.out.cell 0 rfl, HM.out.cell 1 rfl, HM.out.cell 2 rfl, HM.out.cell 3 rfl, HM.out.cell 4 rfl, HM.out.cell 5 rfl, HM.out.cell 6 rfl, HM.out.cell 7 rfl, HI.out.cell 0 rfl, HI.out.cell 1 rfl, HI.out.cell 2 rfl⟩) (fun hHeld => ?_)
          clear hK K
          clear hHeld
          refine wpAnyH_done (by kernel_rfl) (then_last ?_) _
          obtain ⟨f0, f1, f2, f3, f4, f5, f6, f7, f8⟩ := nine_froz HZ.out
          obtain ⟨g0, g1, g2, g3, g4, g5, g6, g7, g8⟩ := nine_cells HZ.out
          go_simp
          (try go_wp2_with fail)
          go_meet
          exact ⟨bz, rfl, hzb, HZ.out.set9 _ _ _ _ _ _ _ _ _, HA.out.set9o (by omega) _ _ _ _ _ _ _ _ _, HR.out.set9o (by omega) _ _ _ _ _ _ _ _ _, below_set9 Hb.out _ _ _ _ _ _ _ _ _ _ (by omega) Hb.out.size⟩
        · go_simp
          have HZ := hide (Blk.new wt1 (woC 0 0 0 0 0 0 0 0 0) 24)
          have hzb := HR.out.lt
          replace HA := hide (HA.out.after (below_alloc wt1 (.cells (woC 0 0 0 0 0 0 0 0 0) 24)))
          replace HM := hide (HM.out.after (below_alloc wt1 (.cells (woC 0 0 0 0 0 0 0 0 0) 24)))
          replace HI := hide (HI.out.after (below_alloc wt1 (.cells (woC 0 0 0 0 0 0 0 0 0) 24)))
          replace HR := hide (HR.out.after (below_alloc wt1 (.cells (woC 0 0 0 0 0 0 0 0 0) 24)))
          replace Hb := hide (below_next Hb.out (Nat.le_refl _) (below_alloc wt1 (.cells (woC 0 0 0 0 0 0 0 0 0) 24)))
          generalize wt1.heap.size = bz at *
          generalize wt1.alloc (.cells (woC 0 0 0 0 0 0 0 0 0) 24) = wt4 at *
          refine hK.out _ _ (⟨HA.out.cell 0 rfl, HA.out.cell 1 rfl, HA.out.cell 2 rfl, HA.out.cell 3 rfl, HA.out.cell 4 rfl, HA.out.cell 5 rfl, HA.out.cell 6 rfl, HA.out.cell 7 rfl, HA.out.cell 8 rfl, HM.out.cell 0 rfl, HM.out.cell 1 rfl, HM.out.cell 2 rfl, HM.out.cell 3 rfl, HM.out.cell 4 rfl, HM.out.cell 5 rfl, HM.out.cell 6 rfl, HM.out.cell 7 rfl, HI.out.cell 0 rfl, HI.out.cell 1 rfl, HI.out.cell 2 rfl⟩) (fun hHeld => ?_)
          clear hK K
          clear hHeld
          refine wpAnyH_ready (rs := [4]) (by kernel_rfl) (by simp) ?_
          refine AllReadyH.cons rfl (fun K hK => ?_) AllReadyH.nil
          go_simp
          refine (FL.out _).mono ?_
          rintro e wt5 ⟨rfl, hb⟩
          replace HA := hide (HA.out.after hb)
          replace HM := hide (HM.out.after hb)
          replace HI := hide (HI.out.after hb)
          replace HR := hide (HR.out.after hb)
          replace Hb := hide (below_next Hb.out (Nat.le_refl _) hb)
          replace HZ := hide (HZ.out.after hb)
          clear hb
          refine hK.out _ _ (⟨HA.out.cell 0 rfl, HA.out.cell 1 rfl, HA.out.cell 2 rfl, HA.out.cell 3 rfl, HA.out.cell 4 rfl, HA.out.cell 5 rfl, HA.out.cell 6 rfl, HA.out.cell 7 rfl, HA.out.cell 8 rfl, HM.out.cell 0 rfl, HM.out.cell 1 rfl, HM.out.cell 2 rfl, HM.out.cell 3 rfl, HM.out.cell 4 rfl, HM.out.cell 5 rfl, HM.out.cell 6 rfl, HM.out.cell 7 rfl, HI.out.cell 0 rfl, HI.out.cell 1 rfl, HI.out.cell 2 rfl⟩) (fun hHeld => ?_)
          clear hK K
          clear hHeld
          refine wpAnyH_done (by kernel_rfl) (then_last ?_) _
          obtain ⟨f0, f1, f2, f3, f4, f5, f6, f7, f8⟩ := nine_froz HZ.out
          obtain ⟨g0, g1, g2, g3, g4, g5, g6, g7, g8⟩ := nine_cells HZ.out
          go_simp
          (try go_wp2_with fail)
          go_meet
          exact ⟨bz, rfl, hzb, HZ.out.set9 _ _ _ _ _ _ _ _ _, HA.out.set9o (by omega) _ _ _ _ _ _ _ _ _, HR.out.set9o (by omega) _ _ _ _ _ _ _ _ _, below_set9 Hb.out _ _ _ _ _ _ _ _ _ _ (by omega) Hb.out.size⟩
      · go_simp
        have HZ := hide (Blk.new Wd (woC 0 0 0 0 0 0 0 0 0) 24)
        have hzb := HR.out.lt
        replace HA := hide (HA.out.after (below_alloc Wd (.cells (woC 0 0 0 0 0 0 0 0 0) 24)))
        replace HM := hide (HM.out.after (below_alloc Wd (.cells (woC 0 0 0 0 0 0 0 0 0) 24)))
        replace HI := hide (HI.out.after (below_alloc Wd (.cells (woC 0 0 0 0 0 0 0 0 0) 24)))
        replace HR := hide (HR.out.after (below_alloc Wd (.cells (woC 0 0 0 0 0 0 0 0 0) 24)))
        replace Hb := hide (below_next Hb.out (Nat.le_refl _) (below_alloc Wd (.cells (woC 0 0 0 0 0 0 0 0 0) 24)))
        generalize Wd.heap.size = bz at *
        generalize Wd.alloc (.cells (woC 0 0 0 0 0 0 0 0 0) 24) = wt6 at *
        refine hK.out _ _ (⟨HA.out.cell 0 rfl, HA.out.cell 1 rfl, HA.out.cell 2 rfl, HA.out.cell 3 rfl, HA.out.cell 4 rfl, HA.out.cell 5 rfl, HA.out.cell 6 rfl, HA.out.cell 7 rfl, HA.out.cell 8 rfl, HM.out.cell 0 rfl, HM.out.cell 1 rfl, HM.out.cell 2 rfl, HM.out.cell 3 rfl, HM.out.cell 4 rfl, HM.out.cell 5 rfl, HM.out.cell 6 rfl, HM.out.cell 7 rfl, HI.out.cell 0 rfl, HI.out.cell 1 rfl, HI.out.cell 2 rfl⟩) (fun hHeld => ?_)
        clear hK K
        clear hHeld
        refine wpAnyH_ready (rs := [2]) (by kernel_rfl) (by simp) ?_
        refine AllReadyH.cons rfl (fun K hK => ?_) AllReadyH.nil
        go_simp
        refine (WK.out _).mono ?_
        rintro e wt7 ⟨rfl, hb⟩
        replace HA := hide (HA.out.after hb)
        replace HM := hide (HM.out.after hb)
        replace HI := hide (HI.out.after hb)
        replace HR := hide (HR.out.after hb)
        replace Hb := hide (below_next Hb.out (Nat.le_refl _) hb)
        replace HZ := hide (HZ.out.after hb)
        clear hb
        refine hK.out _ _ (⟨HA.out.cell 0 rfl, HA.out.cell 1 rfl, HA.out.cell 2 rfl, HA.out.cell 3 rfl, HA.out.cell 4 rfl, HA.out.cell 5 rfl, HA.out.cell 6 rfl, HA.out.cell 7 rfl, HA.out.cell 8 rfl, HM.out.cell 0 rfl, HM.out.cell 1 rfl, HM.out.cell 2 rfl, HM.out.cell 3 rfl, HM.out.cell 4 rfl, HM.out.cell 5 rfl, HM.out.cell 6 rfl, HM.out.cell 7 rfl, HI.out.cell 0 rfl, HI.out.cell 1 rfl, HI.out.cell 2 rfl⟩) (fun hHeld => ?_)
        clear hK K
        clear hHeld
        refine wpAnyH_ready (rs := [4]) (by kernel_rfl) (by simp) ?_
        refine AllReadyH.cons rfl (fun K hK => ?_) AllReadyH.nil
        go_simp
        refine (FL.out _).mono ?_
        rintro e wt8 ⟨rfl, hb⟩
        replace HA := hide (HA.out.after hb)
        replace HM := hide (HM.out.after hb)
        replace HI := hide (HI.out.after hb)
        replace HR := hide (HR.out.after hb)
        replace Hb := hide (below_next Hb.out (Nat.le_refl _) hb)
        replace HZ := hide (HZ.out.after hb)
        clear hb
        refine hK.out _ _ (⟨HA.out.cell 0 rfl, HA.out.cell 1 rfl, HA.out.cell 2 rfl, HA.out.cell 3 rfl, HA.out.cell 4 rfl, HA.out.cell 5 rfl, HA.out.cell 6 rfl, HA.out.cell 7 rfl, HA.out.cell 8 rfl, HM.out.cell 0 rfl, HM.out.cell 1 rfl, HM.out.cell 2 rfl, HM.out.cell 3 rfl, HM.out.cell 4 rfl, HM.out.cell 5 rfl, HM.out.cell 6 rfl, HM.out.cell 7 rfl, HI.out.cell 0 rfl, HI.out.cell 1 rfl, HI.out.cell 2 rfl⟩) (fun hHeld => ?_)
        clear hK K
        clear hHeld
        refine wpAnyH_done (by kernel_rfl) (then_last ?_) _
        obtain ⟨f0, f1, f2, f3, f4, f5, f6, f7, f8⟩ := nine_froz HZ.out
        obtain ⟨g0, g1, g2, g3, g4, g5, g6, g7, g8⟩ := nine_cells HZ.out
        go_simp
        (try go_wp2_with fail)
        go_meet
        exact ⟨bz, rfl, hzb, HZ.out.set9 _ _ _ _ _ _ _ _ _, HA.out.set9o (by omega) _ _ _ _ _ _ _ _ _, HR.out.set9o (by omega) _ _ _ _ _ _ _ _ _, below_set9 Hb.out _ _ _ _ _ _ _ _ _ _ (by omega) Hb.out.size⟩
    case rest =>
      obtain ⟨bn, rfl, hbn, hN, hA, hR, hb⟩ := hcut
      clear HA HM HI HR Hb WK FL
      have HN := hide hN
      have HA := hide hA
      have HR := hide hR
      have Hb := hide hb
      have cp : wc.cell? ⟨bn, 2, none⟩ = some (.int .i64 P2) := hN.cell 2 rfl
      clear hN hA hR hb
      by_cases hp : P2 ≤ 0
      · have hz' := hZ.out
        rw [if_pos hp] at hz'
        subst hz'
        clear hZ
        obtain ⟨a0, a1, a2, a3, a4, a5, a6, a7, a8⟩ := nine_cells HA.out
        go_upto_region 8 with (go_at_call 22; refine (ST.out _).mono ?_; rintro e w1 ⟨rfl, hb1⟩; replace HN := hide (HN.out.after hb1); replace HA := hide (HA.out.after hb1); replace HR := hide (HR.out.after hb1); replace Hb := hide (below_next Hb.out (Nat.le_refl _) hb1); clear hb1 cp; obtain ⟨f0, f1, f2, f3, f4, f5, f6, f7, f8⟩ := nine_froz HN.out; obtain ⟨g0, g1, g2, g3, g4, g5, g6, g7, g8⟩ := nine_cells HN.out)
        replace HN := hide (show Blk _ bn (woC p0 p1 0 0 0 0 H 0 C) 24 from HN.out.set9 (.int .i64 p0) (.int .i64 p1) (.int .i64 0) (.int .i64 0) (.int .i64 0) (.int .i64 0) (.int .i64 H) (.int .i64 0) (.int .i64 C))
        replace HA := hide (HA.out.set9o (C := bn) (by omega) (.int .i64 p0) (.int .i64 p1) (.int .i64 0) (.int .i64 0) (.int .i64 0) (.int .i64 0) (.int .i64 H) (.int .i64 0) (.int .i64 C))
        replace HR := hide (HR.out.set9o (C := bn) (by omega) (.int .i64 p0) (.int .i64 p1) (.int .i64 0) (.int .i64 0) (.int .i64 0) (.int .i64 0) (.int .i64 H) (.int .i64 0) (.int .i64 C))
        replace Hb := hide (below_set9 Hb.out bn (.int .i64 p0) (.int .i64 p1) (.int .i64 0) (.int .i64 0) (.int .i64 0) (.int .i64 0) (.int .i64 H) (.int .i64 0) (.int .i64 C) (by omega) Hb.out.size)
        clear a0 a1 a2 a3 a4 a5 a6 a7 a8 ST f0 f1 f2 f3 f4 f5 f6 f7 f8 g0 g1 g2 g3 g4 g5 g6 g7 g8
        generalize ((((((((w1.setCell ⟨bn, 0, none⟩ (.int .i64 p0)).setCell ⟨bn, 1, none⟩ (.int .i64 p1)).setCell ⟨bn, 2, none⟩ (.int .i64 0)).setCell ⟨bn, 3, none⟩ (.int .i64 0)).setCell ⟨bn, 4, none⟩ (.int .i64 0)).setCell ⟨bn, 5, none⟩ (.int .i64 0)).setCell ⟨bn, 6, none⟩ (.int .i64 H)).setCell ⟨bn, 7, none⟩ (.int .i64 0)).setCell ⟨bn, 8, none⟩ (.int .i64 C) = W2 at *
        have a6 := HA.out.cell 6 rfl
        have a8 := HA.out.cell 8 rfl
        have f6 := HN.out.frozen 6
        have f8 := HN.out.frozen 8
        have g6 := HN.out.cell 6 rfl
        have g7 := HN.out.cell 7 rfl
        have g8 := HN.out.cell 8 rfl
        have eH : wrap64 (H) % 1048576 = (H % 1048576) := by unfold wrap64; omega
        go_upto_region 9 with (go_at_call 23; refine (within20 _ _).mono ?_; rintro e w2 ⟨rfl, hw⟩; obtain rfl := hw.symm)
        try rw [eH]
        replace HN := hide (show Blk _ bn (woC p0 p1 0 0 0 0 (H % 1048576) 0 C) 24 from HN.out.set 6 (.int .i64 (H % 1048576)))
        replace HA := hide (HA.out.setOther (C := bn) (by omega) 6 (.int .i64 (H % 1048576)))
        replace HR := hide (HR.out.setOther (C := bn) (by omega) 6 (.int .i64 (H % 1048576)))
        replace Hb := hide (below_set Hb.out bn 6 (.int .i64 (H % 1048576)) (by omega) Hb.out.size)
        clear a6 a8 f6 f8 g6 g7 g8
        generalize W2.setCell ⟨bn, 6, none⟩ (.int .i64 (H % 1048576)) = W3 at *
        have a6 := HA.out.cell 6 rfl
        have a8 := HA.out.cell 8 rfl
        have f6 := HN.out.frozen 6
        have f8 := HN.out.frozen 8
        have g6 := HN.out.cell 6 rfl
        have g7 := HN.out.cell 7 rfl
        have g8 := HN.out.cell 8 rfl
        go_upto_region 10 with (go_at_call 24; refine (SB.out _).mono ?_; rintro e w2 ⟨rfl, hw⟩; obtain rfl := hw.symm)
        replace HN := hide (show Blk _ bn (woC p0 p1 0 0 0 0 (H % 1048576) 0 cc) 24 from HN.out.set 8 (.int .i64 cc))
        replace HA := hide (HA.out.setOther (C := bn) (by omega) 8 (.int .i64 cc))
        replace HR := hide (HR.out.setOther (C := bn) (by omega) 8 (.int .i64 cc))
        replace Hb := hide (below_set Hb.out bn 8 (.int .i64 cc) (by omega) Hb.out.size)
        clear a6 a8 f6 f8 g6 g7 g8
        generalize W3.setCell ⟨bn, 8, none⟩ (.int .i64 cc) = W4 at *
        obtain ⟨a0, a1, a2, a3, a4, a5, a6, a7, a8⟩ := nine_cells HN.out
        obtain ⟨f0, f1, f2, f3, f4, f5, f6, f7, f8⟩ := nine_froz HR.out
        obtain ⟨g0, g1, g2, g3, g4, g5, g6, g7, g8⟩ := nine_cells HR.out
        go_wp2_with fail
        exact bodyPost_ret (wo_back2 (p := 10) (u := 11) (by kernel_rfl) _ _ (w.heap.size + 1 + 1 + 1) _ _ _ _ _ _ _ _ _ _ rfl rfl (HR.out.set9 _ _ _ _ _ _ _ _ _)) rfl ⟨rfl, below_set9 Hb.out _ _ _ _ _ _ _ _ _ _ (by omega) Hb.out.size⟩
      · have hz' := hZ.out
        rw [if_neg hp] at hz'
        subst hz'
        clear hZ
        clear ST
        generalize wc = W2 at *
        have a6 := HA.out.cell 6 rfl
        have a8 := HA.out.cell 8 rfl
        have f6 := HN.out.frozen 6
        have f8 := HN.out.frozen 8
        have g6 := HN.out.cell 6 rfl
        have g7 := HN.out.cell 7 rfl
        have g8 := HN.out.cell 8 rfl
        have eH : wrap64 (H + R) % 1048576 = ((H + R) % 1048576) := by unfold wrap64; omega
        go_upto_region 9 with (go_at_call 23; refine (within20 _ _).mono ?_; rintro e w2 ⟨rfl, hw⟩; obtain rfl := hw.symm)
        try rw [eH]
        replace HN := hide (show Blk _ bn (woC P0 P1 P2 V0 V1 V2 ((H + R) % 1048576) R C) 24 from HN.out.set 6 (.int .i64 ((H + R) % 1048576)))
        replace HA := hide (HA.out.setOther (C := bn) (by omega) 6 (.int .i64 ((H + R) % 1048576)))
        replace HR := hide (HR.out.setOther (C := bn) (by omega) 6 (.int .i64 ((H + R) % 1048576)))
        replace Hb := hide (below_set Hb.out bn 6 (.int .i64 ((H + R) % 1048576)) (by omega) Hb.out.size)
        clear a6 a8 f6 f8 g6 g7 g8
        generalize W2.setCell ⟨bn, 6, none⟩ (.int .i64 ((H + R) % 1048576)) = W3 at *
        have a6 := HA.out.cell 6 rfl
        have a8 := HA.out.cell 8 rfl
        have f6 := HN.out.frozen 6
        have f8 := HN.out.frozen 8
        have g6 := HN.out.cell 6 rfl
        have g7 := HN.out.cell 7 rfl
        have g8 := HN.out.cell 8 rfl
        go_upto_region 10 with (go_at_call 24; refine (SB.out _).mono ?_; rintro e w2 ⟨rfl, hw⟩; obtain rfl := hw.symm)
        replace HN := hide (show Blk _ bn (woC P0 P1 P2 V0 V1 V2 ((H + R) % 1048576) R cc) 24 from HN.out.set 8 (.int .i64 cc))
        replace HA := hide (HA.out.setOther (C := bn) (by omega) 8 (.int .i64 cc))
        replace HR := hide (HR.out.setOther (C := bn) (by omega) 8 (.int .i64 cc))
        replace Hb := hide (below_set Hb.out bn 8 (.int .i64 cc) (by omega) Hb.out.size)
        clear a6 a8 f6 f8 g6 g7 g8
        generalize W3.setCell ⟨bn, 8, none⟩ (.int .i64 cc) = W4 at *
        obtain ⟨a0, a1, a2, a3, a4, a5, a6, a7, a8⟩ := nine_cells HN.out
        obtain ⟨f0, f1, f2, f3, f4, f5, f6, f7, f8⟩ := nine_froz HR.out
        obtain ⟨g0, g1, g2, g3, g4, g5, g6, g7, g8⟩ := nine_cells HR.out
        go_wp2_with fail
        exact bodyPost_ret (wo_back2 (p := 10) (u := 11) (by kernel_rfl) _ _ (w.heap.size + 1 + 1 + 1) _ _ _ _ _ _ _ _ _ _ rfl rfl (HR.out.set9 _ _ _ _ _ _ _ _ _)) rfl ⟨rfl, below_set9 Hb.out _ _ _ _ _ _ _ _ _ _ (by omega) Hb.out.size⟩
end Go.Proofs.Ytpoodmfhcoaleaa
