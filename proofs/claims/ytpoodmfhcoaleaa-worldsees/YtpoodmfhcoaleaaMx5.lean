/- Package mixer, walked: Mix. -/
import Derived.Test.YtpoodmfhcoaleaaMx4
namespace Go.Proofs.Ytpoodmfhcoaleaa
open Go.RowKit Go.Great

theorem Blk.other4 {W : World} {B C : Nat} {cs : Array Value} {t : TypeId} (h : Blk W B cs t) (hne : B ≠ C) (a b c d : Value) : Blk ((((W.setCell ⟨C, 0, none⟩ a).setCell ⟨C, 1, none⟩ b).setCell ⟨C, 2, none⟩ c).setCell ⟨C, 3, none⟩ d) B cs t := (((h.setOther hne _ _).setOther hne _ _).setOther hne _ _).setOther hne _ _
theorem clamp_in {x lo hi : Int} (h : lo ≤ hi) : lo ≤ clamp x lo hi ∧ clamp x lo hi ≤ hi := by
  unfold clamp
  split <;> (try split) <;> omega
theorem mix_bad (l x y t d : Int) (w : World) (hd : d < 0 ∨ 8 < d) : Calls Try.prog 18 #[wV l x y t, .int .i64 d] w fun e w' => e = .returned (.tuple #[eV 0 0 0 0 0 0 0 0, .int .i64 1]) ∧ Below w.heap.size w w' := by
  obtain ⟨W0, hW0, b0, M0, R0, hz0⟩ := two_boxes w (wC l x y t) (eC 0 0 0 0 0 0 0 0) 46 26
  obtain ⟨r0, r1, r2, r3, r4, r5, r6, r7⟩ := eight_cells R0
  obtain ⟨f0, f1, f2, f3, f4, f5, f6, f7⟩ := eight_set R0
  have Hb := hide b0
  have HR := hide R0
  clear b0 M0 R0
  by_cases h : d < 0
  · clear hd
    go_enter Try.func18, Try.ntmps18
    go_wp2_with fail
    exact bodyPost_ret (arr_back2 (p := 4) (u := 5) (by kernel_rfl) Try.underlying26 (by kernel_rfl) _ _ (w.heap.size + 1) _ rfl rfl (HR.out.set44 _ _ _ _ _ _ _ _)) rfl ⟨rfl, below_set44 Hb.out _ _ _ _ _ _ _ _ _ (by omega) Hb.out.size⟩
  · have h2 : 8 < d := by omega
    clear hd
    go_enter Try.func18, Try.ntmps18
    go_wp2_with fail
    exact bodyPost_ret (arr_back2 (p := 4) (u := 5) (by kernel_rfl) Try.underlying26 (by kernel_rfl) _ _ (w.heap.size + 1) _ rfl rfl (HR.out.set44 _ _ _ _ _ _ _ _)) rfl ⟨rfl, below_set44 Hb.out _ _ _ _ _ _ _ _ _ (by omega) Hb.out.size⟩
theorem tw_in {d p0 p1 p2 p3 t a : Int} (h0 : 0 ≤ p0 ∧ p0 ≤ 1000) (h1 : 0 ≤ p1 ∧ p1 ≤ 1000) (h2 : 0 ≤ p2 ∧ p2 ≤ 1000) (h3 : 0 ≤ p3 ∧ p3 ≤ 1000) : Pb (tw d p0 p1 p2 p3 t a) := by
  have hk : ∀ k, 0 ≤ pk k p0 p1 p2 p3 ∧ pk k p0 p1 p2 p3 ≤ 1000 := by
    intro k
    unfold pk
    split
    · exact h0
    · split
      · exact h1
      · split
        · exact h2
        · exact h3
  unfold tw Pb
  split
  · have := hk (d / 2)
    unfold lone
    split <;> omega
  · have := hk a
    have := clamp_in (x := rst d p0 p1 p2 p3 t) (lo := -(pk a p0 p1 p2 p3)) (hi := pk a p0 p1 p2 p3) (by omega)
    omega
/-- what Mix answers to a wrench that was limited -/
def mxV (d l x y t : Int) : Value :=
  if d = 0 then spV (l + x + y) (l - x + y) (l - x - y) (l + x - y) t t t t
  else spV (l + x + y) (l - x + y) (l - x - y) (l + x - y) (tw (d - 1) (l + x + y) (l - x + y) (l - x - y) (l + x - y) t 0) (tw (d - 1) (l + x + y) (l - x + y) (l - x - y) (l + x - y) t 1) (tw (d - 1) (l + x + y) (l - x + y) (l - x - y) (l + x - y) t 2) (tw (d - 1) (l + x + y) (l - x + y) (l - x - y) (l + x - y) t 3)
set_option maxHeartbeats 2000000 in
theorem mix_any (l x y t d : Int) (w : World) (hd : 0 ≤ d ∧ d ≤ 8) : Calls Try.prog 18 #[wV l x y t, .int .i64 d] w fun e w' => e = .returned (.tuple #[mxV d (clamp l 328 456) (clamp x (-64) 64) (clamp y (-64) 64) (clamp t (-100) 100), .int .i64 0]) ∧ Below w.heap.size w w' := by
  have LM := hide (lim_any l x y t)
  have hL : 328 ≤ clamp l 328 456 ∧ clamp l 328 456 ≤ 456 := clamp_in (by decide)
  have hX : -64 ≤ clamp x (-64) 64 ∧ clamp x (-64) 64 ≤ 64 := clamp_in (by decide)
  have hY : -64 ≤ clamp y (-64) 64 ∧ clamp y (-64) 64 ≤ 64 := clamp_in (by decide)
  have hT : -100 ≤ clamp t (-100) 100 ∧ clamp t (-100) 100 ≤ 100 := clamp_in (by decide)
  generalize clamp l 328 456 = L at *
  generalize clamp x (-64) 64 = X at *
  generalize clamp y (-64) 64 = Y at *
  generalize clamp t (-100) 100 = T at *
  have SH := hide (fun W => shares_any L X Y T W (by omega) (by omega) (by omega))
  obtain ⟨p0, hp0⟩ : ∃ p, L + X + Y = p := ⟨_, rfl⟩
  obtain ⟨p1, hp1⟩ : ∃ p, L - X + Y = p := ⟨_, rfl⟩
  obtain ⟨p2, hp2⟩ : ∃ p, L - X - Y = p := ⟨_, rfl⟩
  obtain ⟨p3, hp3⟩ : ∃ p, L + X - Y = p := ⟨_, rfl⟩
  have b0 : 0 ≤ p0 ∧ p0 ≤ 1000 := by omega
  have b1 : 0 ≤ p1 ∧ p1 ≤ 1000 := by omega
  have b2 : 0 ≤ p2 ∧ p2 ≤ 1000 := by omega
  have b3 : 0 ≤ p3 ∧ p3 ≤ 1000 := by omega
  have HV : Hid (mxV d L X Y T = if d = 0 then spV p0 p1 p2 p3 T T T T else spV p0 p1 p2 p3 (tw (d - 1) p0 p1 p2 p3 T 0) (tw (d - 1) p0 p1 p2 p3 T 1) (tw (d - 1) p0 p1 p2 p3 T 2) (tw (d - 1) p0 p1 p2 p3 T 3)) := hide (by unfold mxV; rw [hp0, hp1, hp2, hp3])
  rw [hp0, hp1, hp2, hp3] at SH
  clear hp0 hp1 hp2 hp3
  rw [HV.out]
  clear HV
  have SP := hide (fun t0 t1 t2 t3 W h0 h1 h2 h3 => split_any p0 p1 p2 p3 t0 t1 t2 t3 W (by unfold Pb; omega) (by unfold Pb; omega) (by unfold Pb; omega) (by unfold Pb; omega) h0 h1 h2 h3)
  have AR := hide (fun k W hk => around_any k p0 p1 p2 p3 T W hk b0 b1 b2 b3 (by omega))
  have TW := hide (fun k a => tw_in (d := k) (a := a) (t := T) b0 b1 b2 b3)
  have HT : Hid (Pb T) := hide (by unfold Pb; omega)
  clear b0 b1 b2 b3 hL hX hY hT
  obtain ⟨W0, hW0, b0, M0, R0, hz0⟩ := two_boxes w (wC l x y t) (eC 0 0 0 0 0 0 0 0) 46 26
  obtain ⟨m0, m1, m2, m3⟩ := four_cells M0
  obtain ⟨f0, f1, f2, f3⟩ := four_set M0
  have Hb := hide b0
  have HR := hide R0
  have HM := hide M0
  clear b0 M0 R0
  have hd0 : ¬ d < 0 := by omega
  have hd8 : ¬ 8 < d := by omega
  go_enter Try.func18, Try.ntmps18
  go_upto_region 4 with (first | (go_at_call 19; refine (LM.out _).mono ?_; rintro e w1 ⟨rfl, hb1⟩; replace HM := hide (HM.out.after hb1); replace HR := hide (HR.out.after hb1); replace Hb := hide (below_next Hb.out (Nat.le_refl _) hb1); clear hb1 m0 m1 m2 m3 f0 f1 f2 f3; obtain ⟨m0, m1, m2, m3⟩ := four_cells HM.out; obtain ⟨f0, f1, f2, f3⟩ := four_set HM.out))
  have hz1 := HR.out.lt
  replace HR := hide (HR.out.other4 (show w.heap.size + 1 ≠ w.heap.size by omega) (.int .i64 L) (.int .i64 X) (.int .i64 Y) (.int .i64 T))
  replace Hb := hide (below_set4 Hb.out w.heap.size (.int .i64 L) (.int .i64 X) (.int .i64 Y) (.int .i64 T) (Nat.le_refl _) Hb.out.size)
  replace HM := hide (HM.out.set4 (.int .i64 L) (.int .i64 X) (.int .i64 Y) (.int .i64 T))
  clear m0 m1 m2 m3 f0 f1 f2 f3 hW0 hz0 hz1
  generalize (((w1.setCell ⟨w.heap.size, 0, none⟩ (.int .i64 L)).setCell ⟨w.heap.size, 1, none⟩ (.int .i64 X)).setCell ⟨w.heap.size, 2, none⟩ (.int .i64 Y)).setCell ⟨w.heap.size, 3, none⟩ (.int .i64 T) = W1 at *
  obtain ⟨m0, m1, m2, m3⟩ := four_cells HM.out
  go_upto_region 5 with (first | (go_at_call 36; refine (SH.out _).mono ?_; rintro e w2 ⟨rfl, hb2⟩; replace HM := hide (HM.out.after hb2); replace HR := hide (HR.out.after hb2); replace Hb := hide (below_next Hb.out (Nat.le_refl _) hb2); clear hb2 m0 m1 m2 m3; obtain ⟨m0, m1, m2, m3⟩ := four_cells HM.out))
  have HP := hide (Blk.new w2 (wC p0 p1 p2 p3) 57)
  have hz2 := HR.out.lt
  replace HR := hide (HR.out.alloc (.cells (wC p0 p1 p2 p3) 57))
  replace HM := hide (HM.out.alloc (.cells (wC p0 p1 p2 p3) 57))
  replace Hb := hide (Hb.out.alloc Hb.out.size (.cells (wC p0 p1 p2 p3) 57))
  have hz3 : (w2.alloc (.cells (wC p0 p1 p2 p3) 57)).heap.size = w2.heap.size + 1 := size_alloc _ _
  clear m0 m1 m2 m3
  generalize w2.alloc (.cells (wC p0 p1 p2 p3) 57) = W2 at *
  generalize w2.heap.size = g at *
  obtain ⟨m0, m1, m2, m3⟩ := four_cells HM.out
  go_upto_region 6 with fail
  have HT2 : Hid (Blk (W2.alloc (.cells (wC T T T T) 57)) (g + 1) (wC T T T T) 57) := hide (by have := Blk.new W2 (wC T T T T) 57; rwa [hz3] at this)
  replace HR := hide (HR.out.alloc (.cells (wC T T T T) 57))
  replace HM := hide (HM.out.alloc (.cells (wC T T T T) 57))
  replace HP := hide (HP.out.alloc (.cells (wC T T T T) 57))
  replace Hb := hide (Hb.out.alloc Hb.out.size (.cells (wC T T T T) 57))
  clear m0 m1 m2 m3
  generalize W2.alloc (.cells (wC T T T T) 57) = W3 at *
  by_cases hz : d = 0
  · subst hz
    obtain ⟨p0, p1, p2, p3⟩ := four_cells HP.out
    obtain ⟨t0, t1, t2, t3⟩ := four_cells HT2.out
    have S0 := hide (fun W => SP.out T T T T W HT.out HT.out HT.out HT.out)
    clear SP AR SH LM
    obtain ⟨r0, r1, r2, r3, r4, r5, r6, r7⟩ := eight_cells HR.out
    obtain ⟨f0, f1, f2, f3, f4, f5, f6, f7⟩ := eight_set HR.out
    go_wp2_with (first | (go_at_call 38; refine (S0.out _).mono ?_; rintro e w4 ⟨rfl, hb4⟩; replace HR := hide (HR.out.after hb4); replace Hb := hide (below_next Hb.out (Nat.le_refl _) hb4); clear hb4 r0 r1 r2 r3 r4 r5 r6 r7 f0 f1 f2 f3 f4 f5 f6 f7; obtain ⟨r0, r1, r2, r3, r4, r5, r6, r7⟩ := eight_cells HR.out; obtain ⟨f0, f1, f2, f3, f4, f5, f6, f7⟩ := eight_set HR.out))
    exact bodyPost_ret (arr_back2 (p := 4) (u := 5) (by kernel_rfl) Try.underlying26 (by kernel_rfl) _ _ (w.heap.size + 1) _ rfl rfl (HR.out.set44 _ _ _ _ _ _ _ _)) rfl ⟨rfl, below_set44 Hb.out _ _ _ _ _ _ _ _ _ (by omega) Hb.out.size⟩
  · have hd1 : 0 < d := by omega
    have A0 := hide (fun W => AR.out (d - 1) W (by omega))
    obtain ⟨t0, e0⟩ : ∃ t0, Hid (tw (d - 1) p0 p1 p2 p3 T 0 = t0) := ⟨_, hide rfl⟩
    obtain ⟨t1, e1⟩ : ∃ t1, Hid (tw (d - 1) p0 p1 p2 p3 T 1 = t1) := ⟨_, hide rfl⟩
    obtain ⟨t2, e2⟩ : ∃ t2, Hid (tw (d - 1) p0 p1 p2 p3 T 2 = t2) := ⟨_, hide rfl⟩
    obtain ⟨t3, e3⟩ : ∃ t3, Hid (tw (d - 1) p0 p1 p2 p3 T 3 = t3) := ⟨_, hide rfl⟩
    have S0 := hide (fun W => SP.out t0 t1 t2 t3 W (e0.out ▸ TW.out (d - 1) 0) (e1.out ▸ TW.out (d - 1) 1) (e2.out ▸ TW.out (d - 1) 2) (e3.out ▸ TW.out (d - 1) 3))
    rw [e0.out, e1.out, e2.out, e3.out] at A0
    clear SP AR SH LM TW HT hz
    obtain ⟨m0, m1, m2, m3⟩ := four_cells HM.out
    obtain ⟨q0, q1, q2, q3⟩ := four_cells HP.out
    obtain ⟨k0, k1, k2, k3⟩ := four_cells HT2.out
    obtain ⟨f0, f1, f2, f3⟩ := four_set HT2.out
    go_upto_region 8 with (first | (go_at_call 37; refine (A0.out _).mono ?_; rintro e w4 ⟨rfl, hb4⟩; replace HR := hide (HR.out.after hb4); replace HP := hide (HP.out.after hb4); replace HT2 := hide (HT2.out.after hb4); replace Hb := hide (below_next Hb.out (Nat.le_refl _) hb4); clear hb4 q0 q1 q2 q3 k0 k1 k2 k3 f0 f1 f2 f3 m0 m1 m2 m3 HM; obtain ⟨k0, k1, k2, k3⟩ := four_cells HT2.out; obtain ⟨f0, f1, f2, f3⟩ := four_set HT2.out))
    replace HR := hide (HR.out.other4 (show w.heap.size + 1 ≠ g + 1 by omega) (.int .i64 t0) (.int .i64 t1) (.int .i64 t2) (.int .i64 t3))
    replace HP := hide (HP.out.other4 (show g ≠ g + 1 by omega) (.int .i64 t0) (.int .i64 t1) (.int .i64 t2) (.int .i64 t3))
    replace Hb := hide (below_set4 Hb.out (g + 1) (.int .i64 t0) (.int .i64 t1) (.int .i64 t2) (.int .i64 t3) (by omega) Hb.out.size)
    replace HT2 := hide (HT2.out.set4 (.int .i64 t0) (.int .i64 t1) (.int .i64 t2) (.int .i64 t3))
    clear k0 k1 k2 k3 f0 f1 f2 f3
    generalize (((w4.setCell ⟨g + 1, 0, none⟩ (.int .i64 t0)).setCell ⟨g + 1, 1, none⟩ (.int .i64 t1)).setCell ⟨g + 1, 2, none⟩ (.int .i64 t2)).setCell ⟨g + 1, 3, none⟩ (.int .i64 t3) = W5 at *
    obtain ⟨q0, q1, q2, q3⟩ := four_cells HP.out
    obtain ⟨k0, k1, k2, k3⟩ := four_cells HT2.out
    go_wp2_with (first | (go_at_call 38; refine (S0.out _).mono ?_; rintro e w6 ⟨rfl, hb6⟩; replace HR := hide (HR.out.after hb6); replace Hb := hide (below_next Hb.out (Nat.le_refl _) hb6); clear hb6; obtain ⟨r0, r1, r2, r3, r4, r5, r6, r7⟩ := eight_cells HR.out; obtain ⟨f0, f1, f2, f3, f4, f5, f6, f7⟩ := eight_set HR.out))
    exact bodyPost_ret (arr_back2 (p := 4) (u := 5) (by kernel_rfl) Try.underlying26 (by kernel_rfl) _ _ (w.heap.size + 1) _ rfl rfl (HR.out.set44 _ _ _ _ _ _ _ _)) rfl ⟨by rw [e0.out, e1.out, e2.out, e3.out]; rfl, below_set44 Hb.out _ _ _ _ _ _ _ _ _ (by omega) Hb.out.size⟩
end Go.Proofs.Ytpoodmfhcoaleaa
