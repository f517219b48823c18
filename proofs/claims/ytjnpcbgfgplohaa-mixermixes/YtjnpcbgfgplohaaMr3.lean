/- The document's mixer, walked: Mix. -/
import Derived.Test.YtjnpcbgfgplohaaMr1
namespace Go.Proofs.Ytjnpcbgfgplohaa
open Go.RowKit Go.Great

theorem eV_ext {a b c d e f g h a' b' c' d' e' f' g' h' : Int} (h0 : a = a') (h1 : b = b') (h2 : c = c') (h3 : d = d') (h4 : e = e') (h5 : f = f') (h6 : g = g') (h7 : h = h') : eV a b c d e f g h = eV a' b' c' d' e' f' g' h' := by rw [h0, h1, h2, h3, h4, h5, h6, h7]
theorem Blk.other44 {W : World} {B C : Nat} {cs : Array Value} {t : TypeId} (h : Blk W B cs t) (hne : B ≠ C) (i j : Nat) (a b : Value) : Blk ((W.setCell ⟨C, i, none⟩ a).setCell ⟨C, j, none⟩ b) B cs t := (h.setOther hne _ _).setOther hne _ _
theorem rmix_bad (l x y t d : Int) (w : World) (hd : d < 0 ∨ 8 < d) : Calls Try.prog 8 #[wV l x y t, .int .i64 d] w fun e w' => e = .returned (.tuple #[eV 0 0 0 0 0 0 0 0, .int .i64 1]) ∧ Below w.heap.size w w' := by
  obtain ⟨W0, hW0, b0, M0, R0, P0, hz0⟩ := three_boxes w (wC l x y t) (eC 0 0 0 0 0 0 0 0) (eC 0 0 0 0 0 0 0 0) 23 24 24
  obtain ⟨r0, r1, r2, r3, r4, r5, r6, r7⟩ := eight_cells R0
  obtain ⟨q0, q1, q2, q3, q4, q5, q6, q7⟩ := eight_cells P0
  obtain ⟨f0, f1, f2, f3, f4, f5, f6, f7⟩ := eight_set R0
  have Hb := hide b0
  have HR := hide R0
  clear b0 M0 R0 P0
  by_cases h : d < 0
  · clear hd
    go_enter Try.func8, Try.ntmps8
    go_wp2_with fail
    exact bodyPost_ret (arr_back2 (p := 4) (u := 5) (by kernel_rfl) Try.underlying24 (by kernel_rfl) _ _ (w.heap.size + 1) _ rfl rfl (HR.out.set44 _ _ _ _ _ _ _ _)) rfl ⟨rfl, below_set44 Hb.out _ _ _ _ _ _ _ _ _ (by omega) Hb.out.size⟩
  · have h2 : 8 < d := by omega
    clear hd
    go_enter Try.func8, Try.ntmps8
    go_wp2_with fail
    exact bodyPost_ret (arr_back2 (p := 4) (u := 5) (by kernel_rfl) Try.underlying24 (by kernel_rfl) _ _ (w.heap.size + 1) _ rfl rfl (HR.out.set44 _ _ _ _ _ _ _ _)) rfl ⟨rfl, below_set44 Hb.out _ _ _ _ _ _ _ _ _ (by omega) Hb.out.size⟩
/-- the parts of the first i arms, arm 0 being lame -/
def rC0 (p1 p2 p3 u1 u2 u3 ev od : Int) : Nat → Array Value
  | 0 => eC ev od 0 0 0 0 0 0
  | 1 => eC ev od 0 0 0 0 0 0
  | 2 => eC ev od u1 (p1 - u1) 0 0 0 0
  | 3 => eC ev od u1 (p1 - u1) u2 (p2 - u2) 0 0
  | _ => eC ev od u1 (p1 - u1) u2 (p2 - u2) u3 (p3 - u3)
theorem rC0_set1 {p1 p2 p3 u1 u2 u3 ev od v : Int} (h : v = p1 - u1) : ((rC0 p1 p2 p3 u1 u2 u3 ev od 1).setIfInBounds 2 (.int .i64 u1)).setIfInBounds 3 (.int .i64 v) = rC0 p1 p2 p3 u1 u2 u3 ev od 2 := by rw [h]; rfl
theorem rC0_set2 {p1 p2 p3 u1 u2 u3 ev od v : Int} (h : v = p2 - u2) : ((rC0 p1 p2 p3 u1 u2 u3 ev od 2).setIfInBounds 4 (.int .i64 u2)).setIfInBounds 5 (.int .i64 v) = rC0 p1 p2 p3 u1 u2 u3 ev od 3 := by rw [h]; rfl
theorem rC0_set3 {p1 p2 p3 u1 u2 u3 ev od v : Int} (h : v = p3 - u3) : ((rC0 p1 p2 p3 u1 u2 u3 ev od 3).setIfInBounds 6 (.int .i64 u3)).setIfInBounds 7 (.int .i64 v) = rC0 p1 p2 p3 u1 u2 u3 ev od 4 := by rw [h]; rfl
/-- the parts of the first i arms, arm 1 being lame -/
def rC1 (p0 p2 p3 u0 u2 u3 ev od : Int) : Nat → Array Value
  | 0 => eC 0 0 ev od 0 0 0 0
  | 1 => eC u0 (p0 - u0) ev od 0 0 0 0
  | 2 => eC u0 (p0 - u0) ev od 0 0 0 0
  | 3 => eC u0 (p0 - u0) ev od u2 (p2 - u2) 0 0
  | _ => eC u0 (p0 - u0) ev od u2 (p2 - u2) u3 (p3 - u3)
theorem rC1_set0 {p0 p2 p3 u0 u2 u3 ev od v : Int} (h : v = p0 - u0) : ((rC1 p0 p2 p3 u0 u2 u3 ev od 0).setIfInBounds 0 (.int .i64 u0)).setIfInBounds 1 (.int .i64 v) = rC1 p0 p2 p3 u0 u2 u3 ev od 1 := by rw [h]; rfl
theorem rC1_set2 {p0 p2 p3 u0 u2 u3 ev od v : Int} (h : v = p2 - u2) : ((rC1 p0 p2 p3 u0 u2 u3 ev od 2).setIfInBounds 4 (.int .i64 u2)).setIfInBounds 5 (.int .i64 v) = rC1 p0 p2 p3 u0 u2 u3 ev od 3 := by rw [h]; rfl
theorem rC1_set3 {p0 p2 p3 u0 u2 u3 ev od v : Int} (h : v = p3 - u3) : ((rC1 p0 p2 p3 u0 u2 u3 ev od 3).setIfInBounds 6 (.int .i64 u3)).setIfInBounds 7 (.int .i64 v) = rC1 p0 p2 p3 u0 u2 u3 ev od 4 := by rw [h]; rfl
/-- the parts of the first i arms, arm 2 being lame -/
def rC2 (p0 p1 p3 u0 u1 u3 ev od : Int) : Nat → Array Value
  | 0 => eC 0 0 0 0 ev od 0 0
  | 1 => eC u0 (p0 - u0) 0 0 ev od 0 0
  | 2 => eC u0 (p0 - u0) u1 (p1 - u1) ev od 0 0
  | 3 => eC u0 (p0 - u0) u1 (p1 - u1) ev od 0 0
  | _ => eC u0 (p0 - u0) u1 (p1 - u1) ev od u3 (p3 - u3)
theorem rC2_set0 {p0 p1 p3 u0 u1 u3 ev od v : Int} (h : v = p0 - u0) : ((rC2 p0 p1 p3 u0 u1 u3 ev od 0).setIfInBounds 0 (.int .i64 u0)).setIfInBounds 1 (.int .i64 v) = rC2 p0 p1 p3 u0 u1 u3 ev od 1 := by rw [h]; rfl
theorem rC2_set1 {p0 p1 p3 u0 u1 u3 ev od v : Int} (h : v = p1 - u1) : ((rC2 p0 p1 p3 u0 u1 u3 ev od 1).setIfInBounds 2 (.int .i64 u1)).setIfInBounds 3 (.int .i64 v) = rC2 p0 p1 p3 u0 u1 u3 ev od 2 := by rw [h]; rfl
theorem rC2_set3 {p0 p1 p3 u0 u1 u3 ev od v : Int} (h : v = p3 - u3) : ((rC2 p0 p1 p3 u0 u1 u3 ev od 3).setIfInBounds 6 (.int .i64 u3)).setIfInBounds 7 (.int .i64 v) = rC2 p0 p1 p3 u0 u1 u3 ev od 4 := by rw [h]; rfl
/-- the parts of the first i arms, arm 3 being lame -/
def rC3 (p0 p1 p2 u0 u1 u2 ev od : Int) : Nat → Array Value
  | 0 => eC 0 0 0 0 0 0 ev od
  | 1 => eC u0 (p0 - u0) 0 0 0 0 ev od
  | 2 => eC u0 (p0 - u0) u1 (p1 - u1) 0 0 ev od
  | 3 => eC u0 (p0 - u0) u1 (p1 - u1) u2 (p2 - u2) ev od
  | _ => eC u0 (p0 - u0) u1 (p1 - u1) u2 (p2 - u2) ev od
theorem rC3_set0 {p0 p1 p2 u0 u1 u2 ev od v : Int} (h : v = p0 - u0) : ((rC3 p0 p1 p2 u0 u1 u2 ev od 0).setIfInBounds 0 (.int .i64 u0)).setIfInBounds 1 (.int .i64 v) = rC3 p0 p1 p2 u0 u1 u2 ev od 1 := by rw [h]; rfl
theorem rC3_set1 {p0 p1 p2 u0 u1 u2 ev od v : Int} (h : v = p1 - u1) : ((rC3 p0 p1 p2 u0 u1 u2 ev od 1).setIfInBounds 2 (.int .i64 u1)).setIfInBounds 3 (.int .i64 v) = rC3 p0 p1 p2 u0 u1 u2 ev od 2 := by rw [h]; rfl
theorem rC3_set2 {p0 p1 p2 u0 u1 u2 ev od v : Int} (h : v = p2 - u2) : ((rC3 p0 p1 p2 u0 u1 u2 ev od 2).setIfInBounds 4 (.int .i64 u2)).setIfInBounds 5 (.int .i64 v) = rC3 p0 p1 p2 u0 u1 u2 ev od 3 := by rw [h]; rfl
set_option maxHeartbeats 4000000 in
theorem rmix_0 (l x y t : Int) (w : World) : Calls Try.prog 8 #[wV l x y t, .int .i64 0] w fun e w' => e = .returned (.tuple #[mxV 0 (clamp l 328 456) (clamp x (-64) 64) (clamp y (-64) 64) (clamp t (-100) 100), .int .i64 0]) ∧ Below w.heap.size w w' := by
  have LM := hide (rlim_any l x y t)
  have hL : 328 ≤ clamp l 328 456 ∧ clamp l 328 456 ≤ 456 := clamp_in (by decide)
  have hX : -64 ≤ clamp x (-64) 64 ∧ clamp x (-64) 64 ≤ 64 := clamp_in (by decide)
  have hY : -64 ≤ clamp y (-64) 64 ∧ clamp y (-64) 64 ≤ 64 := clamp_in (by decide)
  have hT : -100 ≤ clamp t (-100) 100 ∧ clamp t (-100) 100 ≤ 100 := clamp_in (by decide)
  generalize clamp l 328 456 = L at *
  generalize clamp x (-64) 64 = X at *
  generalize clamp y (-64) 64 = Y at *
  generalize clamp t (-100) 100 = T at *
  have U0 := hide (fun W => push_0 L X Y T W (by omega) (by omega) (by omega))
  obtain ⟨p0, e0⟩ : ∃ p, L + X + Y = p := ⟨_, rfl⟩
  have b0 : 200 ≤ p0 ∧ p0 ≤ 584 := by omega
  rw [e0] at U0
  have U1 := hide (fun W => push_1 L X Y T W (by omega) (by omega) (by omega))
  obtain ⟨p1, e1⟩ : ∃ p, L - X + Y = p := ⟨_, rfl⟩
  have b1 : 200 ≤ p1 ∧ p1 ≤ 584 := by omega
  rw [e1] at U1
  have U2 := hide (fun W => push_2 L X Y T W (by omega) (by omega) (by omega))
  obtain ⟨p2, e2⟩ : ∃ p, L - X - Y = p := ⟨_, rfl⟩
  have b2 : 200 ≤ p2 ∧ p2 ≤ 584 := by omega
  rw [e2] at U2
  have U3 := hide (fun W => push_3 L X Y T W (by omega) (by omega) (by omega))
  obtain ⟨p3, e3⟩ : ∃ p, L + X - Y = p := ⟨_, rfl⟩
  have b3 : 200 ≤ p3 ∧ p3 ≤ 584 := by omega
  rw [e3] at U3
  obtain ⟨q, hq⟩ : ∃ q, Hid (T = q) := ⟨_, hide rfl⟩
  obtain ⟨c0, hc0⟩ : ∃ c, Hid (clamp q (-p0) p0 = c) := ⟨_, hide rfl⟩
  have C0 := hide (fun W => rclampX q (-p0) p0 W)
  rw [hc0.out] at C0
  have i0 : -p0 ≤ c0 ∧ c0 ≤ p0 := by rw [← hc0.out]; exact clamp_in (by omega)
  have F0 := hide (fun W => rfloorX (p0 + c0) 2 W (by omega) (by decide))
  obtain ⟨u0, hu0⟩ : ∃ u, Hid ((p0 + c0) / 2 = u) := ⟨_, hide rfl⟩
  rw [hu0.out] at F0
  have j0 : 0 ≤ u0 ∧ u0 ≤ 584 := by have := hu0.out; omega
  obtain ⟨c1, hc1⟩ : ∃ c, Hid (clamp q (-p1) p1 = c) := ⟨_, hide rfl⟩
  have C1 := hide (fun W => rclampX q (-p1) p1 W)
  rw [hc1.out] at C1
  have i1 : -p1 ≤ c1 ∧ c1 ≤ p1 := by rw [← hc1.out]; exact clamp_in (by omega)
  have F1 := hide (fun W => rfloorX (p1 + c1) 2 W (by omega) (by decide))
  obtain ⟨u1, hu1⟩ : ∃ u, Hid ((p1 + c1) / 2 = u) := ⟨_, hide rfl⟩
  rw [hu1.out] at F1
  have j1 : 0 ≤ u1 ∧ u1 ≤ 584 := by have := hu1.out; omega
  obtain ⟨c2, hc2⟩ : ∃ c, Hid (clamp q (-p2) p2 = c) := ⟨_, hide rfl⟩
  have C2 := hide (fun W => rclampX q (-p2) p2 W)
  rw [hc2.out] at C2
  have i2 : -p2 ≤ c2 ∧ c2 ≤ p2 := by rw [← hc2.out]; exact clamp_in (by omega)
  have F2 := hide (fun W => rfloorX (p2 + c2) 2 W (by omega) (by decide))
  obtain ⟨u2, hu2⟩ : ∃ u, Hid ((p2 + c2) / 2 = u) := ⟨_, hide rfl⟩
  rw [hu2.out] at F2
  have j2 : 0 ≤ u2 ∧ u2 ≤ 584 := by have := hu2.out; omega
  obtain ⟨c3, hc3⟩ : ∃ c, Hid (clamp q (-p3) p3 = c) := ⟨_, hide rfl⟩
  have C3 := hide (fun W => rclampX q (-p3) p3 W)
  rw [hc3.out] at C3
  have i3 : -p3 ≤ c3 ∧ c3 ≤ p3 := by rw [← hc3.out]; exact clamp_in (by omega)
  have F3 := hide (fun W => rfloorX (p3 + c3) 2 W (by omega) (by decide))
  obtain ⟨u3, hu3⟩ : ∃ u, Hid ((p3 + c3) / 2 = u) := ⟨_, hide rfl⟩
  rw [hu3.out] at F3
  have j3 : 0 ≤ u3 ∧ u3 ≤ 584 := by have := hu3.out; omega
  have EN : Hid (mxV 0 L X Y T = eV u0 (p0 - u0) u1 (p1 - u1) u2 (p2 - u2) u3 (p3 - u3)) := hide (by
    unfold mxV
    rw [if_pos rfl, e0, e1, e2, e3]
    have t0 : c0 = T := by rw [← hc0.out, ← hq.out]; exact clamp_same (by omega)
    rw [t0] at hu0
    have t1 : c1 = T := by rw [← hc1.out, ← hq.out]; exact clamp_same (by omega)
    rw [t1] at hu1
    have t2 : c2 = T := by rw [← hc2.out, ← hq.out]; exact clamp_same (by omega)
    rw [t2] at hu2
    have t3 : c3 = T := by rw [← hc3.out, ← hq.out]; exact clamp_same (by omega)
    rw [t3] at hu3
    exact eV_ext hu0.out (by rw [hu0.out]) hu1.out (by rw [hu1.out]) hu2.out (by rw [hu2.out]) hu3.out (by rw [hu3.out]))
  have hq2 := hq.out
  subst hq2
  clear hc0 hu0 hc1 hu1 hc2 hu2 hc3 hu3 hq e0 e1 e2 e3 hL hX hY
  obtain ⟨W0, hW0, b0', M0, R0, O0, hz0⟩ := three_boxes w (wC l x y t) (eC 0 0 0 0 0 0 0 0) (eC 0 0 0 0 0 0 0 0) 23 24 24
  obtain ⟨m0, m1, m2, m3⟩ := four_cells M0
  have Hb := hide b0'
  have HR := hide R0
  have HO := hide O0
  clear b0' M0 R0 O0
  go_enter Try.func8, Try.ntmps8
  go_upto_region 5 with (first | (go_at_call 10; refine (LM.out _).mono ?_; rintro e w1 ⟨rfl, hb1⟩))
  have HV := hide (Blk.new w1 (wC L X Y T) 23)
  replace HR := hide ((HR.out.after hb1).alloc (.cells (wC L X Y T) 23))
  have hz1 : w.heap.size + 1 + 1 < w1.heap.size := (HO.out.after hb1).lt
  replace HO := hide ((HO.out.after hb1).alloc (.cells (wC L X Y T) 23))
  replace Hb := hide (below_next Hb.out (Nat.le_refl _) hb1)
  replace Hb := hide (Hb.out.alloc Hb.out.size (.cells (wC L X Y T) 23))
  clear hb1 m0 m1 m2 m3 hW0 hz0 LM
  generalize w1.alloc (.cells (wC L X Y T) 23) = W1 at *
  generalize w1.heap.size = g at *
  obtain ⟨v0, v1, v2, v3⟩ := four_cells HV.out
  go_wp2_with fail
  clear v0 v1 v2 v3
  go_loopw [12] (fun v wr => ∃ i : Nat, v = .int .i64 (i : Int) ∧ i ≤ 4 ∧ Blk wr g (wC L X Y T) 23 ∧ Blk wr (w.heap.size + 1) (eC 0 0 0 0 0 0 0 0) 24 ∧ Blk wr (w.heap.size + 1 + 1) (mC p0 p1 p2 p3 u0 u1 u2 u3 i) 24 ∧ Below w.heap.size w wr) (fun v _ => 4 - (intOf v).toNat)
  case atStart => exact ⟨0, rfl, by omega, HV.out, HR.out, HO.out, Hb.out⟩
  case round =>
    clear HV HR HO Hb
    obtain ⟨i, rfl, hi, hV, hR, hO, hb⟩ := hrel
    have HV := hide hV
    have HR := hide hR
    have HO := hide hO
    have Hb := hide hb
    clear hV hR hO hb
    obtain rfl | rfl | rfl | rfl | rfl : i = 0 ∨ i = 1 ∨ i = 2 ∨ i = 3 ∨ i = 4 := by omega
    · obtain ⟨v0, v1, v2, v3⟩ := four_cells HV.out
      go_upto_region 21 with (first | (go_at_call 17; refine (U0.out _).mono ?_; rintro e w5 ⟨rfl, hb5⟩))
      replace HV := hide (HV.out.after hb5)
      replace HR := hide (HR.out.after hb5)
      replace HO := hide (HO.out.after hb5)
      replace Hb := hide (below_next Hb.out (Nat.le_refl _) hb5)
      clear hb5 v0 v1 v2 v3
      have x0 := HO.out.cell 0 rfl
      have x1 := HO.out.cell 1 rfl
      have f0 := HO.out.frozen 0
      have f1 := HO.out.frozen 1
      go_wp2_with (first | (go_at_call 19; refine (C0.out _).mono ?_; rintro e w6 ⟨rfl, hw⟩; obtain rfl := hw.symm) | (go_at_call 18; refine (F0.out _).mono ?_; rintro e w6 ⟨rfl, hw⟩; obtain rfl := hw.symm))
      go_roundw
      case rel => exact ⟨1, by go_num, by omega, HV.out.other44 (by omega) _ _ _ _, HR.out.other44 (by omega) _ _ _ _, blk_cells ((HO.out.set 0 _).set 1 _) (mC_set0 (by omega)), below_set (below_set Hb.out _ _ _ (by omega) Hb.out.size) _ _ _ (by omega) (by rw [setCell_size]; exact Hb.out.size)⟩
      case measure => simp [intOf]
    · obtain ⟨v0, v1, v2, v3⟩ := four_cells HV.out
      go_upto_region 21 with (first | (go_at_call 17; refine (U1.out _).mono ?_; rintro e w5 ⟨rfl, hb5⟩))
      replace HV := hide (HV.out.after hb5)
      replace HR := hide (HR.out.after hb5)
      replace HO := hide (HO.out.after hb5)
      replace Hb := hide (below_next Hb.out (Nat.le_refl _) hb5)
      clear hb5 v0 v1 v2 v3
      have x0 := HO.out.cell 2 rfl
      have x1 := HO.out.cell 3 rfl
      have f0 := HO.out.frozen 2
      have f1 := HO.out.frozen 3
      go_wp2_with (first | (go_at_call 19; refine (C1.out _).mono ?_; rintro e w6 ⟨rfl, hw⟩; obtain rfl := hw.symm) | (go_at_call 18; refine (F1.out _).mono ?_; rintro e w6 ⟨rfl, hw⟩; obtain rfl := hw.symm))
      go_roundw
      case rel => exact ⟨2, by go_num, by omega, HV.out.other44 (by omega) _ _ _ _, HR.out.other44 (by omega) _ _ _ _, blk_cells ((HO.out.set 2 _).set 3 _) (mC_set1 (by omega)), below_set (below_set Hb.out _ _ _ (by omega) Hb.out.size) _ _ _ (by omega) (by rw [setCell_size]; exact Hb.out.size)⟩
      case measure => simp [intOf]
    · obtain ⟨v0, v1, v2, v3⟩ := four_cells HV.out
      go_upto_region 21 with (first | (go_at_call 17; refine (U2.out _).mono ?_; rintro e w5 ⟨rfl, hb5⟩))
      replace HV := hide (HV.out.after hb5)
      replace HR := hide (HR.out.after hb5)
      replace HO := hide (HO.out.after hb5)
      replace Hb := hide (below_next Hb.out (Nat.le_refl _) hb5)
      clear hb5 v0 v1 v2 v3
      have x0 := HO.out.cell 4 rfl
      have x1 := HO.out.cell 5 rfl
      have f0 := HO.out.frozen 4
      have f1 := HO.out.frozen 5
      go_wp2_with (first | (go_at_call 19; refine (C2.out _).mono ?_; rintro e w6 ⟨rfl, hw⟩; obtain rfl := hw.symm) | (go_at_call 18; refine (F2.out _).mono ?_; rintro e w6 ⟨rfl, hw⟩; obtain rfl := hw.symm))
      go_roundw
      case rel => exact ⟨3, by go_num, by omega, HV.out.other44 (by omega) _ _ _ _, HR.out.other44 (by omega) _ _ _ _, blk_cells ((HO.out.set 4 _).set 5 _) (mC_set2 (by omega)), below_set (below_set Hb.out _ _ _ (by omega) Hb.out.size) _ _ _ (by omega) (by rw [setCell_size]; exact Hb.out.size)⟩
      case measure => simp [intOf]
    · obtain ⟨v0, v1, v2, v3⟩ := four_cells HV.out
      go_upto_region 21 with (first | (go_at_call 17; refine (U3.out _).mono ?_; rintro e w5 ⟨rfl, hb5⟩))
      replace HV := hide (HV.out.after hb5)
      replace HR := hide (HR.out.after hb5)
      replace HO := hide (HO.out.after hb5)
      replace Hb := hide (below_next Hb.out (Nat.le_refl _) hb5)
      clear hb5 v0 v1 v2 v3
      have x0 := HO.out.cell 6 rfl
      have x1 := HO.out.cell 7 rfl
      have f0 := HO.out.frozen 6
      have f1 := HO.out.frozen 7
      go_wp2_with (first | (go_at_call 19; refine (C3.out _).mono ?_; rintro e w6 ⟨rfl, hw⟩; obtain rfl := hw.symm) | (go_at_call 18; refine (F3.out _).mono ?_; rintro e w6 ⟨rfl, hw⟩; obtain rfl := hw.symm))
      go_roundw
      case rel => exact ⟨4, by go_num, by omega, HV.out.other44 (by omega) _ _ _ _, HR.out.other44 (by omega) _ _ _ _, blk_cells ((HO.out.set 6 _).set 7 _) (mC_set3 (by omega)), below_set (below_set Hb.out _ _ _ (by omega) Hb.out.size) _ _ _ (by omega) (by rw [setCell_size]; exact Hb.out.size)⟩
      case measure => simp [intOf]
    · obtain ⟨x0, x1, x2, x3, x4, x5, x6, x7⟩ := eight_cells HO.out
      obtain ⟨r0, r1, r2, r3, r4, r5, r6, r7⟩ := eight_cells HR.out
      obtain ⟨f0, f1, f2, f3, f4, f5, f6, f7⟩ := eight_set HR.out
      go_wp2_with fail
      exact bodyPost_ret (arr_back2 (p := 4) (u := 5) (by kernel_rfl) Try.underlying24 (by kernel_rfl) _ _ (w.heap.size + 1) _ rfl rfl (HR.out.set44 _ _ _ _ _ _ _ _)) rfl ⟨by rw [EN.out]; rfl, below_set44 Hb.out _ _ _ _ _ _ _ _ _ (by omega) Hb.out.size⟩
set_option maxHeartbeats 4000000 in
theorem rmix_1 (l x y t : Int) (w : World) : Calls Try.prog 8 #[wV l x y t, .int .i64 1] w fun e w' => e = .returned (.tuple #[mxV 1 (clamp l 328 456) (clamp x (-64) 64) (clamp y (-64) 64) (clamp t (-100) 100), .int .i64 0]) ∧ Below w.heap.size w w' := by
  have LM := hide (rlim_any l x y t)
  have hL : 328 ≤ clamp l 328 456 ∧ clamp l 328 456 ≤ 456 := clamp_in (by decide)
  have hX : -64 ≤ clamp x (-64) 64 ∧ clamp x (-64) 64 ≤ 64 := clamp_in (by decide)
  have hY : -64 ≤ clamp y (-64) 64 ∧ clamp y (-64) 64 ≤ 64 := clamp_in (by decide)
  have hT : -100 ≤ clamp t (-100) 100 ∧ clamp t (-100) 100 ≤ 100 := clamp_in (by decide)
  generalize clamp l 328 456 = L at *
  generalize clamp x (-64) 64 = X at *
  generalize clamp y (-64) 64 = Y at *
  generalize clamp t (-100) 100 = T at *
  have U0 := hide (fun W => push_0 L X Y T W (by omega) (by omega) (by omega))
  obtain ⟨p0, e0⟩ : ∃ p, L + X + Y = p := ⟨_, rfl⟩
  have b0 : 200 ≤ p0 ∧ p0 ≤ 584 := by omega
  rw [e0] at U0
  have U1 := hide (fun W => push_1 L X Y T W (by omega) (by omega) (by omega))
  obtain ⟨p1, e1⟩ : ∃ p, L - X + Y = p := ⟨_, rfl⟩
  have b1 : 200 ≤ p1 ∧ p1 ≤ 584 := by omega
  rw [e1] at U1
  have U2 := hide (fun W => push_2 L X Y T W (by omega) (by omega) (by omega))
  obtain ⟨p2, e2⟩ : ∃ p, L - X - Y = p := ⟨_, rfl⟩
  have b2 : 200 ≤ p2 ∧ p2 ≤ 584 := by omega
  rw [e2] at U2
  have U3 := hide (fun W => push_3 L X Y T W (by omega) (by omega) (by omega))
  obtain ⟨p3, e3⟩ : ∃ p, L + X - Y = p := ⟨_, rfl⟩
  have b3 : 200 ≤ p3 ∧ p3 ≤ 584 := by omega
  rw [e3] at U3
  obtain ⟨z, hz2⟩ : ∃ z, 4 * T - -p0 = z := ⟨_, rfl⟩
  have hz1 : -1000000 ≤ z ∧ z ≤ 1000000 := by omega
  have OV := hide (fun W => rfloorX z 3 W hz1 (by decide))
  obtain ⟨q, hq⟩ : ∃ q, Hid (z / 3 = q) := ⟨_, hide rfl⟩
  rw [hq.out] at OV
  have hz3 : 4 * T + p0 = z := by omega
  obtain ⟨c1, hc1⟩ : ∃ c, Hid (clamp q (-p1) p1 = c) := ⟨_, hide rfl⟩
  have C1 := hide (fun W => rclampX q (-p1) p1 W)
  rw [hc1.out] at C1
  have i1 : -p1 ≤ c1 ∧ c1 ≤ p1 := by rw [← hc1.out]; exact clamp_in (by omega)
  have F1 := hide (fun W => rfloorX (p1 + c1) 2 W (by omega) (by decide))
  obtain ⟨u1, hu1⟩ : ∃ u, Hid ((p1 + c1) / 2 = u) := ⟨_, hide rfl⟩
  rw [hu1.out] at F1
  have j1 : 0 ≤ u1 ∧ u1 ≤ 584 := by have := hu1.out; omega
  obtain ⟨c2, hc2⟩ : ∃ c, Hid (clamp q (-p2) p2 = c) := ⟨_, hide rfl⟩
  have C2 := hide (fun W => rclampX q (-p2) p2 W)
  rw [hc2.out] at C2
  have i2 : -p2 ≤ c2 ∧ c2 ≤ p2 := by rw [← hc2.out]; exact clamp_in (by omega)
  have F2 := hide (fun W => rfloorX (p2 + c2) 2 W (by omega) (by decide))
  obtain ⟨u2, hu2⟩ : ∃ u, Hid ((p2 + c2) / 2 = u) := ⟨_, hide rfl⟩
  rw [hu2.out] at F2
  have j2 : 0 ≤ u2 ∧ u2 ≤ 584 := by have := hu2.out; omega
  obtain ⟨c3, hc3⟩ : ∃ c, Hid (clamp q (-p3) p3 = c) := ⟨_, hide rfl⟩
  have C3 := hide (fun W => rclampX q (-p3) p3 W)
  rw [hc3.out] at C3
  have i3 : -p3 ≤ c3 ∧ c3 ≤ p3 := by rw [← hc3.out]; exact clamp_in (by omega)
  have F3 := hide (fun W => rfloorX (p3 + c3) 2 W (by omega) (by decide))
  obtain ⟨u3, hu3⟩ : ∃ u, Hid ((p3 + c3) / 2 = u) := ⟨_, hide rfl⟩
  rw [hu3.out] at F3
  have j3 : 0 ≤ u3 ∧ u3 ≤ 584 := by have := hu3.out; omega
  have EN : Hid (mxV 1 L X Y T = eV 0 p0 u1 (p1 - u1) u2 (p2 - u2) u3 (p3 - u3)) := hide (by
    have hl : lone 0 p0 p1 p2 p3 = -p0 := by simp [lone, pk]
    have hr : rst 0 p0 p1 p2 p3 T = q := by unfold rst; rw [hl, hz2, hq.out]
    unfold mxV
    rw [if_neg (by decide), e0, e1, e2, e3, show (1 : Int) - 1 = 0 by decide]
    have t0 : tw 0 p0 p1 p2 p3 T 0 = -p0 := by unfold tw; rw [if_pos (by decide), hl]
    have t1 : tw 0 p0 p1 p2 p3 T 1 = c1 := by unfold tw; rw [if_neg (by decide), hr]; exact hc1.out
    have t2 : tw 0 p0 p1 p2 p3 T 2 = c2 := by unfold tw; rw [if_neg (by decide), hr]; exact hc2.out
    have t3 : tw 0 p0 p1 p2 p3 T 3 = c3 := by unfold tw; rw [if_neg (by decide), hr]; exact hc3.out
    rw [t0, t1, t2, t3]
    exact eV_ext (by omega) (by omega) hu1.out (by rw [hu1.out]) hu2.out (by rw [hu2.out]) hu3.out (by rw [hu3.out]))
  clear hc1 hu1 hc2 hu2 hc3 hu3 hq hz1 e0 e1 e2 e3 hL hX hY
  obtain ⟨W0, hW0, b0', M0, R0, O0, hz0⟩ := three_boxes w (wC l x y t) (eC 0 0 0 0 0 0 0 0) (eC 0 0 0 0 0 0 0 0) 23 24 24
  obtain ⟨m0, m1, m2, m3⟩ := four_cells M0
  have Hb := hide b0'
  have HR := hide R0
  have HO := hide O0
  clear b0' M0 R0 O0
  go_enter Try.func8, Try.ntmps8
  go_upto_region 5 with (first | (go_at_call 10; refine (LM.out _).mono ?_; rintro e w1 ⟨rfl, hb1⟩))
  have HV := hide (Blk.new w1 (wC L X Y T) 23)
  replace HR := hide ((HR.out.after hb1).alloc (.cells (wC L X Y T) 23))
  have hz1 : w.heap.size + 1 + 1 < w1.heap.size := (HO.out.after hb1).lt
  replace HO := hide ((HO.out.after hb1).alloc (.cells (wC L X Y T) 23))
  replace Hb := hide (below_next Hb.out (Nat.le_refl _) hb1)
  replace Hb := hide (Hb.out.alloc Hb.out.size (.cells (wC L X Y T) 23))
  clear hb1 m0 m1 m2 m3 hW0 hz0 LM
  generalize w1.alloc (.cells (wC L X Y T) 23) = W1 at *
  generalize w1.heap.size = g at *
  obtain ⟨v0, v1, v2, v3⟩ := four_cells HV.out
  go_upto_region 11 with (first | (go_at_call 17; refine (U0.out _).mono ?_; rintro e w2 ⟨rfl, hb2⟩))
  replace HV := hide (HV.out.after hb2)
  replace HR := hide (HR.out.after hb2)
  replace HO := hide (HO.out.after hb2)
  replace Hb := hide (below_next Hb.out (Nat.le_refl _) hb2)
  clear hb2 v0 v1 v2 v3
  have x0 := HO.out.cell 1 rfl
  have f0 := HO.out.frozen 1
  go_upto_region 15 with fail
  replace HV := hide (HV.out.setOther (show g ≠ w.heap.size + 1 + 1 by omega) 1 (.int .i64 p0))
  replace HR := hide (HR.out.setOther (show w.heap.size + 1 ≠ w.heap.size + 1 + 1 by omega) 1 (.int .i64 p0))
  replace Hb := hide (below_set Hb.out (w.heap.size + 1 + 1) 1 (.int .i64 p0) (by omega) Hb.out.size)
  replace HO := hide (HO.out.set 1 (.int .i64 p0))
  clear x0 f0
  generalize w2.setCell ⟨w.heap.size + 1 + 1, 1, none⟩ (.int .i64 p0) = W2 at *
  obtain ⟨v0, v1, v2, v3⟩ := four_cells HV.out
  go_wp2_with (first | (go_at_call 18; refine (OV.out _).mono ?_; rintro e w3 ⟨rfl, hw⟩; obtain rfl := hw.symm))
  clear v0 v1 v2 v3 OV hz2 hz3
  go_loopw [12] (fun v wr => ∃ i : Nat, v = .int .i64 (i : Int) ∧ i ≤ 4 ∧ Blk wr g (wC L X Y T) 23 ∧ Blk wr (w.heap.size + 1) (eC 0 0 0 0 0 0 0 0) 24 ∧ Blk wr (w.heap.size + 1 + 1) (rC0 p1 p2 p3 u1 u2 u3 0 p0 i) 24 ∧ Below w.heap.size w wr) (fun v _ => 4 - (intOf v).toNat)
  case atStart => exact ⟨0, rfl, by omega, HV.out, HR.out, HO.out, Hb.out⟩
  case round =>
    clear HV HR HO Hb
    obtain ⟨i, rfl, hi, hV, hR, hO, hb⟩ := hrel
    have HV := hide hV
    have HR := hide hR
    have HO := hide hO
    have Hb := hide hb
    clear hV hR hO hb
    obtain rfl | rfl | rfl | rfl | rfl : i = 0 ∨ i = 1 ∨ i = 2 ∨ i = 3 ∨ i = 4 := by omega
    · go_wp2_with fail
      go_roundw
      case rel => exact ⟨1, by go_num, by omega, HV.out, HR.out, HO.out, Hb.out⟩
      case measure => simp [intOf]
    · obtain ⟨v0, v1, v2, v3⟩ := four_cells HV.out
      go_upto_region 21 with (first | (go_at_call 17; refine (U1.out _).mono ?_; rintro e w5 ⟨rfl, hb5⟩))
      replace HV := hide (HV.out.after hb5)
      replace HR := hide (HR.out.after hb5)
      replace HO := hide (HO.out.after hb5)
      replace Hb := hide (below_next Hb.out (Nat.le_refl _) hb5)
      clear hb5 v0 v1 v2 v3
      have x0 := HO.out.cell 2 rfl
      have x1 := HO.out.cell 3 rfl
      have f0 := HO.out.frozen 2
      have f1 := HO.out.frozen 3
      go_wp2_with (first | (go_at_call 19; refine (C1.out _).mono ?_; rintro e w6 ⟨rfl, hw⟩; obtain rfl := hw.symm) | (go_at_call 18; refine (F1.out _).mono ?_; rintro e w6 ⟨rfl, hw⟩; obtain rfl := hw.symm))
      go_roundw
      case rel => exact ⟨2, by go_num, by omega, HV.out.other44 (by omega) _ _ _ _, HR.out.other44 (by omega) _ _ _ _, blk_cells ((HO.out.set 2 _).set 3 _) (rC0_set1 (by omega)), below_set (below_set Hb.out _ _ _ (by omega) Hb.out.size) _ _ _ (by omega) (by rw [setCell_size]; exact Hb.out.size)⟩
      case measure => simp [intOf]
    · obtain ⟨v0, v1, v2, v3⟩ := four_cells HV.out
      go_upto_region 21 with (first | (go_at_call 17; refine (U2.out _).mono ?_; rintro e w5 ⟨rfl, hb5⟩))
      replace HV := hide (HV.out.after hb5)
      replace HR := hide (HR.out.after hb5)
      replace HO := hide (HO.out.after hb5)
      replace Hb := hide (below_next Hb.out (Nat.le_refl _) hb5)
      clear hb5 v0 v1 v2 v3
      have x0 := HO.out.cell 4 rfl
      have x1 := HO.out.cell 5 rfl
      have f0 := HO.out.frozen 4
      have f1 := HO.out.frozen 5
      go_wp2_with (first | (go_at_call 19; refine (C2.out _).mono ?_; rintro e w6 ⟨rfl, hw⟩; obtain rfl := hw.symm) | (go_at_call 18; refine (F2.out _).mono ?_; rintro e w6 ⟨rfl, hw⟩; obtain rfl := hw.symm))
      go_roundw
      case rel => exact ⟨3, by go_num, by omega, HV.out.other44 (by omega) _ _ _ _, HR.out.other44 (by omega) _ _ _ _, blk_cells ((HO.out.set 4 _).set 5 _) (rC0_set2 (by omega)), below_set (below_set Hb.out _ _ _ (by omega) Hb.out.size) _ _ _ (by omega) (by rw [setCell_size]; exact Hb.out.size)⟩
      case measure => simp [intOf]
    · obtain ⟨v0, v1, v2, v3⟩ := four_cells HV.out
      go_upto_region 21 with (first | (go_at_call 17; refine (U3.out _).mono ?_; rintro e w5 ⟨rfl, hb5⟩))
      replace HV := hide (HV.out.after hb5)
      replace HR := hide (HR.out.after hb5)
      replace HO := hide (HO.out.after hb5)
      replace Hb := hide (below_next Hb.out (Nat.le_refl _) hb5)
      clear hb5 v0 v1 v2 v3
      have x0 := HO.out.cell 6 rfl
      have x1 := HO.out.cell 7 rfl
      have f0 := HO.out.frozen 6
      have f1 := HO.out.frozen 7
      go_wp2_with (first | (go_at_call 19; refine (C3.out _).mono ?_; rintro e w6 ⟨rfl, hw⟩; obtain rfl := hw.symm) | (go_at_call 18; refine (F3.out _).mono ?_; rintro e w6 ⟨rfl, hw⟩; obtain rfl := hw.symm))
      go_roundw
      case rel => exact ⟨4, by go_num, by omega, HV.out.other44 (by omega) _ _ _ _, HR.out.other44 (by omega) _ _ _ _, blk_cells ((HO.out.set 6 _).set 7 _) (rC0_set3 (by omega)), below_set (below_set Hb.out _ _ _ (by omega) Hb.out.size) _ _ _ (by omega) (by rw [setCell_size]; exact Hb.out.size)⟩
      case measure => simp [intOf]
    · obtain ⟨x0, x1, x2, x3, x4, x5, x6, x7⟩ := eight_cells HO.out
      obtain ⟨r0, r1, r2, r3, r4, r5, r6, r7⟩ := eight_cells HR.out
      obtain ⟨f0, f1, f2, f3, f4, f5, f6, f7⟩ := eight_set HR.out
      go_wp2_with fail
      exact bodyPost_ret (arr_back2 (p := 4) (u := 5) (by kernel_rfl) Try.underlying24 (by kernel_rfl) _ _ (w.heap.size + 1) _ rfl rfl (HR.out.set44 _ _ _ _ _ _ _ _)) rfl ⟨by rw [EN.out]; rfl, below_set44 Hb.out _ _ _ _ _ _ _ _ _ (by omega) Hb.out.size⟩
set_option maxHeartbeats 4000000 in
theorem rmix_2 (l x y t : Int) (w : World) : Calls Try.prog 8 #[wV l x y t, .int .i64 2] w fun e w' => e = .returned (.tuple #[mxV 2 (clamp l 328 456) (clamp x (-64) 64) (clamp y (-64) 64) (clamp t (-100) 100), .int .i64 0]) ∧ Below w.heap.size w w' := by
  have LM := hide (rlim_any l x y t)
  have hL : 328 ≤ clamp l 328 456 ∧ clamp l 328 456 ≤ 456 := clamp_in (by decide)
  have hX : -64 ≤ clamp x (-64) 64 ∧ clamp x (-64) 64 ≤ 64 := clamp_in (by decide)
  have hY : -64 ≤ clamp y (-64) 64 ∧ clamp y (-64) 64 ≤ 64 := clamp_in (by decide)
  have hT : -100 ≤ clamp t (-100) 100 ∧ clamp t (-100) 100 ≤ 100 := clamp_in (by decide)
  generalize clamp l 328 456 = L at *
  generalize clamp x (-64) 64 = X at *
  generalize clamp y (-64) 64 = Y at *
  generalize clamp t (-100) 100 = T at *
  have U0 := hide (fun W => push_0 L X Y T W (by omega) (by omega) (by omega))
  obtain ⟨p0, e0⟩ : ∃ p, L + X + Y = p := ⟨_, rfl⟩
  have b0 : 200 ≤ p0 ∧ p0 ≤ 584 := by omega
  rw [e0] at U0
  have U1 := hide (fun W => push_1 L X Y T W (by omega) (by omega) (by omega))
  obtain ⟨p1, e1⟩ : ∃ p, L - X + Y = p := ⟨_, rfl⟩
  have b1 : 200 ≤ p1 ∧ p1 ≤ 584 := by omega
  rw [e1] at U1
  have U2 := hide (fun W => push_2 L X Y T W (by omega) (by omega) (by omega))
  obtain ⟨p2, e2⟩ : ∃ p, L - X - Y = p := ⟨_, rfl⟩
  have b2 : 200 ≤ p2 ∧ p2 ≤ 584 := by omega
  rw [e2] at U2
  have U3 := hide (fun W => push_3 L X Y T W (by omega) (by omega) (by omega))
  obtain ⟨p3, e3⟩ : ∃ p, L + X - Y = p := ⟨_, rfl⟩
  have b3 : 200 ≤ p3 ∧ p3 ≤ 584 := by omega
  rw [e3] at U3
  obtain ⟨z, hz2⟩ : ∃ z, 4 * T - p0 = z := ⟨_, rfl⟩
  have hz1 : -1000000 ≤ z ∧ z ≤ 1000000 := by omega
  have OV := hide (fun W => rfloorX z 3 W hz1 (by decide))
  obtain ⟨q, hq⟩ : ∃ q, Hid (z / 3 = q) := ⟨_, hide rfl⟩
  rw [hq.out] at OV
  obtain ⟨c1, hc1⟩ : ∃ c, Hid (clamp q (-p1) p1 = c) := ⟨_, hide rfl⟩
  have C1 := hide (fun W => rclampX q (-p1) p1 W)
  rw [hc1.out] at C1
  have i1 : -p1 ≤ c1 ∧ c1 ≤ p1 := by rw [← hc1.out]; exact clamp_in (by omega)
  have F1 := hide (fun W => rfloorX (p1 + c1) 2 W (by omega) (by decide))
  obtain ⟨u1, hu1⟩ : ∃ u, Hid ((p1 + c1) / 2 = u) := ⟨_, hide rfl⟩
  rw [hu1.out] at F1
  have j1 : 0 ≤ u1 ∧ u1 ≤ 584 := by have := hu1.out; omega
  obtain ⟨c2, hc2⟩ : ∃ c, Hid (clamp q (-p2) p2 = c) := ⟨_, hide rfl⟩
  have C2 := hide (fun W => rclampX q (-p2) p2 W)
  rw [hc2.out] at C2
  have i2 : -p2 ≤ c2 ∧ c2 ≤ p2 := by rw [← hc2.out]; exact clamp_in (by omega)
  have F2 := hide (fun W => rfloorX (p2 + c2) 2 W (by omega) (by decide))
  obtain ⟨u2, hu2⟩ : ∃ u, Hid ((p2 + c2) / 2 = u) := ⟨_, hide rfl⟩
  rw [hu2.out] at F2
  have j2 : 0 ≤ u2 ∧ u2 ≤ 584 := by have := hu2.out; omega
  obtain ⟨c3, hc3⟩ : ∃ c, Hid (clamp q (-p3) p3 = c) := ⟨_, hide rfl⟩
  have C3 := hide (fun W => rclampX q (-p3) p3 W)
  rw [hc3.out] at C3
  have i3 : -p3 ≤ c3 ∧ c3 ≤ p3 := by rw [← hc3.out]; exact clamp_in (by omega)
  have F3 := hide (fun W => rfloorX (p3 + c3) 2 W (by omega) (by decide))
  obtain ⟨u3, hu3⟩ : ∃ u, Hid ((p3 + c3) / 2 = u) := ⟨_, hide rfl⟩
  rw [hu3.out] at F3
  have j3 : 0 ≤ u3 ∧ u3 ≤ 584 := by have := hu3.out; omega
  have EN : Hid (mxV 2 L X Y T = eV p0 0 u1 (p1 - u1) u2 (p2 - u2) u3 (p3 - u3)) := hide (by
    have hl : lone 1 p0 p1 p2 p3 = p0 := by simp [lone, pk]
    have hr : rst 1 p0 p1 p2 p3 T = q := by unfold rst; rw [hl, hz2, hq.out]
    unfold mxV
    rw [if_neg (by decide), e0, e1, e2, e3, show (2 : Int) - 1 = 1 by decide]
    have t0 : tw 1 p0 p1 p2 p3 T 0 = p0 := by unfold tw; rw [if_pos (by decide), hl]
    have t1 : tw 1 p0 p1 p2 p3 T 1 = c1 := by unfold tw; rw [if_neg (by decide), hr]; exact hc1.out
    have t2 : tw 1 p0 p1 p2 p3 T 2 = c2 := by unfold tw; rw [if_neg (by decide), hr]; exact hc2.out
    have t3 : tw 1 p0 p1 p2 p3 T 3 = c3 := by unfold tw; rw [if_neg (by decide), hr]; exact hc3.out
    rw [t0, t1, t2, t3]
    exact eV_ext (by omega) (by omega) hu1.out (by rw [hu1.out]) hu2.out (by rw [hu2.out]) hu3.out (by rw [hu3.out]))
  clear hc1 hu1 hc2 hu2 hc3 hu3 hq hz1 e0 e1 e2 e3 hL hX hY
  obtain ⟨W0, hW0, b0', M0, R0, O0, hz0⟩ := three_boxes w (wC l x y t) (eC 0 0 0 0 0 0 0 0) (eC 0 0 0 0 0 0 0 0) 23 24 24
  obtain ⟨m0, m1, m2, m3⟩ := four_cells M0
  have Hb := hide b0'
  have HR := hide R0
  have HO := hide O0
  clear b0' M0 R0 O0
  go_enter Try.func8, Try.ntmps8
  go_upto_region 5 with (first | (go_at_call 10; refine (LM.out _).mono ?_; rintro e w1 ⟨rfl, hb1⟩))
  have HV := hide (Blk.new w1 (wC L X Y T) 23)
  replace HR := hide ((HR.out.after hb1).alloc (.cells (wC L X Y T) 23))
  have hz1 : w.heap.size + 1 + 1 < w1.heap.size := (HO.out.after hb1).lt
  replace HO := hide ((HO.out.after hb1).alloc (.cells (wC L X Y T) 23))
  replace Hb := hide (below_next Hb.out (Nat.le_refl _) hb1)
  replace Hb := hide (Hb.out.alloc Hb.out.size (.cells (wC L X Y T) 23))
  clear hb1 m0 m1 m2 m3 hW0 hz0 LM
  generalize w1.alloc (.cells (wC L X Y T) 23) = W1 at *
  generalize w1.heap.size = g at *
  obtain ⟨v0, v1, v2, v3⟩ := four_cells HV.out
  go_upto_region 11 with (first | (go_at_call 17; refine (U0.out _).mono ?_; rintro e w2 ⟨rfl, hb2⟩))
  replace HV := hide (HV.out.after hb2)
  replace HR := hide (HR.out.after hb2)
  replace HO := hide (HO.out.after hb2)
  replace Hb := hide (below_next Hb.out (Nat.le_refl _) hb2)
  clear hb2 v0 v1 v2 v3
  have x0 := HO.out.cell 0 rfl
  have f0 := HO.out.frozen 0
  go_upto_region 15 with fail
  replace HV := hide (HV.out.setOther (show g ≠ w.heap.size + 1 + 1 by omega) 0 (.int .i64 p0))
  replace HR := hide (HR.out.setOther (show w.heap.size + 1 ≠ w.heap.size + 1 + 1 by omega) 0 (.int .i64 p0))
  replace Hb := hide (below_set Hb.out (w.heap.size + 1 + 1) 0 (.int .i64 p0) (by omega) Hb.out.size)
  replace HO := hide (HO.out.set 0 (.int .i64 p0))
  clear x0 f0
  generalize w2.setCell ⟨w.heap.size + 1 + 1, 0, none⟩ (.int .i64 p0) = W2 at *
  obtain ⟨v0, v1, v2, v3⟩ := four_cells HV.out
  go_wp2_with (first | (go_at_call 18; refine (OV.out _).mono ?_; rintro e w3 ⟨rfl, hw⟩; obtain rfl := hw.symm))
  clear v0 v1 v2 v3 OV hz2
  go_loopw [12] (fun v wr => ∃ i : Nat, v = .int .i64 (i : Int) ∧ i ≤ 4 ∧ Blk wr g (wC L X Y T) 23 ∧ Blk wr (w.heap.size + 1) (eC 0 0 0 0 0 0 0 0) 24 ∧ Blk wr (w.heap.size + 1 + 1) (rC0 p1 p2 p3 u1 u2 u3 p0 0 i) 24 ∧ Below w.heap.size w wr) (fun v _ => 4 - (intOf v).toNat)
  case atStart => exact ⟨0, rfl, by omega, HV.out, HR.out, HO.out, Hb.out⟩
  case round =>
    clear HV HR HO Hb
    obtain ⟨i, rfl, hi, hV, hR, hO, hb⟩ := hrel
    have HV := hide hV
    have HR := hide hR
    have HO := hide hO
    have Hb := hide hb
    clear hV hR hO hb
    obtain rfl | rfl | rfl | rfl | rfl : i = 0 ∨ i = 1 ∨ i = 2 ∨ i = 3 ∨ i = 4 := by omega
    · go_wp2_with fail
      go_roundw
      case rel => exact ⟨1, by go_num, by omega, HV.out, HR.out, HO.out, Hb.out⟩
      case measure => simp [intOf]
    · obtain ⟨v0, v1, v2, v3⟩ := four_cells HV.out
      go_upto_region 21 with (first | (go_at_call 17; refine (U1.out _).mono ?_; rintro e w5 ⟨rfl, hb5⟩))
      replace HV := hide (HV.out.after hb5)
      replace HR := hide (HR.out.after hb5)
      replace HO := hide (HO.out.after hb5)
      replace Hb := hide (below_next Hb.out (Nat.le_refl _) hb5)
      clear hb5 v0 v1 v2 v3
      have x0 := HO.out.cell 2 rfl
      have x1 := HO.out.cell 3 rfl
      have f0 := HO.out.frozen 2
      have f1 := HO.out.frozen 3
      go_wp2_with (first | (go_at_call 19; refine (C1.out _).mono ?_; rintro e w6 ⟨rfl, hw⟩; obtain rfl := hw.symm) | (go_at_call 18; refine (F1.out _).mono ?_; rintro e w6 ⟨rfl, hw⟩; obtain rfl := hw.symm))
      go_roundw
      case rel => exact ⟨2, by go_num, by omega, HV.out.other44 (by omega) _ _ _ _, HR.out.other44 (by omega) _ _ _ _, blk_cells ((HO.out.set 2 _).set 3 _) (rC0_set1 (by omega)), below_set (below_set Hb.out _ _ _ (by omega) Hb.out.size) _ _ _ (by omega) (by rw [setCell_size]; exact Hb.out.size)⟩
      case measure => simp [intOf]
    · obtain ⟨v0, v1, v2, v3⟩ := four_cells HV.out
      go_upto_region 21 with (first | (go_at_call 17; refine (U2.out _).mono ?_; rintro e w5 ⟨rfl, hb5⟩))
      replace HV := hide (HV.out.after hb5)
      replace HR := hide (HR.out.after hb5)
      replace HO := hide (HO.out.after hb5)
      replace Hb := hide (below_next Hb.out (Nat.le_refl _) hb5)
      clear hb5 v0 v1 v2 v3
      have x0 := HO.out.cell 4 rfl
      have x1 := HO.out.cell 5 rfl
      have f0 := HO.out.frozen 4
      have f1 := HO.out.frozen 5
      go_wp2_with (first | (go_at_call 19; refine (C2.out _).mono ?_; rintro e w6 ⟨rfl, hw⟩; obtain rfl := hw.symm) | (go_at_call 18; refine (F2.out _).mono ?_; rintro e w6 ⟨rfl, hw⟩; obtain rfl := hw.symm))
      go_roundw
      case rel => exact ⟨3, by go_num, by omega, HV.out.other44 (by omega) _ _ _ _, HR.out.other44 (by omega) _ _ _ _, blk_cells ((HO.out.set 4 _).set 5 _) (rC0_set2 (by omega)), below_set (below_set Hb.out _ _ _ (by omega) Hb.out.size) _ _ _ (by omega) (by rw [setCell_size]; exact Hb.out.size)⟩
      case measure => simp [intOf]
    · obtain ⟨v0, v1, v2, v3⟩ := four_cells HV.out
      go_upto_region 21 with (first | (go_at_call 17; refine (U3.out _).mono ?_; rintro e w5 ⟨rfl, hb5⟩))
      replace HV := hide (HV.out.after hb5)
      replace HR := hide (HR.out.after hb5)
      replace HO := hide (HO.out.after hb5)
      replace Hb := hide (below_next Hb.out (Nat.le_refl _) hb5)
      clear hb5 v0 v1 v2 v3
      have x0 := HO.out.cell 6 rfl
      have x1 := HO.out.cell 7 rfl
      have f0 := HO.out.frozen 6
      have f1 := HO.out.frozen 7
      go_wp2_with (first | (go_at_call 19; refine (C3.out _).mono ?_; rintro e w6 ⟨rfl, hw⟩; obtain rfl := hw.symm) | (go_at_call 18; refine (F3.out _).mono ?_; rintro e w6 ⟨rfl, hw⟩; obtain rfl := hw.symm))
      go_roundw
      case rel => exact ⟨4, by go_num, by omega, HV.out.other44 (by omega) _ _ _ _, HR.out.other44 (by omega) _ _ _ _, blk_cells ((HO.out.set 6 _).set 7 _) (rC0_set3 (by omega)), below_set (below_set Hb.out _ _ _ (by omega) Hb.out.size) _ _ _ (by omega) (by rw [setCell_size]; exact Hb.out.size)⟩
      case measure => simp [intOf]
    · obtain ⟨x0, x1, x2, x3, x4, x5, x6, x7⟩ := eight_cells HO.out
      obtain ⟨r0, r1, r2, r3, r4, r5, r6, r7⟩ := eight_cells HR.out
      obtain ⟨f0, f1, f2, f3, f4, f5, f6, f7⟩ := eight_set HR.out
      go_wp2_with fail
      exact bodyPost_ret (arr_back2 (p := 4) (u := 5) (by kernel_rfl) Try.underlying24 (by kernel_rfl) _ _ (w.heap.size + 1) _ rfl rfl (HR.out.set44 _ _ _ _ _ _ _ _)) rfl ⟨by rw [EN.out]; rfl, below_set44 Hb.out _ _ _ _ _ _ _ _ _ (by omega) Hb.out.size⟩
set_option maxHeartbeats 4000000 in
theorem rmix_3 (l x y t : Int) (w : World) : Calls Try.prog 8 #[wV l x y t, .int .i64 3] w fun e w' => e = .returned (.tuple #[mxV 3 (clamp l 328 456) (clamp x (-64) 64) (clamp y (-64) 64) (clamp t (-100) 100), .int .i64 0]) ∧ Below w.heap.size w w' := by
  have LM := hide (rlim_any l x y t)
  have hL : 328 ≤ clamp l 328 456 ∧ clamp l 328 456 ≤ 456 := clamp_in (by decide)
  have hX : -64 ≤ clamp x (-64) 64 ∧ clamp x (-64) 64 ≤ 64 := clamp_in (by decide)
  have hY : -64 ≤ clamp y (-64) 64 ∧ clamp y (-64) 64 ≤ 64 := clamp_in (by decide)
  have hT : -100 ≤ clamp t (-100) 100 ∧ clamp t (-100) 100 ≤ 100 := clamp_in (by decide)
  generalize clamp l 328 456 = L at *
  generalize clamp x (-64) 64 = X at *
  generalize clamp y (-64) 64 = Y at *
  generalize clamp t (-100) 100 = T at *
  have U0 := hide (fun W => push_0 L X Y T W (by omega) (by omega) (by omega))
  obtain ⟨p0, e0⟩ : ∃ p, L + X + Y = p := ⟨_, rfl⟩
  have b0 : 200 ≤ p0 ∧ p0 ≤ 584 := by omega
  rw [e0] at U0
  have U1 := hide (fun W => push_1 L X Y T W (by omega) (by omega) (by omega))
  obtain ⟨p1, e1⟩ : ∃ p, L - X + Y = p := ⟨_, rfl⟩
  have b1 : 200 ≤ p1 ∧ p1 ≤ 584 := by omega
  rw [e1] at U1
  have U2 := hide (fun W => push_2 L X Y T W (by omega) (by omega) (by omega))
  obtain ⟨p2, e2⟩ : ∃ p, L - X - Y = p := ⟨_, rfl⟩
  have b2 : 200 ≤ p2 ∧ p2 ≤ 584 := by omega
  rw [e2] at U2
  have U3 := hide (fun W => push_3 L X Y T W (by omega) (by omega) (by omega))
  obtain ⟨p3, e3⟩ : ∃ p, L + X - Y = p := ⟨_, rfl⟩
  have b3 : 200 ≤ p3 ∧ p3 ≤ 584 := by omega
  rw [e3] at U3
  obtain ⟨z, hz2⟩ : ∃ z, 4 * T - -p1 = z := ⟨_, rfl⟩
  have hz1 : -1000000 ≤ z ∧ z ≤ 1000000 := by omega
  have OV := hide (fun W => rfloorX z 3 W hz1 (by decide))
  obtain ⟨q, hq⟩ : ∃ q, Hid (z / 3 = q) := ⟨_, hide rfl⟩
  rw [hq.out] at OV
  have hz3 : 4 * T + p1 = z := by omega
  obtain ⟨c0, hc0⟩ : ∃ c, Hid (clamp q (-p0) p0 = c) := ⟨_, hide rfl⟩
  have C0 := hide (fun W => rclampX q (-p0) p0 W)
  rw [hc0.out] at C0
  have i0 : -p0 ≤ c0 ∧ c0 ≤ p0 := by rw [← hc0.out]; exact clamp_in (by omega)
  have F0 := hide (fun W => rfloorX (p0 + c0) 2 W (by omega) (by decide))
  obtain ⟨u0, hu0⟩ : ∃ u, Hid ((p0 + c0) / 2 = u) := ⟨_, hide rfl⟩
  rw [hu0.out] at F0
  have j0 : 0 ≤ u0 ∧ u0 ≤ 584 := by have := hu0.out; omega
  obtain ⟨c2, hc2⟩ : ∃ c, Hid (clamp q (-p2) p2 = c) := ⟨_, hide rfl⟩
  have C2 := hide (fun W => rclampX q (-p2) p2 W)
  rw [hc2.out] at C2
  have i2 : -p2 ≤ c2 ∧ c2 ≤ p2 := by rw [← hc2.out]; exact clamp_in (by omega)
  have F2 := hide (fun W => rfloorX (p2 + c2) 2 W (by omega) (by decide))
  obtain ⟨u2, hu2⟩ : ∃ u, Hid ((p2 + c2) / 2 = u) := ⟨_, hide rfl⟩
  rw [hu2.out] at F2
  have j2 : 0 ≤ u2 ∧ u2 ≤ 584 := by have := hu2.out; omega
  obtain ⟨c3, hc3⟩ : ∃ c, Hid (clamp q (-p3) p3 = c) := ⟨_, hide rfl⟩
  have C3 := hide (fun W => rclampX q (-p3) p3 W)
  rw [hc3.out] at C3
  have i3 : -p3 ≤ c3 ∧ c3 ≤ p3 := by rw [← hc3.out]; exact clamp_in (by omega)
  have F3 := hide (fun W => rfloorX (p3 + c3) 2 W (by omega) (by decide))
  obtain ⟨u3, hu3⟩ : ∃ u, Hid ((p3 + c3) / 2 = u) := ⟨_, hide rfl⟩
  rw [hu3.out] at F3
  have j3 : 0 ≤ u3 ∧ u3 ≤ 584 := by have := hu3.out; omega
  have EN : Hid (mxV 3 L X Y T = eV u0 (p0 - u0) 0 p1 u2 (p2 - u2) u3 (p3 - u3)) := hide (by
    have hl : lone 2 p0 p1 p2 p3 = -p1 := by simp [lone, pk]
    have hr : rst 2 p0 p1 p2 p3 T = q := by unfold rst; rw [hl, hz2, hq.out]
    unfold mxV
    rw [if_neg (by decide), e0, e1, e2, e3, show (3 : Int) - 1 = 2 by decide]
    have t0 : tw 2 p0 p1 p2 p3 T 0 = c0 := by unfold tw; rw [if_neg (by decide), hr]; exact hc0.out
    have t1 : tw 2 p0 p1 p2 p3 T 1 = -p1 := by unfold tw; rw [if_pos (by decide), hl]
    have t2 : tw 2 p0 p1 p2 p3 T 2 = c2 := by unfold tw; rw [if_neg (by decide), hr]; exact hc2.out
    have t3 : tw 2 p0 p1 p2 p3 T 3 = c3 := by unfold tw; rw [if_neg (by decide), hr]; exact hc3.out
    rw [t0, t1, t2, t3]
    exact eV_ext hu0.out (by rw [hu0.out]) (by omega) (by omega) hu2.out (by rw [hu2.out]) hu3.out (by rw [hu3.out]))
  clear hc0 hu0 hc2 hu2 hc3 hu3 hq hz1 e0 e1 e2 e3 hL hX hY
  obtain ⟨W0, hW0, b0', M0, R0, O0, hz0⟩ := three_boxes w (wC l x y t) (eC 0 0 0 0 0 0 0 0) (eC 0 0 0 0 0 0 0 0) 23 24 24
  obtain ⟨m0, m1, m2, m3⟩ := four_cells M0
  have Hb := hide b0'
  have HR := hide R0
  have HO := hide O0
  clear b0' M0 R0 O0
  go_enter Try.func8, Try.ntmps8
  go_upto_region 5 with (first | (go_at_call 10; refine (LM.out _).mono ?_; rintro e w1 ⟨rfl, hb1⟩))
  have HV := hide (Blk.new w1 (wC L X Y T) 23)
  replace HR := hide ((HR.out.after hb1).alloc (.cells (wC L X Y T) 23))
  have hz1 : w.heap.size + 1 + 1 < w1.heap.size := (HO.out.after hb1).lt
  replace HO := hide ((HO.out.after hb1).alloc (.cells (wC L X Y T) 23))
  replace Hb := hide (below_next Hb.out (Nat.le_refl _) hb1)
  replace Hb := hide (Hb.out.alloc Hb.out.size (.cells (wC L X Y T) 23))
  clear hb1 m0 m1 m2 m3 hW0 hz0 LM
  generalize w1.alloc (.cells (wC L X Y T) 23) = W1 at *
  generalize w1.heap.size = g at *
  obtain ⟨v0, v1, v2, v3⟩ := four_cells HV.out
  go_upto_region 11 with (first | (go_at_call 17; refine (U1.out _).mono ?_; rintro e w2 ⟨rfl, hb2⟩))
  replace HV := hide (HV.out.after hb2)
  replace HR := hide (HR.out.after hb2)
  replace HO := hide (HO.out.after hb2)
  replace Hb := hide (below_next Hb.out (Nat.le_refl _) hb2)
  clear hb2 v0 v1 v2 v3
  have x0 := HO.out.cell 3 rfl
  have f0 := HO.out.frozen 3
  go_upto_region 15 with fail
  replace HV := hide (HV.out.setOther (show g ≠ w.heap.size + 1 + 1 by omega) 3 (.int .i64 p1))
  replace HR := hide (HR.out.setOther (show w.heap.size + 1 ≠ w.heap.size + 1 + 1 by omega) 3 (.int .i64 p1))
  replace Hb := hide (below_set Hb.out (w.heap.size + 1 + 1) 3 (.int .i64 p1) (by omega) Hb.out.size)
  replace HO := hide (HO.out.set 3 (.int .i64 p1))
  clear x0 f0
  generalize w2.setCell ⟨w.heap.size + 1 + 1, 3, none⟩ (.int .i64 p1) = W2 at *
  obtain ⟨v0, v1, v2, v3⟩ := four_cells HV.out
  go_wp2_with (first | (go_at_call 18; refine (OV.out _).mono ?_; rintro e w3 ⟨rfl, hw⟩; obtain rfl := hw.symm))
  clear v0 v1 v2 v3 OV hz2 hz3
  go_loopw [12] (fun v wr => ∃ i : Nat, v = .int .i64 (i : Int) ∧ i ≤ 4 ∧ Blk wr g (wC L X Y T) 23 ∧ Blk wr (w.heap.size + 1) (eC 0 0 0 0 0 0 0 0) 24 ∧ Blk wr (w.heap.size + 1 + 1) (rC1 p0 p2 p3 u0 u2 u3 0 p1 i) 24 ∧ Below w.heap.size w wr) (fun v _ => 4 - (intOf v).toNat)
  case atStart => exact ⟨0, rfl, by omega, HV.out, HR.out, HO.out, Hb.out⟩
  case round =>
    clear HV HR HO Hb
    obtain ⟨i, rfl, hi, hV, hR, hO, hb⟩ := hrel
    have HV := hide hV
    have HR := hide hR
    have HO := hide hO
    have Hb := hide hb
    clear hV hR hO hb
    obtain rfl | rfl | rfl | rfl | rfl : i = 0 ∨ i = 1 ∨ i = 2 ∨ i = 3 ∨ i = 4 := by omega
    · obtain ⟨v0, v1, v2, v3⟩ := four_cells HV.out
      go_upto_region 21 with (first | (go_at_call 17; refine (U0.out _).mono ?_; rintro e w5 ⟨rfl, hb5⟩))
      replace HV := hide (HV.out.after hb5)
      replace HR := hide (HR.out.after hb5)
      replace HO := hide (HO.out.after hb5)
      replace Hb := hide (below_next Hb.out (Nat.le_refl _) hb5)
      clear hb5 v0 v1 v2 v3
      have x0 := HO.out.cell 0 rfl
      have x1 := HO.out.cell 1 rfl
      have f0 := HO.out.frozen 0
      have f1 := HO.out.frozen 1
      go_wp2_with (first | (go_at_call 19; refine (C0.out _).mono ?_; rintro e w6 ⟨rfl, hw⟩; obtain rfl := hw.symm) | (go_at_call 18; refine (F0.out _).mono ?_; rintro e w6 ⟨rfl, hw⟩; obtain rfl := hw.symm))
      go_roundw
      case rel => exact ⟨1, by go_num, by omega, HV.out.other44 (by omega) _ _ _ _, HR.out.other44 (by omega) _ _ _ _, blk_cells ((HO.out.set 0 _).set 1 _) (rC1_set0 (by omega)), below_set (below_set Hb.out _ _ _ (by omega) Hb.out.size) _ _ _ (by omega) (by rw [setCell_size]; exact Hb.out.size)⟩
      case measure => simp [intOf]
    · go_wp2_with fail
      go_roundw
      case rel => exact ⟨2, by go_num, by omega, HV.out, HR.out, HO.out, Hb.out⟩
      case measure => simp [intOf]
    · obtain ⟨v0, v1, v2, v3⟩ := four_cells HV.out
      go_upto_region 21 with (first | (go_at_call 17; refine (U2.out _).mono ?_; rintro e w5 ⟨rfl, hb5⟩))
      replace HV := hide (HV.out.after hb5)
      replace HR := hide (HR.out.after hb5)
      replace HO := hide (HO.out.after hb5)
      replace Hb := hide (below_next Hb.out (Nat.le_refl _) hb5)
      clear hb5 v0 v1 v2 v3
      have x0 := HO.out.cell 4 rfl
      have x1 := HO.out.cell 5 rfl
      have f0 := HO.out.frozen 4
      have f1 := HO.out.frozen 5
      go_wp2_with (first | (go_at_call 19; refine (C2.out _).mono ?_; rintro e w6 ⟨rfl, hw⟩; obtain rfl := hw.symm) | (go_at_call 18; refine (F2.out _).mono ?_; rintro e w6 ⟨rfl, hw⟩; obtain rfl := hw.symm))
      go_roundw
      case rel => exact ⟨3, by go_num, by omega, HV.out.other44 (by omega) _ _ _ _, HR.out.other44 (by omega) _ _ _ _, blk_cells ((HO.out.set 4 _).set 5 _) (rC1_set2 (by omega)), below_set (below_set Hb.out _ _ _ (by omega) Hb.out.size) _ _ _ (by omega) (by rw [setCell_size]; exact Hb.out.size)⟩
      case measure => simp [intOf]
    · obtain ⟨v0, v1, v2, v3⟩ := four_cells HV.out
      go_upto_region 21 with (first | (go_at_call 17; refine (U3.out _).mono ?_; rintro e w5 ⟨rfl, hb5⟩))
      replace HV := hide (HV.out.after hb5)
      replace HR := hide (HR.out.after hb5)
      replace HO := hide (HO.out.after hb5)
      replace Hb := hide (below_next Hb.out (Nat.le_refl _) hb5)
      clear hb5 v0 v1 v2 v3
      have x0 := HO.out.cell 6 rfl
      have x1 := HO.out.cell 7 rfl
      have f0 := HO.out.frozen 6
      have f1 := HO.out.frozen 7
      go_wp2_with (first | (go_at_call 19; refine (C3.out _).mono ?_; rintro e w6 ⟨rfl, hw⟩; obtain rfl := hw.symm) | (go_at_call 18; refine (F3.out _).mono ?_; rintro e w6 ⟨rfl, hw⟩; obtain rfl := hw.symm))
      go_roundw
      case rel => exact ⟨4, by go_num, by omega, HV.out.other44 (by omega) _ _ _ _, HR.out.other44 (by omega) _ _ _ _, blk_cells ((HO.out.set 6 _).set 7 _) (rC1_set3 (by omega)), below_set (below_set Hb.out _ _ _ (by omega) Hb.out.size) _ _ _ (by omega) (by rw [setCell_size]; exact Hb.out.size)⟩
      case measure => simp [intOf]
    · obtain ⟨x0, x1, x2, x3, x4, x5, x6, x7⟩ := eight_cells HO.out
      obtain ⟨r0, r1, r2, r3, r4, r5, r6, r7⟩ := eight_cells HR.out
      obtain ⟨f0, f1, f2, f3, f4, f5, f6, f7⟩ := eight_set HR.out
      go_wp2_with fail
      exact bodyPost_ret (arr_back2 (p := 4) (u := 5) (by kernel_rfl) Try.underlying24 (by kernel_rfl) _ _ (w.heap.size + 1) _ rfl rfl (HR.out.set44 _ _ _ _ _ _ _ _)) rfl ⟨by rw [EN.out]; rfl, below_set44 Hb.out _ _ _ _ _ _ _ _ _ (by omega) Hb.out.size⟩
set_option maxHeartbeats 4000000 in
theorem rmix_4 (l x y t : Int) (w : World) : Calls Try.prog 8 #[wV l x y t, .int .i64 4] w fun e w' => e = .returned (.tuple #[mxV 4 (clamp l 328 456) (clamp x (-64) 64) (clamp y (-64) 64) (clamp t (-100) 100), .int .i64 0]) ∧ Below w.heap.size w w' := by
  have LM := hide (rlim_any l x y t)
  have hL : 328 ≤ clamp l 328 456 ∧ clamp l 328 456 ≤ 456 := clamp_in (by decide)
  have hX : -64 ≤ clamp x (-64) 64 ∧ clamp x (-64) 64 ≤ 64 := clamp_in (by decide)
  have hY : -64 ≤ clamp y (-64) 64 ∧ clamp y (-64) 64 ≤ 64 := clamp_in (by decide)
  have hT : -100 ≤ clamp t (-100) 100 ∧ clamp t (-100) 100 ≤ 100 := clamp_in (by decide)
  generalize clamp l 328 456 = L at *
  generalize clamp x (-64) 64 = X at *
  generalize clamp y (-64) 64 = Y at *
  generalize clamp t (-100) 100 = T at *
  have U0 := hide (fun W => push_0 L X Y T W (by omega) (by omega) (by omega))
  obtain ⟨p0, e0⟩ : ∃ p, L + X + Y = p := ⟨_, rfl⟩
  have b0 : 200 ≤ p0 ∧ p0 ≤ 584 := by omega
  rw [e0] at U0
  have U1 := hide (fun W => push_1 L X Y T W (by omega) (by omega) (by omega))
  obtain ⟨p1, e1⟩ : ∃ p, L - X + Y = p := ⟨_, rfl⟩
  have b1 : 200 ≤ p1 ∧ p1 ≤ 584 := by omega
  rw [e1] at U1
  have U2 := hide (fun W => push_2 L X Y T W (by omega) (by omega) (by omega))
  obtain ⟨p2, e2⟩ : ∃ p, L - X - Y = p := ⟨_, rfl⟩
  have b2 : 200 ≤ p2 ∧ p2 ≤ 584 := by omega
  rw [e2] at U2
  have U3 := hide (fun W => push_3 L X Y T W (by omega) (by omega) (by omega))
  obtain ⟨p3, e3⟩ : ∃ p, L + X - Y = p := ⟨_, rfl⟩
  have b3 : 200 ≤ p3 ∧ p3 ≤ 584 := by omega
  rw [e3] at U3
  obtain ⟨z, hz2⟩ : ∃ z, 4 * T - p1 = z := ⟨_, rfl⟩
  have hz1 : -1000000 ≤ z ∧ z ≤ 1000000 := by omega
  have OV := hide (fun W => rfloorX z 3 W hz1 (by decide))
  obtain ⟨q, hq⟩ : ∃ q, Hid (z / 3 = q) := ⟨_, hide rfl⟩
  rw [hq.out] at OV
  obtain ⟨c0, hc0⟩ : ∃ c, Hid (clamp q (-p0) p0 = c) := ⟨_, hide rfl⟩
  have C0 := hide (fun W => rclampX q (-p0) p0 W)
  rw [hc0.out] at C0
  have i0 : -p0 ≤ c0 ∧ c0 ≤ p0 := by rw [← hc0.out]; exact clamp_in (by omega)
  have F0 := hide (fun W => rfloorX (p0 + c0) 2 W (by omega) (by decide))
  obtain ⟨u0, hu0⟩ : ∃ u, Hid ((p0 + c0) / 2 = u) := ⟨_, hide rfl⟩
  rw [hu0.out] at F0
  have j0 : 0 ≤ u0 ∧ u0 ≤ 584 := by have := hu0.out; omega
  obtain ⟨c2, hc2⟩ : ∃ c, Hid (clamp q (-p2) p2 = c) := ⟨_, hide rfl⟩
  have C2 := hide (fun W => rclampX q (-p2) p2 W)
  rw [hc2.out] at C2
  have i2 : -p2 ≤ c2 ∧ c2 ≤ p2 := by rw [← hc2.out]; exact clamp_in (by omega)
  have F2 := hide (fun W => rfloorX (p2 + c2) 2 W (by omega) (by decide))
  obtain ⟨u2, hu2⟩ : ∃ u, Hid ((p2 + c2) / 2 = u) := ⟨_, hide rfl⟩
  rw [hu2.out] at F2
  have j2 : 0 ≤ u2 ∧ u2 ≤ 584 := by have := hu2.out; omega
  obtain ⟨c3, hc3⟩ : ∃ c, Hid (clamp q (-p3) p3 = c) := ⟨_, hide rfl⟩
  have C3 := hide (fun W => rclampX q (-p3) p3 W)
  rw [hc3.out] at C3
  have i3 : -p3 ≤ c3 ∧ c3 ≤ p3 := by rw [← hc3.out]; exact clamp_in (by omega)
  have F3 := hide (fun W => rfloorX (p3 + c3) 2 W (by omega) (by decide))
  obtain ⟨u3, hu3⟩ : ∃ u, Hid ((p3 + c3) / 2 = u) := ⟨_, hide rfl⟩
  rw [hu3.out] at F3
  have j3 : 0 ≤ u3 ∧ u3 ≤ 584 := by have := hu3.out; omega
  have EN : Hid (mxV 4 L X Y T = eV u0 (p0 - u0) p1 0 u2 (p2 - u2) u3 (p3 - u3)) := hide (by
    have hl : lone 3 p0 p1 p2 p3 = p1 := by simp [lone, pk]
    have hr : rst 3 p0 p1 p2 p3 T = q := by unfold rst; rw [hl, hz2, hq.out]
    unfold mxV
    rw [if_neg (by decide), e0, e1, e2, e3, show (4 : Int) - 1 = 3 by decide]
    have t0 : tw 3 p0 p1 p2 p3 T 0 = c0 := by unfold tw; rw [if_neg (by decide), hr]; exact hc0.out
    have t1 : tw 3 p0 p1 p2 p3 T 1 = p1 := by unfold tw; rw [if_pos (by decide), hl]
    have t2 : tw 3 p0 p1 p2 p3 T 2 = c2 := by unfold tw; rw [if_neg (by decide), hr]; exact hc2.out
    have t3 : tw 3 p0 p1 p2 p3 T 3 = c3 := by unfold tw; rw [if_neg (by decide), hr]; exact hc3.out
    rw [t0, t1, t2, t3]
    exact eV_ext hu0.out (by rw [hu0.out]) (by omega) (by omega) hu2.out (by rw [hu2.out]) hu3.out (by rw [hu3.out]))
  clear hc0 hu0 hc2 hu2 hc3 hu3 hq hz1 e0 e1 e2 e3 hL hX hY
  obtain ⟨W0, hW0, b0', M0, R0, O0, hz0⟩ := three_boxes w (wC l x y t) (eC 0 0 0 0 0 0 0 0) (eC 0 0 0 0 0 0 0 0) 23 24 24
  obtain ⟨m0, m1, m2, m3⟩ := four_cells M0
  have Hb := hide b0'
  have HR := hide R0
  have HO := hide O0
  clear b0' M0 R0 O0
  go_enter Try.func8, Try.ntmps8
  go_upto_region 5 with (first | (go_at_call 10; refine (LM.out _).mono ?_; rintro e w1 ⟨rfl, hb1⟩))
  have HV := hide (Blk.new w1 (wC L X Y T) 23)
  replace HR := hide ((HR.out.after hb1).alloc (.cells (wC L X Y T) 23))
  have hz1 : w.heap.size + 1 + 1 < w1.heap.size := (HO.out.after hb1).lt
  replace HO := hide ((HO.out.after hb1).alloc (.cells (wC L X Y T) 23))
  replace Hb := hide (below_next Hb.out (Nat.le_refl _) hb1)
  replace Hb := hide (Hb.out.alloc Hb.out.size (.cells (wC L X Y T) 23))
  clear hb1 m0 m1 m2 m3 hW0 hz0 LM
  generalize w1.alloc (.cells (wC L X Y T) 23) = W1 at *
  generalize w1.heap.size = g at *
  obtain ⟨v0, v1, v2, v3⟩ := four_cells HV.out
  go_upto_region 11 with (first | (go_at_call 17; refine (U1.out _).mono ?_; rintro e w2 ⟨rfl, hb2⟩))
  replace HV := hide (HV.out.after hb2)
  replace HR := hide (HR.out.after hb2)
  replace HO := hide (HO.out.after hb2)
  replace Hb := hide (below_next Hb.out (Nat.le_refl _) hb2)
  clear hb2 v0 v1 v2 v3
  have x0 := HO.out.cell 2 rfl
  have f0 := HO.out.frozen 2
  go_upto_region 15 with fail
  replace HV := hide (HV.out.setOther (show g ≠ w.heap.size + 1 + 1 by omega) 2 (.int .i64 p1))
  replace HR := hide (HR.out.setOther (show w.heap.size + 1 ≠ w.heap.size + 1 + 1 by omega) 2 (.int .i64 p1))
  replace Hb := hide (below_set Hb.out (w.heap.size + 1 + 1) 2 (.int .i64 p1) (by omega) Hb.out.size)
  replace HO := hide (HO.out.set 2 (.int .i64 p1))
  clear x0 f0
  generalize w2.setCell ⟨w.heap.size + 1 + 1, 2, none⟩ (.int .i64 p1) = W2 at *
  obtain ⟨v0, v1, v2, v3⟩ := four_cells HV.out
  go_wp2_with (first | (go_at_call 18; refine (OV.out _).mono ?_; rintro e w3 ⟨rfl, hw⟩; obtain rfl := hw.symm))
  clear v0 v1 v2 v3 OV hz2
  go_loopw [12] (fun v wr => ∃ i : Nat, v = .int .i64 (i : Int) ∧ i ≤ 4 ∧ Blk wr g (wC L X Y T) 23 ∧ Blk wr (w.heap.size + 1) (eC 0 0 0 0 0 0 0 0) 24 ∧ Blk wr (w.heap.size + 1 + 1) (rC1 p0 p2 p3 u0 u2 u3 p1 0 i) 24 ∧ Below w.heap.size w wr) (fun v _ => 4 - (intOf v).toNat)
  case atStart => exact ⟨0, rfl, by omega, HV.out, HR.out, HO.out, Hb.out⟩
  case round =>
    clear HV HR HO Hb
    obtain ⟨i, rfl, hi, hV, hR, hO, hb⟩ := hrel
    have HV := hide hV
    have HR := hide hR
    have HO := hide hO
    have Hb := hide hb
    clear hV hR hO hb
    obtain rfl | rfl | rfl | rfl | rfl : i = 0 ∨ i = 1 ∨ i = 2 ∨ i = 3 ∨ i = 4 := by omega
    · obtain ⟨v0, v1, v2, v3⟩ := four_cells HV.out
      go_upto_region 21 with (first | (go_at_call 17; refine (U0.out _).mono ?_; rintro e w5 ⟨rfl, hb5⟩))
      replace HV := hide (HV.out.after hb5)
      replace HR := hide (HR.out.after hb5)
      replace HO := hide (HO.out.after hb5)
      replace Hb := hide (below_next Hb.out (Nat.le_refl _) hb5)
      clear hb5 v0 v1 v2 v3
      have x0 := HO.out.cell 0 rfl
      have x1 := HO.out.cell 1 rfl
      have f0 := HO.out.frozen 0
      have f1 := HO.out.frozen 1
      go_wp2_with (first | (go_at_call 19; refine (C0.out _).mono ?_; rintro e w6 ⟨rfl, hw⟩; obtain rfl := hw.symm) | (go_at_call 18; refine (F0.out _).mono ?_; rintro e w6 ⟨rfl, hw⟩; obtain rfl := hw.symm))
      go_roundw
      case rel => exact ⟨1, by go_num, by omega, HV.out.other44 (by omega) _ _ _ _, HR.out.other44 (by omega) _ _ _ _, blk_cells ((HO.out.set 0 _).set 1 _) (rC1_set0 (by omega)), below_set (below_set Hb.out _ _ _ (by omega) Hb.out.size) _ _ _ (by omega) (by rw [setCell_size]; exact Hb.out.size)⟩
      case measure => simp [intOf]
    · go_wp2_with fail
      go_roundw
      case rel => exact ⟨2, by go_num, by omega, HV.out, HR.out, HO.out, Hb.out⟩
      case measure => simp [intOf]
    · obtain ⟨v0, v1, v2, v3⟩ := four_cells HV.out
      go_upto_region 21 with (first | (go_at_call 17; refine (U2.out _).mono ?_; rintro e w5 ⟨rfl, hb5⟩))
      replace HV := hide (HV.out.after hb5)
      replace HR := hide (HR.out.after hb5)
      replace HO := hide (HO.out.after hb5)
      replace Hb := hide (below_next Hb.out (Nat.le_refl _) hb5)
      clear hb5 v0 v1 v2 v3
      have x0 := HO.out.cell 4 rfl
      have x1 := HO.out.cell 5 rfl
      have f0 := HO.out.frozen 4
      have f1 := HO.out.frozen 5
      go_wp2_with (first | (go_at_call 19; refine (C2.out _).mono ?_; rintro e w6 ⟨rfl, hw⟩; obtain rfl := hw.symm) | (go_at_call 18; refine (F2.out _).mono ?_; rintro e w6 ⟨rfl, hw⟩; obtain rfl := hw.symm))
      go_roundw
      case rel => exact ⟨3, by go_num, by omega, HV.out.other44 (by omega) _ _ _ _, HR.out.other44 (by omega) _ _ _ _, blk_cells ((HO.out.set 4 _).set 5 _) (rC1_set2 (by omega)), below_set (below_set Hb.out _ _ _ (by omega) Hb.out.size) _ _ _ (by omega) (by rw [setCell_size]; exact Hb.out.size)⟩
      case measure => simp [intOf]
    · obtain ⟨v0, v1, v2, v3⟩ := four_cells HV.out
      go_upto_region 21 with (first | (go_at_call 17; refine (U3.out _).mono ?_; rintro e w5 ⟨rfl, hb5⟩))
      replace HV := hide (HV.out.after hb5)
      replace HR := hide (HR.out.after hb5)
      replace HO := hide (HO.out.after hb5)
      replace Hb := hide (below_next Hb.out (Nat.le_refl _) hb5)
      clear hb5 v0 v1 v2 v3
      have x0 := HO.out.cell 6 rfl
      have x1 := HO.out.cell 7 rfl
      have f0 := HO.out.frozen 6
      have f1 := HO.out.frozen 7
      go_wp2_with (first | (go_at_call 19; refine (C3.out _).mono ?_; rintro e w6 ⟨rfl, hw⟩; obtain rfl := hw.symm) | (go_at_call 18; refine (F3.out _).mono ?_; rintro e w6 ⟨rfl, hw⟩; obtain rfl := hw.symm))
      go_roundw
      case rel => exact ⟨4, by go_num, by omega, HV.out.other44 (by omega) _ _ _ _, HR.out.other44 (by omega) _ _ _ _, blk_cells ((HO.out.set 6 _).set 7 _) (rC1_set3 (by omega)), below_set (below_set Hb.out _ _ _ (by omega) Hb.out.size) _ _ _ (by omega) (by rw [setCell_size]; exact Hb.out.size)⟩
      case measure => simp [intOf]
    · obtain ⟨x0, x1, x2, x3, x4, x5, x6, x7⟩ := eight_cells HO.out
      obtain ⟨r0, r1, r2, r3, r4, r5, r6, r7⟩ := eight_cells HR.out
      obtain ⟨f0, f1, f2, f3, f4, f5, f6, f7⟩ := eight_set HR.out
      go_wp2_with fail
      exact bodyPost_ret (arr_back2 (p := 4) (u := 5) (by kernel_rfl) Try.underlying24 (by kernel_rfl) _ _ (w.heap.size + 1) _ rfl rfl (HR.out.set44 _ _ _ _ _ _ _ _)) rfl ⟨by rw [EN.out]; rfl, below_set44 Hb.out _ _ _ _ _ _ _ _ _ (by omega) Hb.out.size⟩
set_option maxHeartbeats 4000000 in
theorem rmix_5 (l x y t : Int) (w : World) : Calls Try.prog 8 #[wV l x y t, .int .i64 5] w fun e w' => e = .returned (.tuple #[mxV 5 (clamp l 328 456) (clamp x (-64) 64) (clamp y (-64) 64) (clamp t (-100) 100), .int .i64 0]) ∧ Below w.heap.size w w' := by
  have LM := hide (rlim_any l x y t)
  have hL : 328 ≤ clamp l 328 456 ∧ clamp l 328 456 ≤ 456 := clamp_in (by decide)
  have hX : -64 ≤ clamp x (-64) 64 ∧ clamp x (-64) 64 ≤ 64 := clamp_in (by decide)
  have hY : -64 ≤ clamp y (-64) 64 ∧ clamp y (-64) 64 ≤ 64 := clamp_in (by decide)
  have hT : -100 ≤ clamp t (-100) 100 ∧ clamp t (-100) 100 ≤ 100 := clamp_in (by decide)
  generalize clamp l 328 456 = L at *
  generalize clamp x (-64) 64 = X at *
  generalize clamp y (-64) 64 = Y at *
  generalize clamp t (-100) 100 = T at *
  have U0 := hide (fun W => push_0 L X Y T W (by omega) (by omega) (by omega))
  obtain ⟨p0, e0⟩ : ∃ p, L + X + Y = p := ⟨_, rfl⟩
  have b0 : 200 ≤ p0 ∧ p0 ≤ 584 := by omega
  rw [e0] at U0
  have U1 := hide (fun W => push_1 L X Y T W (by omega) (by omega) (by omega))
  obtain ⟨p1, e1⟩ : ∃ p, L - X + Y = p := ⟨_, rfl⟩
  have b1 : 200 ≤ p1 ∧ p1 ≤ 584 := by omega
  rw [e1] at U1
  have U2 := hide (fun W => push_2 L X Y T W (by omega) (by omega) (by omega))
  obtain ⟨p2, e2⟩ : ∃ p, L - X - Y = p := ⟨_, rfl⟩
  have b2 : 200 ≤ p2 ∧ p2 ≤ 584 := by omega
  rw [e2] at U2
  have U3 := hide (fun W => push_3 L X Y T W (by omega) (by omega) (by omega))
  obtain ⟨p3, e3⟩ : ∃ p, L + X - Y = p := ⟨_, rfl⟩
  have b3 : 200 ≤ p3 ∧ p3 ≤ 584 := by omega
  rw [e3] at U3
  obtain ⟨z, hz2⟩ : ∃ z, 4 * T - -p2 = z := ⟨_, rfl⟩
  have hz1 : -1000000 ≤ z ∧ z ≤ 1000000 := by omega
  have OV := hide (fun W => rfloorX z 3 W hz1 (by decide))
  obtain ⟨q, hq⟩ : ∃ q, Hid (z / 3 = q) := ⟨_, hide rfl⟩
  rw [hq.out] at OV
  have hz3 : 4 * T + p2 = z := by omega
  obtain ⟨c0, hc0⟩ : ∃ c, Hid (clamp q (-p0) p0 = c) := ⟨_, hide rfl⟩
  have C0 := hide (fun W => rclampX q (-p0) p0 W)
  rw [hc0.out] at C0
  have i0 : -p0 ≤ c0 ∧ c0 ≤ p0 := by rw [← hc0.out]; exact clamp_in (by omega)
  have F0 := hide (fun W => rfloorX (p0 + c0) 2 W (by omega) (by decide))
  obtain ⟨u0, hu0⟩ : ∃ u, Hid ((p0 + c0) / 2 = u) := ⟨_, hide rfl⟩
  rw [hu0.out] at F0
  have j0 : 0 ≤ u0 ∧ u0 ≤ 584 := by have := hu0.out; omega
  obtain ⟨c1, hc1⟩ : ∃ c, Hid (clamp q (-p1) p1 = c) := ⟨_, hide rfl⟩
  have C1 := hide (fun W => rclampX q (-p1) p1 W)
  rw [hc1.out] at C1
  have i1 : -p1 ≤ c1 ∧ c1 ≤ p1 := by rw [← hc1.out]; exact clamp_in (by omega)
  have F1 := hide (fun W => rfloorX (p1 + c1) 2 W (by omega) (by decide))
  obtain ⟨u1, hu1⟩ : ∃ u, Hid ((p1 + c1) / 2 = u) := ⟨_, hide rfl⟩
  rw [hu1.out] at F1
  have j1 : 0 ≤ u1 ∧ u1 ≤ 584 := by have := hu1.out; omega
  obtain ⟨c3, hc3⟩ : ∃ c, Hid (clamp q (-p3) p3 = c) := ⟨_, hide rfl⟩
  have C3 := hide (fun W => rclampX q (-p3) p3 W)
  rw [hc3.out] at C3
  have i3 : -p3 ≤ c3 ∧ c3 ≤ p3 := by rw [← hc3.out]; exact clamp_in (by omega)
  have F3 := hide (fun W => rfloorX (p3 + c3) 2 W (by omega) (by decide))
  obtain ⟨u3, hu3⟩ : ∃ u, Hid ((p3 + c3) / 2 = u) := ⟨_, hide rfl⟩
  rw [hu3.out] at F3
  have j3 : 0 ≤ u3 ∧ u3 ≤ 584 := by have := hu3.out; omega
  have EN : Hid (mxV 5 L X Y T = eV u0 (p0 - u0) u1 (p1 - u1) 0 p2 u3 (p3 - u3)) := hide (by
    have hl : lone 4 p0 p1 p2 p3 = -p2 := by simp [lone, pk]
    have hr : rst 4 p0 p1 p2 p3 T = q := by unfold rst; rw [hl, hz2, hq.out]
    unfold mxV
    rw [if_neg (by decide), e0, e1, e2, e3, show (5 : Int) - 1 = 4 by decide]
    have t0 : tw 4 p0 p1 p2 p3 T 0 = c0 := by unfold tw; rw [if_neg (by decide), hr]; exact hc0.out
    have t1 : tw 4 p0 p1 p2 p3 T 1 = c1 := by unfold tw; rw [if_neg (by decide), hr]; exact hc1.out
    have t2 : tw 4 p0 p1 p2 p3 T 2 = -p2 := by unfold tw; rw [if_pos (by decide), hl]
    have t3 : tw 4 p0 p1 p2 p3 T 3 = c3 := by unfold tw; rw [if_neg (by decide), hr]; exact hc3.out
    rw [t0, t1, t2, t3]
    exact eV_ext hu0.out (by rw [hu0.out]) hu1.out (by rw [hu1.out]) (by omega) (by omega) hu3.out (by rw [hu3.out]))
  clear hc0 hu0 hc1 hu1 hc3 hu3 hq hz1 e0 e1 e2 e3 hL hX hY
  obtain ⟨W0, hW0, b0', M0, R0, O0, hz0⟩ := three_boxes w (wC l x y t) (eC 0 0 0 0 0 0 0 0) (eC 0 0 0 0 0 0 0 0) 23 24 24
  obtain ⟨m0, m1, m2, m3⟩ := four_cells M0
  have Hb := hide b0'
  have HR := hide R0
  have HO := hide O0
  clear b0' M0 R0 O0
  go_enter Try.func8, Try.ntmps8
  go_upto_region 5 with (first | (go_at_call 10; refine (LM.out _).mono ?_; rintro e w1 ⟨rfl, hb1⟩))
  have HV := hide (Blk.new w1 (wC L X Y T) 23)
  replace HR := hide ((HR.out.after hb1).alloc (.cells (wC L X Y T) 23))
  have hz1 : w.heap.size + 1 + 1 < w1.heap.size := (HO.out.after hb1).lt
  replace HO := hide ((HO.out.after hb1).alloc (.cells (wC L X Y T) 23))
  replace Hb := hide (below_next Hb.out (Nat.le_refl _) hb1)
  replace Hb := hide (Hb.out.alloc Hb.out.size (.cells (wC L X Y T) 23))
  clear hb1 m0 m1 m2 m3 hW0 hz0 LM
  generalize w1.alloc (.cells (wC L X Y T) 23) = W1 at *
  generalize w1.heap.size = g at *
  obtain ⟨v0, v1, v2, v3⟩ := four_cells HV.out
  go_upto_region 11 with (first | (go_at_call 17; refine (U2.out _).mono ?_; rintro e w2 ⟨rfl, hb2⟩))
  replace HV := hide (HV.out.after hb2)
  replace HR := hide (HR.out.after hb2)
  replace HO := hide (HO.out.after hb2)
  replace Hb := hide (below_next Hb.out (Nat.le_refl _) hb2)
  clear hb2 v0 v1 v2 v3
  have x0 := HO.out.cell 5 rfl
  have f0 := HO.out.frozen 5
  go_upto_region 15 with fail
  replace HV := hide (HV.out.setOther (show g ≠ w.heap.size + 1 + 1 by omega) 5 (.int .i64 p2))
  replace HR := hide (HR.out.setOther (show w.heap.size + 1 ≠ w.heap.size + 1 + 1 by omega) 5 (.int .i64 p2))
  replace Hb := hide (below_set Hb.out (w.heap.size + 1 + 1) 5 (.int .i64 p2) (by omega) Hb.out.size)
  replace HO := hide (HO.out.set 5 (.int .i64 p2))
  clear x0 f0
  generalize w2.setCell ⟨w.heap.size + 1 + 1, 5, none⟩ (.int .i64 p2) = W2 at *
  obtain ⟨v0, v1, v2, v3⟩ := four_cells HV.out
  go_wp2_with (first | (go_at_call 18; refine (OV.out _).mono ?_; rintro e w3 ⟨rfl, hw⟩; obtain rfl := hw.symm))
  clear v0 v1 v2 v3 OV hz2 hz3
  go_loopw [12] (fun v wr => ∃ i : Nat, v = .int .i64 (i : Int) ∧ i ≤ 4 ∧ Blk wr g (wC L X Y T) 23 ∧ Blk wr (w.heap.size + 1) (eC 0 0 0 0 0 0 0 0) 24 ∧ Blk wr (w.heap.size + 1 + 1) (rC2 p0 p1 p3 u0 u1 u3 0 p2 i) 24 ∧ Below w.heap.size w wr) (fun v _ => 4 - (intOf v).toNat)
  case atStart => exact ⟨0, rfl, by omega, HV.out, HR.out, HO.out, Hb.out⟩
  case round =>
    clear HV HR HO Hb
    obtain ⟨i, rfl, hi, hV, hR, hO, hb⟩ := hrel
    have HV := hide hV
    have HR := hide hR
    have HO := hide hO
    have Hb := hide hb
    clear hV hR hO hb
    obtain rfl | rfl | rfl | rfl | rfl : i = 0 ∨ i = 1 ∨ i = 2 ∨ i = 3 ∨ i = 4 := by omega
    · obtain ⟨v0, v1, v2, v3⟩ := four_cells HV.out
      go_upto_region 21 with (first | (go_at_call 17; refine (U0.out _).mono ?_; rintro e w5 ⟨rfl, hb5⟩))
      replace HV := hide (HV.out.after hb5)
      replace HR := hide (HR.out.after hb5)
      replace HO := hide (HO.out.after hb5)
      replace Hb := hide (below_next Hb.out (Nat.le_refl _) hb5)
      clear hb5 v0 v1 v2 v3
      have x0 := HO.out.cell 0 rfl
      have x1 := HO.out.cell 1 rfl
      have f0 := HO.out.frozen 0
      have f1 := HO.out.frozen 1
      go_wp2_with (first | (go_at_call 19; refine (C0.out _).mono ?_; rintro e w6 ⟨rfl, hw⟩; obtain rfl := hw.symm) | (go_at_call 18; refine (F0.out _).mono ?_; rintro e w6 ⟨rfl, hw⟩; obtain rfl := hw.symm))
      go_roundw
      case rel => exact ⟨1, by go_num, by omega, HV.out.other44 (by omega) _ _ _ _, HR.out.other44 (by omega) _ _ _ _, blk_cells ((HO.out.set 0 _).set 1 _) (rC2_set0 (by omega)), below_set (below_set Hb.out _ _ _ (by omega) Hb.out.size) _ _ _ (by omega) (by rw [setCell_size]; exact Hb.out.size)⟩
      case measure => simp [intOf]
    · obtain ⟨v0, v1, v2, v3⟩ := four_cells HV.out
      go_upto_region 21 with (first | (go_at_call 17; refine (U1.out _).mono ?_; rintro e w5 ⟨rfl, hb5⟩))
      replace HV := hide (HV.out.after hb5)
      replace HR := hide (HR.out.after hb5)
      replace HO := hide (HO.out.after hb5)
      replace Hb := hide (below_next Hb.out (Nat.le_refl _) hb5)
      clear hb5 v0 v1 v2 v3
      have x0 := HO.out.cell 2 rfl
      have x1 := HO.out.cell 3 rfl
      have f0 := HO.out.frozen 2
      have f1 := HO.out.frozen 3
      go_wp2_with (first | (go_at_call 19; refine (C1.out _).mono ?_; rintro e w6 ⟨rfl, hw⟩; obtain rfl := hw.symm) | (go_at_call 18; refine (F1.out _).mono ?_; rintro e w6 ⟨rfl, hw⟩; obtain rfl := hw.symm))
      go_roundw
      case rel => exact ⟨2, by go_num, by omega, HV.out.other44 (by omega) _ _ _ _, HR.out.other44 (by omega) _ _ _ _, blk_cells ((HO.out.set 2 _).set 3 _) (rC2_set1 (by omega)), below_set (below_set Hb.out _ _ _ (by omega) Hb.out.size) _ _ _ (by omega) (by rw [setCell_size]; exact Hb.out.size)⟩
      case measure => simp [intOf]
    · go_wp2_with fail
      go_roundw
      case rel => exact ⟨3, by go_num, by omega, HV.out, HR.out, HO.out, Hb.out⟩
      case measure => simp [intOf]
    · obtain ⟨v0, v1, v2, v3⟩ := four_cells HV.out
      go_upto_region 21 with (first | (go_at_call 17; refine (U3.out _).mono ?_; rintro e w5 ⟨rfl, hb5⟩))
      replace HV := hide (HV.out.after hb5)
      replace HR := hide (HR.out.after hb5)
      replace HO := hide (HO.out.after hb5)
      replace Hb := hide (below_next Hb.out (Nat.le_refl _) hb5)
      clear hb5 v0 v1 v2 v3
      have x0 := HO.out.cell 6 rfl
      have x1 := HO.out.cell 7 rfl
      have f0 := HO.out.frozen 6
      have f1 := HO.out.frozen 7
      go_wp2_with (first | (go_at_call 19; refine (C3.out _).mono ?_; rintro e w6 ⟨rfl, hw⟩; obtain rfl := hw.symm) | (go_at_call 18; refine (F3.out _).mono ?_; rintro e w6 ⟨rfl, hw⟩; obtain rfl := hw.symm))
      go_roundw
      case rel => exact ⟨4, by go_num, by omega, HV.out.other44 (by omega) _ _ _ _, HR.out.other44 (by omega) _ _ _ _, blk_cells ((HO.out.set 6 _).set 7 _) (rC2_set3 (by omega)), below_set (below_set Hb.out _ _ _ (by omega) Hb.out.size) _ _ _ (by omega) (by rw [setCell_size]; exact Hb.out.size)⟩
      case measure => simp [intOf]
    · obtain ⟨x0, x1, x2, x3, x4, x5, x6, x7⟩ := eight_cells HO.out
      obtain ⟨r0, r1, r2, r3, r4, r5, r6, r7⟩ := eight_cells HR.out
      obtain ⟨f0, f1, f2, f3, f4, f5, f6, f7⟩ := eight_set HR.out
      go_wp2_with fail
      exact bodyPost_ret (arr_back2 (p := 4) (u := 5) (by kernel_rfl) Try.underlying24 (by kernel_rfl) _ _ (w.heap.size + 1) _ rfl rfl (HR.out.set44 _ _ _ _ _ _ _ _)) rfl ⟨by rw [EN.out]; rfl, below_set44 Hb.out _ _ _ _ _ _ _ _ _ (by omega) Hb.out.size⟩
set_option maxHeartbeats 4000000 in
theorem rmix_6 (l x y t : Int) (w : World) : Calls Try.prog 8 #[wV l x y t, .int .i64 6] w fun e w' => e = .returned (.tuple #[mxV 6 (clamp l 328 456) (clamp x (-64) 64) (clamp y (-64) 64) (clamp t (-100) 100), .int .i64 0]) ∧ Below w.heap.size w w' := by
  have LM := hide (rlim_any l x y t)
  have hL : 328 ≤ clamp l 328 456 ∧ clamp l 328 456 ≤ 456 := clamp_in (by decide)
  have hX : -64 ≤ clamp x (-64) 64 ∧ clamp x (-64) 64 ≤ 64 := clamp_in (by decide)
  have hY : -64 ≤ clamp y (-64) 64 ∧ clamp y (-64) 64 ≤ 64 := clamp_in (by decide)
  have hT : -100 ≤ clamp t (-100) 100 ∧ clamp t (-100) 100 ≤ 100 := clamp_in (by decide)
  generalize clamp l 328 456 = L at *
  generalize clamp x (-64) 64 = X at *
  generalize clamp y (-64) 64 = Y at *
  generalize clamp t (-100) 100 = T at *
  have U0 := hide (fun W => push_0 L X Y T W (by omega) (by omega) (by omega))
  obtain ⟨p0, e0⟩ : ∃ p, L + X + Y = p := ⟨_, rfl⟩
  have b0 : 200 ≤ p0 ∧ p0 ≤ 584 := by omega
  rw [e0] at U0
  have U1 := hide (fun W => push_1 L X Y T W (by omega) (by omega) (by omega))
  obtain ⟨p1, e1⟩ : ∃ p, L - X + Y = p := ⟨_, rfl⟩
  have b1 : 200 ≤ p1 ∧ p1 ≤ 584 := by omega
  rw [e1] at U1
  have U2 := hide (fun W => push_2 L X Y T W (by omega) (by omega) (by omega))
  obtain ⟨p2, e2⟩ : ∃ p, L - X - Y = p := ⟨_, rfl⟩
  have b2 : 200 ≤ p2 ∧ p2 ≤ 584 := by omega
  rw [e2] at U2
  have U3 := hide (fun W => push_3 L X Y T W (by omega) (by omega) (by omega))
  obtain ⟨p3, e3⟩ : ∃ p, L + X - Y = p := ⟨_, rfl⟩
  have b3 : 200 ≤ p3 ∧ p3 ≤ 584 := by omega
  rw [e3] at U3
  obtain ⟨z, hz2⟩ : ∃ z, 4 * T - p2 = z := ⟨_, rfl⟩
  have hz1 : -1000000 ≤ z ∧ z ≤ 1000000 := by omega
  have OV := hide (fun W => rfloorX z 3 W hz1 (by decide))
  obtain ⟨q, hq⟩ : ∃ q, Hid (z / 3 = q) := ⟨_, hide rfl⟩
  rw [hq.out] at OV
  obtain ⟨c0, hc0⟩ : ∃ c, Hid (clamp q (-p0) p0 = c) := ⟨_, hide rfl⟩
  have C0 := hide (fun W => rclampX q (-p0) p0 W)
  rw [hc0.out] at C0
  have i0 : -p0 ≤ c0 ∧ c0 ≤ p0 := by rw [← hc0.out]; exact clamp_in (by omega)
  have F0 := hide (fun W => rfloorX (p0 + c0) 2 W (by omega) (by decide))
  obtain ⟨u0, hu0⟩ : ∃ u, Hid ((p0 + c0) / 2 = u) := ⟨_, hide rfl⟩
  rw [hu0.out] at F0
  have j0 : 0 ≤ u0 ∧ u0 ≤ 584 := by have := hu0.out; omega
  obtain ⟨c1, hc1⟩ : ∃ c, Hid (clamp q (-p1) p1 = c) := ⟨_, hide rfl⟩
  have C1 := hide (fun W => rclampX q (-p1) p1 W)
  rw [hc1.out] at C1
  have i1 : -p1 ≤ c1 ∧ c1 ≤ p1 := by rw [← hc1.out]; exact clamp_in (by omega)
  have F1 := hide (fun W => rfloorX (p1 + c1) 2 W (by omega) (by decide))
  obtain ⟨u1, hu1⟩ : ∃ u, Hid ((p1 + c1) / 2 = u) := ⟨_, hide rfl⟩
  rw [hu1.out] at F1
  have j1 : 0 ≤ u1 ∧ u1 ≤ 584 := by have := hu1.out; omega
  obtain ⟨c3, hc3⟩ : ∃ c, Hid (clamp q (-p3) p3 = c) := ⟨_, hide rfl⟩
  have C3 := hide (fun W => rclampX q (-p3) p3 W)
  rw [hc3.out] at C3
  have i3 : -p3 ≤ c3 ∧ c3 ≤ p3 := by rw [← hc3.out]; exact clamp_in (by omega)
  have F3 := hide (fun W => rfloorX (p3 + c3) 2 W (by omega) (by decide))
  obtain ⟨u3, hu3⟩ : ∃ u, Hid ((p3 + c3) / 2 = u) := ⟨_, hide rfl⟩
  rw [hu3.out] at F3
  have j3 : 0 ≤ u3 ∧ u3 ≤ 584 := by have := hu3.out; omega
  have EN : Hid (mxV 6 L X Y T = eV u0 (p0 - u0) u1 (p1 - u1) p2 0 u3 (p3 - u3)) := hide (by
    have hl : lone 5 p0 p1 p2 p3 = p2 := by simp [lone, pk]
    have hr : rst 5 p0 p1 p2 p3 T = q := by unfold rst; rw [hl, hz2, hq.out]
    unfold mxV
    rw [if_neg (by decide), e0, e1, e2, e3, show (6 : Int) - 1 = 5 by decide]
    have t0 : tw 5 p0 p1 p2 p3 T 0 = c0 := by unfold tw; rw [if_neg (by decide), hr]; exact hc0.out
    have t1 : tw 5 p0 p1 p2 p3 T 1 = c1 := by unfold tw; rw [if_neg (by decide), hr]; exact hc1.out
    have t2 : tw 5 p0 p1 p2 p3 T 2 = p2 := by unfold tw; rw [if_pos (by decide), hl]
    have t3 : tw 5 p0 p1 p2 p3 T 3 = c3 := by unfold tw; rw [if_neg (by decide), hr]; exact hc3.out
    rw [t0, t1, t2, t3]
    exact eV_ext hu0.out (by rw [hu0.out]) hu1.out (by rw [hu1.out]) (by omega) (by omega) hu3.out (by rw [hu3.out]))
  clear hc0 hu0 hc1 hu1 hc3 hu3 hq hz1 e0 e1 e2 e3 hL hX hY
  obtain ⟨W0, hW0, b0', M0, R0, O0, hz0⟩ := three_boxes w (wC l x y t) (eC 0 0 0 0 0 0 0 0) (eC 0 0 0 0 0 0 0 0) 23 24 24
  obtain ⟨m0, m1, m2, m3⟩ := four_cells M0
  have Hb := hide b0'
  have HR := hide R0
  have HO := hide O0
  clear b0' M0 R0 O0
  go_enter Try.func8, Try.ntmps8
  go_upto_region 5 with (first | (go_at_call 10; refine (LM.out _).mono ?_; rintro e w1 ⟨rfl, hb1⟩))
  have HV := hide (Blk.new w1 (wC L X Y T) 23)
  replace HR := hide ((HR.out.after hb1).alloc (.cells (wC L X Y T) 23))
  have hz1 : w.heap.size + 1 + 1 < w1.heap.size := (HO.out.after hb1).lt
  replace HO := hide ((HO.out.after hb1).alloc (.cells (wC L X Y T) 23))
  replace Hb := hide (below_next Hb.out (Nat.le_refl _) hb1)
  replace Hb := hide (Hb.out.alloc Hb.out.size (.cells (wC L X Y T) 23))
  clear hb1 m0 m1 m2 m3 hW0 hz0 LM
  generalize w1.alloc (.cells (wC L X Y T) 23) = W1 at *
  generalize w1.heap.size = g at *
  obtain ⟨v0, v1, v2, v3⟩ := four_cells HV.out
  go_upto_region 11 with (first | (go_at_call 17; refine (U2.out _).mono ?_; rintro e w2 ⟨rfl, hb2⟩))
  replace HV := hide (HV.out.after hb2)
  replace HR := hide (HR.out.after hb2)
  replace HO := hide (HO.out.after hb2)
  replace Hb := hide (below_next Hb.out (Nat.le_refl _) hb2)
  clear hb2 v0 v1 v2 v3
  have x0 := HO.out.cell 4 rfl
  have f0 := HO.out.frozen 4
  go_upto_region 15 with fail
  replace HV := hide (HV.out.setOther (show g ≠ w.heap.size + 1 + 1 by omega) 4 (.int .i64 p2))
  replace HR := hide (HR.out.setOther (show w.heap.size + 1 ≠ w.heap.size + 1 + 1 by omega) 4 (.int .i64 p2))
  replace Hb := hide (below_set Hb.out (w.heap.size + 1 + 1) 4 (.int .i64 p2) (by omega) Hb.out.size)
  replace HO := hide (HO.out.set 4 (.int .i64 p2))
  clear x0 f0
  generalize w2.setCell ⟨w.heap.size + 1 + 1, 4, none⟩ (.int .i64 p2) = W2 at *
  obtain ⟨v0, v1, v2, v3⟩ := four_cells HV.out
  go_wp2_with (first | (go_at_call 18; refine (OV.out _).mono ?_; rintro e w3 ⟨rfl, hw⟩; obtain rfl := hw.symm))
  clear v0 v1 v2 v3 OV hz2
  go_loopw [12] (fun v wr => ∃ i : Nat, v = .int .i64 (i : Int) ∧ i ≤ 4 ∧ Blk wr g (wC L X Y T) 23 ∧ Blk wr (w.heap.size + 1) (eC 0 0 0 0 0 0 0 0) 24 ∧ Blk wr (w.heap.size + 1 + 1) (rC2 p0 p1 p3 u0 u1 u3 p2 0 i) 24 ∧ Below w.heap.size w wr) (fun v _ => 4 - (intOf v).toNat)
  case atStart => exact ⟨0, rfl, by omega, HV.out, HR.out, HO.out, Hb.out⟩
  case round =>
    clear HV HR HO Hb
    obtain ⟨i, rfl, hi, hV, hR, hO, hb⟩ := hrel
    have HV := hide hV
    have HR := hide hR
    have HO := hide hO
    have Hb := hide hb
    clear hV hR hO hb
    obtain rfl | rfl | rfl | rfl | rfl : i = 0 ∨ i = 1 ∨ i = 2 ∨ i = 3 ∨ i = 4 := by omega
    · obtain ⟨v0, v1, v2, v3⟩ := four_cells HV.out
      go_upto_region 21 with (first | (go_at_call 17; refine (U0.out _).mono ?_; rintro e w5 ⟨rfl, hb5⟩))
      replace HV := hide (HV.out.after hb5)
      replace HR := hide (HR.out.after hb5)
      replace HO := hide (HO.out.after hb5)
      replace Hb := hide (below_next Hb.out (Nat.le_refl _) hb5)
      clear hb5 v0 v1 v2 v3
      have x0 := HO.out.cell 0 rfl
      have x1 := HO.out.cell 1 rfl
      have f0 := HO.out.frozen 0
      have f1 := HO.out.frozen 1
      go_wp2_with (first | (go_at_call 19; refine (C0.out _).mono ?_; rintro e w6 ⟨rfl, hw⟩; obtain rfl := hw.symm) | (go_at_call 18; refine (F0.out _).mono ?_; rintro e w6 ⟨rfl, hw⟩; obtain rfl := hw.symm))
      go_roundw
      case rel => exact ⟨1, by go_num, by omega, HV.out.other44 (by omega) _ _ _ _, HR.out.other44 (by omega) _ _ _ _, blk_cells ((HO.out.set 0 _).set 1 _) (rC2_set0 (by omega)), below_set (below_set Hb.out _ _ _ (by omega) Hb.out.size) _ _ _ (by omega) (by rw [setCell_size]; exact Hb.out.size)⟩
      case measure => simp [intOf]
    · obtain ⟨v0, v1, v2, v3⟩ := four_cells HV.out
      go_upto_region 21 with (first | (go_at_call 17; refine (U1.out _).mono ?_; rintro e w5 ⟨rfl, hb5⟩))
      replace HV := hide (HV.out.after hb5)
      replace HR := hide (HR.out.after hb5)
      replace HO := hide (HO.out.after hb5)
      replace Hb := hide (below_next Hb.out (Nat.le_refl _) hb5)
      clear hb5 v0 v1 v2 v3
      have x0 := HO.out.cell 2 rfl
      have x1 := HO.out.cell 3 rfl
      have f0 := HO.out.frozen 2
      have f1 := HO.out.frozen 3
      go_wp2_with (first | (go_at_call 19; refine (C1.out _).mono ?_; rintro e w6 ⟨rfl, hw⟩; obtain rfl := hw.symm) | (go_at_call 18; refine (F1.out _).mono ?_; rintro e w6 ⟨rfl, hw⟩; obtain rfl := hw.symm))
      go_roundw
      case rel => exact ⟨2, by go_num, by omega, HV.out.other44 (by omega) _ _ _ _, HR.out.other44 (by omega) _ _ _ _, blk_cells ((HO.out.set 2 _).set 3 _) (rC2_set1 (by omega)), below_set (below_set Hb.out _ _ _ (by omega) Hb.out.size) _ _ _ (by omega) (by rw [setCell_size]; exact Hb.out.size)⟩
      case measure => simp [intOf]
    · go_wp2_with fail
      go_roundw
      case rel => exact ⟨3, by go_num, by omega, HV.out, HR.out, HO.out, Hb.out⟩
      case measure => simp [intOf]
    · obtain ⟨v0, v1, v2, v3⟩ := four_cells HV.out
      go_upto_region 21 with (first | (go_at_call 17; refine (U3.out _).mono ?_; rintro e w5 ⟨rfl, hb5⟩))
      replace HV := hide (HV.out.after hb5)
      replace HR := hide (HR.out.after hb5)
      replace HO := hide (HO.out.after hb5)
      replace Hb := hide (below_next Hb.out (Nat.le_refl _) hb5)
      clear hb5 v0 v1 v2 v3
      have x0 := HO.out.cell 6 rfl
      have x1 := HO.out.cell 7 rfl
      have f0 := HO.out.frozen 6
      have f1 := HO.out.frozen 7
      go_wp2_with (first | (go_at_call 19; refine (C3.out _).mono ?_; rintro e w6 ⟨rfl, hw⟩; obtain rfl := hw.symm) | (go_at_call 18; refine (F3.out _).mono ?_; rintro e w6 ⟨rfl, hw⟩; obtain rfl := hw.symm))
      go_roundw
      case rel => exact ⟨4, by go_num, by omega, HV.out.other44 (by omega) _ _ _ _, HR.out.other44 (by omega) _ _ _ _, blk_cells ((HO.out.set 6 _).set 7 _) (rC2_set3 (by omega)), below_set (below_set Hb.out _ _ _ (by omega) Hb.out.size) _ _ _ (by omega) (by rw [setCell_size]; exact Hb.out.size)⟩
      case measure => simp [intOf]
    · obtain ⟨x0, x1, x2, x3, x4, x5, x6, x7⟩ := eight_cells HO.out
      obtain ⟨r0, r1, r2, r3, r4, r5, r6, r7⟩ := eight_cells HR.out
      obtain ⟨f0, f1, f2, f3, f4, f5, f6, f7⟩ := eight_set HR.out
      go_wp2_with fail
      exact bodyPost_ret (arr_back2 (p := 4) (u := 5) (by kernel_rfl) Try.underlying24 (by kernel_rfl) _ _ (w.heap.size + 1) _ rfl rfl (HR.out.set44 _ _ _ _ _ _ _ _)) rfl ⟨by rw [EN.out]; rfl, below_set44 Hb.out _ _ _ _ _ _ _ _ _ (by omega) Hb.out.size⟩
set_option maxHeartbeats 4000000 in
theorem rmix_7 (l x y t : Int) (w : World) : Calls Try.prog 8 #[wV l x y t, .int .i64 7] w fun e w' => e = .returned (.tuple #[mxV 7 (clamp l 328 456) (clamp x (-64) 64) (clamp y (-64) 64) (clamp t (-100) 100), .int .i64 0]) ∧ Below w.heap.size w w' := by
  have LM := hide (rlim_any l x y t)
  have hL : 328 ≤ clamp l 328 456 ∧ clamp l 328 456 ≤ 456 := clamp_in (by decide)
  have hX : -64 ≤ clamp x (-64) 64 ∧ clamp x (-64) 64 ≤ 64 := clamp_in (by decide)
  have hY : -64 ≤ clamp y (-64) 64 ∧ clamp y (-64) 64 ≤ 64 := clamp_in (by decide)
  have hT : -100 ≤ clamp t (-100) 100 ∧ clamp t (-100) 100 ≤ 100 := clamp_in (by decide)
  generalize clamp l 328 456 = L at *
  generalize clamp x (-64) 64 = X at *
  generalize clamp y (-64) 64 = Y at *
  generalize clamp t (-100) 100 = T at *
  have U0 := hide (fun W => push_0 L X Y T W (by omega) (by omega) (by omega))
  obtain ⟨p0, e0⟩ : ∃ p, L + X + Y = p := ⟨_, rfl⟩
  have b0 : 200 ≤ p0 ∧ p0 ≤ 584 := by omega
  rw [e0] at U0
  have U1 := hide (fun W => push_1 L X Y T W (by omega) (by omega) (by omega))
  obtain ⟨p1, e1⟩ : ∃ p, L - X + Y = p := ⟨_, rfl⟩
  have b1 : 200 ≤ p1 ∧ p1 ≤ 584 := by omega
  rw [e1] at U1
  have U2 := hide (fun W => push_2 L X Y T W (by omega) (by omega) (by omega))
  obtain ⟨p2, e2⟩ : ∃ p, L - X - Y = p := ⟨_, rfl⟩
  have b2 : 200 ≤ p2 ∧ p2 ≤ 584 := by omega
  rw [e2] at U2
  have U3 := hide (fun W => push_3 L X Y T W (by omega) (by omega) (by omega))
  obtain ⟨p3, e3⟩ : ∃ p, L + X - Y = p := ⟨_, rfl⟩
  have b3 : 200 ≤ p3 ∧ p3 ≤ 584 := by omega
  rw [e3] at U3
  obtain ⟨z, hz2⟩ : ∃ z, 4 * T - -p3 = z := ⟨_, rfl⟩
  have hz1 : -1000000 ≤ z ∧ z ≤ 1000000 := by omega
  have OV := hide (fun W => rfloorX z 3 W hz1 (by decide))
  obtain ⟨q, hq⟩ : ∃ q, Hid (z / 3 = q) := ⟨_, hide rfl⟩
  rw [hq.out] at OV
  have hz3 : 4 * T + p3 = z := by omega
  obtain ⟨c0, hc0⟩ : ∃ c, Hid (clamp q (-p0) p0 = c) := ⟨_, hide rfl⟩
  have C0 := hide (fun W => rclampX q (-p0) p0 W)
  rw [hc0.out] at C0
  have i0 : -p0 ≤ c0 ∧ c0 ≤ p0 := by rw [← hc0.out]; exact clamp_in (by omega)
  have F0 := hide (fun W => rfloorX (p0 + c0) 2 W (by omega) (by decide))
  obtain ⟨u0, hu0⟩ : ∃ u, Hid ((p0 + c0) / 2 = u) := ⟨_, hide rfl⟩
  rw [hu0.out] at F0
  have j0 : 0 ≤ u0 ∧ u0 ≤ 584 := by have := hu0.out; omega
  obtain ⟨c1, hc1⟩ : ∃ c, Hid (clamp q (-p1) p1 = c) := ⟨_, hide rfl⟩
  have C1 := hide (fun W => rclampX q (-p1) p1 W)
  rw [hc1.out] at C1
  have i1 : -p1 ≤ c1 ∧ c1 ≤ p1 := by rw [← hc1.out]; exact clamp_in (by omega)
  have F1 := hide (fun W => rfloorX (p1 + c1) 2 W (by omega) (by decide))
  obtain ⟨u1, hu1⟩ : ∃ u, Hid ((p1 + c1) / 2 = u) := ⟨_, hide rfl⟩
  rw [hu1.out] at F1
  have j1 : 0 ≤ u1 ∧ u1 ≤ 584 := by have := hu1.out; omega
  obtain ⟨c2, hc2⟩ : ∃ c, Hid (clamp q (-p2) p2 = c) := ⟨_, hide rfl⟩
  have C2 := hide (fun W => rclampX q (-p2) p2 W)
  rw [hc2.out] at C2
  have i2 : -p2 ≤ c2 ∧ c2 ≤ p2 := by rw [← hc2.out]; exact clamp_in (by omega)
  have F2 := hide (fun W => rfloorX (p2 + c2) 2 W (by omega) (by decide))
  obtain ⟨u2, hu2⟩ : ∃ u, Hid ((p2 + c2) / 2 = u) := ⟨_, hide rfl⟩
  rw [hu2.out] at F2
  have j2 : 0 ≤ u2 ∧ u2 ≤ 584 := by have := hu2.out; omega
  have EN : Hid (mxV 7 L X Y T = eV u0 (p0 - u0) u1 (p1 - u1) u2 (p2 - u2) 0 p3) := hide (by
    have hl : lone 6 p0 p1 p2 p3 = -p3 := by simp [lone, pk]
    have hr : rst 6 p0 p1 p2 p3 T = q := by unfold rst; rw [hl, hz2, hq.out]
    unfold mxV
    rw [if_neg (by decide), e0, e1, e2, e3, show (7 : Int) - 1 = 6 by decide]
    have t0 : tw 6 p0 p1 p2 p3 T 0 = c0 := by unfold tw; rw [if_neg (by decide), hr]; exact hc0.out
    have t1 : tw 6 p0 p1 p2 p3 T 1 = c1 := by unfold tw; rw [if_neg (by decide), hr]; exact hc1.out
    have t2 : tw 6 p0 p1 p2 p3 T 2 = c2 := by unfold tw; rw [if_neg (by decide), hr]; exact hc2.out
    have t3 : tw 6 p0 p1 p2 p3 T 3 = -p3 := by unfold tw; rw [if_pos (by decide), hl]
    rw [t0, t1, t2, t3]
    exact eV_ext hu0.out (by rw [hu0.out]) hu1.out (by rw [hu1.out]) hu2.out (by rw [hu2.out]) (by omega) (by omega))
  clear hc0 hu0 hc1 hu1 hc2 hu2 hq hz1 e0 e1 e2 e3 hL hX hY
  obtain ⟨W0, hW0, b0', M0, R0, O0, hz0⟩ := three_boxes w (wC l x y t) (eC 0 0 0 0 0 0 0 0) (eC 0 0 0 0 0 0 0 0) 23 24 24
  obtain ⟨m0, m1, m2, m3⟩ := four_cells M0
  have Hb := hide b0'
  have HR := hide R0
  have HO := hide O0
  clear b0' M0 R0 O0
  go_enter Try.func8, Try.ntmps8
  go_upto_region 5 with (first | (go_at_call 10; refine (LM.out _).mono ?_; rintro e w1 ⟨rfl, hb1⟩))
  have HV := hide (Blk.new w1 (wC L X Y T) 23)
  replace HR := hide ((HR.out.after hb1).alloc (.cells (wC L X Y T) 23))
  have hz1 : w.heap.size + 1 + 1 < w1.heap.size := (HO.out.after hb1).lt
  replace HO := hide ((HO.out.after hb1).alloc (.cells (wC L X Y T) 23))
  replace Hb := hide (below_next Hb.out (Nat.le_refl _) hb1)
  replace Hb := hide (Hb.out.alloc Hb.out.size (.cells (wC L X Y T) 23))
  clear hb1 m0 m1 m2 m3 hW0 hz0 LM
  generalize w1.alloc (.cells (wC L X Y T) 23) = W1 at *
  generalize w1.heap.size = g at *
  obtain ⟨v0, v1, v2, v3⟩ := four_cells HV.out
  go_upto_region 11 with (first | (go_at_call 17; refine (U3.out _).mono ?_; rintro e w2 ⟨rfl, hb2⟩))
  replace HV := hide (HV.out.after hb2)
  replace HR := hide (HR.out.after hb2)
  replace HO := hide (HO.out.after hb2)
  replace Hb := hide (below_next Hb.out (Nat.le_refl _) hb2)
  clear hb2 v0 v1 v2 v3
  have x0 := HO.out.cell 7 rfl
  have f0 := HO.out.frozen 7
  go_upto_region 15 with fail
  replace HV := hide (HV.out.setOther (show g ≠ w.heap.size + 1 + 1 by omega) 7 (.int .i64 p3))
  replace HR := hide (HR.out.setOther (show w.heap.size + 1 ≠ w.heap.size + 1 + 1 by omega) 7 (.int .i64 p3))
  replace Hb := hide (below_set Hb.out (w.heap.size + 1 + 1) 7 (.int .i64 p3) (by omega) Hb.out.size)
  replace HO := hide (HO.out.set 7 (.int .i64 p3))
  clear x0 f0
  generalize w2.setCell ⟨w.heap.size + 1 + 1, 7, none⟩ (.int .i64 p3) = W2 at *
  obtain ⟨v0, v1, v2, v3⟩ := four_cells HV.out
  go_wp2_with (first | (go_at_call 18; refine (OV.out _).mono ?_; rintro e w3 ⟨rfl, hw⟩; obtain rfl := hw.symm))
  clear v0 v1 v2 v3 OV hz2 hz3
  go_loopw [12] (fun v wr => ∃ i : Nat, v = .int .i64 (i : Int) ∧ i ≤ 4 ∧ Blk wr g (wC L X Y T) 23 ∧ Blk wr (w.heap.size + 1) (eC 0 0 0 0 0 0 0 0) 24 ∧ Blk wr (w.heap.size + 1 + 1) (rC3 p0 p1 p2 u0 u1 u2 0 p3 i) 24 ∧ Below w.heap.size w wr) (fun v _ => 4 - (intOf v).toNat)
  case atStart => exact ⟨0, rfl, by omega, HV.out, HR.out, HO.out, Hb.out⟩
  case round =>
    clear HV HR HO Hb
    obtain ⟨i, rfl, hi, hV, hR, hO, hb⟩ := hrel
    have HV := hide hV
    have HR := hide hR
    have HO := hide hO
    have Hb := hide hb
    clear hV hR hO hb
    obtain rfl | rfl | rfl | rfl | rfl : i = 0 ∨ i = 1 ∨ i = 2 ∨ i = 3 ∨ i = 4 := by omega
    · obtain ⟨v0, v1, v2, v3⟩ := four_cells HV.out
      go_upto_region 21 with (first | (go_at_call 17; refine (U0.out _).mono ?_; rintro e w5 ⟨rfl, hb5⟩))
      replace HV := hide (HV.out.after hb5)
      replace HR := hide (HR.out.after hb5)
      replace HO := hide (HO.out.after hb5)
      replace Hb := hide (below_next Hb.out (Nat.le_refl _) hb5)
      clear hb5 v0 v1 v2 v3
      have x0 := HO.out.cell 0 rfl
      have x1 := HO.out.cell 1 rfl
      have f0 := HO.out.frozen 0
      have f1 := HO.out.frozen 1
      go_wp2_with (first | (go_at_call 19; refine (C0.out _).mono ?_; rintro e w6 ⟨rfl, hw⟩; obtain rfl := hw.symm) | (go_at_call 18; refine (F0.out _).mono ?_; rintro e w6 ⟨rfl, hw⟩; obtain rfl := hw.symm))
      go_roundw
      case rel => exact ⟨1, by go_num, by omega, HV.out.other44 (by omega) _ _ _ _, HR.out.other44 (by omega) _ _ _ _, blk_cells ((HO.out.set 0 _).set 1 _) (rC3_set0 (by omega)), below_set (below_set Hb.out _ _ _ (by omega) Hb.out.size) _ _ _ (by omega) (by rw [setCell_size]; exact Hb.out.size)⟩
      case measure => simp [intOf]
    · obtain ⟨v0, v1, v2, v3⟩ := four_cells HV.out
      go_upto_region 21 with (first | (go_at_call 17; refine (U1.out _).mono ?_; rintro e w5 ⟨rfl, hb5⟩))
      replace HV := hide (HV.out.after hb5)
      replace HR := hide (HR.out.after hb5)
      replace HO := hide (HO.out.after hb5)
      replace Hb := hide (below_next Hb.out (Nat.le_refl _) hb5)
      clear hb5 v0 v1 v2 v3
      have x0 := HO.out.cell 2 rfl
      have x1 := HO.out.cell 3 rfl
      have f0 := HO.out.frozen 2
      have f1 := HO.out.frozen 3
      go_wp2_with (first | (go_at_call 19; refine (C1.out _).mono ?_; rintro e w6 ⟨rfl, hw⟩; obtain rfl := hw.symm) | (go_at_call 18; refine (F1.out _).mono ?_; rintro e w6 ⟨rfl, hw⟩; obtain rfl := hw.symm))
      go_roundw
      case rel => exact ⟨2, by go_num, by omega, HV.out.other44 (by omega) _ _ _ _, HR.out.other44 (by omega) _ _ _ _, blk_cells ((HO.out.set 2 _).set 3 _) (rC3_set1 (by omega)), below_set (below_set Hb.out _ _ _ (by omega) Hb.out.size) _ _ _ (by omega) (by rw [setCell_size]; exact Hb.out.size)⟩
      case measure => simp [intOf]
    · obtain ⟨v0, v1, v2, v3⟩ := four_cells HV.out
      go_upto_region 21 with (first | (go_at_call 17; refine (U2.out _).mono ?_; rintro e w5 ⟨rfl, hb5⟩))
      replace HV := hide (HV.out.after hb5)
      replace HR := hide (HR.out.after hb5)
      replace HO := hide (HO.out.after hb5)
      replace Hb := hide (below_next Hb.out (Nat.le_refl _) hb5)
      clear hb5 v0 v1 v2 v3
      have x0 := HO.out.cell 4 rfl
      have x1 := HO.out.cell 5 rfl
      have f0 := HO.out.frozen 4
      have f1 := HO.out.frozen 5
      go_wp2_with (first | (go_at_call 19; refine (C2.out _).mono ?_; rintro e w6 ⟨rfl, hw⟩; obtain rfl := hw.symm) | (go_at_call 18; refine (F2.out _).mono ?_; rintro e w6 ⟨rfl, hw⟩; obtain rfl := hw.symm))
      go_roundw
      case rel => exact ⟨3, by go_num, by omega, HV.out.other44 (by omega) _ _ _ _, HR.out.other44 (by omega) _ _ _ _, blk_cells ((HO.out.set 4 _).set 5 _) (rC3_set2 (by omega)), below_set (below_set Hb.out _ _ _ (by omega) Hb.out.size) _ _ _ (by omega) (by rw [setCell_size]; exact Hb.out.size)⟩
      case measure => simp [intOf]
    · go_wp2_with fail
      go_roundw
      case rel => exact ⟨4, by go_num, by omega, HV.out, HR.out, HO.out, Hb.out⟩
      case measure => simp [intOf]
    · obtain ⟨x0, x1, x2, x3, x4, x5, x6, x7⟩ := eight_cells HO.out
      obtain ⟨r0, r1, r2, r3, r4, r5, r6, r7⟩ := eight_cells HR.out
      obtain ⟨f0, f1, f2, f3, f4, f5, f6, f7⟩ := eight_set HR.out
      go_wp2_with fail
      exact bodyPost_ret (arr_back2 (p := 4) (u := 5) (by kernel_rfl) Try.underlying24 (by kernel_rfl) _ _ (w.heap.size + 1) _ rfl rfl (HR.out.set44 _ _ _ _ _ _ _ _)) rfl ⟨by rw [EN.out]; rfl, below_set44 Hb.out _ _ _ _ _ _ _ _ _ (by omega) Hb.out.size⟩
set_option maxHeartbeats 4000000 in
theorem rmix_8 (l x y t : Int) (w : World) : Calls Try.prog 8 #[wV l x y t, .int .i64 8] w fun e w' => e = .returned (.tuple #[mxV 8 (clamp l 328 456) (clamp x (-64) 64) (clamp y (-64) 64) (clamp t (-100) 100), .int .i64 0]) ∧ Below w.heap.size w w' := by
  have LM := hide (rlim_any l x y t)
  have hL : 328 ≤ clamp l 328 456 ∧ clamp l 328 456 ≤ 456 := clamp_in (by decide)
  have hX : -64 ≤ clamp x (-64) 64 ∧ clamp x (-64) 64 ≤ 64 := clamp_in (by decide)
  have hY : -64 ≤ clamp y (-64) 64 ∧ clamp y (-64) 64 ≤ 64 := clamp_in (by decide)
  have hT : -100 ≤ clamp t (-100) 100 ∧ clamp t (-100) 100 ≤ 100 := clamp_in (by decide)
  generalize clamp l 328 456 = L at *
  generalize clamp x (-64) 64 = X at *
  generalize clamp y (-64) 64 = Y at *
  generalize clamp t (-100) 100 = T at *
  have U0 := hide (fun W => push_0 L X Y T W (by omega) (by omega) (by omega))
  obtain ⟨p0, e0⟩ : ∃ p, L + X + Y = p := ⟨_, rfl⟩
  have b0 : 200 ≤ p0 ∧ p0 ≤ 584 := by omega
  rw [e0] at U0
  have U1 := hide (fun W => push_1 L X Y T W (by omega) (by omega) (by omega))
  obtain ⟨p1, e1⟩ : ∃ p, L - X + Y = p := ⟨_, rfl⟩
  have b1 : 200 ≤ p1 ∧ p1 ≤ 584 := by omega
  rw [e1] at U1
  have U2 := hide (fun W => push_2 L X Y T W (by omega) (by omega) (by omega))
  obtain ⟨p2, e2⟩ : ∃ p, L - X - Y = p := ⟨_, rfl⟩
  have b2 : 200 ≤ p2 ∧ p2 ≤ 584 := by omega
  rw [e2] at U2
  have U3 := hide (fun W => push_3 L X Y T W (by omega) (by omega) (by omega))
  obtain ⟨p3, e3⟩ : ∃ p, L + X - Y = p := ⟨_, rfl⟩
  have b3 : 200 ≤ p3 ∧ p3 ≤ 584 := by omega
  rw [e3] at U3
  obtain ⟨z, hz2⟩ : ∃ z, 4 * T - p3 = z := ⟨_, rfl⟩
  have hz1 : -1000000 ≤ z ∧ z ≤ 1000000 := by omega
  have OV := hide (fun W => rfloorX z 3 W hz1 (by decide))
  obtain ⟨q, hq⟩ : ∃ q, Hid (z / 3 = q) := ⟨_, hide rfl⟩
  rw [hq.out] at OV
  obtain ⟨c0, hc0⟩ : ∃ c, Hid (clamp q (-p0) p0 = c) := ⟨_, hide rfl⟩
  have C0 := hide (fun W => rclampX q (-p0) p0 W)
  rw [hc0.out] at C0
  have i0 : -p0 ≤ c0 ∧ c0 ≤ p0 := by rw [← hc0.out]; exact clamp_in (by omega)
  have F0 := hide (fun W => rfloorX (p0 + c0) 2 W (by omega) (by decide))
  obtain ⟨u0, hu0⟩ : ∃ u, Hid ((p0 + c0) / 2 = u) := ⟨_, hide rfl⟩
  rw [hu0.out] at F0
  have j0 : 0 ≤ u0 ∧ u0 ≤ 584 := by have := hu0.out; omega
  obtain ⟨c1, hc1⟩ : ∃ c, Hid (clamp q (-p1) p1 = c) := ⟨_, hide rfl⟩
  have C1 := hide (fun W => rclampX q (-p1) p1 W)
  rw [hc1.out] at C1
  have i1 : -p1 ≤ c1 ∧ c1 ≤ p1 := by rw [← hc1.out]; exact clamp_in (by omega)
  have F1 := hide (fun W => rfloorX (p1 + c1) 2 W (by omega) (by decide))
  obtain ⟨u1, hu1⟩ : ∃ u, Hid ((p1 + c1) / 2 = u) := ⟨_, hide rfl⟩
  rw [hu1.out] at F1
  have j1 : 0 ≤ u1 ∧ u1 ≤ 584 := by have := hu1.out; omega
  obtain ⟨c2, hc2⟩ : ∃ c, Hid (clamp q (-p2) p2 = c) := ⟨_, hide rfl⟩
  have C2 := hide (fun W => rclampX q (-p2) p2 W)
  rw [hc2.out] at C2
  have i2 : -p2 ≤ c2 ∧ c2 ≤ p2 := by rw [← hc2.out]; exact clamp_in (by omega)
  have F2 := hide (fun W => rfloorX (p2 + c2) 2 W (by omega) (by decide))
  obtain ⟨u2, hu2⟩ : ∃ u, Hid ((p2 + c2) / 2 = u) := ⟨_, hide rfl⟩
  rw [hu2.out] at F2
  have j2 : 0 ≤ u2 ∧ u2 ≤ 584 := by have := hu2.out; omega
  have EN : Hid (mxV 8 L X Y T = eV u0 (p0 - u0) u1 (p1 - u1) u2 (p2 - u2) p3 0) := hide (by
    have hl : lone 7 p0 p1 p2 p3 = p3 := by simp [lone, pk]
    have hr : rst 7 p0 p1 p2 p3 T = q := by unfold rst; rw [hl, hz2, hq.out]
    unfold mxV
    rw [if_neg (by decide), e0, e1, e2, e3, show (8 : Int) - 1 = 7 by decide]
    have t0 : tw 7 p0 p1 p2 p3 T 0 = c0 := by unfold tw; rw [if_neg (by decide), hr]; exact hc0.out
    have t1 : tw 7 p0 p1 p2 p3 T 1 = c1 := by unfold tw; rw [if_neg (by decide), hr]; exact hc1.out
    have t2 : tw 7 p0 p1 p2 p3 T 2 = c2 := by unfold tw; rw [if_neg (by decide), hr]; exact hc2.out
    have t3 : tw 7 p0 p1 p2 p3 T 3 = p3 := by unfold tw; rw [if_pos (by decide), hl]
    rw [t0, t1, t2, t3]
    exact eV_ext hu0.out (by rw [hu0.out]) hu1.out (by rw [hu1.out]) hu2.out (by rw [hu2.out]) (by omega) (by omega))
  clear hc0 hu0 hc1 hu1 hc2 hu2 hq hz1 e0 e1 e2 e3 hL hX hY
  obtain ⟨W0, hW0, b0', M0, R0, O0, hz0⟩ := three_boxes w (wC l x y t) (eC 0 0 0 0 0 0 0 0) (eC 0 0 0 0 0 0 0 0) 23 24 24
  obtain ⟨m0, m1, m2, m3⟩ := four_cells M0
  have Hb := hide b0'
  have HR := hide R0
  have HO := hide O0
  clear b0' M0 R0 O0
  go_enter Try.func8, Try.ntmps8
  go_upto_region 5 with (first | (go_at_call 10; refine (LM.out _).mono ?_; rintro e w1 ⟨rfl, hb1⟩))
  have HV := hide (Blk.new w1 (wC L X Y T) 23)
  replace HR := hide ((HR.out.after hb1).alloc (.cells (wC L X Y T) 23))
  have hz1 : w.heap.size + 1 + 1 < w1.heap.size := (HO.out.after hb1).lt
  replace HO := hide ((HO.out.after hb1).alloc (.cells (wC L X Y T) 23))
  replace Hb := hide (below_next Hb.out (Nat.le_refl _) hb1)
  replace Hb := hide (Hb.out.alloc Hb.out.size (.cells (wC L X Y T) 23))
  clear hb1 m0 m1 m2 m3 hW0 hz0 LM
  generalize w1.alloc (.cells (wC L X Y T) 23) = W1 at *
  generalize w1.heap.size = g at *
  obtain ⟨v0, v1, v2, v3⟩ := four_cells HV.out
  go_upto_region 11 with (first | (go_at_call 17; refine (U3.out _).mono ?_; rintro e w2 ⟨rfl, hb2⟩))
  replace HV := hide (HV.out.after hb2)
  replace HR := hide (HR.out.after hb2)
  replace HO := hide (HO.out.after hb2)
  replace Hb := hide (below_next Hb.out (Nat.le_refl _) hb2)
  clear hb2 v0 v1 v2 v3
  have x0 := HO.out.cell 6 rfl
  have f0 := HO.out.frozen 6
  go_upto_region 15 with fail
  replace HV := hide (HV.out.setOther (show g ≠ w.heap.size + 1 + 1 by omega) 6 (.int .i64 p3))
  replace HR := hide (HR.out.setOther (show w.heap.size + 1 ≠ w.heap.size + 1 + 1 by omega) 6 (.int .i64 p3))
  replace Hb := hide (below_set Hb.out (w.heap.size + 1 + 1) 6 (.int .i64 p3) (by omega) Hb.out.size)
  replace HO := hide (HO.out.set 6 (.int .i64 p3))
  clear x0 f0
  generalize w2.setCell ⟨w.heap.size + 1 + 1, 6, none⟩ (.int .i64 p3) = W2 at *
  obtain ⟨v0, v1, v2, v3⟩ := four_cells HV.out
  go_wp2_with (first | (go_at_call 18; refine (OV.out _).mono ?_; rintro e w3 ⟨rfl, hw⟩; obtain rfl := hw.symm))
  clear v0 v1 v2 v3 OV hz2
  go_loopw [12] (fun v wr => ∃ i : Nat, v = .int .i64 (i : Int) ∧ i ≤ 4 ∧ Blk wr g (wC L X Y T) 23 ∧ Blk wr (w.heap.size + 1) (eC 0 0 0 0 0 0 0 0) 24 ∧ Blk wr (w.heap.size + 1 + 1) (rC3 p0 p1 p2 u0 u1 u2 p3 0 i) 24 ∧ Below w.heap.size w wr) (fun v _ => 4 - (intOf v).toNat)
  case atStart => exact ⟨0, rfl, by omega, HV.out, HR.out, HO.out, Hb.out⟩
  case round =>
    clear HV HR HO Hb
    obtain ⟨i, rfl, hi, hV, hR, hO, hb⟩ := hrel
    have HV := hide hV
    have HR := hide hR
    have HO := hide hO
    have Hb := hide hb
    clear hV hR hO hb
    obtain rfl | rfl | rfl | rfl | rfl : i = 0 ∨ i = 1 ∨ i = 2 ∨ i = 3 ∨ i = 4 := by omega
    · obtain ⟨v0, v1, v2, v3⟩ := four_cells HV.out
      go_upto_region 21 with (first | (go_at_call 17; refine (U0.out _).mono ?_; rintro e w5 ⟨rfl, hb5⟩))
      replace HV := hide (HV.out.after hb5)
      replace HR := hide (HR.out.after hb5)
      replace HO := hide (HO.out.after hb5)
      replace Hb := hide (below_next Hb.out (Nat.le_refl _) hb5)
      clear hb5 v0 v1 v2 v3
      have x0 := HO.out.cell 0 rfl
      have x1 := HO.out.cell 1 rfl
      have f0 := HO.out.frozen 0
      have f1 := HO.out.frozen 1
      go_wp2_with (first | (go_at_call 19; refine (C0.out _).mono ?_; rintro e w6 ⟨rfl, hw⟩; obtain rfl := hw.symm) | (go_at_call 18; refine (F0.out _).mono ?_; rintro e w6 ⟨rfl, hw⟩; obtain rfl := hw.symm))
      go_roundw
      case rel => exact ⟨1, by go_num, by omega, HV.out.other44 (by omega) _ _ _ _, HR.out.other44 (by omega) _ _ _ _, blk_cells ((HO.out.set 0 _).set 1 _) (rC3_set0 (by omega)), below_set (below_set Hb.out _ _ _ (by omega) Hb.out.size) _ _ _ (by omega) (by rw [setCell_size]; exact Hb.out.size)⟩
      case measure => simp [intOf]
    · obtain ⟨v0, v1, v2, v3⟩ := four_cells HV.out
      go_upto_region 21 with (first | (go_at_call 17; refine (U1.out _).mono ?_; rintro e w5 ⟨rfl, hb5⟩))
      replace HV := hide (HV.out.after hb5)
      replace HR := hide (HR.out.after hb5)
      replace HO := hide (HO.out.after hb5)
      replace Hb := hide (below_next Hb.out (Nat.le_refl _) hb5)
      clear hb5 v0 v1 v2 v3
      have x0 := HO.out.cell 2 rfl
      have x1 := HO.out.cell 3 rfl
      have f0 := HO.out.frozen 2
      have f1 := HO.out.frozen 3
      go_wp2_with (first | (go_at_call 19; refine (C1.out _).mono ?_; rintro e w6 ⟨rfl, hw⟩; obtain rfl := hw.symm) | (go_at_call 18; refine (F1.out _).mono ?_; rintro e w6 ⟨rfl, hw⟩; obtain rfl := hw.symm))
      go_roundw
      case rel => exact ⟨2, by go_num, by omega, HV.out.other44 (by omega) _ _ _ _, HR.out.other44 (by omega) _ _ _ _, blk_cells ((HO.out.set 2 _).set 3 _) (rC3_set1 (by omega)), below_set (below_set Hb.out _ _ _ (by omega) Hb.out.size) _ _ _ (by omega) (by rw [setCell_size]; exact Hb.out.size)⟩
      case measure => simp [intOf]
    · obtain ⟨v0, v1, v2, v3⟩ := four_cells HV.out
      go_upto_region 21 with (first | (go_at_call 17; refine (U2.out _).mono ?_; rintro e w5 ⟨rfl, hb5⟩))
      replace HV := hide (HV.out.after hb5)
      replace HR := hide (HR.out.after hb5)
      replace HO := hide (HO.out.after hb5)
      replace Hb := hide (below_next Hb.out (Nat.le_refl _) hb5)
      clear hb5 v0 v1 v2 v3
      have x0 := HO.out.cell 4 rfl
      have x1 := HO.out.cell 5 rfl
      have f0 := HO.out.frozen 4
      have f1 := HO.out.frozen 5
      go_wp2_with (first | (go_at_call 19; refine (C2.out _).mono ?_; rintro e w6 ⟨rfl, hw⟩; obtain rfl := hw.symm) | (go_at_call 18; refine (F2.out _).mono ?_; rintro e w6 ⟨rfl, hw⟩; obtain rfl := hw.symm))
      go_roundw
      case rel => exact ⟨3, by go_num, by omega, HV.out.other44 (by omega) _ _ _ _, HR.out.other44 (by omega) _ _ _ _, blk_cells ((HO.out.set 4 _).set 5 _) (rC3_set2 (by omega)), below_set (below_set Hb.out _ _ _ (by omega) Hb.out.size) _ _ _ (by omega) (by rw [setCell_size]; exact Hb.out.size)⟩
      case measure => simp [intOf]
    · go_wp2_with fail
      go_roundw
      case rel => exact ⟨4, by go_num, by omega, HV.out, HR.out, HO.out, Hb.out⟩
      case measure => simp [intOf]
    · obtain ⟨x0, x1, x2, x3, x4, x5, x6, x7⟩ := eight_cells HO.out
      obtain ⟨r0, r1, r2, r3, r4, r5, r6, r7⟩ := eight_cells HR.out
      obtain ⟨f0, f1, f2, f3, f4, f5, f6, f7⟩ := eight_set HR.out
      go_wp2_with fail
      exact bodyPost_ret (arr_back2 (p := 4) (u := 5) (by kernel_rfl) Try.underlying24 (by kernel_rfl) _ _ (w.heap.size + 1) _ rfl rfl (HR.out.set44 _ _ _ _ _ _ _ _)) rfl ⟨by rw [EN.out]; rfl, below_set44 Hb.out _ _ _ _ _ _ _ _ _ (by omega) Hb.out.size⟩
theorem rmix_any (l x y t d : Int) (w : World) (hd : 0 ≤ d ∧ d ≤ 8) : Calls Try.prog 8 #[wV l x y t, .int .i64 d] w fun e w' => e = .returned (.tuple #[mxV d (clamp l 328 456) (clamp x (-64) 64) (clamp y (-64) 64) (clamp t (-100) 100), .int .i64 0]) ∧ Below w.heap.size w w' := by
  obtain rfl | rfl | rfl | rfl | rfl | rfl | rfl | rfl | rfl : d = 0 ∨ d = 1 ∨ d = 2 ∨ d = 3 ∨ d = 4 ∨ d = 5 ∨ d = 6 ∨ d = 7 ∨ d = 8 := by omega
  · exact rmix_0 l x y t w
  · exact rmix_1 l x y t w
  · exact rmix_2 l x y t w
  · exact rmix_3 l x y t w
  · exact rmix_4 l x y t w
  · exact rmix_5 l x y t w
  · exact rmix_6 l x y t w
  · exact rmix_7 l x y t w
  · exact rmix_8 l x y t w
end Go.Proofs.Ytjnpcbgfgplohaa
