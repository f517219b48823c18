/- MixerExact. -/
import Derived.Test.YtjnpcbgfgplohaaMxP
namespace Go.Proofs.Ytjnpcbgfgplohaa
open Go.RowKit Go.Great

theorem exact_bad (l x y t d : Int) (w : World) (hd : d < 0 ∨ 8 < d) : Calls Try.prog 4 #[wV l x y t, .int .i64 d] w fun e w' => e = .returned (.bool true) ∧ Below w.heap.size w w' := by
  have MX := hide (fun W => mix_bad l x y t d W hd)
  have E8 := eql8
  have HM := hide (Blk.new w (wC l x y t) 23)
  have Hb := hide (below_alloc w (.cells (wC l x y t) 23))
  by_cases h : d < 0
  · clear hd
    go_enter Try.func4, Try.ntmps4
    go_upto_region 1 with fail
    generalize w.alloc (.cells (wC l x y t) 23) = W0 at *
    obtain ⟨m0, m1, m2, m3⟩ := four_cells HM.out
    go_upto_region 2 with (first | (go_at_call 7; refine (MX.out _).mono ?_; rintro e w2 ⟨rfl, hb2⟩))
    have HA := hide (Blk.new w2 (eC 0 0 0 0 0 0 0 0) 24)
    replace Hb := hide (below_next Hb.out (Nat.le_refl _) hb2)
    replace Hb := hide (Hb.out.alloc Hb.out.size (.cells (eC 0 0 0 0 0 0 0 0) 24))
    clear hb2 m0 m1 m2 m3 HM
    generalize w2.alloc (.cells (eC 0 0 0 0 0 0 0 0) 24) = W2 at *
    generalize w2.heap.size = g2 at *
    obtain ⟨b0, b1, b2, b3, b4, b5, b6, b7⟩ := eight_cells HA.out
    go_wp2_with (first | (go_at_call 13; refine (awakeX _).mono ?_; rintro e w5 ⟨rfl, hb5⟩))
    go_ret
    exact ⟨rfl, below_next Hb.out (Nat.le_refl _) hb5⟩
  · have h8 : 8 < d := by omega
    clear hd
    go_enter Try.func4, Try.ntmps4
    go_upto_region 1 with fail
    generalize w.alloc (.cells (wC l x y t) 23) = W0 at *
    obtain ⟨m0, m1, m2, m3⟩ := four_cells HM.out
    go_upto_region 2 with (first | (go_at_call 7; refine (MX.out _).mono ?_; rintro e w2 ⟨rfl, hb2⟩))
    have HA := hide (Blk.new w2 (eC 0 0 0 0 0 0 0 0) 24)
    replace Hb := hide (below_next Hb.out (Nat.le_refl _) hb2)
    replace Hb := hide (Hb.out.alloc Hb.out.size (.cells (eC 0 0 0 0 0 0 0 0) 24))
    clear hb2 m0 m1 m2 m3 HM
    generalize w2.alloc (.cells (eC 0 0 0 0 0 0 0 0) 24) = W2 at *
    generalize w2.heap.size = g2 at *
    obtain ⟨b0, b1, b2, b3, b4, b5, b6, b7⟩ := eight_cells HA.out
    go_wp2_with (first | (go_at_call 13; refine (awakeX _).mono ?_; rintro e w5 ⟨rfl, hb5⟩))
    go_ret
    exact ⟨rfl, below_next Hb.out (Nat.le_refl _) hb5⟩
/-- the first i motors, added up -/
def pS (a0 a1 a2 a3 a4 a5 a6 a7 : Int) : Nat → Int
  | 0 => 0
  | 1 => a0
  | 2 => a0 + a1
  | 3 => a0 + a1 + a2
  | 4 => a0 + a1 + a2 + a3
  | 5 => a0 + a1 + a2 + a3 + a4
  | 6 => a0 + a1 + a2 + a3 + a4 + a5
  | 7 => a0 + a1 + a2 + a3 + a4 + a5 + a6
  | _ => a0 + a1 + a2 + a3 + a4 + a5 + a6 + a7
theorem pS_0 {a0 a1 a2 a3 a4 a5 a6 a7 : Int} {v : Int} (h : v = 0 + a0) : Value.int .i64 v = .int .i64 (pS a0 a1 a2 a3 a4 a5 a6 a7 1) := by rw [h]; show Value.int .i64 (0 + a0) = .int .i64 a0; rw [Int.zero_add]
theorem pS_1 {a0 a1 a2 a3 a4 a5 a6 a7 : Int} {v : Int} (h : v = a0 + a1) : Value.int .i64 v = .int .i64 (pS a0 a1 a2 a3 a4 a5 a6 a7 2) := by rw [h]; rfl
theorem pS_2 {a0 a1 a2 a3 a4 a5 a6 a7 : Int} {v : Int} (h : v = a0 + a1 + a2) : Value.int .i64 v = .int .i64 (pS a0 a1 a2 a3 a4 a5 a6 a7 3) := by rw [h]; rfl
theorem pS_3 {a0 a1 a2 a3 a4 a5 a6 a7 : Int} {v : Int} (h : v = a0 + a1 + a2 + a3) : Value.int .i64 v = .int .i64 (pS a0 a1 a2 a3 a4 a5 a6 a7 4) := by rw [h]; rfl
theorem pS_4 {a0 a1 a2 a3 a4 a5 a6 a7 : Int} {v : Int} (h : v = a0 + a1 + a2 + a3 + a4) : Value.int .i64 v = .int .i64 (pS a0 a1 a2 a3 a4 a5 a6 a7 5) := by rw [h]; rfl
theorem pS_5 {a0 a1 a2 a3 a4 a5 a6 a7 : Int} {v : Int} (h : v = a0 + a1 + a2 + a3 + a4 + a5) : Value.int .i64 v = .int .i64 (pS a0 a1 a2 a3 a4 a5 a6 a7 6) := by rw [h]; rfl
theorem pS_6 {a0 a1 a2 a3 a4 a5 a6 a7 : Int} {v : Int} (h : v = a0 + a1 + a2 + a3 + a4 + a5 + a6) : Value.int .i64 v = .int .i64 (pS a0 a1 a2 a3 a4 a5 a6 a7 7) := by rw [h]; rfl
theorem pS_7 {a0 a1 a2 a3 a4 a5 a6 a7 : Int} {v : Int} (h : v = a0 + a1 + a2 + a3 + a4 + a5 + a6 + a7) : Value.int .i64 v = .int .i64 (pS a0 a1 a2 a3 a4 a5 a6 a7 8) := by rw [h]; rfl
set_option maxHeartbeats 4000000 in
theorem exact_zero (l x y t : Int) (w : World) : Calls Try.prog 4 #[wV l x y t, .int .i64 0] w fun e w' => e = .returned (.bool true) ∧ Below w.heap.size w w' := by
  have LM := hide (lim_any l x y t)
  have MX := hide (fun W => mix_any l x y t 0 W (by omega))
  have hL : 328 ≤ clamp l 328 456 ∧ clamp l 328 456 ≤ 456 := clamp_in (by decide)
  have hX : -64 ≤ clamp x (-64) 64 ∧ clamp x (-64) 64 ≤ 64 := clamp_in (by decide)
  have hY : -64 ≤ clamp y (-64) 64 ∧ clamp y (-64) 64 ≤ 64 := clamp_in (by decide)
  have hT : -100 ≤ clamp t (-100) 100 ∧ clamp t (-100) 100 ≤ 100 := clamp_in (by decide)
  generalize clamp l 328 456 = L at *
  generalize clamp x (-64) 64 = X at *
  generalize clamp y (-64) 64 = Y at *
  generalize clamp t (-100) 100 = T at *
  obtain ⟨a0, a1, a2, a3, a4, a5, a6, a7, T', he, h0, h1, h2, h3, h4, h5, h6, h7, hs, hw, hlast⟩ := mx_zero L X Y T hL hX hY hT
  rw [he] at MX
  have WK := hide (work_any a0 a1 a2 a3 a4 a5 a6 a7)
  rw [hw] at WK
  clear he hw hX hY
  have HS := hide hs
  have HLast := hide hlast
  clear hs hlast
  have HM := hide (Blk.new w (wC l x y t) 23)
  have Hb := hide (below_alloc w (.cells (wC l x y t) 23))
  go_enter Try.func4, Try.ntmps4
  go_upto_region 1 with fail
  generalize w.alloc (.cells (wC l x y t) 23) = W0 at *
  obtain ⟨m0, m1, m2, m3⟩ := four_cells HM.out
  go_upto_region 2 with (first | (go_at_call 7; refine (MX.out _).mono ?_; rintro e w2 ⟨rfl, hb2⟩))
  have HA := hide (Blk.new w2 (eC a0 a1 a2 a3 a4 a5 a6 a7) 24)
  replace HM := hide ((HM.out.after hb2).alloc (.cells (eC a0 a1 a2 a3 a4 a5 a6 a7) 24))
  replace Hb := hide (below_next Hb.out (Nat.le_refl _) hb2)
  replace Hb := hide (Hb.out.alloc Hb.out.size (.cells (eC a0 a1 a2 a3 a4 a5 a6 a7) 24))
  clear hb2 m0 m1 m2 m3
  generalize w2.alloc (.cells (eC a0 a1 a2 a3 a4 a5 a6 a7) 24) = W2 at *
  generalize w2.heap.size = g2 at *
  obtain ⟨m0, m1, m2, m3⟩ := four_cells HM.out
  go_upto_region 5 with (first | (go_at_call 9; refine (LM.out _).mono ?_; rintro e w3 ⟨rfl, hb3⟩))
  have HV := hide (Blk.new w3 (wC L X Y T) 23)
  replace HA := hide ((HA.out.after hb3).alloc (.cells (wC L X Y T) 23))
  replace Hb := hide (below_next Hb.out (Nat.le_refl _) hb3)
  replace Hb := hide (Hb.out.alloc Hb.out.size (.cells (wC L X Y T) 23))
  clear hb3 m0 m1 m2 m3 HM
  generalize w3.alloc (.cells (wC L X Y T) 23) = W3 at *
  generalize w3.heap.size = g3 at *
  obtain ⟨b0, b1, b2, b3, b4, b5, b6, b7⟩ := eight_cells HA.out
  go_upto_region 6 with (first | (go_at_call 11; refine (WK.out _).mono ?_; rintro e w4 ⟨rfl, hb4⟩))
  have HW := hide (Blk.new w4 (wC L X Y T') 23)
  replace HA := hide ((HA.out.after hb4).alloc (.cells (wC L X Y T') 23))
  replace HV := hide ((HV.out.after hb4).alloc (.cells (wC L X Y T') 23))
  replace Hb := hide (below_next Hb.out (Nat.le_refl _) hb4)
  replace Hb := hide (Hb.out.alloc Hb.out.size (.cells (wC L X Y T') 23))
  clear hb4 b0 b1 b2 b3 b4 b5 b6 b7 MX WK LM
  generalize w4.alloc (.cells (wC L X Y T') 23) = W4 at *
  generalize w4.heap.size = g4 at *
  obtain ⟨b0, b1, b2, b3, b4, b5, b6, b7⟩ := eight_cells HA.out
  obtain ⟨v0, v1, v2, v3⟩ := four_cells HV.out
  obtain ⟨u0, u1, u2, u3⟩ := four_cells HW.out
  go_wp2_with fail
  go_loopw [9, 10] (fun vs v wr => ∃ i : Nat, vs = .int .i64 (pS a0 a1 a2 a3 a4 a5 a6 a7 i) ∧ v = .int .i64 (i : Int) ∧ i ≤ 8 ∧ wr = W4) (fun _ v _ => 8 - (intOf v).toNat)
  case atStart => exact ⟨0, rfl, rfl, by omega, rfl⟩
  case round =>
    obtain ⟨i, hvs, rfl, hi, rfl⟩ := hrel
    obtain rfl | rfl | rfl | rfl | rfl | rfl | rfl | rfl | rfl : i = 0 ∨ i = 1 ∨ i = 2 ∨ i = 3 ∨ i = 4 ∨ i = 5 ∨ i = 6 ∨ i = 7 ∨ i = 8 := by omega
    · have hvs2 : _ = Value.int .i64 (0) := hvs
      subst hvs2
      go_wp2_with fail
      go_roundw
      case rel => exact ⟨1, pS_0 (by omega), by go_num, by omega, trivial⟩
      case measure => simp [intOf]
    · have hvs2 : _ = Value.int .i64 (a0) := hvs
      subst hvs2
      go_wp2_with fail
      go_roundw
      case rel => exact ⟨2, pS_1 (by omega), by go_num, by omega, trivial⟩
      case measure => simp [intOf]
    · have hvs2 : _ = Value.int .i64 (a0 + a1) := hvs
      subst hvs2
      go_wp2_with fail
      go_roundw
      case rel => exact ⟨3, pS_2 (by omega), by go_num, by omega, trivial⟩
      case measure => simp [intOf]
    · have hvs2 : _ = Value.int .i64 (a0 + a1 + a2) := hvs
      subst hvs2
      go_wp2_with fail
      go_roundw
      case rel => exact ⟨4, pS_3 (by omega), by go_num, by omega, trivial⟩
      case measure => simp [intOf]
    · have hvs2 : _ = Value.int .i64 (a0 + a1 + a2 + a3) := hvs
      subst hvs2
      go_wp2_with fail
      go_roundw
      case rel => exact ⟨5, pS_4 (by omega), by go_num, by omega, trivial⟩
      case measure => simp [intOf]
    · have hvs2 : _ = Value.int .i64 (a0 + a1 + a2 + a3 + a4) := hvs
      subst hvs2
      go_wp2_with fail
      go_roundw
      case rel => exact ⟨6, pS_5 (by omega), by go_num, by omega, trivial⟩
      case measure => simp [intOf]
    · have hvs2 : _ = Value.int .i64 (a0 + a1 + a2 + a3 + a4 + a5) := hvs
      subst hvs2
      go_wp2_with fail
      go_roundw
      case rel => exact ⟨7, pS_6 (by omega), by go_num, by omega, trivial⟩
      case measure => simp [intOf]
    · have hvs2 : _ = Value.int .i64 (a0 + a1 + a2 + a3 + a4 + a5 + a6) := hvs
      subst hvs2
      go_wp2_with fail
      go_roundw
      case rel => exact ⟨8, pS_7 (by omega), by go_num, by omega, trivial⟩
      case measure => simp [intOf]
    · have hvs2 : _ = Value.int .i64 (a0 + a1 + a2 + a3 + a4 + a5 + a6 + a7) := hvs
      rw [HS.out] at hvs2
      subst hvs2
      clear h0 h1 h2 h3 h4 h5 h6 h7 HS
      rcases HLast.out with rfl | rfl
      · go_wp2_with (first | (go_at_call 13; refine (awakeX _).mono ?_; rintro e w5 ⟨rfl, hb5⟩))
        go_ret
        exact ⟨rfl, below_next Hb.out (Nat.le_refl _) hb5⟩
      · go_wp2_with (first | (go_at_call 13; refine (awakeX _).mono ?_; rintro e w5 ⟨rfl, hb5⟩))
        go_ret
        exact ⟨rfl, below_next Hb.out (Nat.le_refl _) hb5⟩
set_option maxHeartbeats 4000000 in
theorem exact_dead (k : Nat) (hk : k < 8) (l x y t : Int) (w : World) : Calls Try.prog 4 #[wV l x y t, .int .i64 ((k : Int) + 1)] w fun e w' => e = .returned (.bool true) ∧ Below w.heap.size w w' := by
  have LM := hide (lim_any l x y t)
  have MX := hide (fun W => mix_any l x y t ((k : Int) + 1) W (by omega))
  have hL : 328 ≤ clamp l 328 456 ∧ clamp l 328 456 ≤ 456 := clamp_in (by decide)
  have hX : -64 ≤ clamp x (-64) 64 ∧ clamp x (-64) 64 ≤ 64 := clamp_in (by decide)
  have hY : -64 ≤ clamp y (-64) 64 ∧ clamp y (-64) 64 ≤ 64 := clamp_in (by decide)
  have hT : -100 ≤ clamp t (-100) 100 ∧ clamp t (-100) 100 ≤ 100 := clamp_in (by decide)
  generalize clamp l 328 456 = L at *
  generalize clamp x (-64) 64 = X at *
  generalize clamp y (-64) 64 = Y at *
  generalize clamp t (-100) 100 = T at *
  obtain ⟨a0, a1, a2, a3, a4, a5, a6, a7, T', he, h0, h1, h2, h3, h4, h5, h6, h7, hs, hw, hlast⟩ := mx_dead k hk L X Y T hL hX hY
  rw [he] at MX
  have WK := hide (work_any a0 a1 a2 a3 a4 a5 a6 a7)
  rw [hw] at WK
  clear he hw hX hY
  have HS := hide hs
  have HLast := hide hlast
  clear hs hlast
  have HM := hide (Blk.new w (wC l x y t) 23)
  have Hb := hide (below_alloc w (.cells (wC l x y t) 23))
  go_enter Try.func4, Try.ntmps4
  go_upto_region 1 with fail
  generalize w.alloc (.cells (wC l x y t) 23) = W0 at *
  obtain ⟨m0, m1, m2, m3⟩ := four_cells HM.out
  go_upto_region 2 with (first | (go_at_call 7; refine (MX.out _).mono ?_; rintro e w2 ⟨rfl, hb2⟩))
  have HA := hide (Blk.new w2 (eC a0 a1 a2 a3 a4 a5 a6 a7) 24)
  replace HM := hide ((HM.out.after hb2).alloc (.cells (eC a0 a1 a2 a3 a4 a5 a6 a7) 24))
  replace Hb := hide (below_next Hb.out (Nat.le_refl _) hb2)
  replace Hb := hide (Hb.out.alloc Hb.out.size (.cells (eC a0 a1 a2 a3 a4 a5 a6 a7) 24))
  clear hb2 m0 m1 m2 m3
  generalize w2.alloc (.cells (eC a0 a1 a2 a3 a4 a5 a6 a7) 24) = W2 at *
  generalize w2.heap.size = g2 at *
  obtain ⟨m0, m1, m2, m3⟩ := four_cells HM.out
  go_upto_region 5 with (first | (go_at_call 9; refine (LM.out _).mono ?_; rintro e w3 ⟨rfl, hb3⟩))
  have HV := hide (Blk.new w3 (wC L X Y T) 23)
  replace HA := hide ((HA.out.after hb3).alloc (.cells (wC L X Y T) 23))
  replace Hb := hide (below_next Hb.out (Nat.le_refl _) hb3)
  replace Hb := hide (Hb.out.alloc Hb.out.size (.cells (wC L X Y T) 23))
  clear hb3 m0 m1 m2 m3 HM
  generalize w3.alloc (.cells (wC L X Y T) 23) = W3 at *
  generalize w3.heap.size = g3 at *
  obtain ⟨b0, b1, b2, b3, b4, b5, b6, b7⟩ := eight_cells HA.out
  go_upto_region 6 with (first | (go_at_call 11; refine (WK.out _).mono ?_; rintro e w4 ⟨rfl, hb4⟩))
  have HW := hide (Blk.new w4 (wC L X Y T') 23)
  replace HA := hide ((HA.out.after hb4).alloc (.cells (wC L X Y T') 23))
  replace HV := hide ((HV.out.after hb4).alloc (.cells (wC L X Y T') 23))
  replace Hb := hide (below_next Hb.out (Nat.le_refl _) hb4)
  replace Hb := hide (Hb.out.alloc Hb.out.size (.cells (wC L X Y T') 23))
  clear hb4 b0 b1 b2 b3 b4 b5 b6 b7 MX WK LM
  generalize w4.alloc (.cells (wC L X Y T') 23) = W4 at *
  generalize w4.heap.size = g4 at *
  obtain ⟨b0, b1, b2, b3, b4, b5, b6, b7⟩ := eight_cells HA.out
  obtain ⟨v0, v1, v2, v3⟩ := four_cells HV.out
  obtain ⟨u0, u1, u2, u3⟩ := four_cells HW.out
  go_wp2_with fail
  go_loopw [9, 10] (fun vs v wr => ∃ i : Nat, vs = .int .i64 (pS a0 a1 a2 a3 a4 a5 a6 a7 i) ∧ v = .int .i64 (i : Int) ∧ i ≤ 8 ∧ wr = W4) (fun _ v _ => 8 - (intOf v).toNat)
  case atStart => exact ⟨0, rfl, rfl, by omega, rfl⟩
  case round =>
    obtain ⟨i, hvs, rfl, hi, rfl⟩ := hrel
    obtain rfl | rfl | rfl | rfl | rfl | rfl | rfl | rfl | rfl : i = 0 ∨ i = 1 ∨ i = 2 ∨ i = 3 ∨ i = 4 ∨ i = 5 ∨ i = 6 ∨ i = 7 ∨ i = 8 := by omega
    · have hvs2 : _ = Value.int .i64 (0) := hvs
      subst hvs2
      go_wp2_with fail
      go_roundw
      case rel => exact ⟨1, pS_0 (by omega), by go_num, by omega, trivial⟩
      case measure => simp [intOf]
    · have hvs2 : _ = Value.int .i64 (a0) := hvs
      subst hvs2
      go_wp2_with fail
      go_roundw
      case rel => exact ⟨2, pS_1 (by omega), by go_num, by omega, trivial⟩
      case measure => simp [intOf]
    · have hvs2 : _ = Value.int .i64 (a0 + a1) := hvs
      subst hvs2
      go_wp2_with fail
      go_roundw
      case rel => exact ⟨3, pS_2 (by omega), by go_num, by omega, trivial⟩
      case measure => simp [intOf]
    · have hvs2 : _ = Value.int .i64 (a0 + a1 + a2) := hvs
      subst hvs2
      go_wp2_with fail
      go_roundw
      case rel => exact ⟨4, pS_3 (by omega), by go_num, by omega, trivial⟩
      case measure => simp [intOf]
    · have hvs2 : _ = Value.int .i64 (a0 + a1 + a2 + a3) := hvs
      subst hvs2
      go_wp2_with fail
      go_roundw
      case rel => exact ⟨5, pS_4 (by omega), by go_num, by omega, trivial⟩
      case measure => simp [intOf]
    · have hvs2 : _ = Value.int .i64 (a0 + a1 + a2 + a3 + a4) := hvs
      subst hvs2
      go_wp2_with fail
      go_roundw
      case rel => exact ⟨6, pS_5 (by omega), by go_num, by omega, trivial⟩
      case measure => simp [intOf]
    · have hvs2 : _ = Value.int .i64 (a0 + a1 + a2 + a3 + a4 + a5) := hvs
      subst hvs2
      go_wp2_with fail
      go_roundw
      case rel => exact ⟨7, pS_6 (by omega), by go_num, by omega, trivial⟩
      case measure => simp [intOf]
    · have hvs2 : _ = Value.int .i64 (a0 + a1 + a2 + a3 + a4 + a5 + a6) := hvs
      subst hvs2
      go_wp2_with fail
      go_roundw
      case rel => exact ⟨8, pS_7 (by omega), by go_num, by omega, trivial⟩
      case measure => simp [intOf]
    · have hvs2 : _ = Value.int .i64 (a0 + a1 + a2 + a3 + a4 + a5 + a6 + a7) := hvs
      rw [HS.out] at hvs2
      subst hvs2
      clear h0 h1 h2 h3 h4 h5 h6 h7 HS
      have bk := HA.out.cell k HLast.out
      go_wp2_with (first | (go_at_call 13; refine (awakeX _).mono ?_; rintro e w5 ⟨rfl, hb5⟩))
      go_ret
      exact ⟨rfl, below_next Hb.out (Nat.le_refl _) hb5⟩
theorem MixerExact_walk (l x y t d : Int) (w : World) : Calls Try.prog 4 #[wV l x y t, .int .i64 d] w fun e w' => e = .returned (.bool true) ∧ Below w.heap.size w w' := by
  by_cases hd : d < 0 ∨ 8 < d
  · exact exact_bad l x y t d w hd
  · by_cases h0 : d = 0
    · subst h0
      exact exact_zero l x y t w
    · obtain ⟨k, rfl⟩ : ∃ k : Nat, d = (k : Int) + 1 := ⟨(d - 1).toNat, by omega⟩
      exact exact_dead k (by omega) l x y t w
end Go.Proofs.Ytjnpcbgfgplohaa
