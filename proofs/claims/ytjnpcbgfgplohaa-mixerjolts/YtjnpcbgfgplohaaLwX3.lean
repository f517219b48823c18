/- MixerJolts. -/
import Derived.Test.YtjnpcbgfgplohaaMxP
namespace Go.Proofs.Ytjnpcbgfgplohaa
open Go.RowKit Go.Great

theorem wk_plain {c0 c1 c2 c3 c4 c5 c6 c7 : Int} (h0 : 0 ≤ c0 ∧ c0 ≤ 600) (h1 : 0 ≤ c1 ∧ c1 ≤ 600) (h2 : 0 ≤ c2 ∧ c2 ≤ 600) (h3 : 0 ≤ c3 ∧ c3 ≤ 600) (h4 : 0 ≤ c4 ∧ c4 ≤ 600) (h5 : 0 ≤ c5 ∧ c5 ≤ 600) (h6 : 0 ≤ c6 ∧ c6 ≤ 600) (h7 : 0 ≤ c7 ∧ c7 ≤ 600) : wkV (clamp c0 0 600) (clamp c1 0 600) (clamp c2 0 600) (clamp c3 0 600) (clamp c4 0 600) (clamp c5 0 600) (clamp c6 0 600) (clamp c7 0 600) = wV (((c0 + c1) + (c2 + c3) + (c4 + c5) + (c6 + c7)) / 4) (((c0 + c1) - (c2 + c3) - (c4 + c5) + (c6 + c7)) / 4) (((c0 + c1) + (c2 + c3) - (c4 + c5) - (c6 + c7)) / 4) (((c0 - c1) + (c2 - c3) + (c4 - c5) + (c6 - c7)) / 4) := by
  rw [clamp_same h0, clamp_same h1, clamp_same h2, clamp_same h3, clamp_same h4, clamp_same h5, clamp_same h6, clamp_same h7]
  rfl
theorem jolt (k : Nat) (hk : k < 8) (a0 a1 a2 a3 a4 a5 a6 a7 : Int) (h0 : 50 ≤ a0 ∧ a0 ≤ 342) (h1 : 50 ≤ a1 ∧ a1 ≤ 342) (h2 : 50 ≤ a2 ∧ a2 ≤ 342) (h3 : 50 ≤ a3 ∧ a3 ≤ 342) (h4 : 50 ≤ a4 ∧ a4 ≤ 342) (h5 : 50 ≤ a5 ∧ a5 ≤ 342) (h6 : 50 ≤ a6 ∧ a6 ≤ 342) (h7 : 50 ≤ a7 ∧ a7 ≤ 342) : ∃ b0 b1 b2 b3 b4 b5 b6 b7 l1 x1 y1 t1 l2 x2 y2 t2 : Int, (eC a0 a1 a2 a3 a4 a5 a6 a7).setIfInBounds k (.int .i64 0) = eC b0 b1 b2 b3 b4 b5 b6 b7 ∧ wkV (clamp a0 0 600) (clamp a1 0 600) (clamp a2 0 600) (clamp a3 0 600) (clamp a4 0 600) (clamp a5 0 600) (clamp a6 0 600) (clamp a7 0 600) = wV l1 x1 y1 t1 ∧ wkV (clamp b0 0 600) (clamp b1 0 600) (clamp b2 0 600) (clamp b3 0 600) (clamp b4 0 600) (clamp b5 0 600) (clamp b6 0 600) (clamp b7 0 600) = wV l2 x2 y2 t2 ∧ (0 ≤ l1 - l2 ∧ l1 - l2 ≤ 86) ∧ (-86 ≤ x1 - x2 ∧ x1 - x2 ≤ 86) ∧ (-86 ≤ y1 - y2 ∧ y1 - y2 ≤ 86) ∧ (0 ≤ l1 ∧ l1 ≤ 2000) ∧ (-2000 ≤ x1 ∧ x1 ≤ 2000) ∧ (-2000 ≤ y1 ∧ y1 ≤ 2000) := by
  obtain rfl | rfl | rfl | rfl | rfl | rfl | rfl | rfl : k = 0 ∨ k = 1 ∨ k = 2 ∨ k = 3 ∨ k = 4 ∨ k = 5 ∨ k = 6 ∨ k = 7 := by omega
  all_goals
    refine ⟨_, _, _, _, _, _, _, _, _, _, _, _, _, _, _, _, rfl, wk_plain (by omega) (by omega) (by omega) (by omega) (by omega) (by omega) (by omega) (by omega), wk_plain (by omega) (by omega) (by omega) (by omega) (by omega) (by omega) (by omega) (by omega), ?_, ?_, ?_, ?_, ?_, ?_⟩
    all_goals omega
theorem jolts_out (l x y t d : Int) (w : World) (hd : d < 1 ∨ 8 < d) : Calls Try.prog 5 #[wV l x y t, .int .i64 d] w fun e w' => e = .returned (.bool true) ∧ Below w.heap.size w w' := by
  have MX := hide (fun W => mix_any l x y t 0 W (by decide))
  obtain ⟨a0, a1, a2, a3, a4, a5, a6, a7, he⟩ := mxV_is 0 (clamp l 328 456) (clamp x (-64) 64) (clamp y (-64) 64) (clamp t (-100) 100)
  rw [he] at MX
  clear he
  have HM := hide (Blk.new w (wC l x y t) 23)
  have Hb := hide (below_alloc w (.cells (wC l x y t) 23))
  by_cases h : d < 1
  · clear hd
    go_enter Try.func5, Try.ntmps5
    go_upto_region 1 with fail
    generalize w.alloc (.cells (wC l x y t) 23) = W0 at *
    obtain ⟨m0, m1, m2, m3⟩ := four_cells HM.out
    go_upto_region 2 with (first | (go_at_call 7; refine (MX.out _).mono ?_; rintro e w2 ⟨rfl, hb2⟩))
    replace Hb := hide (below_next Hb.out (Nat.le_refl _) hb2)
    replace Hb := hide (Hb.out.alloc Hb.out.size (.cells (eC a0 a1 a2 a3 a4 a5 a6 a7) 24))
    clear hb2 m0 m1 m2 m3 HM
    generalize w2.alloc (.cells (eC a0 a1 a2 a3 a4 a5 a6 a7) 24) = W2 at *
    generalize w2.heap.size = g2 at *
    go_wp2_with (first | (go_at_call 13; refine (awakeX _).mono ?_; rintro e w5 ⟨rfl, hb5⟩))
    go_ret
    exact ⟨rfl, below_next Hb.out (Nat.le_refl _) hb5⟩
  · have h8 : 8 < d := by omega
    clear hd
    go_enter Try.func5, Try.ntmps5
    go_upto_region 1 with fail
    generalize w.alloc (.cells (wC l x y t) 23) = W0 at *
    obtain ⟨m0, m1, m2, m3⟩ := four_cells HM.out
    go_upto_region 2 with (first | (go_at_call 7; refine (MX.out _).mono ?_; rintro e w2 ⟨rfl, hb2⟩))
    replace Hb := hide (below_next Hb.out (Nat.le_refl _) hb2)
    replace Hb := hide (Hb.out.alloc Hb.out.size (.cells (eC a0 a1 a2 a3 a4 a5 a6 a7) 24))
    clear hb2 m0 m1 m2 m3 HM
    generalize w2.alloc (.cells (eC a0 a1 a2 a3 a4 a5 a6 a7) 24) = W2 at *
    generalize w2.heap.size = g2 at *
    go_wp2_with (first | (go_at_call 13; refine (awakeX _).mono ?_; rintro e w5 ⟨rfl, hb5⟩))
    go_ret
    exact ⟨rfl, below_next Hb.out (Nat.le_refl _) hb5⟩
set_option maxHeartbeats 4000000 in
theorem jolts_in (k : Nat) (hk : k < 8) (l x y t : Int) (w : World) : Calls Try.prog 5 #[wV l x y t, .int .i64 ((k : Int) + 1)] w fun e w' => e = .returned (.bool true) ∧ Below w.heap.size w w' := by
  have MX := hide (fun W => mix_any l x y t 0 W (by decide))
  obtain ⟨a0, a1, a2, a3, a4, a5, a6, a7, T', he, h0, h1, h2, h3, h4, h5, h6, h7, _, _, _⟩ := mx_zero _ _ _ _ (clamp_in (x := l) (lo := 328) (hi := 456) (by decide)) (clamp_in (x := x) (lo := -64) (hi := 64) (by decide)) (clamp_in (x := y) (lo := -64) (hi := 64) (by decide)) (clamp_in (x := t) (lo := -100) (hi := 100) (by decide))
  rw [he] at MX
  obtain ⟨b0, b1, b2, b3, b4, b5, b6, b7, l1, x1, y1, t1, l2, x2, y2, t2, hset, hw1, hw2, hl, hx, hy, hl1, hx1, hy1⟩ := jolt k hk a0 a1 a2 a3 a4 a5 a6 a7 h0 h1 h2 h3 h4 h5 h6 h7
  have WA := hide (work_any a0 a1 a2 a3 a4 a5 a6 a7)
  have WB := hide (work_any b0 b1 b2 b3 b4 b5 b6 b7)
  rw [hw1] at WA
  rw [hw2] at WB
  have HSet := hide hset
  clear he hw1 hw2 hset h0 h1 h2 h3 h4 h5 h6 h7
  have HM := hide (Blk.new w (wC l x y t) 23)
  have Hb := hide (below_alloc w (.cells (wC l x y t) 23))
  go_enter Try.func5, Try.ntmps5
  go_upto_region 1 with fail
  generalize w.alloc (.cells (wC l x y t) 23) = W0 at *
  obtain ⟨m0, m1, m2, m3⟩ := four_cells HM.out
  go_upto_region 2 with (first | (go_at_call 7; refine (MX.out _).mono ?_; rintro e w2 ⟨rfl, hb2⟩))
  have HA := hide (Blk.new w2 (eC a0 a1 a2 a3 a4 a5 a6 a7) 24)
  replace Hb := hide (below_next Hb.out (Nat.le_refl _) hb2)
  have hg2 := Hb.out.size
  replace Hb := hide (Hb.out.alloc Hb.out.size (.cells (eC a0 a1 a2 a3 a4 a5 a6 a7) 24))
  clear hb2 m0 m1 m2 m3 HM
  generalize w2.alloc (.cells (eC a0 a1 a2 a3 a4 a5 a6 a7) 24) = W2 at *
  generalize w2.heap.size = g2 at *
  obtain ⟨p0, p1, p2, p3, p4, p5, p6, p7⟩ := eight_cells HA.out
  go_upto_region 5 with (first | (go_at_call 11; refine (WA.out _).mono ?_; rintro e w3 ⟨rfl, hb3⟩))
  have hg3 : g2 < w3.heap.size := (HA.out.after hb3).lt
  have HV := hide (Blk.new w3 (wC l1 x1 y1 t1) 23)
  replace HA := hide ((HA.out.after hb3).alloc (.cells (wC l1 x1 y1 t1) 23))
  replace Hb := hide (below_next Hb.out (Nat.le_refl _) hb3)
  replace Hb := hide (Hb.out.alloc Hb.out.size (.cells (wC l1 x1 y1 t1) 23))
  clear hb3 p0 p1 p2 p3 p4 p5 p6 p7
  generalize w3.alloc (.cells (wC l1 x1 y1 t1) 23) = W3 at *
  generalize w3.heap.size = g3 at *
  obtain ⟨ov, hov⟩ : ∃ ov, (eC a0 a1 a2 a3 a4 a5 a6 a7)[k]? = some ov := ⟨_, Array.getElem?_eq_getElem (show k < (eC a0 a1 a2 a3 a4 a5 a6 a7).size from hk)⟩
  have ck := HA.out.cell k hov
  have fk := HA.out.frozen k
  clear hov
  go_upto_region 6 with fail
  replace HA := hide (blk_cells (HA.out.set k (.int .i64 0)) HSet.out)
  replace HV := hide (HV.out.setOther (show g3 ≠ g2 by omega) k (.int .i64 0))
  replace Hb := hide (below_set Hb.out g2 k (.int .i64 0) hg2 Hb.out.size)
  clear ck fk
  generalize W3.setCell ⟨g2, k, none⟩ (.int .i64 0) = W4 at *
  obtain ⟨p0, p1, p2, p3, p4, p5, p6, p7⟩ := eight_cells HA.out
  go_upto_region 7 with (first | (go_at_call 11; refine (WB.out _).mono ?_; rintro e w5 ⟨rfl, hb5⟩))
  have HW := hide (Blk.new w5 (wC l2 x2 y2 t2) 23)
  replace HV := hide ((HV.out.after hb5).alloc (.cells (wC l2 x2 y2 t2) 23))
  replace Hb := hide (below_next Hb.out (Nat.le_refl _) hb5)
  replace Hb := hide (Hb.out.alloc Hb.out.size (.cells (wC l2 x2 y2 t2) 23))
  clear hb5 p0 p1 p2 p3 p4 p5 p6 p7 HA
  generalize w5.alloc (.cells (wC l2 x2 y2 t2) 23) = W5 at *
  generalize w5.heap.size = g5 at *
  obtain ⟨v0, v1, v2, v3⟩ := four_cells HV.out
  obtain ⟨u0, u1, u2, u3⟩ := four_cells HW.out
  go_wp2_with (first | (go_at_call 13; refine (awakeX _).mono ?_; rintro e w6 ⟨rfl, hb6⟩))
  go_ret
  exact ⟨rfl, below_next Hb.out (Nat.le_refl _) hb6⟩
theorem MixerJolts_walk (l x y t d : Int) (w : World) : Calls Try.prog 5 #[wV l x y t, .int .i64 d] w fun e w' => e = .returned (.bool true) ∧ Below w.heap.size w w' := by
  by_cases hd : d < 1 ∨ 8 < d
  · exact jolts_out l x y t d w hd
  · obtain ⟨k, rfl⟩ : ∃ k : Nat, d = (k : Int) + 1 := ⟨(d - 1).toNat, by omega⟩
    exact jolts_in k (by omega) l x y t w
end Go.Proofs.Ytjnpcbgfgplohaa
