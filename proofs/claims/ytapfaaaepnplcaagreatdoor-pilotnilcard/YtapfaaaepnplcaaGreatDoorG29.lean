/- Qpb, Qpc, Qpd, Qpg, Qpi. -/
import Derived.Test.YtapfaaaepnplcaaGreatDoorG24
import Derived.Test.YtapfaaaepnplcaaGreatDoorG23
import Derived.Test.YtapfaaaepnplcaaGreatDoorG28
import Derived.Test.YtapfaaaepnplcaaGreatDoorG21
import Derived.Deep.RegionHeld3
import Derived.Test.YtapfaaaepnplcaaGreatDoorG17
import Derived.Test.YtapfaaaepnplcaaGreatDoorG05
set_option maxRecDepth 100000
set_option maxHeartbeats 8000000
namespace Go.Proofs.YtapfaaaepnplcaaGreatDoor
open Go.RowKit Go.Great
theorem modeP_no {w0 : World} {b0 : Nat} {w : World} {a : Ad} (h : Bt w0 b0 w a) : Calls Tryz.prog 23 #[.pointer (some ⟨a.B, 126, none⟩)] w fun e w' => e = .returned (.int .u8 0) ∧ w' = w := by
  have c := h.at 126 (pt a.Mc) (by omega) rfl
  have M := hide (mode_any w a.Mc 0 0 h.Mc)
  clear h
  go_enter Tryz.func23, Tryz.ntmps23
  go_wp2_with fail
  refine M.out.mono ?_
  rintro e w1 ⟨rfl, hw⟩
  obtain rfl := hw.symm
  go_wp2_with fail
  go_ret
  exact ⟨rfl, rfl⟩
theorem streak_yes (w : World) : Calls Tryz.prog 217 #[.int .i64 0, .bool true] w fun e w' => e = .returned (.int .i64 1) ∧ w' = w := by
  go_enter Tryz.func217, Tryz.ntmps217
  go_wp2_with fail
  go_ret
  exact ⟨rfl, rfl⟩
theorem placed_no {w0 : World} {b0 : Nat} {w : World} {a : Ad} (h : Bt w0 b0 w a) : Calls Tryz.prog 204 #[.pointer (some ⟨a.B, 15, none⟩)] w fun e w' => e = .returned (.bool false) ∧ Below w.heap.size w w' := by
  have c0 := h.at 115 (pt (a.F 0)) (by omega) rfl
  have c1 := h.at 116 (pt (a.F 1)) (by omega) rfl
  have c2 := h.at 117 (pt (a.F 2)) (by omega) rfl
  have ix : ∀ W : World, (Instr.index 70 (.agg #[pt (a.F 0), pt (a.F 1), pt (a.F 2)]) (.int .i64 0)).run Tryz.prog W = .ok (pt (a.F 0)) W := fun W => by kernel_rfl
  have G := hide (goodE w (a.F 0) 8 (h.F 0 (by omega)))
  clear h
  go_enter Tryz.func204, Tryz.ntmps204
  go_wp2_with fail
  go_loopw [9] (fun v wx => v = .int .i64 0 ∧ wx = w) (fun _ _ => 0)
  case atStart => exact ⟨rfl, rfl⟩
  case round =>
    obtain ⟨rfl, hw⟩ := hrel
    obtain rfl := hw.symm
    go_wp2_with fail
    refine G.out.mono ?_
    rintro e w1 ⟨rfl, hb⟩
    go_wp2_with fail
    go_ret
    exact ⟨rfl, hb⟩
theorem soundWishes_no {w0 : World} {b0 : Nat} {w : World} {a : Ad} (h : Bt w0 b0 w a) : Calls Tryz.prog 220 #[pt a.B] w fun e w' => e = .returned (.int .i64 0) ∧ w' = w := by
  have c0 := h.at 131 (.int .i64 0) (by omega) rfl
  have c1 := h.at 132 (.bool false) (by omega) rfl
  have c2 := h.at 9 (.slice none 0 0) (by omega) rfl
  clear h
  go_enter Tryz.func220, Tryz.ntmps220
  go_wp2_with fail
  go_ret
  exact ⟨by kernel_rfl, rfl⟩
theorem goalWish_no {w0 : World} {b0 : Nat} {w : World} {a : Ad} (h : Bt w0 b0 w a) : Calls Tryz.prog 221 #[.pointer (some ⟨a.B, 126, none⟩)] w fun e w' => e = .returned (.int .i64 0) ∧ w' = w := by
  have M := hide (modeP_no h)
  clear h
  go_enter Tryz.func221, Tryz.ntmps221
  go_wp2_with fail
  refine M.out.mono ?_
  rintro e w1 ⟨rfl, hw⟩
  obtain rfl := hw.symm
  go_wp2_with fail
  go_ret
  exact ⟨rfl, rfl⟩
theorem unheard_no {w0 : World} {b0 : Nat} {w : World} {a : Ad} (h : Bt w0 b0 w a) : Calls Tryz.prog 218 #[pt a.B] w fun e w' => e = .returned (.bool true) ∧ Below w.heap.size w w' := by
  have c0 := h.at 122 (.int .i64 65535) (by omega) rfl
  have c1 := h.at 80 (.int .i64 65535) (by omega) rfl
  have c2 := h.at 1 (.slice (some ⟨a.Vg, 0, none⟩) 24 a.vc) (by omega) rfl
  have v0 := h.val 14 (x := 4000) (by omega) rfl
  have v1 := h.val 15 (x := 400) (by omega) rfl
  clear h
  go_enter Tryz.func218, Tryz.ntmps218
  go_wp2_with fail
  go_quiet (fail)
  go_wp2_with fail
  go_ret
  exact ⟨rfl, below_drewN (Below.refl _ _) nq⟩
theorem pursue_no {w0 : World} {b0 : Nat} {w : World} {a : Ad} (h : Bt w0 b0 w a) : Calls Tryz.prog 125 #[pt a.B] w fun e w' => e = .returned (.tuple #[]) ∧ w' = w := by
  have M := hide (modeP_no h)
  clear h
  go_enter Tryz.func125, Tryz.ntmps125
  go_wp2_with fail
  refine M.out.mono ?_
  rintro e w1 ⟨rfl, hw⟩
  obtain rfl := hw.symm
  go_wp2_with fail
  refine bodyPost_ret (results_none rfl _ _ _) rfl ?_
  exact ⟨rfl, rfl⟩
theorem mayArm_no {w0 : World} {b0 : Nat} {w : World} {a : Ad} (h : Bt w0 b0 w a) : Calls Tryz.prog 124 #[pt a.B] w fun e w' => e = .returned (.bool false) ∧ Below w.heap.size w w' := by
  have HH := hide h
  have c0 := h.at 118 (pt a.Cm) (by omega) rfl
  clear h
  go_enter Tryz.func124, Tryz.ntmps124
  go_wp2_with fail
  refine (headingE _ _ 8 HH.out.Cm).mono ?_
  rintro e w1 ⟨rfl, hb⟩
  have c1 := (HH.out.after hb).at 2 (.bool false) (by omega) rfl
  have HB := hide hb
  clear hb HH c0
  go_wp2_with fail
  go_quiet (fail)
  go_wp2_with fail
  go_ret
  exact ⟨rfl, below_drewN HB.out nq⟩
end Go.Proofs.YtapfaaaepnplcaaGreatDoor
set_option maxRecDepth 100000
set_option maxHeartbeats 8000000
namespace Go.Proofs.YtapfaaaepnplcaaGreatDoor
open Go.RowKit Go.Great
theorem Blk.nine {W : World} {B : Nat} {a0 a1 a2 a3 a4 a5 a6 a7 a8 : Value} {t : TypeId} (h : Blk W B #[a0, a1, a2, a3, a4, a5, a6, a7, a8] t) (x0 x1 x2 x3 x4 x5 x6 x7 x8 : Value) : Blk (((((((((W.setCell ⟨B, 0, none⟩ x0).setCell ⟨B, 1, none⟩ x1).setCell ⟨B, 2, none⟩ x2).setCell ⟨B, 3, none⟩ x3).setCell ⟨B, 4, none⟩ x4).setCell ⟨B, 5, none⟩ x5).setCell ⟨B, 6, none⟩ x6).setCell ⟨B, 7, none⟩ x7).setCell ⟨B, 8, none⟩ x8) B #[x0, x1, x2, x3, x4, x5, x6, x7, x8] t := by
  have h0 : Blk (W.setCell ⟨B, 0, none⟩ x0) B #[x0, a1, a2, a3, a4, a5, a6, a7, a8] t := h.set 0 x0
  have h1 : Blk ((W.setCell ⟨B, 0, none⟩ x0).setCell ⟨B, 1, none⟩ x1) B #[x0, x1, a2, a3, a4, a5, a6, a7, a8] t := h0.set 1 x1
  have h2 : Blk (((W.setCell ⟨B, 0, none⟩ x0).setCell ⟨B, 1, none⟩ x1).setCell ⟨B, 2, none⟩ x2) B #[x0, x1, x2, a3, a4, a5, a6, a7, a8] t := h1.set 2 x2
  have h3 : Blk ((((W.setCell ⟨B, 0, none⟩ x0).setCell ⟨B, 1, none⟩ x1).setCell ⟨B, 2, none⟩ x2).setCell ⟨B, 3, none⟩ x3) B #[x0, x1, x2, x3, a4, a5, a6, a7, a8] t := h2.set 3 x3
  have h4 : Blk (((((W.setCell ⟨B, 0, none⟩ x0).setCell ⟨B, 1, none⟩ x1).setCell ⟨B, 2, none⟩ x2).setCell ⟨B, 3, none⟩ x3).setCell ⟨B, 4, none⟩ x4) B #[x0, x1, x2, x3, x4, a5, a6, a7, a8] t := h3.set 4 x4
  have h5 : Blk ((((((W.setCell ⟨B, 0, none⟩ x0).setCell ⟨B, 1, none⟩ x1).setCell ⟨B, 2, none⟩ x2).setCell ⟨B, 3, none⟩ x3).setCell ⟨B, 4, none⟩ x4).setCell ⟨B, 5, none⟩ x5) B #[x0, x1, x2, x3, x4, x5, a6, a7, a8] t := h4.set 5 x5
  have h6 : Blk (((((((W.setCell ⟨B, 0, none⟩ x0).setCell ⟨B, 1, none⟩ x1).setCell ⟨B, 2, none⟩ x2).setCell ⟨B, 3, none⟩ x3).setCell ⟨B, 4, none⟩ x4).setCell ⟨B, 5, none⟩ x5).setCell ⟨B, 6, none⟩ x6) B #[x0, x1, x2, x3, x4, x5, x6, a7, a8] t := h5.set 6 x6
  have h7 : Blk ((((((((W.setCell ⟨B, 0, none⟩ x0).setCell ⟨B, 1, none⟩ x1).setCell ⟨B, 2, none⟩ x2).setCell ⟨B, 3, none⟩ x3).setCell ⟨B, 4, none⟩ x4).setCell ⟨B, 5, none⟩ x5).setCell ⟨B, 6, none⟩ x6).setCell ⟨B, 7, none⟩ x7) B #[x0, x1, x2, x3, x4, x5, x6, x7, a8] t := h6.set 7 x7
  have h8 : Blk (((((((((W.setCell ⟨B, 0, none⟩ x0).setCell ⟨B, 1, none⟩ x1).setCell ⟨B, 2, none⟩ x2).setCell ⟨B, 3, none⟩ x3).setCell ⟨B, 4, none⟩ x4).setCell ⟨B, 5, none⟩ x5).setCell ⟨B, 6, none⟩ x6).setCell ⟨B, 7, none⟩ x7).setCell ⟨B, 8, none⟩ x8) B #[x0, x1, x2, x3, x4, x5, x6, x7, x8] t := h7.set 8 x8
  exact h8
theorem below_nine {n : Nat} {w w1 : World} (h : Below n w w1) (g : Nat) (x0 x1 x2 x3 x4 x5 x6 x7 x8 : Value) (hg : n ≤ g) (hn : n ≤ w1.heap.size) : Below n w (((((((((w1.setCell ⟨g, 0, none⟩ x0).setCell ⟨g, 1, none⟩ x1).setCell ⟨g, 2, none⟩ x2).setCell ⟨g, 3, none⟩ x3).setCell ⟨g, 4, none⟩ x4).setCell ⟨g, 5, none⟩ x5).setCell ⟨g, 6, none⟩ x6).setCell ⟨g, 7, none⟩ x7).setCell ⟨g, 8, none⟩ x8) := by
  have h0 : Below n w (w1.setCell ⟨g, 0, none⟩ x0) := below_set h g 0 x0 hg hn
  have h1 : Below n w ((w1.setCell ⟨g, 0, none⟩ x0).setCell ⟨g, 1, none⟩ x1) := below_set h0 g 1 x1 hg (by simp only [setCell_size]; exact hn)
  have h2 : Below n w (((w1.setCell ⟨g, 0, none⟩ x0).setCell ⟨g, 1, none⟩ x1).setCell ⟨g, 2, none⟩ x2) := below_set h1 g 2 x2 hg (by simp only [setCell_size]; exact hn)
  have h3 : Below n w ((((w1.setCell ⟨g, 0, none⟩ x0).setCell ⟨g, 1, none⟩ x1).setCell ⟨g, 2, none⟩ x2).setCell ⟨g, 3, none⟩ x3) := below_set h2 g 3 x3 hg (by simp only [setCell_size]; exact hn)
  have h4 : Below n w (((((w1.setCell ⟨g, 0, none⟩ x0).setCell ⟨g, 1, none⟩ x1).setCell ⟨g, 2, none⟩ x2).setCell ⟨g, 3, none⟩ x3).setCell ⟨g, 4, none⟩ x4) := below_set h3 g 4 x4 hg (by simp only [setCell_size]; exact hn)
  have h5 : Below n w ((((((w1.setCell ⟨g, 0, none⟩ x0).setCell ⟨g, 1, none⟩ x1).setCell ⟨g, 2, none⟩ x2).setCell ⟨g, 3, none⟩ x3).setCell ⟨g, 4, none⟩ x4).setCell ⟨g, 5, none⟩ x5) := below_set h4 g 5 x5 hg (by simp only [setCell_size]; exact hn)
  have h6 : Below n w (((((((w1.setCell ⟨g, 0, none⟩ x0).setCell ⟨g, 1, none⟩ x1).setCell ⟨g, 2, none⟩ x2).setCell ⟨g, 3, none⟩ x3).setCell ⟨g, 4, none⟩ x4).setCell ⟨g, 5, none⟩ x5).setCell ⟨g, 6, none⟩ x6) := below_set h5 g 6 x6 hg (by simp only [setCell_size]; exact hn)
  have h7 : Below n w ((((((((w1.setCell ⟨g, 0, none⟩ x0).setCell ⟨g, 1, none⟩ x1).setCell ⟨g, 2, none⟩ x2).setCell ⟨g, 3, none⟩ x3).setCell ⟨g, 4, none⟩ x4).setCell ⟨g, 5, none⟩ x5).setCell ⟨g, 6, none⟩ x6).setCell ⟨g, 7, none⟩ x7) := below_set h6 g 7 x7 hg (by simp only [setCell_size]; exact hn)
  have h8 : Below n w (((((((((w1.setCell ⟨g, 0, none⟩ x0).setCell ⟨g, 1, none⟩ x1).setCell ⟨g, 2, none⟩ x2).setCell ⟨g, 3, none⟩ x3).setCell ⟨g, 4, none⟩ x4).setCell ⟨g, 5, none⟩ x5).setCell ⟨g, 6, none⟩ x6).setCell ⟨g, 7, none⟩ x7).setCell ⟨g, 8, none⟩ x8) := below_set h7 g 8 x8 hg (by simp only [setCell_size]; exact hn)
  exact h8
theorem heldW_any (x y : Int) (w : World) : Calls Tryz.prog 227 #[.int .i64 x, .int .i64 y] w fun e w' => e = .returned (.agg #[.bool true, .int .i64 x, .int .i64 y]) ∧ Below w.heap.size w w' := by
  go_enter Tryz.func227, Tryz.ntmps227
  go_wp2_with fail
  refine bodyPost_ret (res_back Tryz.results227 Tryz.underlying260 (by kernel_rfl) _ _ w.heap.size rfl (Blk.new w #[.bool true, .int .i64 x, .int .i64 y] 260)) rfl ?_
  exact ⟨rfl, below_alloc _ _⟩
abbrev wanA : Array Value := #[.bool true, .int .i64 0, .int .i64 16000, .bool true, .int .i64 0, .int .i64 16000, .bool true, .int .i64 0, .int .i64 8000]
abbrev wan0 : Array Value := #[.bool false, .int .i64 0, .int .i64 0, .bool false, .int .i64 0, .int .i64 0, .bool false, .int .i64 0, .int .i64 0]
theorem wants_no {w0 : World} {b0 : Nat} {w : World} {a : Ad} (h : Bt w0 b0 w a) : Calls Tryz.prog 132 #[pt a.B] w fun e w' => e = .returned (.agg wanA) ∧ Below w.heap.size w w' := by
  have CA : Hid (∀ w, Calls Tryz.prog 227 #[.int .i64 0, .int .i64 16000] w fun e w' => e = .returned (.agg #[.bool true, .int .i64 0, .int .i64 16000]) ∧ Below w.heap.size w w') := hide (heldW_any 0 16000)
  have CB : Hid (∀ w, Calls Tryz.prog 227 #[.int .i64 0, .int .i64 8000] w fun e w' => e = .returned (.agg #[.bool true, .int .i64 0, .int .i64 8000]) ∧ Below w.heap.size w w') := hide (heldW_any 0 8000)
  have hb1 := below_alloc w (.cells wan0 261)
  have HZ0 := hide (Blk.new w wan0 261)
  have H1 := hide (h.after hb1)
  have HB1 := hide hb1
  clear hb1
  clear h
  go_enter Tryz.func132, Tryz.ntmps132
  go_upto_region 1 with fail
  generalize w.alloc (.cells wan0 261) = w1 at *
  have c2 := H1.out.at 1 (.slice (some ⟨a.Vg, 0, none⟩) 24 a.vc) (by omega) rfl
  have v0 := H1.out.val 7 (x := 16000) (by omega) rfl
  have v1 := H1.out.val 8 (x := 8000) (by omega) rfl
  go_quiet (fail)
  have H2 := hide (H1.out.drewN nq)
  have HZ2 := hide (HZ0.out.after (below_drewN (Below.refl _ _) nq))
  have HB2 := hide (below_drewN HB1.out nq)
  clear c2 v0 v1 H1 HZ0 HB1
  generalize w1.drewN nq = w2 at *
  have c2 := H2.out.at 1 (.slice (some ⟨a.Vg, 0, none⟩) 24 a.vc) (by omega) rfl
  have v0 := H2.out.val 9 (x := 8000) (by omega) rfl
  go_upto_region 3 with fail
  have hb3 := below_alloc w2 (.cells #[.bool false, .int .i64 0, .int .i64 (-8000)] 260)
  have H3 := hide (H2.out.after hb3)
  have HZ3 := hide (HZ2.out.after hb3)
  have HB3 := hide (below_two HB2.out hb3)
  clear c2 v0 H2 HZ2 HB2 hb3
  generalize w2.alloc (.cells #[.bool false, .int .i64 0, .int .i64 (-8000)] 260) = w3 at *
  have HK := hide H3.out
  go_cut [6] (fun v wx => ∃ g, v = .pointer (some ⟨g, 0, none⟩) ∧ w3.heap.size ≤ g ∧ Blk wx g wanA 261 ∧ Below w3.heap.size w3 wx)
  case first =>
    refine reg_last_held (fun wx => wx.cell? ⟨a.B, 135, none⟩ = some (.int .i64 0) ∧ wx.cell? ⟨a.B, 136, none⟩ = some (.int .i64 0) ∧ wx.cell? ⟨a.B, 137, none⟩ = some (.int .i64 0)) 26 rfl rfl _ rfl (by kernel_rfl) (by kernel_rfl) (⟨H3.out.at 135 _ (by omega) rfl, H3.out.at 136 _ (by omega) rfl, H3.out.at 137 _ (by omega) rfl⟩) (fun hHeld => ?_)
    simp only [List.take_succ_cons, List.take_zero]
    replace H3 := hide (H3.out.drew)
    have HB : Hid (Below w3.heap.size w3 w3.drew) := hide (Below.refl _ _).drew
    generalize w3.drew = Wd at *
    refine take_at (i := 0) (v := pt a.B) (d := some 30) rfl rfl (by kernel_rfl) (by kernel_rfl) (by kernel_rfl) (fun _ _ _ h => h) (Or.inl ⟨by rfl, fun wS ⟨hS0, hS1, hS2⟩ => by go_simp; all_goals (rw [IntKind.wrap_i64]; omega)⟩) (by assumption) ?_
    simp only [Act.put, List.setIfInBounds_toArray, List.set_cons_zero, List.set_cons_succ]
    refine take_at (i := 1) (v := pt a.B) (d := some 31) rfl rfl (by kernel_rfl) (by kernel_rfl) (by kernel_rfl) (fun _ _ _ h => h) (Or.inl ⟨by rfl, fun wS ⟨hS0, hS1, hS2⟩ => by go_simp; all_goals (rw [IntKind.wrap_i64]; omega)⟩) (by assumption) ?_
    simp only [Act.put, List.setIfInBounds_toArray, List.set_cons_zero, List.set_cons_succ]
    refine take_at (i := 2) (v := .pointer (some ⟨a.B, 126, none⟩)) (d := some 32) rfl rfl (by kernel_rfl) (by kernel_rfl) (by kernel_rfl) (fun _ _ _ h => h) (Or.inl ⟨by rfl, fun wS ⟨hS0, hS1, hS2⟩ => by go_simp; all_goals (rw [IntKind.wrap_i64]; omega)⟩) (by assumption) ?_
    simp only [Act.put, List.setIfInBounds_toArray, List.set_cons_zero, List.set_cons_succ]
    refine take_at (i := 3) (v := .pointer (some ⟨a.B, 135, none⟩)) (d := some 33) rfl rfl (by kernel_rfl) (by kernel_rfl) (by kernel_rfl) (fun _ _ _ h => h) (Or.inl ⟨by rfl, fun wS ⟨hS0, hS1, hS2⟩ => by go_simp; all_goals (rw [IntKind.wrap_i64]; omega)⟩) (by assumption) ?_
    simp only [Act.put, List.setIfInBounds_toArray, List.set_cons_zero, List.set_cons_succ]
    refine take_at (i := 4) (v := .pointer (some ⟨a.B, 135, none⟩)) (d := some 34) rfl rfl (by kernel_rfl) (by kernel_rfl) (by kernel_rfl) (fun _ _ _ h => h) (Or.inl ⟨by rfl, fun wS ⟨hS0, hS1, hS2⟩ => by go_simp; all_goals (rw [IntKind.wrap_i64]; omega)⟩) (by assumption) ?_
    simp only [Act.put, List.setIfInBounds_toArray, List.set_cons_zero, List.set_cons_succ]
    refine take_at (i := 5) (v := .int .i64 0) (d := some 35) rfl rfl (by kernel_rfl) (by kernel_rfl) (by kernel_rfl) (fun _ _ _ h => h) (Or.inl ⟨by rfl, fun wS ⟨hS0, hS1, hS2⟩ => by go_simp; all_goals (rw [IntKind.wrap_i64]; omega)⟩) (by assumption) ?_
    simp only [Act.put, List.setIfInBounds_toArray, List.set_cons_zero, List.set_cons_succ]
    refine take_at (i := 6) (v := .int .i64 16000) (d := some 36) rfl rfl (by kernel_rfl) (by kernel_rfl) (by kernel_rfl) (fun _ _ _ h => h) (Or.inl ⟨by rfl, fun wS ⟨hS0, hS1, hS2⟩ => by go_simp; all_goals (rw [IntKind.wrap_i64]; omega)⟩) (by assumption) ?_
    simp only [Act.put, List.setIfInBounds_toArray, List.set_cons_zero, List.set_cons_succ]
    refine take_at (i := 8) (v := pt a.B) (d := some 38) rfl rfl (by kernel_rfl) (by kernel_rfl) (by kernel_rfl) (fun _ _ _ h => h) (Or.inl ⟨by rfl, fun wS ⟨hS0, hS1, hS2⟩ => by go_simp; all_goals (rw [IntKind.wrap_i64]; omega)⟩) (by assumption) ?_
    simp only [Act.put, List.setIfInBounds_toArray, List.set_cons_zero, List.set_cons_succ]
    refine take_at (i := 9) (v := pt a.B) (d := some 39) rfl rfl (by kernel_rfl) (by kernel_rfl) (by kernel_rfl) (fun _ _ _ h => h) (Or.inl ⟨by rfl, fun wS ⟨hS0, hS1, hS2⟩ => by go_simp; all_goals (rw [IntKind.wrap_i64]; omega)⟩) (by assumption) ?_
    simp only [Act.put, List.setIfInBounds_toArray, List.set_cons_zero, List.set_cons_succ]
    refine take_at (i := 10) (v := .pointer (some ⟨a.B, 126, none⟩)) (d := some 40) rfl rfl (by kernel_rfl) (by kernel_rfl) (by kernel_rfl) (fun _ _ _ h => h) (Or.inl ⟨by rfl, fun wS ⟨hS0, hS1, hS2⟩ => by go_simp; all_goals (rw [IntKind.wrap_i64]; omega)⟩) (by assumption) ?_
    simp only [Act.put, List.setIfInBounds_toArray, List.set_cons_zero, List.set_cons_succ]
    refine take_at (i := 11) (v := .pointer (some ⟨a.B, 135, none⟩)) (d := some 41) rfl rfl (by kernel_rfl) (by kernel_rfl) (by kernel_rfl) (fun _ _ _ h => h) (Or.inl ⟨by rfl, fun wS ⟨hS0, hS1, hS2⟩ => by go_simp; all_goals (rw [IntKind.wrap_i64]; omega)⟩) (by assumption) ?_
    simp only [Act.put, List.setIfInBounds_toArray, List.set_cons_zero, List.set_cons_succ]
    refine take_at (i := 12) (v := .pointer (some ⟨a.B, 136, none⟩)) (d := some 42) rfl rfl (by kernel_rfl) (by kernel_rfl) (by kernel_rfl) (fun _ _ _ h => h) (Or.inl ⟨by rfl, fun wS ⟨hS0, hS1, hS2⟩ => by go_simp; all_goals (rw [IntKind.wrap_i64]; omega)⟩) (by assumption) ?_
    simp only [Act.put, List.setIfInBounds_toArray, List.set_cons_zero, List.set_cons_succ]
    refine take_at (i := 13) (v := .int .i64 0) (d := some 43) rfl rfl (by kernel_rfl) (by kernel_rfl) (by kernel_rfl) (fun _ _ _ h => h) (Or.inl ⟨by rfl, fun wS ⟨hS0, hS1, hS2⟩ => by go_simp; all_goals (rw [IntKind.wrap_i64]; omega)⟩) (by assumption) ?_
    simp only [Act.put, List.setIfInBounds_toArray, List.set_cons_zero, List.set_cons_succ]
    refine take_at (i := 14) (v := .int .i64 16000) (d := some 44) rfl rfl (by kernel_rfl) (by kernel_rfl) (by kernel_rfl) (fun _ _ _ h => h) (Or.inl ⟨by rfl, fun wS ⟨hS0, hS1, hS2⟩ => by go_simp; all_goals (rw [IntKind.wrap_i64]; omega)⟩) (by assumption) ?_
    simp only [Act.put, List.setIfInBounds_toArray, List.set_cons_zero, List.set_cons_succ]
    refine take_at (i := 16) (v := pt a.B) (d := some 46) rfl rfl (by kernel_rfl) (by kernel_rfl) (by kernel_rfl) (fun _ _ _ h => h) (Or.inl ⟨by rfl, fun wS ⟨hS0, hS1, hS2⟩ => by go_simp; all_goals (rw [IntKind.wrap_i64]; omega)⟩) (by assumption) ?_
    simp only [Act.put, List.setIfInBounds_toArray, List.set_cons_zero, List.set_cons_succ]
    refine take_at (i := 17) (v := pt a.B) (d := some 47) rfl rfl (by kernel_rfl) (by kernel_rfl) (by kernel_rfl) (fun _ _ _ h => h) (Or.inl ⟨by rfl, fun wS ⟨hS0, hS1, hS2⟩ => by go_simp; all_goals (rw [IntKind.wrap_i64]; omega)⟩) (by assumption) ?_
    simp only [Act.put, List.setIfInBounds_toArray, List.set_cons_zero, List.set_cons_succ]
    refine take_at (i := 18) (v := .pointer (some ⟨a.B, 126, none⟩)) (d := some 48) rfl rfl (by kernel_rfl) (by kernel_rfl) (by kernel_rfl) (fun _ _ _ h => h) (Or.inl ⟨by rfl, fun wS ⟨hS0, hS1, hS2⟩ => by go_simp; all_goals (rw [IntKind.wrap_i64]; omega)⟩) (by assumption) ?_
    simp only [Act.put, List.setIfInBounds_toArray, List.set_cons_zero, List.set_cons_succ]
    refine take_at (i := 19) (v := .pointer (some ⟨a.B, 135, none⟩)) (d := some 49) rfl rfl (by kernel_rfl) (by kernel_rfl) (by kernel_rfl) (fun _ _ _ h => h) (Or.inl ⟨by rfl, fun wS ⟨hS0, hS1, hS2⟩ => by go_simp; all_goals (rw [IntKind.wrap_i64]; omega)⟩) (by assumption) ?_
    simp only [Act.put, List.setIfInBounds_toArray, List.set_cons_zero, List.set_cons_succ]
    refine take_at (i := 20) (v := .pointer (some ⟨a.B, 137, none⟩)) (d := some 50) rfl rfl (by kernel_rfl) (by kernel_rfl) (by kernel_rfl) (fun _ _ _ h => h) (Or.inl ⟨by rfl, fun wS ⟨hS0, hS1, hS2⟩ => by go_simp; all_goals (rw [IntKind.wrap_i64]; omega)⟩) (by assumption) ?_
    simp only [Act.put, List.setIfInBounds_toArray, List.set_cons_zero, List.set_cons_succ]
    refine take_at (i := 21) (v := .int .i64 0) (d := some 51) rfl rfl (by kernel_rfl) (by kernel_rfl) (by kernel_rfl) (fun _ _ _ h => h) (Or.inl ⟨by rfl, fun wS ⟨hS0, hS1, hS2⟩ => by go_simp; all_goals (rw [IntKind.wrap_i64]; omega)⟩) (by assumption) ?_
    simp only [Act.put, List.setIfInBounds_toArray, List.set_cons_zero, List.set_cons_succ]
    refine take_at (i := 22) (v := .int .i64 8000) (d := some 52) rfl rfl (by kernel_rfl) (by kernel_rfl) (by kernel_rfl) (fun _ _ _ h => h) (Or.inl ⟨by rfl, fun wS ⟨hS0, hS1, hS2⟩ => by go_simp; all_goals (rw [IntKind.wrap_i64]; omega)⟩) (by assumption) ?_
    simp only [Act.put, List.setIfInBounds_toArray, List.set_cons_zero, List.set_cons_succ]
    clear hHeld
    refine wpAnyH_ready (rs := [7, 25]) (by kernel_rfl) (by simp) ?_
    refine AllReadyH.cons rfl (fun K hK => ?_) (AllReadyH.cons rfl (fun K hK => ?_) AllReadyH.nil)
    · go_simp
      refine (CA.out _).mono ?_
      rintro e wt1 ⟨rfl, hb⟩
      replace H3 := hide (H3.out.after hb)
      replace HB := hide (below_next HB.out (Nat.le_refl _) hb)
      clear hb
      refine hK.out _ _ (⟨H3.out.at 135 _ (by omega) rfl, H3.out.at 136 _ (by omega) rfl, H3.out.at 137 _ (by omega) rfl⟩) (fun hHeld => ?_)
      clear hK K
      clear hHeld
      refine wpAnyH_ready (rs := [15, 25]) (by kernel_rfl) (by simp) ?_
      refine AllReadyH.cons rfl (fun K hK => ?_) (AllReadyH.cons rfl (fun K hK => ?_) AllReadyH.nil)
      · go_simp
        refine (CA.out _).mono ?_
        rintro e wt2 ⟨rfl, hb⟩
        replace H3 := hide (H3.out.after hb)
        replace HB := hide (below_next HB.out (Nat.le_refl _) hb)
        clear hb
        refine hK.out _ _ (⟨H3.out.at 135 _ (by omega) rfl, H3.out.at 136 _ (by omega) rfl, H3.out.at 137 _ (by omega) rfl⟩) (fun hHeld => ?_)
        clear hK K
        clear hHeld
        refine wpAnyH_ready (rs := [23, 25]) (by kernel_rfl) (by simp) ?_
        refine AllReadyH.cons rfl (fun K hK => ?_) (AllReadyH.cons rfl (fun K hK => ?_) AllReadyH.nil)
        · go_simp
          refine (CB.out _).mono ?_
          rintro e wt3 ⟨rfl, hb⟩
          replace H3 := hide (H3.out.after hb)
          replace HB := hide (below_next HB.out (Nat.le_refl _) hb)
          clear hb
          refine hK.out _ _ (⟨H3.out.at 135 _ (by omega) rfl, H3.out.at 136 _ (by omega) rfl, H3.out.at 137 _ (by omega) rfl⟩) (fun hHeld => ?_)
          clear hK K
          refine take_at (i := 24) (v := .agg wanA) (d := some 54) rfl rfl (by kernel_rfl) (by kernel_rfl) (by kernel_rfl) (fun _ _ _ h => h) (Or.inl ⟨by rfl, fun wS ⟨hS0, hS1, hS2⟩ => by go_simp; all_goals (rw [IntKind.wrap_i64]; omega)⟩) (by assumption) ?_
          simp only [Act.put, List.setIfInBounds_toArray, List.set_cons_zero, List.set_cons_succ]
          clear hHeld
          refine wpAnyH_ready (rs := [25]) (by kernel_rfl) (by simp) ?_
          refine AllReadyH.cons rfl (fun K hK => ?_) AllReadyH.nil
          go_simp
          have HZ := hide (Blk.new wt3 wan0 261)
          have hzb := HB.out.size
          replace H3 := hide (H3.out.after (below_alloc wt3 (.cells wan0 261)))
          replace HB := hide (below_next HB.out (Nat.le_refl _) (below_alloc wt3 (.cells wan0 261)))
          generalize wt3.heap.size = bz at *
          generalize wt3.alloc (.cells wan0 261) = wt4 at *
          refine hK.out _ _ (⟨H3.out.at 135 _ (by omega) rfl, H3.out.at 136 _ (by omega) rfl, H3.out.at 137 _ (by omega) rfl⟩) (fun hHeld => ?_)
          clear hK K
          clear hHeld
          refine wpAnyH_done (by kernel_rfl) (then_last ?_) _
          have z0 : wt4.cell? ⟨bz, 0, none⟩ = some (.bool false) := HZ.out.cell 0 rfl
          have f0 := HZ.out.frozen 0
          have z1 : wt4.cell? ⟨bz, 1, none⟩ = some (.int .i64 0) := HZ.out.cell 1 rfl
          have f1 := HZ.out.frozen 1
          have z2 : wt4.cell? ⟨bz, 2, none⟩ = some (.int .i64 0) := HZ.out.cell 2 rfl
          have f2 := HZ.out.frozen 2
          have z3 : wt4.cell? ⟨bz, 3, none⟩ = some (.bool false) := HZ.out.cell 3 rfl
          have f3 := HZ.out.frozen 3
          have z4 : wt4.cell? ⟨bz, 4, none⟩ = some (.int .i64 0) := HZ.out.cell 4 rfl
          have f4 := HZ.out.frozen 4
          have z5 : wt4.cell? ⟨bz, 5, none⟩ = some (.int .i64 0) := HZ.out.cell 5 rfl
          have f5 := HZ.out.frozen 5
          have z6 : wt4.cell? ⟨bz, 6, none⟩ = some (.bool false) := HZ.out.cell 6 rfl
          have f6 := HZ.out.frozen 6
          have z7 : wt4.cell? ⟨bz, 7, none⟩ = some (.int .i64 0) := HZ.out.cell 7 rfl
          have f7 := HZ.out.frozen 7
          have z8 : wt4.cell? ⟨bz, 8, none⟩ = some (.int .i64 0) := HZ.out.cell 8 rfl
          have f8 := HZ.out.frozen 8
          go_simp
          (try go_wp2_with fail)
          go_meet
          exact ⟨bz, rfl, hzb, HZ.out.nine _ _ _ _ _ _ _ _ _, below_nine HB.out bz _ _ _ _ _ _ _ _ _ hzb HB.out.size⟩
        · go_simp
          have HZ := hide (Blk.new wt2 wan0 261)
          have hzb := HB.out.size
          replace H3 := hide (H3.out.after (below_alloc wt2 (.cells wan0 261)))
          replace HB := hide (below_next HB.out (Nat.le_refl _) (below_alloc wt2 (.cells wan0 261)))
          generalize wt2.heap.size = bz at *
          generalize wt2.alloc (.cells wan0 261) = wt5 at *
          refine hK.out _ _ (⟨H3.out.at 135 _ (by omega) rfl, H3.out.at 136 _ (by omega) rfl, H3.out.at 137 _ (by omega) rfl⟩) (fun hHeld => ?_)
          clear hK K
          clear hHeld
          refine wpAnyH_ready (rs := [23]) (by kernel_rfl) (by simp) ?_
          refine AllReadyH.cons rfl (fun K hK => ?_) AllReadyH.nil
          go_simp
          refine (CB.out _).mono ?_
          rintro e wt6 ⟨rfl, hb⟩
          replace H3 := hide (H3.out.after hb)
          replace HB := hide (below_next HB.out (Nat.le_refl _) hb)
          replace HZ := hide (HZ.out.after hb)
          clear hb
          refine hK.out _ _ (⟨H3.out.at 135 _ (by omega) rfl, H3.out.at 136 _ (by omega) rfl, H3.out.at 137 _ (by omega) rfl⟩) (fun hHeld => ?_)
          clear hK K
          refine take_at (i := 24) (v := .agg wanA) (d := some 54) rfl rfl (by kernel_rfl) (by kernel_rfl) (by kernel_rfl) (fun _ _ _ h => h) (Or.inl ⟨by rfl, fun wS ⟨hS0, hS1, hS2⟩ => by go_simp; all_goals (rw [IntKind.wrap_i64]; omega)⟩) (by assumption) ?_
          simp only [Act.put, List.setIfInBounds_toArray, List.set_cons_zero, List.set_cons_succ]
          clear hHeld
          refine wpAnyH_done (by kernel_rfl) (then_last ?_) _
          have z0 : wt6.cell? ⟨bz, 0, none⟩ = some (.bool false) := HZ.out.cell 0 rfl
          have f0 := HZ.out.frozen 0
          have z1 : wt6.cell? ⟨bz, 1, none⟩ = some (.int .i64 0) := HZ.out.cell 1 rfl
          have f1 := HZ.out.frozen 1
          have z2 : wt6.cell? ⟨bz, 2, none⟩ = some (.int .i64 0) := HZ.out.cell 2 rfl
          have f2 := HZ.out.frozen 2
          have z3 : wt6.cell? ⟨bz, 3, none⟩ = some (.bool false) := HZ.out.cell 3 rfl
          have f3 := HZ.out.frozen 3
          have z4 : wt6.cell? ⟨bz, 4, none⟩ = some (.int .i64 0) := HZ.out.cell 4 rfl
          have f4 := HZ.out.frozen 4
          have z5 : wt6.cell? ⟨bz, 5, none⟩ = some (.int .i64 0) := HZ.out.cell 5 rfl
          have f5 := HZ.out.frozen 5
          have z6 : wt6.cell? ⟨bz, 6, none⟩ = some (.bool false) := HZ.out.cell 6 rfl
          have f6 := HZ.out.frozen 6
          have z7 : wt6.cell? ⟨bz, 7, none⟩ = some (.int .i64 0) := HZ.out.cell 7 rfl
          have f7 := HZ.out.frozen 7
          have z8 : wt6.cell? ⟨bz, 8, none⟩ = some (.int .i64 0) := HZ.out.cell 8 rfl
          have f8 := HZ.out.frozen 8
          go_simp
          (try go_wp2_with fail)
          go_meet
          exact ⟨bz, rfl, hzb, HZ.out.nine _ _ _ _ _ _ _ _ _, below_nine HB.out bz _ _ _ _ _ _ _ _ _ hzb HB.out.size⟩
      · go_simp
        have HZ := hide (Blk.new wt1 wan0 261)
        have hzb := HB.out.size
        replace H3 := hide (H3.out.after (below_alloc wt1 (.cells wan0 261)))
        replace HB := hide (below_next HB.out (Nat.le_refl _) (below_alloc wt1 (.cells wan0 261)))
        generalize wt1.heap.size = bz at *
        generalize wt1.alloc (.cells wan0 261) = wt7 at *
        refine hK.out _ _ (⟨H3.out.at 135 _ (by omega) rfl, H3.out.at 136 _ (by omega) rfl, H3.out.at 137 _ (by omega) rfl⟩) (fun hHeld => ?_)
        clear hK K
        clear hHeld
        refine wpAnyH_ready (rs := [15]) (by kernel_rfl) (by simp) ?_
        refine AllReadyH.cons rfl (fun K hK => ?_) AllReadyH.nil
        go_simp
        refine (CA.out _).mono ?_
        rintro e wt8 ⟨rfl, hb⟩
        replace H3 := hide (H3.out.after hb)
        replace HB := hide (below_next HB.out (Nat.le_refl _) hb)
        replace HZ := hide (HZ.out.after hb)
        clear hb
        refine hK.out _ _ (⟨H3.out.at 135 _ (by omega) rfl, H3.out.at 136 _ (by omega) rfl, H3.out.at 137 _ (by omega) rfl⟩) (fun hHeld => ?_)
        clear hK K
        clear hHeld
        refine wpAnyH_ready (rs := [23]) (by kernel_rfl) (by simp) ?_
        refine AllReadyH.cons rfl (fun K hK => ?_) AllReadyH.nil
        go_simp
        refine (CB.out _).mono ?_
        rintro e wt9 ⟨rfl, hb⟩
        replace H3 := hide (H3.out.after hb)
        replace HB := hide (below_next HB.out (Nat.le_refl _) hb)
        replace HZ := hide (HZ.out.after hb)
        clear hb
        refine hK.out _ _ (⟨H3.out.at 135 _ (by omega) rfl, H3.out.at 136 _ (by omega) rfl, H3.out.at 137 _ (by omega) rfl⟩) (fun hHeld => ?_)
        clear hK K
        refine take_at (i := 24) (v := .agg wanA) (d := some 54) rfl rfl (by kernel_rfl) (by kernel_rfl) (by kernel_rfl) (fun _ _ _ h => h) (Or.inl ⟨by rfl, fun wS ⟨hS0, hS1, hS2⟩ => by go_simp; all_goals (rw [IntKind.wrap_i64]; omega)⟩) (by assumption) ?_
        simp only [Act.put, List.setIfInBounds_toArray, List.set_cons_zero, List.set_cons_succ]
        clear hHeld
        refine wpAnyH_done (by kernel_rfl) (then_last ?_) _
        have z0 : wt9.cell? ⟨bz, 0, none⟩ = some (.bool false) := HZ.out.cell 0 rfl
        have f0 := HZ.out.frozen 0
        have z1 : wt9.cell? ⟨bz, 1, none⟩ = some (.int .i64 0) := HZ.out.cell 1 rfl
        have f1 := HZ.out.frozen 1
        have z2 : wt9.cell? ⟨bz, 2, none⟩ = some (.int .i64 0) := HZ.out.cell 2 rfl
        have f2 := HZ.out.frozen 2
        have z3 : wt9.cell? ⟨bz, 3, none⟩ = some (.bool false) := HZ.out.cell 3 rfl
        have f3 := HZ.out.frozen 3
        have z4 : wt9.cell? ⟨bz, 4, none⟩ = some (.int .i64 0) := HZ.out.cell 4 rfl
        have f4 := HZ.out.frozen 4
        have z5 : wt9.cell? ⟨bz, 5, none⟩ = some (.int .i64 0) := HZ.out.cell 5 rfl
        have f5 := HZ.out.frozen 5
        have z6 : wt9.cell? ⟨bz, 6, none⟩ = some (.bool false) := HZ.out.cell 6 rfl
        have f6 := HZ.out.frozen 6
        have z7 : wt9.cell? ⟨bz, 7, none⟩ = some (.int .i64 0) := HZ.out.cell 7 rfl
        have f7 := HZ.out.frozen 7
        have z8 : wt9.cell? ⟨bz, 8, none⟩ = some (.int .i64 0) := HZ.out.cell 8 rfl
        have f8 := HZ.out.frozen 8
        go_simp
        (try go_wp2_with fail)
        go_meet
        exact ⟨bz, rfl, hzb, HZ.out.nine _ _ _ _ _ _ _ _ _, below_nine HB.out bz _ _ _ _ _ _ _ _ _ hzb HB.out.size⟩
    · go_simp
      have HZ := hide (Blk.new Wd wan0 261)
      have hzb := HB.out.size
      replace H3 := hide (H3.out.after (below_alloc Wd (.cells wan0 261)))
      replace HB := hide (below_next HB.out (Nat.le_refl _) (below_alloc Wd (.cells wan0 261)))
      generalize Wd.heap.size = bz at *
      generalize Wd.alloc (.cells wan0 261) = wt10 at *
      refine hK.out _ _ (⟨H3.out.at 135 _ (by omega) rfl, H3.out.at 136 _ (by omega) rfl, H3.out.at 137 _ (by omega) rfl⟩) (fun hHeld => ?_)
      clear hK K
      clear hHeld
      refine wpAnyH_ready (rs := [7]) (by kernel_rfl) (by simp) ?_
      refine AllReadyH.cons rfl (fun K hK => ?_) AllReadyH.nil
      go_simp
      refine (CA.out _).mono ?_
      rintro e wt11 ⟨rfl, hb⟩
      replace H3 := hide (H3.out.after hb)
      replace HB := hide (below_next HB.out (Nat.le_refl _) hb)
      replace HZ := hide (HZ.out.after hb)
      clear hb
      refine hK.out _ _ (⟨H3.out.at 135 _ (by omega) rfl, H3.out.at 136 _ (by omega) rfl, H3.out.at 137 _ (by omega) rfl⟩) (fun hHeld => ?_)
      clear hK K
      clear hHeld
      refine wpAnyH_ready (rs := [15]) (by kernel_rfl) (by simp) ?_
      refine AllReadyH.cons rfl (fun K hK => ?_) AllReadyH.nil
      go_simp
      refine (CA.out _).mono ?_
      rintro e wt12 ⟨rfl, hb⟩
      replace H3 := hide (H3.out.after hb)
      replace HB := hide (below_next HB.out (Nat.le_refl _) hb)
      replace HZ := hide (HZ.out.after hb)
      clear hb
      refine hK.out _ _ (⟨H3.out.at 135 _ (by omega) rfl, H3.out.at 136 _ (by omega) rfl, H3.out.at 137 _ (by omega) rfl⟩) (fun hHeld => ?_)
      clear hK K
      clear hHeld
      refine wpAnyH_ready (rs := [23]) (by kernel_rfl) (by simp) ?_
      refine AllReadyH.cons rfl (fun K hK => ?_) AllReadyH.nil
      go_simp
      refine (CB.out _).mono ?_
      rintro e wt13 ⟨rfl, hb⟩
      replace H3 := hide (H3.out.after hb)
      replace HB := hide (below_next HB.out (Nat.le_refl _) hb)
      replace HZ := hide (HZ.out.after hb)
      clear hb
      refine hK.out _ _ (⟨H3.out.at 135 _ (by omega) rfl, H3.out.at 136 _ (by omega) rfl, H3.out.at 137 _ (by omega) rfl⟩) (fun hHeld => ?_)
      clear hK K
      refine take_at (i := 24) (v := .agg wanA) (d := some 54) rfl rfl (by kernel_rfl) (by kernel_rfl) (by kernel_rfl) (fun _ _ _ h => h) (Or.inl ⟨by rfl, fun wS ⟨hS0, hS1, hS2⟩ => by go_simp; all_goals (rw [IntKind.wrap_i64]; omega)⟩) (by assumption) ?_
      simp only [Act.put, List.setIfInBounds_toArray, List.set_cons_zero, List.set_cons_succ]
      clear hHeld
      refine wpAnyH_done (by kernel_rfl) (then_last ?_) _
      have z0 : wt13.cell? ⟨bz, 0, none⟩ = some (.bool false) := HZ.out.cell 0 rfl
      have f0 := HZ.out.frozen 0
      have z1 : wt13.cell? ⟨bz, 1, none⟩ = some (.int .i64 0) := HZ.out.cell 1 rfl
      have f1 := HZ.out.frozen 1
      have z2 : wt13.cell? ⟨bz, 2, none⟩ = some (.int .i64 0) := HZ.out.cell 2 rfl
      have f2 := HZ.out.frozen 2
      have z3 : wt13.cell? ⟨bz, 3, none⟩ = some (.bool false) := HZ.out.cell 3 rfl
      have f3 := HZ.out.frozen 3
      have z4 : wt13.cell? ⟨bz, 4, none⟩ = some (.int .i64 0) := HZ.out.cell 4 rfl
      have f4 := HZ.out.frozen 4
      have z5 : wt13.cell? ⟨bz, 5, none⟩ = some (.int .i64 0) := HZ.out.cell 5 rfl
      have f5 := HZ.out.frozen 5
      have z6 : wt13.cell? ⟨bz, 6, none⟩ = some (.bool false) := HZ.out.cell 6 rfl
      have f6 := HZ.out.frozen 6
      have z7 : wt13.cell? ⟨bz, 7, none⟩ = some (.int .i64 0) := HZ.out.cell 7 rfl
      have f7 := HZ.out.frozen 7
      have z8 : wt13.cell? ⟨bz, 8, none⟩ = some (.int .i64 0) := HZ.out.cell 8 rfl
      have f8 := HZ.out.frozen 8
      go_simp
      (try go_wp2_with fail)
      go_meet
      exact ⟨bz, rfl, hzb, HZ.out.nine _ _ _ _ _ _ _ _ _, below_nine HB.out bz _ _ _ _ _ _ _ _ _ hzb HB.out.size⟩
  case rest =>
    obtain ⟨gz, rfl, hgz, hG, hBz⟩ := hcut
    have H4 := hide (HK.out.after hBz)
    have HG := hide hG
    have HR := hide (HZ3.out.after hBz)
    have HB4 := hide (below_two HB3.out hBz)
    clear hG hBz H3 HK HZ3 HB3 CA CB
    go_wp2_with fail
    refine (modeP_no H4.out).mono ?_
    rintro e w5 ⟨rfl, hw⟩
    obtain rfl := hw.symm
    clear hw
    have g0 := HG.out.cell 0 (v := .bool true) rfl
    have r0 := HR.out.cell 0 (v := .bool false) rfl
    have f0 := HR.out.frozen 0
    have g1 := HG.out.cell 1 (v := .int .i64 0) rfl
    have r1 := HR.out.cell 1 (v := .int .i64 0) rfl
    have f1 := HR.out.frozen 1
    have g2 := HG.out.cell 2 (v := .int .i64 16000) rfl
    have r2 := HR.out.cell 2 (v := .int .i64 0) rfl
    have f2 := HR.out.frozen 2
    have g3 := HG.out.cell 3 (v := .bool true) rfl
    have r3 := HR.out.cell 3 (v := .bool false) rfl
    have f3 := HR.out.frozen 3
    have g4 := HG.out.cell 4 (v := .int .i64 0) rfl
    have r4 := HR.out.cell 4 (v := .int .i64 0) rfl
    have f4 := HR.out.frozen 4
    have g5 := HG.out.cell 5 (v := .int .i64 16000) rfl
    have r5 := HR.out.cell 5 (v := .int .i64 0) rfl
    have f5 := HR.out.frozen 5
    have g6 := HG.out.cell 6 (v := .bool true) rfl
    have r6 := HR.out.cell 6 (v := .bool false) rfl
    have f6 := HR.out.frozen 6
    have g7 := HG.out.cell 7 (v := .int .i64 0) rfl
    have r7 := HR.out.cell 7 (v := .int .i64 0) rfl
    have f7 := HR.out.frozen 7
    have g8 := HG.out.cell 8 (v := .int .i64 8000) rfl
    have r8 := HR.out.cell 8 (v := .int .i64 0) rfl
    have f8 := HR.out.frozen 8
    go_wp2_with fail
    refine bodyPost_ret (arrE_back Tryz.results132 Tryz.underlying261 (by kernel_rfl) _ _ w.heap.size rfl (HR.out.nine _ _ _ _ _ _ _ _ _)) rfl ?_
    exact ⟨rfl, below_nine HB4.out w.heap.size _ _ _ _ _ _ _ _ _ (Nat.le_refl _) HB4.out.size⟩
end Go.Proofs.YtapfaaaepnplcaaGreatDoor
set_option maxRecDepth 100000
set_option maxHeartbeats 8000000
namespace Go.Proofs.YtapfaaaepnplcaaGreatDoor
open Go.RowKit Go.Great
theorem apart0 (w : World) : Calls Tryz.prog 311 #[.int .i64 0, .int .i64 0] w fun e w' => e = .returned (.int .i64 0) ∧ w' = w := by
  go_enter Tryz.func311, Tryz.ntmps311
  go_wp2_with fail
  refine (subI 0 0 0 (by decide) (i64s (by omega)) (i64s (by omega)) _).mono ?_
  rintro e w2 ⟨rfl, hw⟩
  obtain rfl := hw.symm
  go_wp2_with fail
  refine (subI 0 0 0 (by decide) (i64s (by omega)) (i64s (by omega)) _).mono ?_
  rintro e w2 ⟨rfl, hw⟩
  obtain rfl := hw.symm
  go_wp2_with fail
  go_ret
  exact ⟨rfl, rfl⟩
theorem ceil0 (w : World) : Calls Tryz.prog 304 #[.int .i64 0] w fun e w' => e = .returned (.int .i64 0) ∧ w' = w := by
  go_enter Tryz.func304, Tryz.ntmps304
  go_wp2_with fail
  refine (up_any 0 6400 w (i64s (by omega)) (by omega)).mono ?_
  rintro e w2 ⟨rfl, hw⟩
  obtain rfl := hw.symm
  go_wp2_with fail
  go_ret
  exact ⟨by rfl, rfl⟩
theorem axisE0 (w : World) (B : Nat) (s : Int) (hB : FilE w B s) : Calls Tryz.prog 28 #[pt B] w fun e w' => e = .returned (.agg #[.int .i64 0, .int .i64 0, .int .i64 0, .int .i64 0]) ∧ Below w.heap.size w w' := axisE w B s hB
theorem fld_ax (w : World) : (Instr.field 43 (.agg #[.int .i64 0, .int .i64 0, .int .i64 0, .int .i64 0]) 0).run Tryz.prog w = .ok (.agg #[.int .i64 0, .int .i64 0]) w := by kernel_rfl
theorem fld_sp (w : World) : (Instr.field 41 (.agg #[.int .i64 0, .int .i64 0]) 1).run Tryz.prog w = .ok (.int .i64 0) w := by kernel_rfl
theorem dfl_ok : BOk (bN dfl) := bN_ok (sound_of (by decide))
theorem tierE {w : World} {B : Nat} (h : Blk w B (bC (bN dfl)) 172) (x y : Int) : Calls Tryz.prog 206 #[pt B, .int .i64 x, .int .i64 y] w fun e w' => e = .returned (.int .u8 2) ∧ Below w.heap.size w w' := by
  have ht : tierI (bN dfl) x y = 2 := by unfold tierI bN; simp
  have := tier_any w B (bN dfl) x y h dfl_ok
  rw [ht] at this
  exact this
theorem tier_no {w0 : World} {b0 : Nat} {w : World} {a : Ad} (h : Bt w0 b0 w a) : Calls Tryz.prog 216 #[.pointer (some ⟨a.B, 15, none⟩), .agg z3] w fun e w' => e = .returned (.int .u8 2) ∧ Below w.heap.size w w' := by
  have hb0 := below_alloc w (.cells z3 63)
  have HX := hide (Blk.new w z3 63)
  have H0 := hide (h.after hb0)
  have HB0 := hide hb0
  clear hb0 h
  go_enter Tryz.func216, Tryz.ntmps216
  go_wp2_with fail
  generalize w.alloc (.cells z3 63) = w1 at *
  refine (middles_no H0.out).mono ?_
  rintro e w2 ⟨rfl, hb⟩
  obtain ⟨W0, hW0, hB, B0, B1, hz⟩ := two_boxes w2 z3 z3 63 63
  have H1 := hide ((H0.out.after hb).after hB)
  have HX1 := hide ((HX.out.after hb).after hB)
  have HB1 := hide (below_two (below_two HB0.out hb) hB)
  have HP := hide B0
  have xc0 : W0.cell? ⟨w2.heap.size, 0, none⟩ = some (.int .i64 0) := B0.cell 0 rfl
  have xf0 : W0.frozen? ⟨w2.heap.size, 0, none⟩ = false := B0.frozen 0
  have xs0 : W0.setCell ⟨w2.heap.size, 0, none⟩ (.int .i64 0) = W0 := B0.same (k := 0) rfl
  have xc1 : W0.cell? ⟨w2.heap.size, 1, none⟩ = some (.int .i64 0) := B0.cell 1 rfl
  have xf1 : W0.frozen? ⟨w2.heap.size, 1, none⟩ = false := B0.frozen 1
  have xs1 : W0.setCell ⟨w2.heap.size, 1, none⟩ (.int .i64 0) = W0 := B0.same (k := 1) rfl
  have xc2 : W0.cell? ⟨w2.heap.size, 2, none⟩ = some (.int .i64 0) := B0.cell 2 rfl
  have xf2 : W0.frozen? ⟨w2.heap.size, 2, none⟩ = false := B0.frozen 2
  have xs2 : W0.setCell ⟨w2.heap.size, 2, none⟩ (.int .i64 0) = W0 := B0.same (k := 2) rfl
  have yc0 : W0.cell? ⟨w2.heap.size + 1, 0, none⟩ = some (.int .i64 0) := B1.cell 0 rfl
  have yf0 : W0.frozen? ⟨w2.heap.size + 1, 0, none⟩ = false := B1.frozen 0
  have ys0 : W0.setCell ⟨w2.heap.size + 1, 0, none⟩ (.int .i64 0) = W0 := B1.same (k := 0) rfl
  have yc1 : W0.cell? ⟨w2.heap.size + 1, 1, none⟩ = some (.int .i64 0) := B1.cell 1 rfl
  have yf1 : W0.frozen? ⟨w2.heap.size + 1, 1, none⟩ = false := B1.frozen 1
  have ys1 : W0.setCell ⟨w2.heap.size + 1, 1, none⟩ (.int .i64 0) = W0 := B1.same (k := 1) rfl
  have yc2 : W0.cell? ⟨w2.heap.size + 1, 2, none⟩ = some (.int .i64 0) := B1.cell 2 rfl
  have yf2 : W0.frozen? ⟨w2.heap.size + 1, 2, none⟩ = false := B1.frozen 2
  have ys2 : W0.setCell ⟨w2.heap.size + 1, 2, none⟩ (.int .i64 0) = W0 := B1.same (k := 2) rfl
  clear hb H0 HX HB0 hB B0 B1
  go_wp2_with fail
  clear xc0 xc1 xc2 xf0 xf1 xf2 xs0 xs1 xs2 yc0 yc1 yc2 yf0 yf1 yf2 ys0 ys1 ys2
  clear hW0
  go_loopw [7, 14] (fun u v wx => u = .int .i64 0 ∧ ∃ j : Nat, v = .int .i64 (j : Int) ∧ j ≤ 2 ∧ Hid (Below W0.heap.size W0 wx)) (fun _ v _ => 2 - (intOf v).toNat)
  case atStart => exact ⟨rfl, 0, rfl, by omega, hide (Below.refl _ _)⟩
  case round =>
    obtain ⟨rfl, j, rfl, hj, HG⟩ := hrel
    have H2 := hide (H1.out.after HG.out)
    have HX2 := hide (HX1.out.after HG.out)
    have HP2 := hide (HP.out.after HG.out)
    have HB2 := hide (below_two HB1.out HG.out)
    clear H1 HX1 HP HB1
    by_cases h2 : j = 2
    · subst h2
      have c0 := H2.out.at 119 (pt a.Ba) (by omega) rfl
      have c1 := H2.out.at 117 (pt (a.F 2)) (by omega) rfl
      clear HX2 HP2 HG hj
      go_upto_region 8 with fail
      have a0 : ∀ x : BelowW wr, x.q.cell? ⟨a.B, 119, none⟩ = some (pt a.Ba) := fun x => (H2.out.after x.h).at 119 _ (by omega) rfl
      have a1 : ∀ x : BelowW wr, x.q.cell? ⟨a.B, 117, none⟩ = some (pt (a.F 2)) := fun x => (H2.out.after x.h).at 117 _ (by omega) rfl
      have hne : Nonempty (BelowW wr) := ⟨⟨wr, Below.refl _ _⟩⟩
      have fa := fld_ax
      have fs := fld_sp
      refine wp_region_calm (by kernel_rfl) (by kernel_rfl) ?_
      repeat (go_big_quiet_step (first
        | (go_at_call 28; exact calm_of (axisE0 _ _ 8 ((H2.out.after (BelowW.h _)).F 2 (by omega))))
        | (go_at_call 304; exact calm_same (ceil0 _))
        | (go_at_call 206; exact calm_of (tierE (H2.out.after (BelowW.h _)).Ba 0 0))))
      refine wpQuiet_nil ?_
      rintro _ ⟨x, rfl⟩
      have HB3 := hide (below_two HB2.out x.h)
      go_simp
      go_wp2_with fail
      go_ret
      exact ⟨rfl, HB3.out⟩
    · have hj2 : j < 2 := by omega
      have hjn : (j : Int) < 2 := by omega
      have zc : z3[j]? = some (.int .i64 0) := by obtain rfl | rfl : j = 0 ∨ j = 1 := by omega
                                                  all_goals rfl
      have a0 := HX2.out.cell j zc
      have a1 := HP2.out.cell j zc
      have hx2 := HX2.out
      have hp2 := HP2.out
      clear HX2 HP2 H2 HB2 hj
      go_upto_region 6 with fail
      have b0 : ∀ x : BelowW wr, x.q.cell? ⟨w.heap.size, j, none⟩ = some (.int .i64 0) := fun x => hx2.at j zc x
      have b1 : ∀ x : BelowW wr, x.q.cell? ⟨w2.heap.size, j, none⟩ = some (.int .i64 0) := fun x => hp2.at j zc x
      have hne : Nonempty (BelowW wr) := ⟨⟨wr, Below.refl _ _⟩⟩
      clear a0 a1
      refine wp_region_calm (by kernel_rfl) (by kernel_rfl) ?_
      repeat (go_big_quiet_step (first
        | (go_at_call 311; exact calm_same (apart0 _))))
      refine wpQuiet_nil ?_
      rintro _ ⟨x, rfl⟩
      have HX3 := hide (below_two HG.out x.h)
      go_simp
      go_wp2_with fail
      go_roundw
      case rel => exact ⟨rfl, j + 1, by go_num, by omega, HX3⟩
      case measure => simp [intOf]; omega
theorem arrived_no {w0 : World} {b0 : Nat} {w : World} {a : Ad} (h : Bt w0 b0 w a) : Calls Tryz.prog 219 #[pt a.B] w fun e w' => e = .returned (.bool false) ∧ Below w.heap.size w w' := by
  have HH := hide h
  clear h
  go_enter Tryz.func219, Tryz.ntmps219
  go_wp2_with fail
  refine (middles_no HH.out).mono ?_
  rintro e w2 ⟨rfl, hb⟩
  obtain ⟨W0, hW0, hB, B0, B1, hz⟩ := two_boxes w2 z3 z3 63 63
  have H1 := hide ((HH.out.after hb).after hB)
  have HB1 := hide (below_two hb hB)
  have xc0 : W0.cell? ⟨w2.heap.size, 0, none⟩ = some (.int .i64 0) := B0.cell 0 rfl
  have xf0 : W0.frozen? ⟨w2.heap.size, 0, none⟩ = false := B0.frozen 0
  have xs0 : W0.setCell ⟨w2.heap.size, 0, none⟩ (.int .i64 0) = W0 := B0.same (k := 0) rfl
  have xc1 : W0.cell? ⟨w2.heap.size, 1, none⟩ = some (.int .i64 0) := B0.cell 1 rfl
  have xf1 : W0.frozen? ⟨w2.heap.size, 1, none⟩ = false := B0.frozen 1
  have xs1 : W0.setCell ⟨w2.heap.size, 1, none⟩ (.int .i64 0) = W0 := B0.same (k := 1) rfl
  have xc2 : W0.cell? ⟨w2.heap.size, 2, none⟩ = some (.int .i64 0) := B0.cell 2 rfl
  have xf2 : W0.frozen? ⟨w2.heap.size, 2, none⟩ = false := B0.frozen 2
  have xs2 : W0.setCell ⟨w2.heap.size, 2, none⟩ (.int .i64 0) = W0 := B0.same (k := 2) rfl
  have yc0 : W0.cell? ⟨w2.heap.size + 1, 0, none⟩ = some (.int .i64 0) := B1.cell 0 rfl
  have yf0 : W0.frozen? ⟨w2.heap.size + 1, 0, none⟩ = false := B1.frozen 0
  have ys0 : W0.setCell ⟨w2.heap.size + 1, 0, none⟩ (.int .i64 0) = W0 := B1.same (k := 0) rfl
  have yc1 : W0.cell? ⟨w2.heap.size + 1, 1, none⟩ = some (.int .i64 0) := B1.cell 1 rfl
  have yf1 : W0.frozen? ⟨w2.heap.size + 1, 1, none⟩ = false := B1.frozen 1
  have ys1 : W0.setCell ⟨w2.heap.size + 1, 1, none⟩ (.int .i64 0) = W0 := B1.same (k := 1) rfl
  have yc2 : W0.cell? ⟨w2.heap.size + 1, 2, none⟩ = some (.int .i64 0) := B1.cell 2 rfl
  have yf2 : W0.frozen? ⟨w2.heap.size + 1, 2, none⟩ = false := B1.frozen 2
  have ys2 : W0.setCell ⟨w2.heap.size + 1, 2, none⟩ (.int .i64 0) = W0 := B1.same (k := 2) rfl
  clear hb HH hB B0 B1
  go_wp2_with fail
  clear xc0 xc1 xc2 xf0 xf1 xf2 xs0 xs1 xs2 yc0 yc1 yc2 yf0 yf1 yf2 ys0 ys1 ys2
  clear hW0
  refine (wants_no H1.out).mono ?_
  rintro e w3 ⟨rfl, hb⟩
  have hb3 := below_alloc w3 (.cells wanA 261)
  have H3 := hide ((H1.out.after hb).after hb3)
  have HB3 := hide (below_two (below_two HB1.out hb) hb3)
  clear H1 HB1 hb hb3
  go_wp2_with fail
  refine (modeP_no H3.out).mono ?_
  rintro e w4 ⟨rfl, hw⟩
  obtain rfl := hw.symm
  go_wp2_with fail
  go_ret
  exact ⟨rfl, HB3.out⟩
end Go.Proofs.YtapfaaaepnplcaaGreatDoor
set_option maxRecDepth 100000
set_option maxHeartbeats 8000000
namespace Go.Proofs.YtapfaaaepnplcaaGreatDoor
open Go.RowKit Go.Great
theorem bad_no {w0 : World} {b0 : Nat} {w : World} {a : Ad} (h : Bt w0 b0 w a) : Calls Tryz.prog 27 #[pt a.B] w fun e w' => e = .returned (.int .i64 0) ∧ Below w.heap.size w w' := by
  have HH := hide h
  clear h
  go_enter Tryz.func27, Tryz.ntmps27
  go_upto_region 1 with fail
  have a0 : ∀ x : BelowW w, x.q.cell? ⟨a.B, 78, none⟩ = some (.int .i64 0) := fun x => (HH.out.after x.h).at 78 _ (by omega) rfl
  have a1 : ∀ x : BelowW w, x.q.cell? ⟨a.B, 123, none⟩ = some (.int .i64 0) := fun x => (HH.out.after x.h).at 123 _ (by omega) rfl
  have a2 : ∀ x : BelowW w, x.q.cell? ⟨a.B, 120, none⟩ = some (pt a.Rd) := fun x => (HH.out.after x.h).at 120 _ (by omega) rfl
  have hne : Nonempty (BelowW w) := ⟨⟨w, Below.refl _ _⟩⟩
  refine wp_region_calm (by kernel_rfl) (by kernel_rfl) ?_
  repeat (go_big_quiet_step (first
    | (go_at_call 66; exact calm_same (badE _ _ (HH.out.after (BelowW.h _)).Rd))))
  refine wpQuiet_nil ?_
  rintro _ ⟨x, rfl⟩
  have HB := hide x.h
  go_simp
  go_wp2_with fail
  go_ret
  exact ⟨rfl, HB.out⟩
theorem armedF_no {w0 : World} {b0 : Nat} {w : World} {a : Ad} (h : Bt w0 b0 w a) : Calls Tryz.prog 24 #[.pointer (some ⟨a.B, 126, none⟩)] w fun e w' => e = .returned (.bool false) ∧ w' = w := by
  have HH := hide h
  clear h
  go_enter Tryz.func24, Tryz.ntmps24
  go_wp2_with fail
  refine (modeP_no HH.out).mono ?_
  rintro e w1 ⟨rfl, hw⟩
  obtain rfl := hw.symm
  clear hw
  go_wp2_with fail
  refine (armed_any 0 _).mono ?_
  rintro e w1 ⟨rfl, hw⟩
  obtain rfl := hw.symm
  clear hw
  rw [show armB 0 = false from rfl]
  go_wp2_with fail
  go_ret
  exact ⟨rfl, rfl⟩
end Go.Proofs.YtapfaaaepnplcaaGreatDoor
set_option maxRecDepth 100000
set_option maxHeartbeats 8000000
namespace Go.Proofs.YtapfaaaepnplcaaGreatDoor
open Go.RowKit Go.Great
theorem Vals.ints {w : World} {g : Nat} {l : List Int} (h : Vals w g l) (c : Nat) : Ints w (.slice (some ⟨g, 0, none⟩) l.length c) l := by
  obtain ⟨cs, fr, h1, h2⟩ := h
  refine ⟨_, c, rfl, fun _ => ⟨g, 0, rfl, (Array.getElem?_eq_some_iff.1 h1).1, fun i hi => ?_⟩⟩
  rw [Nat.zero_add]
  simp [World.cell?, h1, h2 i hi]
theorem not_nilI (ad : Addr) (n cap : Nat) (w : World) : (binOp .eql 48 (.slice (some ad) n cap) (.slice none 0 0)).run Tryz.prog w = .ok (.bool false) w := by kernel_rfl
theorem iclone_any (l : List Int) (hl : l.length = 24) (v : Value) (w : World) (hv : Ints w v l) : Calls Tryz.prog 30 #[v] w fun e w' => ∃ u, e = .returned u ∧ IRow w' w.heap.size u l ∧ Below w.heap.size w w' := by
  obtain ⟨i0, hi, hz0, hz1, hz2⟩ := info_parts info_int
  obtain ⟨g, o, cap, rfl, hg, hcc⟩ := hv.open24 hl
  have HV := hide hv
  have HL := hide hl
  have hnn := not_nilI ⟨g, o, none⟩ 24 cap
  clear hcc hv hl
  go_enter Tryz.func30, Tryz.ntmps30
  have HO : Hid ((w.alloc (.cells #[] 3)).ownsRow w.heap.size 3 1 (.slice (some ⟨w.heap.size, 0, none⟩) 0 0) 0 []) := by
    refine ⟨rfl, .inr ⟨w.heap.size, 0, #[], rfl, Nat.le_refl _, heap_alloc_new _ _, ?_⟩⟩
    simp
  have HVa := hide (HV.out.below (below_alloc w (.cells #[] 3)))
  go_wp2_with (at_builtin; refine wpList_append_own _ rfl (.tmp 5) (.tmp 6) 48 rfl w.heap.size 3 i0 _ 1 8 Tryz.underlying48 hi hz0 hz1 hz2 rfl (by decide) (.slice (some ⟨w.heap.size, 0, none⟩) 0 0) 0 [] rfl HO.out ⟨g, o, none⟩ 24 cap (l.map (Value.int .i64)) rfl ?c0 ?c1 ?c2 ?c3 ?c4 ?c5 ?_)
  case c0 => rw [List.length_map, HL.out]
  case c1 => exact ints_news (ao := some ⟨g, o, none⟩) (cap := cap) (by rw [HL.out]; exact HVa.out) _ rfl
  case c2 => exact map_one l
  case c3 => unfold maxLen; omega
  case c4 => omega
  case c5 => rw [size_alloc]; omega
  intro v' w5 hown5 hgrow5 _
  have HR5 : Hid (IRow w5 w.heap.size v' l) := by
    show World.ownsRow _ _ _ _ _ _ _
    rw [HL.out]; exact hown5
  have HB5 : Hid (Below w.heap.size w w5) := (below_alloc w (.cells #[] 3)).grown hgrow5 (by rw [size_alloc]; omega) (fun j e => by cases e; exact Nat.le_refl _)
  clear hown5 hgrow5 hi hz0 hz1 hz2
  go_wp2_with fail
  go_ret
  exact ⟨_, rfl, HR5.out, HB5.out⟩
theorem paramsV_no {w0 : World} {b0 : Nat} {w : World} {a : Ad} (h : Bt w0 b0 w a) : Calls Tryz.prog 8 #[pt a.B] w fun e w' => ∃ u, e = .returned u ∧ IRow w' w.heap.size u dfl ∧ Below w.heap.size w w' := by
  have c0 := h.at 1 (.slice (some ⟨a.Vg, 0, none⟩) 24 a.vc) (by omega) rfl
  have HV : Hid (Ints w (.slice (some ⟨a.Vg, 0, none⟩) 24 a.vc) dfl) := hide (h.Vg.ints a.vc)
  clear h
  go_enter Tryz.func8, Tryz.ntmps8
  go_wp2_with fail
  refine (iclone_any dfl rfl _ _ HV.out).mono ?_
  rintro e w1 ⟨u, rfl, hR, hb⟩
  have HR := hide hR
  have HB := hide hb
  clear hR hb HV c0
  go_wp2_with fail
  go_ret
  exact ⟨_, rfl, HR.out, HB.out⟩
theorem itclone_nil (w : World) : Calls Tryz.prog 31 #[.slice none 0 0] w fun e w' => e = .returned (.slice none 0 0) ∧ w' = w := by
  have hn : ∀ w, (binOp .eql 50 (.slice none 0 0) (.slice none 0 0)).run Tryz.prog w = .ok (.bool true) w := fun w => by kernel_rfl
  go_enter Tryz.func31, Tryz.ntmps31
  go_wp2_with fail
  go_ret
  exact ⟨rfl, rfl⟩
theorem ptclone_nil (w : World) : Calls Tryz.prog 13 #[.slice none 0 0] w fun e w' => e = .returned (.slice none 0 0) ∧ w' = w := by
  have hn : ∀ w, (binOp .eql 32 (.slice none 0 0) (.slice none 0 0)).run Tryz.prog w = .ok (.bool true) w := fun w => by kernel_rfl
  go_enter Tryz.func13, Tryz.ntmps13
  go_wp2_with fail
  go_ret
  exact ⟨rfl, rfl⟩
theorem missionV_no {w0 : World} {b0 : Nat} {w : World} {a : Ad} (h : Bt w0 b0 w a) : Calls Tryz.prog 9 #[pt a.B] w fun e w' => e = .returned (.slice none 0 0) ∧ w' = w := by
  have c0 := h.at 9 (.slice none 0 0) (by omega) rfl
  clear h
  go_enter Tryz.func9, Tryz.ntmps9
  go_wp2_with fail
  refine (itclone_nil _).mono ?_
  rintro e w1 ⟨rfl, hw⟩
  obtain rfl := hw.symm
  clear hw
  go_wp2_with fail
  go_ret
  exact ⟨rfl, rfl⟩
abbrev feN : Array Value := #[.slice none 0 0, .int .i64 0, .int .i64 0, .slice none 0 0]
theorem fenceV_no {w0 : World} {b0 : Nat} {w : World} {a : Ad} (h : Bt w0 b0 w a) : Calls Tryz.prog 5 #[pt a.B] w fun e w' => e = .returned (.tuple #[.agg feN, .bool false]) ∧ Below w.heap.size w w' := by
  have hb1 := below_alloc w (.cells feN 34)
  have HZ0 := hide (Blk.new w feN 34)
  have H1 := hide (h.after hb1)
  have HB0 := hide hb1
  clear hb1 h
  go_enter Tryz.func5, Tryz.ntmps5
  go_upto_region 3 with fail
  generalize w.alloc (.cells feN 34) = w1 at *
  have c10 := H1.out.at 10 (.slice none 0 0) (by omega) rfl
  have c11 := H1.out.at 11 (.int .i64 0) (by omega) rfl
  have c12 := H1.out.at 12 (.int .i64 0) (by omega) rfl
  have c13 := H1.out.at 13 (.slice none 0 0) (by omega) rfl
  have hb2 := below_alloc w1 (.cells feN 34)
  have HT := hide (Blk.new w1 feN 34)
  have H2 := hide (H1.out.after hb2)
  have HZ2 := hide (HZ0.out.after hb2)
  have HB2 := hide (below_two HB0.out hb2)
  clear hb2 H1 HZ0 HB0
  go_upto_region 4 with fail
  clear c10 c11 c12 c13
  generalize w1.alloc (.cells feN 34) = w2 at *
  generalize w1.heap.size = g at *
  have c0 : w2.cell? ⟨g, 0, none⟩ = some (.slice none 0 0) := HT.out.cell 0 rfl
  have c3 : w2.cell? ⟨g, 3, none⟩ = some (.slice none 0 0) := HT.out.cell 3 rfl
  have f0 := HT.out.frozen 0
  have f3 := HT.out.frozen 3
  have q0 : w2.setCell ⟨g, 0, none⟩ (.slice none 0 0) = w2 := HT.out.same (k := 0) rfl
  have q3 : w2.setCell ⟨g, 3, none⟩ (.slice none 0 0) = w2 := HT.out.same (k := 3) rfl
  have qd0 : ∀ n, (w2.drewN n).setCell ⟨g, 0, none⟩ (.slice none 0 0) = w2.drewN n := fun n => (HT.out.after (below_drewN (Below.refl _ _) n)).same (k := 0) rfl
  go_cut [15] (fun v wx => v = .slice none 0 0 ∧ wx = w2.drew)
  case first =>
    go_region_with (first
      | (go_at_call 13; refine (ptclone_nil _).mono ?_; rintro e w3 ⟨rfl, rfl⟩))
    all_goals go_simp
    all_goals (try go_wp2_with fail)
    all_goals go_meet
    all_goals exact ⟨rfl, rfl⟩
  case rest =>
    obtain ⟨rfl, rfl⟩ := hcut
    have H4 := hide H2.out.drew
    have HT4 := hide (HT.out.after (Below.refl _ _).drew)
    have HZ4 := hide (HZ2.out.after (Below.refl _ _).drew)
    have HB4 := hide (below_two HB2.out (Below.refl _ _).drew)
    clear c0 c3 f0 f3 q0 q3 qd0 H2 HT HZ2 HB2
    generalize w2.drew = w4 at *
    have d := H4.out.at 14 (.bool false) (by omega) rfl
    have t0 := HT4.out.cell 0 (v := .slice none 0 0) rfl
    have t1 := HT4.out.cell 1 (v := .int .i64 0) rfl
    have t2 := HT4.out.cell 2 (v := .int .i64 0) rfl
    have t3 := HT4.out.cell 3 (v := .slice none 0 0) rfl
    have z0 := HZ4.out.cell 0 (v := .slice none 0 0) rfl
    have z1 := HZ4.out.cell 1 (v := .int .i64 0) rfl
    have z2 := HZ4.out.cell 2 (v := .int .i64 0) rfl
    have z3 := HZ4.out.cell 3 (v := .slice none 0 0) rfl
    have f0 := HZ4.out.frozen 0
    have f1 := HZ4.out.frozen 1
    have f2 := HZ4.out.frozen 2
    have f3 := HZ4.out.frozen 3
    have q0 := HZ4.out.same (k := 0) (v := .slice none 0 0) rfl
    have q1 := HZ4.out.same (k := 1) (v := .int .i64 0) rfl
    have q2 := HZ4.out.same (k := 2) (v := .int .i64 0) rfl
    have q3 := HZ4.out.same (k := 3) (v := .slice none 0 0) rfl
    go_upto_region 5 with fail
    go_region
    go_simp
    go_wp2_with fail
    refine bodyPost_ret (res_back2 Tryz.results5 Tryz.underlying34 (by kernel_rfl) _ _ w.heap.size (.bool false) rfl rfl (HZ4.out.after (Below.refl _ _).drew)) rfl ?_
    exact ⟨rfl, below_two HB4.out (Below.refl _ _).drew⟩
end Go.Proofs.YtapfaaaepnplcaaGreatDoor
