/- Qpe. -/
import Derived.Test.YtapfaaaepnplcaaGreatDoorG29
import Derived.Laws.CopyOwn
set_option maxRecDepth 100000
set_option maxHeartbeats 8000000
namespace Go.Proofs.YtapfaaaepnplcaaGreatDoor
open Go.RowKit Go.Great
abbrev evA : Array Value := #[.bool false, .bool true, .bool true, .bool false, .bool false, .bool false, .bool false, .bool false, .bool false, .bool false, .bool false, .bool false, .bool false, .bool false, .bool false, .bool false, .bool false, .bool true]
abbrev ev0 : Array Value := #[.bool false, .bool false, .bool false, .bool false, .bool false, .bool false, .bool false, .bool false, .bool false, .bool false, .bool false, .bool false, .bool false, .bool false, .bool false, .bool false, .bool false, .bool false]
def evB (j : Nat) : Bool := j == 1 || j == 2 || j == 17
def eviP (j : Nat) : Int := if j ≤ 1 then 0 else if j ≤ 2 then 2 else if j ≤ 17 then 6 else 131078
theorem ev_ix (j : Nat) (h : j < 18) (w : World) : (Instr.index 366 (.agg evA) (.int .i64 (j : Int))).run Tryz.prog w = .ok (.bool (evB j)) w := by
  obtain rfl | rfl | rfl | rfl | rfl | rfl | rfl | rfl | rfl | rfl | rfl | rfl | rfl | rfl | rfl | rfl | rfl | rfl : j = 0 ∨ j = 1 ∨ j = 2 ∨ j = 3 ∨ j = 4 ∨ j = 5 ∨ j = 6 ∨ j = 7 ∨ j = 8 ∨ j = 9 ∨ j = 10 ∨ j = 11 ∨ j = 12 ∨ j = 13 ∨ j = 14 ∨ j = 15 ∨ j = 16 ∨ j = 17 := by omega
  all_goals kernel_rfl
theorem events_no {w0 : World} {b0 : Nat} {w : World} {a : Ad} (h : Bt w0 b0 w a) (hle : a.le = 0) (hsi : a.si = 0) : Calls Tryz.prog 127 #[pt a.B] w fun e w' => e = .returned (.int .i64 131078) ∧ Bt w0 b0 w' { a with le := 1, si := 1 } := by
  have CP : Hid (∀ W, Bt w0 b0 W { a with le := 1, si := 1 } → Calls Tryz.prog 204 #[.pointer (some ⟨a.B, 15, none⟩)] W fun e w' => e = .returned (.bool false) ∧ Below W.heap.size W w') := hide (fun W h => by
    have := placed_no h
    exact this)
  have CR : Hid (∀ W, Bt w0 b0 W { a with le := 1, si := 1 } → Calls Tryz.prog 219 #[pt a.B] W fun e w' => e = .returned (.bool false) ∧ Below W.heap.size W w') := hide (fun W h => by
    have := arrived_no h
    exact this)
  have CW : Hid (∀ W, Bt w0 b0 W { a with le := 1, si := 1 } → Calls Tryz.prog 220 #[pt a.B] W fun e w' => e = .returned (.int .i64 0) ∧ w' = W) := hide (fun W h => by
    have := soundWishes_no h
    exact this)
  have CG : Hid (∀ W, Bt w0 b0 W { a with le := 1, si := 1 } → Calls Tryz.prog 221 #[.pointer (some ⟨a.B, 126, none⟩)] W fun e w' => e = .returned (.int .i64 0) ∧ w' = W) := hide (fun W h => by
    have := goalWish_no h
    exact this)
  have HH := hide h
  have HL := hide hle
  have HS := hide hsi
  clear h hle hsi
  go_enter Tryz.func127, Tryz.ntmps127
  go_upto_region 1 with fail
  have a0 : ∀ x : BelowW w, x.q.cell? ⟨a.B, 138, none⟩ = some (.int .i64 0) := fun x => (HH.out.after x.h).at 138 _ (by omega) rfl
  have a1 : ∀ x : BelowW w, x.q.cell? ⟨a.B, 139, none⟩ = some (.int .i64 0) := fun x => (HH.out.after x.h).at 139 _ (by omega) rfl
  have a2 : ∀ x : BelowW w, x.q.cell? ⟨a.B, 140, none⟩ = some (.int .i64 0) := fun x => (HH.out.after x.h).at 140 _ (by omega) rfl
  have hne : Nonempty (BelowW w) := ⟨⟨w, Below.refl _ _⟩⟩
  refine wp_region_calm (by kernel_rfl) (by kernel_rfl) ?_
  repeat (go_big_quiet_step (first
    | (go_at_call 216; exact calm_of (tier_no (HH.out.after (BelowW.h _))))))
  refine wpQuiet_nil ?_
  rintro _ ⟨x, rfl⟩
  have H2 := hide (HH.out.after x.h)
  clear a0 a1 a2 hne HH
  obtain ⟨w2, hx⟩ := x
  go_simp
  have c : w2.cell? ⟨a.B, 133, none⟩ = some (.int .i64 0) := H2.out.at 133 _ (by omega) (show Value.int .i64 a.le = _ by rw [HL.out])
  have f := H2.out.fz 133
  go_wp2_with fail
  refine (streak_yes _).mono ?_
  rintro e w3 ⟨rfl, hw⟩
  obtain rfl := hw.symm
  clear hw
  have H3 := hide (H2.out.put 133 (.int .i64 1) 1 a.si a.out a.sq (by kernel_rfl))
  clear H2
  go_upto_region 3 with fail
  generalize w2.setCell ⟨a.B, 133, none⟩ (.int .i64 1) = w4 at *
  have a0 : ∀ x : BelowW w4, x.q.cell? ⟨a.B, 134, none⟩ = some (.int .i64 0) := fun x => (H3.out.after x.h).at 134 _ (by omega) (show Value.int .i64 a.si = _ by rw [HS.out])
  have hne : Nonempty (BelowW w4) := ⟨⟨w4, Below.refl _ _⟩⟩
  have U : ∀ x : BelowW w4, Calls Tryz.prog 218 #[pt a.B] x.q fun e w' => e = .returned (.bool true) ∧ Below x.q.heap.size x.q w' := fun x => by
    have := unheard_no (H3.out.after x.h)
    exact this
  refine reg_last_calm 12 rfl rfl _ rfl (by kernel_rfl) (by kernel_rfl) (by kernel_rfl) ?_
  simp only [List.take_succ_cons, List.take_zero]
  repeat (go_big_quiet_step (first
    | (go_at_call 218; exact calm_of (U _))
    | (go_at_call 217; exact calm_same (streak_yes _))))
  refine wpQuiet_nil ?_
  rintro _ ⟨x, rfl⟩
  have H4 := hide (H3.out.after x.h)
  clear a0 hne U H3 c f hx
  obtain ⟨w5, hx⟩ := x
  have c : w5.cell? ⟨a.B, 134, none⟩ = some (.int .i64 0) := H4.out.at 134 _ (by omega) (show Value.int .i64 a.si = _ by rw [HS.out])
  have f : w5.frozen? ⟨a.B, 134, none⟩ = false := H4.out.fz 134
  have H6 : Hid (Bt w0 b0 (w5.setCell ⟨a.B, 134, none⟩ (.int .i64 1)) { a with le := 1, si := 1 }) := hide (H4.out.put 134 (.int .i64 1) 1 1 a.out a.sq (by kernel_rfl))
  clear H4
  go_simp
  go_upto_region 4 with fail
  clear c f
  generalize w5.setCell ⟨a.B, 134, none⟩ (.int .i64 1) = w6 at *
  have HK := hide H6.out
  go_cut [4] (fun v wx => ∃ g, v = .pointer (some ⟨g, 0, none⟩) ∧ w6.heap.size ≤ g ∧ Blk wx g evA 366 ∧ Below w6.heap.size w6 wx)
  case first =>
    refine reg_last_held (fun wx => wx.cell? ⟨a.B, 145, none⟩ = some (.bool false) ∧ wx.cell? ⟨a.B, 147, none⟩ = some (.bool false) ∧ wx.cell? ⟨a.B, 133, none⟩ = some (.int .i64 1) ∧ wx.cell? ⟨a.B, 134, none⟩ = some (.int .i64 1) ∧ wx.cell? ⟨a.B, 132, none⟩ = some (.bool false)) 44 rfl rfl _ rfl (by kernel_rfl) (by kernel_rfl) (⟨H6.out.at 145 _ (by omega) rfl, H6.out.at 147 _ (by omega) rfl, H6.out.at 133 _ (by omega) rfl, H6.out.at 134 _ (by omega) rfl, H6.out.at 132 _ (by omega) rfl⟩) (fun hHeld => ?_)
    simp only [List.take_succ_cons, List.take_zero]
    replace H6 := hide (H6.out.drew)
    have HB : Hid (Below w6.heap.size w6 w6.drew) := hide (Below.refl _ _).drew
    generalize w6.drew = Wd at *
    refine take_at (i := 0) (v := pt a.B) (d := some 41) rfl rfl (by kernel_rfl) (by kernel_rfl) (by kernel_rfl) (fun _ _ _ h => h) (Or.inl ⟨by rfl, fun wS ⟨hS0, hS1, hS2, hS3, hS4⟩ => by go_simp; all_goals (rw [IntKind.wrap_i64]; omega)⟩) (by assumption) ?_
    simp only [Act.put, List.setIfInBounds_toArray, List.set_cons_zero, List.set_cons_succ]
    refine take_at (i := 1) (v := pt a.B) (d := some 42) rfl rfl (by kernel_rfl) (by kernel_rfl) (by kernel_rfl) (fun _ _ _ h => h) (Or.inl ⟨by rfl, fun wS ⟨hS0, hS1, hS2, hS3, hS4⟩ => by go_simp; all_goals (rw [IntKind.wrap_i64]; omega)⟩) (by assumption) ?_
    simp only [Act.put, List.setIfInBounds_toArray, List.set_cons_zero, List.set_cons_succ]
    refine take_at (i := 2) (v := .pointer (some ⟨a.B, 126, none⟩)) (d := some 43) rfl rfl (by kernel_rfl) (by kernel_rfl) (by kernel_rfl) (fun _ _ _ h => h) (Or.inl ⟨by rfl, fun wS ⟨hS0, hS1, hS2, hS3, hS4⟩ => by go_simp; all_goals (rw [IntKind.wrap_i64]; omega)⟩) (by assumption) ?_
    simp only [Act.put, List.setIfInBounds_toArray, List.set_cons_zero, List.set_cons_succ]
    refine take_at (i := 3) (v := .pointer (some ⟨a.B, 145, none⟩)) (d := some 44) rfl rfl (by kernel_rfl) (by kernel_rfl) (by kernel_rfl) (fun _ _ _ h => h) (Or.inl ⟨by rfl, fun wS ⟨hS0, hS1, hS2, hS3, hS4⟩ => by go_simp; all_goals (rw [IntKind.wrap_i64]; omega)⟩) (by assumption) ?_
    simp only [Act.put, List.setIfInBounds_toArray, List.set_cons_zero, List.set_cons_succ]
    refine take_at (i := 4) (v := .bool false) (d := some 45) rfl rfl (by kernel_rfl) (by kernel_rfl) (by kernel_rfl) (fun _ _ _ h => h) (Or.inl ⟨by rfl, fun wS ⟨hS0, hS1, hS2, hS3, hS4⟩ => by go_simp; all_goals (rw [IntKind.wrap_i64]; omega)⟩) (by assumption) ?_
    simp only [Act.put, List.setIfInBounds_toArray, List.set_cons_zero, List.set_cons_succ]
    refine take_at (i := 5) (v := pt a.B) (d := some 46) rfl rfl (by kernel_rfl) (by kernel_rfl) (by kernel_rfl) (fun _ _ _ h => h) (Or.inl ⟨by rfl, fun wS ⟨hS0, hS1, hS2, hS3, hS4⟩ => by go_simp; all_goals (rw [IntKind.wrap_i64]; omega)⟩) (by assumption) ?_
    simp only [Act.put, List.setIfInBounds_toArray, List.set_cons_zero, List.set_cons_succ]
    refine take_at (i := 6) (v := pt a.B) (d := some 47) rfl rfl (by kernel_rfl) (by kernel_rfl) (by kernel_rfl) (fun _ _ _ h => h) (Or.inl ⟨by rfl, fun wS ⟨hS0, hS1, hS2, hS3, hS4⟩ => by go_simp; all_goals (rw [IntKind.wrap_i64]; omega)⟩) (by assumption) ?_
    simp only [Act.put, List.setIfInBounds_toArray, List.set_cons_zero, List.set_cons_succ]
    refine take_at (i := 7) (v := .pointer (some ⟨a.B, 15, none⟩)) (d := some 48) rfl rfl (by kernel_rfl) (by kernel_rfl) (by kernel_rfl) (fun _ _ _ h => h) (Or.inl ⟨by rfl, fun wS ⟨hS0, hS1, hS2, hS3, hS4⟩ => by go_simp; all_goals (rw [IntKind.wrap_i64]; omega)⟩) (by assumption) ?_
    simp only [Act.put, List.setIfInBounds_toArray, List.set_cons_zero, List.set_cons_succ]
    refine take_at (i := 10) (v := .int .u8 2) (d := some 51) rfl rfl (by kernel_rfl) (by kernel_rfl) (by kernel_rfl) (fun _ _ _ h => h) (Or.inl ⟨by rfl, fun wS ⟨hS0, hS1, hS2, hS3, hS4⟩ => by go_simp; all_goals (rw [IntKind.wrap_i64]; omega)⟩) (by assumption) ?_
    simp only [Act.put, List.setIfInBounds_toArray, List.set_cons_zero, List.set_cons_succ]
    refine take_at (i := 11) (v := .bool true) (d := some 52) rfl rfl (by kernel_rfl) (by kernel_rfl) (by kernel_rfl) (fun _ _ _ h => h) (Or.inl ⟨by rfl, fun wS ⟨hS0, hS1, hS2, hS3, hS4⟩ => by go_simp; all_goals (rw [IntKind.wrap_i64]; omega)⟩) (by assumption) ?_
    simp only [Act.put, List.setIfInBounds_toArray, List.set_cons_zero, List.set_cons_succ]
    refine take_at (i := 12) (v := pt a.B) (d := some 53) rfl rfl (by kernel_rfl) (by kernel_rfl) (by kernel_rfl) (fun _ _ _ h => h) (Or.inl ⟨by rfl, fun wS ⟨hS0, hS1, hS2, hS3, hS4⟩ => by go_simp; all_goals (rw [IntKind.wrap_i64]; omega)⟩) (by assumption) ?_
    simp only [Act.put, List.setIfInBounds_toArray, List.set_cons_zero, List.set_cons_succ]
    refine take_at (i := 13) (v := pt a.B) (d := some 54) rfl rfl (by kernel_rfl) (by kernel_rfl) (by kernel_rfl) (fun _ _ _ h => h) (Or.inl ⟨by rfl, fun wS ⟨hS0, hS1, hS2, hS3, hS4⟩ => by go_simp; all_goals (rw [IntKind.wrap_i64]; omega)⟩) (by assumption) ?_
    simp only [Act.put, List.setIfInBounds_toArray, List.set_cons_zero, List.set_cons_succ]
    refine take_at (i := 14) (v := .pointer (some ⟨a.B, 126, none⟩)) (d := some 55) rfl rfl (by kernel_rfl) (by kernel_rfl) (by kernel_rfl) (fun _ _ _ h => h) (Or.inl ⟨by rfl, fun wS ⟨hS0, hS1, hS2, hS3, hS4⟩ => by go_simp; all_goals (rw [IntKind.wrap_i64]; omega)⟩) (by assumption) ?_
    simp only [Act.put, List.setIfInBounds_toArray, List.set_cons_zero, List.set_cons_succ]
    refine take_at (i := 15) (v := .pointer (some ⟨a.B, 147, none⟩)) (d := some 56) rfl rfl (by kernel_rfl) (by kernel_rfl) (by kernel_rfl) (fun _ _ _ h => h) (Or.inl ⟨by rfl, fun wS ⟨hS0, hS1, hS2, hS3, hS4⟩ => by go_simp; all_goals (rw [IntKind.wrap_i64]; omega)⟩) (by assumption) ?_
    simp only [Act.put, List.setIfInBounds_toArray, List.set_cons_zero, List.set_cons_succ]
    refine take_at (i := 16) (v := .bool false) (d := some 57) rfl rfl (by kernel_rfl) (by kernel_rfl) (by kernel_rfl) (fun _ _ _ h => h) (Or.inl ⟨by rfl, fun wS ⟨hS0, hS1, hS2, hS3, hS4⟩ => by go_simp; all_goals (rw [IntKind.wrap_i64]; omega)⟩) (by assumption) ?_
    simp only [Act.put, List.setIfInBounds_toArray, List.set_cons_zero, List.set_cons_succ]
    refine take_at (i := 17) (v := pt a.B) (d := some 58) rfl rfl (by kernel_rfl) (by kernel_rfl) (by kernel_rfl) (fun _ _ _ h => h) (Or.inl ⟨by rfl, fun wS ⟨hS0, hS1, hS2, hS3, hS4⟩ => by go_simp; all_goals (rw [IntKind.wrap_i64]; omega)⟩) (by assumption) ?_
    simp only [Act.put, List.setIfInBounds_toArray, List.set_cons_zero, List.set_cons_succ]
    refine take_at (i := 18) (v := pt a.B) (d := some 59) rfl rfl (by kernel_rfl) (by kernel_rfl) (by kernel_rfl) (fun _ _ _ h => h) (Or.inl ⟨by rfl, fun wS ⟨hS0, hS1, hS2, hS3, hS4⟩ => by go_simp; all_goals (rw [IntKind.wrap_i64]; omega)⟩) (by assumption) ?_
    simp only [Act.put, List.setIfInBounds_toArray, List.set_cons_zero, List.set_cons_succ]
    refine take_at (i := 19) (v := .pointer (some ⟨a.B, 126, none⟩)) (d := some 60) rfl rfl (by kernel_rfl) (by kernel_rfl) (by kernel_rfl) (fun _ _ _ h => h) (Or.inl ⟨by rfl, fun wS ⟨hS0, hS1, hS2, hS3, hS4⟩ => by go_simp; all_goals (rw [IntKind.wrap_i64]; omega)⟩) (by assumption) ?_
    simp only [Act.put, List.setIfInBounds_toArray, List.set_cons_zero, List.set_cons_succ]
    refine take_at (i := 20) (v := .pointer (some ⟨a.B, 133, none⟩)) (d := some 61) rfl rfl (by kernel_rfl) (by kernel_rfl) (by kernel_rfl) (fun _ _ _ h => h) (Or.inl ⟨by rfl, fun wS ⟨hS0, hS1, hS2, hS3, hS4⟩ => by go_simp; all_goals (rw [IntKind.wrap_i64]; omega)⟩) (by assumption) ?_
    simp only [Act.put, List.setIfInBounds_toArray, List.set_cons_zero, List.set_cons_succ]
    refine take_at (i := 21) (v := .int .i64 1) (d := some 62) rfl rfl (by kernel_rfl) (by kernel_rfl) (by kernel_rfl) (fun _ _ _ h => h) (Or.inl ⟨by rfl, fun wS ⟨hS0, hS1, hS2, hS3, hS4⟩ => by go_simp; all_goals (rw [IntKind.wrap_i64]; omega)⟩) (by assumption) ?_
    simp only [Act.put, List.setIfInBounds_toArray, List.set_cons_zero, List.set_cons_succ]
    refine take_at (i := 22) (v := .bool false) (d := some 63) rfl rfl (by kernel_rfl) (by kernel_rfl) (by kernel_rfl) (fun _ _ _ h => h) (Or.inl ⟨by rfl, fun wS ⟨hS0, hS1, hS2, hS3, hS4⟩ => by go_simp; all_goals (rw [IntKind.wrap_i64]; omega)⟩) (by assumption) ?_
    simp only [Act.put, List.setIfInBounds_toArray, List.set_cons_zero, List.set_cons_succ]
    refine take_at (i := 23) (v := pt a.B) (d := some 64) rfl rfl (by kernel_rfl) (by kernel_rfl) (by kernel_rfl) (fun _ _ _ h => h) (Or.inl ⟨by rfl, fun wS ⟨hS0, hS1, hS2, hS3, hS4⟩ => by go_simp; all_goals (rw [IntKind.wrap_i64]; omega)⟩) (by assumption) ?_
    simp only [Act.put, List.setIfInBounds_toArray, List.set_cons_zero, List.set_cons_succ]
    refine take_at (i := 24) (v := pt a.B) (d := some 65) rfl rfl (by kernel_rfl) (by kernel_rfl) (by kernel_rfl) (fun _ _ _ h => h) (Or.inl ⟨by rfl, fun wS ⟨hS0, hS1, hS2, hS3, hS4⟩ => by go_simp; all_goals (rw [IntKind.wrap_i64]; omega)⟩) (by assumption) ?_
    simp only [Act.put, List.setIfInBounds_toArray, List.set_cons_zero, List.set_cons_succ]
    refine take_at (i := 25) (v := .pointer (some ⟨a.B, 126, none⟩)) (d := some 66) rfl rfl (by kernel_rfl) (by kernel_rfl) (by kernel_rfl) (fun _ _ _ h => h) (Or.inl ⟨by rfl, fun wS ⟨hS0, hS1, hS2, hS3, hS4⟩ => by go_simp; all_goals (rw [IntKind.wrap_i64]; omega)⟩) (by assumption) ?_
    simp only [Act.put, List.setIfInBounds_toArray, List.set_cons_zero, List.set_cons_succ]
    refine take_at (i := 26) (v := .pointer (some ⟨a.B, 134, none⟩)) (d := some 67) rfl rfl (by kernel_rfl) (by kernel_rfl) (by kernel_rfl) (fun _ _ _ h => h) (Or.inl ⟨by rfl, fun wS ⟨hS0, hS1, hS2, hS3, hS4⟩ => by go_simp; all_goals (rw [IntKind.wrap_i64]; omega)⟩) (by assumption) ?_
    simp only [Act.put, List.setIfInBounds_toArray, List.set_cons_zero, List.set_cons_succ]
    refine take_at (i := 27) (v := .int .i64 1) (d := some 68) rfl rfl (by kernel_rfl) (by kernel_rfl) (by kernel_rfl) (fun _ _ _ h => h) (Or.inl ⟨by rfl, fun wS ⟨hS0, hS1, hS2, hS3, hS4⟩ => by go_simp; all_goals (rw [IntKind.wrap_i64]; omega)⟩) (by assumption) ?_
    simp only [Act.put, List.setIfInBounds_toArray, List.set_cons_zero, List.set_cons_succ]
    refine take_at (i := 28) (v := .bool false) (d := some 69) rfl rfl (by kernel_rfl) (by kernel_rfl) (by kernel_rfl) (fun _ _ _ h => h) (Or.inl ⟨by rfl, fun wS ⟨hS0, hS1, hS2, hS3, hS4⟩ => by go_simp; all_goals (rw [IntKind.wrap_i64]; omega)⟩) (by assumption) ?_
    simp only [Act.put, List.setIfInBounds_toArray, List.set_cons_zero, List.set_cons_succ]
    refine take_at (i := 29) (v := pt a.B) (d := some 70) rfl rfl (by kernel_rfl) (by kernel_rfl) (by kernel_rfl) (fun _ _ _ h => h) (Or.inl ⟨by rfl, fun wS ⟨hS0, hS1, hS2, hS3, hS4⟩ => by go_simp; all_goals (rw [IntKind.wrap_i64]; omega)⟩) (by assumption) ?_
    simp only [Act.put, List.setIfInBounds_toArray, List.set_cons_zero, List.set_cons_succ]
    refine take_at (i := 31) (v := pt a.B) (d := some 72) rfl rfl (by kernel_rfl) (by kernel_rfl) (by kernel_rfl) (fun _ _ _ h => h) (Or.inl ⟨by rfl, fun wS ⟨hS0, hS1, hS2, hS3, hS4⟩ => by go_simp; all_goals (rw [IntKind.wrap_i64]; omega)⟩) (by assumption) ?_
    simp only [Act.put, List.setIfInBounds_toArray, List.set_cons_zero, List.set_cons_succ]
    refine take_at (i := 32) (v := pt a.B) (d := some 73) rfl rfl (by kernel_rfl) (by kernel_rfl) (by kernel_rfl) (fun _ _ _ h => h) (Or.inl ⟨by rfl, fun wS ⟨hS0, hS1, hS2, hS3, hS4⟩ => by go_simp; all_goals (rw [IntKind.wrap_i64]; omega)⟩) (by assumption) ?_
    simp only [Act.put, List.setIfInBounds_toArray, List.set_cons_zero, List.set_cons_succ]
    refine take_at (i := 33) (v := .pointer (some ⟨a.B, 126, none⟩)) (d := some 74) rfl rfl (by kernel_rfl) (by kernel_rfl) (by kernel_rfl) (fun _ _ _ h => h) (Or.inl ⟨by rfl, fun wS ⟨hS0, hS1, hS2, hS3, hS4⟩ => by go_simp; all_goals (rw [IntKind.wrap_i64]; omega)⟩) (by assumption) ?_
    simp only [Act.put, List.setIfInBounds_toArray, List.set_cons_zero, List.set_cons_succ]
    refine take_at (i := 34) (v := .pointer (some ⟨a.B, 132, none⟩)) (d := some 75) rfl rfl (by kernel_rfl) (by kernel_rfl) (by kernel_rfl) (fun _ _ _ h => h) (Or.inl ⟨by rfl, fun wS ⟨hS0, hS1, hS2, hS3, hS4⟩ => by go_simp; all_goals (rw [IntKind.wrap_i64]; omega)⟩) (by assumption) ?_
    simp only [Act.put, List.setIfInBounds_toArray, List.set_cons_zero, List.set_cons_succ]
    refine take_at (i := 35) (v := .bool false) (d := some 76) rfl rfl (by kernel_rfl) (by kernel_rfl) (by kernel_rfl) (fun _ _ _ h => h) (Or.inl ⟨by rfl, fun wS ⟨hS0, hS1, hS2, hS3, hS4⟩ => by go_simp; all_goals (rw [IntKind.wrap_i64]; omega)⟩) (by assumption) ?_
    simp only [Act.put, List.setIfInBounds_toArray, List.set_cons_zero, List.set_cons_succ]
    refine take_at (i := 36) (v := pt a.B) (d := some 77) rfl rfl (by kernel_rfl) (by kernel_rfl) (by kernel_rfl) (fun _ _ _ h => h) (Or.inl ⟨by rfl, fun wS ⟨hS0, hS1, hS2, hS3, hS4⟩ => by go_simp; all_goals (rw [IntKind.wrap_i64]; omega)⟩) (by assumption) ?_
    simp only [Act.put, List.setIfInBounds_toArray, List.set_cons_zero, List.set_cons_succ]
    refine take_at (i := 37) (v := pt a.B) (d := some 78) rfl rfl (by kernel_rfl) (by kernel_rfl) (by kernel_rfl) (fun _ _ _ h => h) (Or.inl ⟨by rfl, fun wS ⟨hS0, hS1, hS2, hS3, hS4⟩ => by go_simp; all_goals (rw [IntKind.wrap_i64]; omega)⟩) (by assumption) ?_
    simp only [Act.put, List.setIfInBounds_toArray, List.set_cons_zero, List.set_cons_succ]
    refine take_at (i := 38) (v := .pointer (some ⟨a.B, 126, none⟩)) (d := some 79) rfl rfl (by kernel_rfl) (by kernel_rfl) (by kernel_rfl) (fun _ _ _ h => h) (Or.inl ⟨by rfl, fun wS ⟨hS0, hS1, hS2, hS3, hS4⟩ => by go_simp; all_goals (rw [IntKind.wrap_i64]; omega)⟩) (by assumption) ?_
    simp only [Act.put, List.setIfInBounds_toArray, List.set_cons_zero, List.set_cons_succ]
    refine take_at (i := 39) (v := .pointer (some ⟨a.B, 132, none⟩)) (d := some 80) rfl rfl (by kernel_rfl) (by kernel_rfl) (by kernel_rfl) (fun _ _ _ h => h) (Or.inl ⟨by rfl, fun wS ⟨hS0, hS1, hS2, hS3, hS4⟩ => by go_simp; all_goals (rw [IntKind.wrap_i64]; omega)⟩) (by assumption) ?_
    simp only [Act.put, List.setIfInBounds_toArray, List.set_cons_zero, List.set_cons_succ]
    refine take_at (i := 40) (v := .bool false) (d := some 81) rfl rfl (by kernel_rfl) (by kernel_rfl) (by kernel_rfl) (fun _ _ _ h => h) (Or.inl ⟨by rfl, fun wS ⟨hS0, hS1, hS2, hS3, hS4⟩ => by go_simp; all_goals (rw [IntKind.wrap_i64]; omega)⟩) (by assumption) ?_
    simp only [Act.put, List.setIfInBounds_toArray, List.set_cons_zero, List.set_cons_succ]
    refine take_at (i := 41) (v := .bool true) (d := some 82) rfl rfl (by kernel_rfl) (by kernel_rfl) (by kernel_rfl) (fun _ _ _ h => h) (Or.inl ⟨by rfl, fun wS ⟨hS0, hS1, hS2, hS3, hS4⟩ => by go_simp; all_goals (rw [IntKind.wrap_i64]; omega)⟩) (by assumption) ?_
    simp only [Act.put, List.setIfInBounds_toArray, List.set_cons_zero, List.set_cons_succ]
    clear hHeld
    refine wpAnyH_ready (rs := [8, 43]) (by kernel_rfl) (by simp) ?_
    refine AllReadyH.cons rfl (fun K hK => ?_) (AllReadyH.cons rfl (fun K hK => ?_) AllReadyH.nil)
    · go_simp
      refine (CP.out _ H6.out).mono ?_
      rintro e wt1 ⟨rfl, hb⟩
      replace H6 := hide (H6.out.after hb)
      replace HB := hide (below_next HB.out (Nat.le_refl _) hb)
      clear hb
      refine hK.out _ _ (⟨H6.out.at 145 _ (by omega) rfl, H6.out.at 147 _ (by omega) rfl, H6.out.at 133 _ (by omega) rfl, H6.out.at 134 _ (by omega) rfl, H6.out.at 132 _ (by omega) rfl⟩) (fun hHeld => ?_)
      clear hK K
      refine take_at (i := 9) (v := .bool true) (d := some 50) rfl rfl (by kernel_rfl) (by kernel_rfl) (by kernel_rfl) (fun _ _ _ h => h) (Or.inl ⟨by rfl, fun wS ⟨hS0, hS1, hS2, hS3, hS4⟩ => by go_simp; all_goals (rw [IntKind.wrap_i64]; omega)⟩) (by assumption) ?_
      simp only [Act.put, List.setIfInBounds_toArray, List.set_cons_zero, List.set_cons_succ]
      clear hHeld
      refine wpAnyH_ready (rs := [30, 43]) (by kernel_rfl) (by simp) ?_
      refine AllReadyH.cons rfl (fun K hK => ?_) (AllReadyH.cons rfl (fun K hK => ?_) AllReadyH.nil)
      · go_simp
        refine (CR.out _ H6.out).mono ?_
        rintro e wt2 ⟨rfl, hb⟩
        replace H6 := hide (H6.out.after hb)
        replace HB := hide (below_next HB.out (Nat.le_refl _) hb)
        clear hb
        refine hK.out _ _ (⟨H6.out.at 145 _ (by omega) rfl, H6.out.at 147 _ (by omega) rfl, H6.out.at 133 _ (by omega) rfl, H6.out.at 134 _ (by omega) rfl, H6.out.at 132 _ (by omega) rfl⟩) (fun hHeld => ?_)
        clear hK K
        refine take_at (i := 42) (v := .agg evA) (d := some 83) rfl rfl (by kernel_rfl) (by kernel_rfl) (by kernel_rfl) (fun _ _ _ h => h) (Or.inl ⟨by rfl, fun wS ⟨hS0, hS1, hS2, hS3, hS4⟩ => by go_simp; all_goals (rw [IntKind.wrap_i64]; omega)⟩) (by assumption) ?_
        simp only [Act.put, List.setIfInBounds_toArray, List.set_cons_zero, List.set_cons_succ]
        clear hHeld
        refine wpAnyH_ready (rs := [43]) (by kernel_rfl) (by simp) ?_
        refine AllReadyH.cons rfl (fun K hK => ?_) AllReadyH.nil
        go_simp
        have HZ := hide (Blk.new wt2 ev0 366)
        have hzb := HB.out.size
        replace H6 := hide (H6.out.after (below_alloc wt2 (.cells ev0 366)))
        replace HB := hide (below_next HB.out (Nat.le_refl _) (below_alloc wt2 (.cells ev0 366)))
        generalize wt2.heap.size = bz at *
        generalize wt2.alloc (.cells ev0 366) = wt3 at *
        refine hK.out _ _ (⟨H6.out.at 145 _ (by omega) rfl, H6.out.at 147 _ (by omega) rfl, H6.out.at 133 _ (by omega) rfl, H6.out.at 134 _ (by omega) rfl, H6.out.at 132 _ (by omega) rfl⟩) (fun hHeld => ?_)
        clear hK K
        clear hHeld
        refine wpAnyH_done (by kernel_rfl) (then_last ?_) _
        refine wp_store_row 366 _ _ rfl bz evA rfl rfl 366 ev0 HZ.out (by kernel_rfl) rfl (by kernel_rfl) ?_
        go_simp
        (try go_wp2_with fail)
        go_meet
        exact ⟨bz, rfl, hzb, setRow_heap _ _ _ _ _ _ HZ.out, below_setRow HB.out hzb _⟩
      · go_simp
        have HZ := hide (Blk.new wt1 ev0 366)
        have hzb := HB.out.size
        replace H6 := hide (H6.out.after (below_alloc wt1 (.cells ev0 366)))
        replace HB := hide (below_next HB.out (Nat.le_refl _) (below_alloc wt1 (.cells ev0 366)))
        generalize wt1.heap.size = bz at *
        generalize wt1.alloc (.cells ev0 366) = wt4 at *
        refine hK.out _ _ (⟨H6.out.at 145 _ (by omega) rfl, H6.out.at 147 _ (by omega) rfl, H6.out.at 133 _ (by omega) rfl, H6.out.at 134 _ (by omega) rfl, H6.out.at 132 _ (by omega) rfl⟩) (fun hHeld => ?_)
        clear hK K
        clear hHeld
        refine wpAnyH_ready (rs := [30]) (by kernel_rfl) (by simp) ?_
        refine AllReadyH.cons rfl (fun K hK => ?_) AllReadyH.nil
        go_simp
        refine (CR.out _ H6.out).mono ?_
        rintro e wt5 ⟨rfl, hb⟩
        replace H6 := hide (H6.out.after hb)
        replace HB := hide (below_next HB.out (Nat.le_refl _) hb)
        replace HZ := hide (HZ.out.after hb)
        clear hb
        refine hK.out _ _ (⟨H6.out.at 145 _ (by omega) rfl, H6.out.at 147 _ (by omega) rfl, H6.out.at 133 _ (by omega) rfl, H6.out.at 134 _ (by omega) rfl, H6.out.at 132 _ (by omega) rfl⟩) (fun hHeld => ?_)
        clear hK K
        refine take_at (i := 42) (v := .agg evA) (d := some 83) rfl rfl (by kernel_rfl) (by kernel_rfl) (by kernel_rfl) (fun _ _ _ h => h) (Or.inl ⟨by rfl, fun wS ⟨hS0, hS1, hS2, hS3, hS4⟩ => by go_simp; all_goals (rw [IntKind.wrap_i64]; omega)⟩) (by assumption) ?_
        simp only [Act.put, List.setIfInBounds_toArray, List.set_cons_zero, List.set_cons_succ]
        clear hHeld
        refine wpAnyH_done (by kernel_rfl) (then_last ?_) _
        refine wp_store_row 366 _ _ rfl bz evA rfl rfl 366 ev0 HZ.out (by kernel_rfl) rfl (by kernel_rfl) ?_
        go_simp
        (try go_wp2_with fail)
        go_meet
        exact ⟨bz, rfl, hzb, setRow_heap _ _ _ _ _ _ HZ.out, below_setRow HB.out hzb _⟩
    · go_simp
      have HZ := hide (Blk.new Wd ev0 366)
      have hzb := HB.out.size
      replace H6 := hide (H6.out.after (below_alloc Wd (.cells ev0 366)))
      replace HB := hide (below_next HB.out (Nat.le_refl _) (below_alloc Wd (.cells ev0 366)))
      generalize Wd.heap.size = bz at *
      generalize Wd.alloc (.cells ev0 366) = wt6 at *
      refine hK.out _ _ (⟨H6.out.at 145 _ (by omega) rfl, H6.out.at 147 _ (by omega) rfl, H6.out.at 133 _ (by omega) rfl, H6.out.at 134 _ (by omega) rfl, H6.out.at 132 _ (by omega) rfl⟩) (fun hHeld => ?_)
      clear hK K
      clear hHeld
      refine wpAnyH_ready (rs := [8]) (by kernel_rfl) (by simp) ?_
      refine AllReadyH.cons rfl (fun K hK => ?_) AllReadyH.nil
      go_simp
      refine (CP.out _ H6.out).mono ?_
      rintro e wt7 ⟨rfl, hb⟩
      replace H6 := hide (H6.out.after hb)
      replace HB := hide (below_next HB.out (Nat.le_refl _) hb)
      replace HZ := hide (HZ.out.after hb)
      clear hb
      refine hK.out _ _ (⟨H6.out.at 145 _ (by omega) rfl, H6.out.at 147 _ (by omega) rfl, H6.out.at 133 _ (by omega) rfl, H6.out.at 134 _ (by omega) rfl, H6.out.at 132 _ (by omega) rfl⟩) (fun hHeld => ?_)
      clear hK K
      refine take_at (i := 9) (v := .bool true) (d := some 50) rfl rfl (by kernel_rfl) (by kernel_rfl) (by kernel_rfl) (fun _ _ _ h => h) (Or.inl ⟨by rfl, fun wS ⟨hS0, hS1, hS2, hS3, hS4⟩ => by go_simp; all_goals (rw [IntKind.wrap_i64]; omega)⟩) (by assumption) ?_
      simp only [Act.put, List.setIfInBounds_toArray, List.set_cons_zero, List.set_cons_succ]
      clear hHeld
      refine wpAnyH_ready (rs := [30]) (by kernel_rfl) (by simp) ?_
      refine AllReadyH.cons rfl (fun K hK => ?_) AllReadyH.nil
      go_simp
      refine (CR.out _ H6.out).mono ?_
      rintro e wt8 ⟨rfl, hb⟩
      replace H6 := hide (H6.out.after hb)
      replace HB := hide (below_next HB.out (Nat.le_refl _) hb)
      replace HZ := hide (HZ.out.after hb)
      clear hb
      refine hK.out _ _ (⟨H6.out.at 145 _ (by omega) rfl, H6.out.at 147 _ (by omega) rfl, H6.out.at 133 _ (by omega) rfl, H6.out.at 134 _ (by omega) rfl, H6.out.at 132 _ (by omega) rfl⟩) (fun hHeld => ?_)
      clear hK K
      refine take_at (i := 42) (v := .agg evA) (d := some 83) rfl rfl (by kernel_rfl) (by kernel_rfl) (by kernel_rfl) (fun _ _ _ h => h) (Or.inl ⟨by rfl, fun wS ⟨hS0, hS1, hS2, hS3, hS4⟩ => by go_simp; all_goals (rw [IntKind.wrap_i64]; omega)⟩) (by assumption) ?_
      simp only [Act.put, List.setIfInBounds_toArray, List.set_cons_zero, List.set_cons_succ]
      clear hHeld
      refine wpAnyH_done (by kernel_rfl) (then_last ?_) _
      refine wp_store_row 366 _ _ rfl bz evA rfl rfl 366 ev0 HZ.out (by kernel_rfl) rfl (by kernel_rfl) ?_
      go_simp
      (try go_wp2_with fail)
      go_meet
      exact ⟨bz, rfl, hzb, setRow_heap _ _ _ _ _ _ HZ.out, below_setRow HB.out hzb _⟩
  case rest =>
    obtain ⟨gz, rfl, hgz, hG, hBz⟩ := hcut
    have H7 := hide (HK.out.after hBz)
    have HG := hide hG
    clear hG hBz H6 HK CP CR
    go_upto_region 5 with fail
    have CW1 : ∀ x : BelowW wc, Calls Tryz.prog 220 #[pt a.B] x.q fun e w' => e = .returned (.int .i64 0) ∧ w' = x.q := fun x => CW.out _ (H7.out.after x.h)
    have CG1 : ∀ x : BelowW wc, Calls Tryz.prog 221 #[.pointer (some ⟨a.B, 126, none⟩)] x.q fun e w' => e = .returned (.int .i64 0) ∧ w' = x.q := fun x => CG.out _ (H7.out.after x.h)
    have hne : Nonempty (BelowW wc) := ⟨⟨wc, Below.refl _ _⟩⟩
    refine wp_region_calm (by kernel_rfl) (by kernel_rfl) ?_
    repeat (go_big_quiet_step (first
      | (go_at_call 220; exact calm_same (CW1 _))
      | (go_at_call 221; exact calm_same (CG1 _))))
    refine wpQuiet_nil ?_
    rintro _ ⟨x, rfl⟩
    have H8 := hide (H7.out.after x.h)
    have HG8 := hide (HG.out.after x.h)
    clear CW1 CG1 hne H7 HG
    obtain ⟨w8, hx⟩ := x
    replace H8 : Hid (Bt w0 b0 w8 { a with le := 1, si := 1 }) := H8
    replace HG8 : Hid (Blk w8 gz evA 366) := HG8
    go_simp
    clear hx
    rw [show bits BinOp.or IntKind.i64 0 0 = 0 from rfl]
    go_upto_region 6 with fail
    apply wp_region_lit
    refine (wpList_load_row rfl 366 _ rfl gz rfl 366 evA (0, 0) _ HG8.out Tryz.underlying366 rfl (by kernel_rfl) ?_)
    go_wp2_with fail
    go_loopw [5, 92] (fun u v wx => ∃ j : Nat, u = .int .i64 (eviP j) ∧ v = .int .i64 (j : Int) ∧ j ≤ 18 ∧ wx = w8) (fun _ v _ => 18 - (intOf v).toNat)
    case atStart => exact ⟨0, rfl, rfl, by omega, rfl⟩
    case round =>
      obtain ⟨j, rfl, rfl, hj, rfl⟩ := hrel
      by_cases h2 : j = 18
      · subst h2
        go_wp2_with fail
        go_ret
        exact ⟨rfl, H8.out⟩
      · have hj2 : j < 18 := by omega
        have hjn : (j : Int) < 18 := by omega
        by_cases q1 : j = 1
        · subst q1
          have ix : ∀ w, (Instr.index 366 (.agg evA) (.int .i64 1)).run Tryz.prog w = .ok (.bool true) w := ev_ix 1 (by omega)
          rw [show eviP 1 = 0 from rfl]
          go_wp2_with fail
          exact ⟨⟨2, by rfl, by rfl, by omega, trivial⟩, by simp [intOf]⟩
        · by_cases q2 : j = 2
          · subst q2
            have ix : ∀ w, (Instr.index 366 (.agg evA) (.int .i64 2)).run Tryz.prog w = .ok (.bool true) w := ev_ix 2 (by omega)
            rw [show eviP 2 = 2 from rfl]
            go_wp2_with fail
            exact ⟨⟨3, by rfl, by rfl, by omega, trivial⟩, by simp [intOf]⟩
          · by_cases q3 : j = 17
            · subst q3
              have ix : ∀ w, (Instr.index 366 (.agg evA) (.int .i64 17)).run Tryz.prog w = .ok (.bool true) w := ev_ix 17 (by omega)
              rw [show eviP 17 = 6 from rfl]
              go_wp2_with fail
              exact ⟨⟨18, by rfl, by rfl, by omega, trivial⟩, by simp [intOf]⟩
            · have hb : evB j = false := by unfold evB; simp [q1, q2, q3]
              have he : eviP (j + 1) = eviP j := by unfold eviP; repeat' split
                                                    all_goals omega
              have ix := ev_ix j hj2
              rw [hb] at ix
              go_wp2_with fail
              go_roundw
              case rel => exact ⟨j + 1, by rw [he], by go_num, by omega, trivial⟩
              case measure => simp [intOf]; omega
end Go.Proofs.YtapfaaaepnplcaaGreatDoor
