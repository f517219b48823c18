/- Qpf, Qph. -/
import Derived.Test.YtapfaaaepnplcaaGreatDoorG30
import Derived.Test.YtapfaaaepnplcaaGreatDoorG31
import Derived.Test.YtapfaaaepnplcaaGreatDoorG29
set_option maxRecDepth 100000
set_option maxHeartbeats 8000000
namespace Go.Proofs.YtapfaaaepnplcaaGreatDoor
open Go.RowKit Go.Great
theorem stM_no : stM 0 131078 = 0 := by kernel_rfl
theorem stL_no : stL 0 0 131078 = 0 := by kernel_rfl
theorem stepME (w : World) (M : Nat) (h : Blk w M #[.int .u8 0, .int .i64 0] 161) : Calls Tryz.prog 126 #[pt M, .int .i64 131078] w fun e w' => e = .returned (.int .i64 (stE 0 131078)) ∧ Below w.heap.size w w' := by
  refine (step_any_Mo9 w M 0 0 131078 h).mono ?_
  rintro e w' ⟨he, hM, hg⟩
  rw [stM_no, stL_no] at hM
  exact ⟨he, grown_same hg h hM⟩
theorem newBkE (w : World) : Calls Tryz.prog 48 #[] w fun e w' => e = .returned (pt w.heap.size) ∧ w' = w.alloc (.cells #[.func (.func 95) #[] #[], .int .i64 0] 218) := by
  go_enter Tryz.func48, Tryz.ntmps48
  go_wp2_with fail
  go_ret
  exact ⟨rfl, rfl⟩
theorem restSE (w : World) (B : Nat) (h : Blk w B #[.int .i64 12, .int .i64 0, .int .i64 0, .int .i64 0] 307) : Calls Tryz.prog 223 #[pt B, .agg #[.int .i64 0, .int .i64 0, .int .i64 0]] w fun e w' => e = .returned (.tuple #[]) ∧ Below w.heap.size w w' := by
  refine (rest_any w B 12 0 0 0 0 0 0 h).mono ?_
  rintro e w' ⟨he, hM, hg⟩
  exact ⟨he, grown_same hg h hM⟩
theorem rest_no {w0 : World} {b0 : Nat} {w : World} {a : Ad} (h : Bt w0 b0 w a) : Calls Tryz.prog 130 #[.pointer (some ⟨a.B, 126, none⟩)] w fun e w' => e = .returned (.tuple #[]) ∧ ∃ g, Bt w0 b0 w' { a with bk := g } := by
  have c0 := h.at 128 (pt a.St) (by omega) rfl
  have HH := hide h
  clear h
  go_enter Tryz.func130, Tryz.ntmps130
  go_wp2_with fail
  refine (restSE _ _ HH.out.St).mono ?_
  rintro e w1 ⟨rfl, hb⟩
  have H1 := hide (HH.out.after hb)
  clear hb HH c0
  go_wp2_with fail
  refine (newBkE _).mono ?_
  rintro e w2 ⟨rfl, rfl⟩
  have H2 := hide (H1.out.after (below_alloc w1 (.cells #[.func (.func 95) #[] #[], .int .i64 0] 218)))
  have HN := hide (Blk.new w1 #[.func (.func 95) #[] #[], .int .i64 0] 218)
  clear H1
  have f : (w1.alloc (.cells #[.func (.func 95) #[] #[], .int .i64 0] 218)).frozen? ⟨a.B, 129, none⟩ = false := H2.out.fz 129
  have c : (w1.alloc (.cells #[.func (.func 95) #[] #[], .int .i64 0] 218)).cell? ⟨a.B, 129, none⟩ = some (pt a.bk) := H2.out.at 129 _ (by omega) rfl
  generalize w1.alloc (.cells #[.func (.func 95) #[] #[], .int .i64 0] 218) = w2 at *
  generalize w1.heap.size = g at *
  have H3 := hide (H2.out.back g HN.out)
  go_upto_region 2 with fail
  generalize w2.setCell ⟨a.B, 129, none⟩ (pt g) = w3 at *
  clear f c H2 HN
  have f146 : w3.frozen? ⟨a.B, 146, none⟩ = false := H3.out.fz 146
  have c146 : w3.cell? ⟨a.B, 146, none⟩ = some (.bool false) := H3.out.at 146 _ (by omega) rfl
  have q146 : w3.setCell ⟨a.B, 146, none⟩ (.bool false) = w3 := H3.out.eq 146 _ (by omega) rfl
  have f148 : w3.frozen? ⟨a.B, 148, none⟩ = false := H3.out.fz 148
  have c148 : w3.cell? ⟨a.B, 148, none⟩ = some (.bool false) := H3.out.at 148 _ (by omega) rfl
  have q148 : w3.setCell ⟨a.B, 148, none⟩ (.bool false) = w3 := H3.out.eq 148 _ (by omega) rfl
  have f149 : w3.frozen? ⟨a.B, 149, none⟩ = false := H3.out.fz 149
  have c149 : w3.cell? ⟨a.B, 149, none⟩ = some (.int .i64 0) := H3.out.at 149 _ (by omega) rfl
  have q149 : w3.setCell ⟨a.B, 149, none⟩ (.int .i64 0) = w3 := H3.out.eq 149 _ (by omega) rfl
  have f150 : w3.frozen? ⟨a.B, 150, none⟩ = false := H3.out.fz 150
  have c150 : w3.cell? ⟨a.B, 150, none⟩ = some (.int .i64 0) := H3.out.at 150 _ (by omega) rfl
  have q150 : w3.setCell ⟨a.B, 150, none⟩ (.int .i64 0) = w3 := H3.out.eq 150 _ (by omega) rfl
  have f151 : w3.frozen? ⟨a.B, 151, none⟩ = false := H3.out.fz 151
  have c151 : w3.cell? ⟨a.B, 151, none⟩ = some (.int .i64 0) := H3.out.at 151 _ (by omega) rfl
  have q151 : w3.setCell ⟨a.B, 151, none⟩ (.int .i64 0) = w3 := H3.out.eq 151 _ (by omega) rfl
  have f152 : w3.frozen? ⟨a.B, 152, none⟩ = false := H3.out.fz 152
  have c152 : w3.cell? ⟨a.B, 152, none⟩ = some (.int .i64 0) := H3.out.at 152 _ (by omega) rfl
  have q152 : w3.setCell ⟨a.B, 152, none⟩ (.int .i64 0) = w3 := H3.out.eq 152 _ (by omega) rfl
  have f153 : w3.frozen? ⟨a.B, 153, none⟩ = false := H3.out.fz 153
  have c153 : w3.cell? ⟨a.B, 153, none⟩ = some (.int .i64 0) := H3.out.at 153 _ (by omega) rfl
  have q153 : w3.setCell ⟨a.B, 153, none⟩ (.int .i64 0) = w3 := H3.out.eq 153 _ (by omega) rfl
  have f154 : w3.frozen? ⟨a.B, 154, none⟩ = false := H3.out.fz 154
  have c154 : w3.cell? ⟨a.B, 154, none⟩ = some (.int .i64 0) := H3.out.at 154 _ (by omega) rfl
  have q154 : w3.setCell ⟨a.B, 154, none⟩ (.int .i64 0) = w3 := H3.out.eq 154 _ (by omega) rfl
  have f155 : w3.frozen? ⟨a.B, 155, none⟩ = false := H3.out.fz 155
  have c155 : w3.cell? ⟨a.B, 155, none⟩ = some (.int .i64 0) := H3.out.at 155 _ (by omega) rfl
  have q155 : w3.setCell ⟨a.B, 155, none⟩ (.int .i64 0) = w3 := H3.out.eq 155 _ (by omega) rfl
  have f156 : w3.frozen? ⟨a.B, 156, none⟩ = false := H3.out.fz 156
  have c156 : w3.cell? ⟨a.B, 156, none⟩ = some (.int .i64 0) := H3.out.at 156 _ (by omega) rfl
  have q156 : w3.setCell ⟨a.B, 156, none⟩ (.int .i64 0) = w3 := H3.out.eq 156 _ (by omega) rfl
  have f157 : w3.frozen? ⟨a.B, 157, none⟩ = false := H3.out.fz 157
  have c157 : w3.cell? ⟨a.B, 157, none⟩ = some (.int .i64 0) := H3.out.at 157 _ (by omega) rfl
  have q157 : w3.setCell ⟨a.B, 157, none⟩ (.int .i64 0) = w3 := H3.out.eq 157 _ (by omega) rfl
  have f158 : w3.frozen? ⟨a.B, 158, none⟩ = false := H3.out.fz 158
  have c158 : w3.cell? ⟨a.B, 158, none⟩ = some (.int .i64 0) := H3.out.at 158 _ (by omega) rfl
  have q158 : w3.setCell ⟨a.B, 158, none⟩ (.int .i64 0) = w3 := H3.out.eq 158 _ (by omega) rfl
  have f159 : w3.frozen? ⟨a.B, 159, none⟩ = false := H3.out.fz 159
  have c159 : w3.cell? ⟨a.B, 159, none⟩ = some (.int .i64 0) := H3.out.at 159 _ (by omega) rfl
  have q159 : w3.setCell ⟨a.B, 159, none⟩ (.int .i64 0) = w3 := H3.out.eq 159 _ (by omega) rfl
  go_wp2_with fail
  go_end0
  exact ⟨rfl, g, H3.out⟩
theorem fly_no {w0 : World} {b0 : Nat} {w : World} {a : Ad} (h : Bt w0 b0 w a) : Calls Tryz.prog 60 #[pt a.B] w fun e w' => e = .returned (.tuple #[]) ∧ ∃ g, Bt w0 b0 w' { a with bk := g } := by
  have HH := hide h
  clear h
  go_enter Tryz.func60, Tryz.ntmps60
  go_wp2_with fail
  refine (modeP_no HH.out).mono ?_
  rintro e w1 ⟨rfl, hw⟩
  obtain rfl := hw.symm
  clear hw
  go_wp2_with fail
  refine (flying_any 0 _).mono ?_
  rintro e w1 ⟨rfl, hw⟩
  obtain rfl := hw.symm
  clear hw
  rw [show flyB 0 = false from rfl]
  go_wp2_with fail
  refine (rest_no HH.out).mono ?_
  rintro e w2 ⟨rfl, g, hB⟩
  have H2 := hide hB
  clear hB HH
  go_wp2_with fail
  refine bodyPost_ret (results_none rfl _ _ _) rfl ?_
  exact ⟨rfl, g, H2.out⟩
theorem think_no {w0 : World} {b0 : Nat} {w : World} {a : Ad} (h : Bt w0 b0 w a) (hle : a.le = 0) (hsi : a.si = 0) : Calls Tryz.prog 59 #[pt a.B] w fun e w' => e = .returned (.tuple #[]) ∧ Bt w0 b0 w' { a with le := 1, si := 1 } := by
  have HH := hide h
  have HL := hide hle
  have HS := hide hsi
  clear h hle hsi
  go_enter Tryz.func59, Tryz.ntmps59
  go_wp2_with fail
  refine (mayArm_no HH.out).mono ?_
  rintro e w1 ⟨rfl, hb⟩
  have H1 := hide (HH.out.after hb)
  clear hb HH
  have f : w1.frozen? ⟨a.B, 132, none⟩ = false := H1.out.fz 132
  have c : w1.cell? ⟨a.B, 132, none⟩ = some (.bool false) := H1.out.at 132 _ (by omega) rfl
  have q : w1.setCell ⟨a.B, 132, none⟩ (.bool false) = w1 := H1.out.eq 132 _ (by omega) rfl
  go_wp2_with fail
  refine (pursue_no H1.out).mono ?_
  rintro e w2 ⟨rfl, hw⟩
  obtain rfl := hw.symm
  clear hw
  go_wp2_with fail
  refine (modeP_no H1.out).mono ?_
  rintro e w2 ⟨rfl, hw⟩
  obtain rfl := hw.symm
  clear hw f c q
  have c0 : w1.cell? ⟨a.B, 126, none⟩ = some (pt a.Mc) := H1.out.at 126 _ (by omega) rfl
  have EV : Hid (∀ W, Below w1.heap.size w1 W → Calls Tryz.prog 127 #[pt a.B] W fun e w' => e = .returned (.int .i64 131078) ∧ Bt w0 b0 w' { a with le := 1, si := 1 }) := hide (fun W hb => events_no (H1.out.after hb) HL.out HS.out)
  have MO : Hid (∀ W, Bt w0 b0 W { a with le := 1, si := 1 } → Calls Tryz.prog 23 #[.pointer (some ⟨a.B, 126, none⟩)] W fun e w' => e = .returned (.int .u8 0) ∧ w' = W) := hide (fun W h => by
    have := modeP_no h
    exact this)
  clear HL HS H1
  go_upto_region 3 with fail
  go_region_with (first
    | (go_at_call 127; refine (EV.out _ (by first | with_reducible exact (Below.refl _ _).drew | with_reducible exact Below.refl _ _)).mono ?_; rintro e w3 ⟨rfl, hB⟩; have H3 := hide hB; have c1 : w3.cell? ⟨a.B, 126, none⟩ = some (pt a.Mc) := hB.at 126 _ (by omega) rfl; clear hB EV)
    | (go_at_call 126; refine (stepME _ a.Mc (by first | exact H3.out.Mc | exact H3.out.drew.Mc)).mono ?_; rintro e w4 ⟨rfl, hb⟩; have H4 : Hid (Bt w0 b0 w4 { a with le := 1, si := 1 }) := hide (by first | exact H3.out.after hb | exact H3.out.drew.after hb); have f : w4.frozen? ⟨a.B, 131, none⟩ = false := H4.out.fz 131; have c : w4.cell? ⟨a.B, 131, none⟩ = some (.int .i64 0) := H4.out.at 131 _ (by omega) rfl; have q : w4.setCell ⟨a.B, 131, none⟩ (.int .i64 0) = w4 := H4.out.eq 131 _ (by omega) rfl; clear hb H3))
  all_goals go_wp2_with fail
  all_goals refine (MO.out _ H4.out).mono ?_
  all_goals rintro e w5 ⟨rfl, hw⟩
  all_goals obtain rfl := hw.symm
  all_goals go_wp2_with fail
  all_goals go_end0
  all_goals exact ⟨rfl, H4.out⟩
end Go.Proofs.YtapfaaaepnplcaaGreatDoor
set_option maxRecDepth 100000
set_option maxHeartbeats 8000000
namespace Go.Proofs.YtapfaaaepnplcaaGreatDoor
open Go.RowKit Go.Great
theorem calm_below {f : FuncId} {args : Array Value} {w : World} {v : Value} (h : Calls Tryz.prog f args w fun e w' => e = .returned v ∧ w' = w) : Calls Tryz.prog f args w fun e w' => e = .returned v ∧ Below w.heap.size w w' :=
  h.mono fun _ _ ⟨he, hw⟩ => ⟨he, hw ▸ Below.refl _ _⟩
abbrev vw0 : Array Value := #[.int .u8 0, .bool false, .int .i64 0, .int .i64 0, .int .i64 0, .bool false, .int .i64 0, .int .i64 0, .int .i64 0, .int .i64 0, .int .i64 0, .int .i64 0, .int .i64 0, .int .i64 0, .int .i64 0, .int .i64 0, .int .i64 0, .int .i64 0, .int .i64 0, .int .i64 0]
theorem modeB {w0 : World} {b0 : Nat} {w : World} {a : Ad} (h : Bt w0 b0 w a) : Calls Tryz.prog 23 #[.pointer (some ⟨a.B, 126, none⟩)] w fun e w' => e = .returned (.int .u8 0) ∧ Below w.heap.size w w' := calm_below (modeP_no h)
theorem armedB_no {w0 : World} {b0 : Nat} {w : World} {a : Ad} (h : Bt w0 b0 w a) : Calls Tryz.prog 24 #[.pointer (some ⟨a.B, 126, none⟩)] w fun e w' => e = .returned (.bool false) ∧ Below w.heap.size w w' := calm_below (armedF_no h)
theorem latB {w0 : World} {b0 : Nat} {w : World} {a : Ad} (h : Bt w0 b0 w a) : Calls Tryz.prog 25 #[pt a.Mc] w fun e w' => e = .returned (.int .i64 0) ∧ Below w.heap.size w w' := calm_below (latch_any w a.Mc 0 0 h.Mc)
theorem idxB {w0 : World} {b0 : Nat} {w : World} {a : Ad} (h : Bt w0 b0 w a) : Calls Tryz.prog 26 #[pt a.Rn] w fun e w' => e = .returned (.int .i64 0) ∧ Below w.heap.size w w' := by
  obtain ⟨x, m, hR⟩ := h.Rn
  have c1 : w.cell? ⟨a.Rn, 1, none⟩ = some (.int .i64 0) := hR.cell 1 rfl
  have c3 : w.cell? ⟨a.Rn, 3, none⟩ = some (.int .i64 0) := hR.cell 3 rfl
  clear h hR
  go_enter Tryz.func26, Tryz.ntmps26
  go_wp2_with fail
  go_ret
  exact ⟨rfl, Below.refl _ _⟩
theorem leftE {w : World} {B : Nat} (h : Blk w B (bC (bN dfl)) 172) : Calls Tryz.prog 29 #[pt B] w fun e w' => e = .returned (.tuple #[.agg #[.int .i64 0, .int .i64 0], .bool false]) ∧ Below w.heap.size w w' := left_any w B (bN dfl) h rfl
theorem view_no {w0 : World} {b0 : Nat} {w : World} {a : Ad} (h : Bt w0 b0 w a) : Calls Tryz.prog 7 #[pt a.B] w fun e w' => e = .returned (.agg vw0) ∧ Below w.heap.size w w' := by
  have hb1 := below_alloc w (.cells vw0 46)
  have HZ0 := hide (Blk.new w vw0 46)
  have H6 := hide (h.after hb1)
  have HB0 := hide hb1
  clear hb1 h
  go_enter Tryz.func7, Tryz.ntmps7
  go_upto_region 3 with fail
  generalize w.alloc (.cells vw0 46) = w6 at *
  have HK := hide H6.out
  go_cut [3] (fun v wx => ∃ g, v = .pointer (some ⟨g, 0, none⟩) ∧ w6.heap.size ≤ g ∧ Blk wx g vw0 46 ∧ Below w6.heap.size w6 wx)
  case first =>
    refine reg_last_held (fun wx => wx.cell? ⟨a.B, 126, none⟩ = some (pt a.Mc) ∧ wx.cell? ⟨a.B, 127, none⟩ = some (pt a.Rn) ∧ wx.cell? ⟨a.B, 146, none⟩ = some (.bool false)) 29 rfl rfl _ rfl (by kernel_rfl) (by kernel_rfl) (⟨H6.out.at 126 _ (by omega) rfl, H6.out.at 127 _ (by omega) rfl, H6.out.at 146 _ (by omega) rfl⟩) (fun hHeld => ?_)
    simp only [List.take_succ_cons, List.take_zero]
    replace H6 := hide (H6.out.drew)
    have HB : Hid (Below w6.heap.size w6 w6.drew) := hide (Below.refl _ _).drew
    generalize w6.drew = Wd at *
    refine take_at (i := 0) (v := pt a.B) (d := some 9) rfl rfl (by kernel_rfl) (by kernel_rfl) (by kernel_rfl) (fun _ _ _ h => h) (Or.inl ⟨by rfl, fun wS ⟨hS0, hS1, hS2⟩ => by go_simp; all_goals (rw [IntKind.wrap_i64]; omega)⟩) (by assumption) ?_
    simp only [Act.put, List.setIfInBounds_toArray, List.set_cons_zero, List.set_cons_succ]
    refine take_at (i := 1) (v := pt a.B) (d := some 10) rfl rfl (by kernel_rfl) (by kernel_rfl) (by kernel_rfl) (fun _ _ _ h => h) (Or.inl ⟨by rfl, fun wS ⟨hS0, hS1, hS2⟩ => by go_simp; all_goals (rw [IntKind.wrap_i64]; omega)⟩) (by assumption) ?_
    simp only [Act.put, List.setIfInBounds_toArray, List.set_cons_zero, List.set_cons_succ]
    refine take_at (i := 2) (v := .pointer (some ⟨a.B, 126, none⟩)) (d := some 11) rfl rfl (by kernel_rfl) (by kernel_rfl) (by kernel_rfl) (fun _ _ _ h => h) (Or.inl ⟨by rfl, fun wS ⟨hS0, hS1, hS2⟩ => by go_simp; all_goals (rw [IntKind.wrap_i64]; omega)⟩) (by assumption) ?_
    simp only [Act.put, List.setIfInBounds_toArray, List.set_cons_zero, List.set_cons_succ]
    refine take_at (i := 4) (v := pt a.B) (d := some 13) rfl rfl (by kernel_rfl) (by kernel_rfl) (by kernel_rfl) (fun _ _ _ h => h) (Or.inl ⟨by rfl, fun wS ⟨hS0, hS1, hS2⟩ => by go_simp; all_goals (rw [IntKind.wrap_i64]; omega)⟩) (by assumption) ?_
    simp only [Act.put, List.setIfInBounds_toArray, List.set_cons_zero, List.set_cons_succ]
    refine take_at (i := 5) (v := pt a.B) (d := some 14) rfl rfl (by kernel_rfl) (by kernel_rfl) (by kernel_rfl) (fun _ _ _ h => h) (Or.inl ⟨by rfl, fun wS ⟨hS0, hS1, hS2⟩ => by go_simp; all_goals (rw [IntKind.wrap_i64]; omega)⟩) (by assumption) ?_
    simp only [Act.put, List.setIfInBounds_toArray, List.set_cons_zero, List.set_cons_succ]
    refine take_at (i := 6) (v := .pointer (some ⟨a.B, 126, none⟩)) (d := some 15) rfl rfl (by kernel_rfl) (by kernel_rfl) (by kernel_rfl) (fun _ _ _ h => h) (Or.inl ⟨by rfl, fun wS ⟨hS0, hS1, hS2⟩ => by go_simp; all_goals (rw [IntKind.wrap_i64]; omega)⟩) (by assumption) ?_
    simp only [Act.put, List.setIfInBounds_toArray, List.set_cons_zero, List.set_cons_succ]
    refine take_at (i := 8) (v := pt a.B) (d := some 17) rfl rfl (by kernel_rfl) (by kernel_rfl) (by kernel_rfl) (fun _ _ _ h => h) (Or.inl ⟨by rfl, fun wS ⟨hS0, hS1, hS2⟩ => by go_simp; all_goals (rw [IntKind.wrap_i64]; omega)⟩) (by assumption) ?_
    simp only [Act.put, List.setIfInBounds_toArray, List.set_cons_zero, List.set_cons_succ]
    refine take_at (i := 9) (v := pt a.B) (d := some 18) rfl rfl (by kernel_rfl) (by kernel_rfl) (by kernel_rfl) (fun _ _ _ h => h) (Or.inl ⟨by rfl, fun wS ⟨hS0, hS1, hS2⟩ => by go_simp; all_goals (rw [IntKind.wrap_i64]; omega)⟩) (by assumption) ?_
    simp only [Act.put, List.setIfInBounds_toArray, List.set_cons_zero, List.set_cons_succ]
    refine take_at (i := 10) (v := .pointer (some ⟨a.B, 126, none⟩)) (d := some 19) rfl rfl (by kernel_rfl) (by kernel_rfl) (by kernel_rfl) (fun _ _ _ h => h) (Or.inl ⟨by rfl, fun wS ⟨hS0, hS1, hS2⟩ => by go_simp; all_goals (rw [IntKind.wrap_i64]; omega)⟩) (by assumption) ?_
    simp only [Act.put, List.setIfInBounds_toArray, List.set_cons_zero, List.set_cons_succ]
    refine take_at (i := 11) (v := .pointer (some ⟨a.B, 126, none⟩)) (d := some 20) rfl rfl (by kernel_rfl) (by kernel_rfl) (by kernel_rfl) (fun _ _ _ h => h) (Or.inl ⟨by rfl, fun wS ⟨hS0, hS1, hS2⟩ => by go_simp; all_goals (rw [IntKind.wrap_i64]; omega)⟩) (by assumption) ?_
    simp only [Act.put, List.setIfInBounds_toArray, List.set_cons_zero, List.set_cons_succ]
    refine take_at (i := 12) (v := pt a.Mc) (d := some 21) rfl rfl (by kernel_rfl) (by kernel_rfl) (by kernel_rfl) (fun _ _ _ h => h) (Or.inl ⟨by rfl, fun wS ⟨hS0, hS1, hS2⟩ => by go_simp; all_goals (rw [IntKind.wrap_i64]; omega)⟩) (by assumption) ?_
    simp only [Act.put, List.setIfInBounds_toArray, List.set_cons_zero, List.set_cons_succ]
    refine take_at (i := 14) (v := pt a.B) (d := some 23) rfl rfl (by kernel_rfl) (by kernel_rfl) (by kernel_rfl) (fun _ _ _ h => h) (Or.inl ⟨by rfl, fun wS ⟨hS0, hS1, hS2⟩ => by go_simp; all_goals (rw [IntKind.wrap_i64]; omega)⟩) (by assumption) ?_
    simp only [Act.put, List.setIfInBounds_toArray, List.set_cons_zero, List.set_cons_succ]
    refine take_at (i := 15) (v := pt a.B) (d := some 24) rfl rfl (by kernel_rfl) (by kernel_rfl) (by kernel_rfl) (fun _ _ _ h => h) (Or.inl ⟨by rfl, fun wS ⟨hS0, hS1, hS2⟩ => by go_simp; all_goals (rw [IntKind.wrap_i64]; omega)⟩) (by assumption) ?_
    simp only [Act.put, List.setIfInBounds_toArray, List.set_cons_zero, List.set_cons_succ]
    refine take_at (i := 16) (v := .pointer (some ⟨a.B, 126, none⟩)) (d := some 25) rfl rfl (by kernel_rfl) (by kernel_rfl) (by kernel_rfl) (fun _ _ _ h => h) (Or.inl ⟨by rfl, fun wS ⟨hS0, hS1, hS2⟩ => by go_simp; all_goals (rw [IntKind.wrap_i64]; omega)⟩) (by assumption) ?_
    simp only [Act.put, List.setIfInBounds_toArray, List.set_cons_zero, List.set_cons_succ]
    refine take_at (i := 17) (v := .pointer (some ⟨a.B, 127, none⟩)) (d := some 26) rfl rfl (by kernel_rfl) (by kernel_rfl) (by kernel_rfl) (fun _ _ _ h => h) (Or.inl ⟨by rfl, fun wS ⟨hS0, hS1, hS2⟩ => by go_simp; all_goals (rw [IntKind.wrap_i64]; omega)⟩) (by assumption) ?_
    simp only [Act.put, List.setIfInBounds_toArray, List.set_cons_zero, List.set_cons_succ]
    refine take_at (i := 18) (v := pt a.Rn) (d := some 27) rfl rfl (by kernel_rfl) (by kernel_rfl) (by kernel_rfl) (fun _ _ _ h => h) (Or.inl ⟨by rfl, fun wS ⟨hS0, hS1, hS2⟩ => by go_simp; all_goals (rw [IntKind.wrap_i64]; omega)⟩) (by assumption) ?_
    simp only [Act.put, List.setIfInBounds_toArray, List.set_cons_zero, List.set_cons_succ]
    refine take_at (i := 20) (v := pt a.B) (d := some 29) rfl rfl (by kernel_rfl) (by kernel_rfl) (by kernel_rfl) (fun _ _ _ h => h) (Or.inl ⟨by rfl, fun wS ⟨hS0, hS1, hS2⟩ => by go_simp; all_goals (rw [IntKind.wrap_i64]; omega)⟩) (by assumption) ?_
    simp only [Act.put, List.setIfInBounds_toArray, List.set_cons_zero, List.set_cons_succ]
    refine take_at (i := 22) (v := pt a.B) (d := some 31) rfl rfl (by kernel_rfl) (by kernel_rfl) (by kernel_rfl) (fun _ _ _ h => h) (Or.inl ⟨by rfl, fun wS ⟨hS0, hS1, hS2⟩ => by go_simp; all_goals (rw [IntKind.wrap_i64]; omega)⟩) (by assumption) ?_
    simp only [Act.put, List.setIfInBounds_toArray, List.set_cons_zero, List.set_cons_succ]
    refine take_at (i := 23) (v := pt a.B) (d := some 32) rfl rfl (by kernel_rfl) (by kernel_rfl) (by kernel_rfl) (fun _ _ _ h => h) (Or.inl ⟨by rfl, fun wS ⟨hS0, hS1, hS2⟩ => by go_simp; all_goals (rw [IntKind.wrap_i64]; omega)⟩) (by assumption) ?_
    simp only [Act.put, List.setIfInBounds_toArray, List.set_cons_zero, List.set_cons_succ]
    refine take_at (i := 24) (v := .pointer (some ⟨a.B, 126, none⟩)) (d := some 33) rfl rfl (by kernel_rfl) (by kernel_rfl) (by kernel_rfl) (fun _ _ _ h => h) (Or.inl ⟨by rfl, fun wS ⟨hS0, hS1, hS2⟩ => by go_simp; all_goals (rw [IntKind.wrap_i64]; omega)⟩) (by assumption) ?_
    simp only [Act.put, List.setIfInBounds_toArray, List.set_cons_zero, List.set_cons_succ]
    refine take_at (i := 25) (v := .pointer (some ⟨a.B, 146, none⟩)) (d := some 34) rfl rfl (by kernel_rfl) (by kernel_rfl) (by kernel_rfl) (fun _ _ _ h => h) (Or.inl ⟨by rfl, fun wS ⟨hS0, hS1, hS2⟩ => by go_simp; all_goals (rw [IntKind.wrap_i64]; omega)⟩) (by assumption) ?_
    simp only [Act.put, List.setIfInBounds_toArray, List.set_cons_zero, List.set_cons_succ]
    refine take_at (i := 26) (v := .bool false) (d := some 35) rfl rfl (by kernel_rfl) (by kernel_rfl) (by kernel_rfl) (fun _ _ _ h => h) (Or.inl ⟨by rfl, fun wS ⟨hS0, hS1, hS2⟩ => by go_simp; all_goals (rw [IntKind.wrap_i64]; omega)⟩) (by assumption) ?_
    simp only [Act.put, List.setIfInBounds_toArray, List.set_cons_zero, List.set_cons_succ]
    clear hHeld
    refine wpAnyH_ready (rs := [3, 28]) (by kernel_rfl) (by simp) ?_
    refine AllReadyH.cons rfl (fun K hK => ?_) (AllReadyH.cons rfl (fun K hK => ?_) AllReadyH.nil)
    · go_simp
      refine (modeB H6.out).mono ?_
      rintro e wt1 ⟨rfl, hb⟩
      replace H6 := hide (H6.out.after hb)
      replace HB := hide (below_next HB.out (Nat.le_refl _) hb)
      clear hb
      refine hK.out _ _ (⟨H6.out.at 126 _ (by omega) rfl, H6.out.at 127 _ (by omega) rfl, H6.out.at 146 _ (by omega) rfl⟩) (fun hHeld => ?_)
      clear hK K
      clear hHeld
      refine wpAnyH_ready (rs := [7, 28]) (by kernel_rfl) (by simp) ?_
      refine AllReadyH.cons rfl (fun K hK => ?_) (AllReadyH.cons rfl (fun K hK => ?_) AllReadyH.nil)
      · go_simp
        refine (armedB_no H6.out).mono ?_
        rintro e wt2 ⟨rfl, hb⟩
        replace H6 := hide (H6.out.after hb)
        replace HB := hide (below_next HB.out (Nat.le_refl _) hb)
        clear hb
        refine hK.out _ _ (⟨H6.out.at 126 _ (by omega) rfl, H6.out.at 127 _ (by omega) rfl, H6.out.at 146 _ (by omega) rfl⟩) (fun hHeld => ?_)
        clear hK K
        clear hHeld
        refine wpAnyH_ready (rs := [13, 28]) (by kernel_rfl) (by simp) ?_
        refine AllReadyH.cons rfl (fun K hK => ?_) (AllReadyH.cons rfl (fun K hK => ?_) AllReadyH.nil)
        · go_simp
          refine (latB H6.out).mono ?_
          rintro e wt3 ⟨rfl, hb⟩
          replace H6 := hide (H6.out.after hb)
          replace HB := hide (below_next HB.out (Nat.le_refl _) hb)
          clear hb
          refine hK.out _ _ (⟨H6.out.at 126 _ (by omega) rfl, H6.out.at 127 _ (by omega) rfl, H6.out.at 146 _ (by omega) rfl⟩) (fun hHeld => ?_)
          clear hK K
          clear hHeld
          refine wpAnyH_ready (rs := [19, 28]) (by kernel_rfl) (by simp) ?_
          refine AllReadyH.cons rfl (fun K hK => ?_) (AllReadyH.cons rfl (fun K hK => ?_) AllReadyH.nil)
          · go_simp
            refine (idxB H6.out).mono ?_
            rintro e wt4 ⟨rfl, hb⟩
            replace H6 := hide (H6.out.after hb)
            replace HB := hide (below_next HB.out (Nat.le_refl _) hb)
            clear hb
            refine hK.out _ _ (⟨H6.out.at 126 _ (by omega) rfl, H6.out.at 127 _ (by omega) rfl, H6.out.at 146 _ (by omega) rfl⟩) (fun hHeld => ?_)
            clear hK K
            clear hHeld
            refine wpAnyH_ready (rs := [21, 28]) (by kernel_rfl) (by simp) ?_
            refine AllReadyH.cons rfl (fun K hK => ?_) (AllReadyH.cons rfl (fun K hK => ?_) AllReadyH.nil)
            · go_simp
              refine (bad_no H6.out).mono ?_
              rintro e wt5 ⟨rfl, hb⟩
              replace H6 := hide (H6.out.after hb)
              replace HB := hide (below_next HB.out (Nat.le_refl _) hb)
              clear hb
              refine hK.out _ _ (⟨H6.out.at 126 _ (by omega) rfl, H6.out.at 127 _ (by omega) rfl, H6.out.at 146 _ (by omega) rfl⟩) (fun hHeld => ?_)
              clear hK K
              refine take_at (i := 27) (v := .agg vw0) (d := some 36) rfl rfl (by kernel_rfl) (by kernel_rfl) (by kernel_rfl) (fun _ _ _ h => h) (Or.inl ⟨by rfl, fun wS ⟨hS0, hS1, hS2⟩ => by go_simp; all_goals (rw [IntKind.wrap_i64]; omega)⟩) (by assumption) ?_
              simp only [Act.put, List.setIfInBounds_toArray, List.set_cons_zero, List.set_cons_succ]
              clear hHeld
              refine wpAnyH_ready (rs := [28]) (by kernel_rfl) (by simp) ?_
              refine AllReadyH.cons rfl (fun K hK => ?_) AllReadyH.nil
              go_simp
              have HZ := hide (Blk.new wt5 vw0 46)
              have hzb := HB.out.size
              replace H6 := hide (H6.out.after (below_alloc wt5 (.cells vw0 46)))
              replace HB := hide (below_next HB.out (Nat.le_refl _) (below_alloc wt5 (.cells vw0 46)))
              generalize wt5.heap.size = bz at *
              generalize wt5.alloc (.cells vw0 46) = wt6 at *
              refine hK.out _ _ (⟨H6.out.at 126 _ (by omega) rfl, H6.out.at 127 _ (by omega) rfl, H6.out.at 146 _ (by omega) rfl⟩) (fun hHeld => ?_)
              clear hK K
              clear hHeld
              refine wpAnyH_done (by kernel_rfl) (then_last ?_) _
              refine wp_store_row 46 _ _ rfl bz vw0 rfl rfl 46 vw0 HZ.out (by kernel_rfl) rfl (by kernel_rfl) ?_
              go_simp
              (try go_wp2_with fail)
              go_meet
              exact ⟨bz, rfl, hzb, setRow_heap _ _ _ _ _ _ HZ.out, below_setRow HB.out hzb _⟩
            · go_simp
              have HZ := hide (Blk.new wt4 vw0 46)
              have hzb := HB.out.size
              replace H6 := hide (H6.out.after (below_alloc wt4 (.cells vw0 46)))
              replace HB := hide (below_next HB.out (Nat.le_refl _) (below_alloc wt4 (.cells vw0 46)))
              generalize wt4.heap.size = bz at *
              generalize wt4.alloc (.cells vw0 46) = wt7 at *
              refine hK.out _ _ (⟨H6.out.at 126 _ (by omega) rfl, H6.out.at 127 _ (by omega) rfl, H6.out.at 146 _ (by omega) rfl⟩) (fun hHeld => ?_)
              clear hK K
              clear hHeld
              refine wpAnyH_ready (rs := [21]) (by kernel_rfl) (by simp) ?_
              refine AllReadyH.cons rfl (fun K hK => ?_) AllReadyH.nil
              go_simp
              refine (bad_no H6.out).mono ?_
              rintro e wt8 ⟨rfl, hb⟩
              replace H6 := hide (H6.out.after hb)
              replace HB := hide (below_next HB.out (Nat.le_refl _) hb)
              replace HZ := hide (HZ.out.after hb)
              clear hb
              refine hK.out _ _ (⟨H6.out.at 126 _ (by omega) rfl, H6.out.at 127 _ (by omega) rfl, H6.out.at 146 _ (by omega) rfl⟩) (fun hHeld => ?_)
              clear hK K
              refine take_at (i := 27) (v := .agg vw0) (d := some 36) rfl rfl (by kernel_rfl) (by kernel_rfl) (by kernel_rfl) (fun _ _ _ h => h) (Or.inl ⟨by rfl, fun wS ⟨hS0, hS1, hS2⟩ => by go_simp; all_goals (rw [IntKind.wrap_i64]; omega)⟩) (by assumption) ?_
              simp only [Act.put, List.setIfInBounds_toArray, List.set_cons_zero, List.set_cons_succ]
              clear hHeld
              refine wpAnyH_done (by kernel_rfl) (then_last ?_) _
              refine wp_store_row 46 _ _ rfl bz vw0 rfl rfl 46 vw0 HZ.out (by kernel_rfl) rfl (by kernel_rfl) ?_
              go_simp
              (try go_wp2_with fail)
              go_meet
              exact ⟨bz, rfl, hzb, setRow_heap _ _ _ _ _ _ HZ.out, below_setRow HB.out hzb _⟩
          · go_simp
            have HZ := hide (Blk.new wt3 vw0 46)
            have hzb := HB.out.size
            replace H6 := hide (H6.out.after (below_alloc wt3 (.cells vw0 46)))
            replace HB := hide (below_next HB.out (Nat.le_refl _) (below_alloc wt3 (.cells vw0 46)))
            generalize wt3.heap.size = bz at *
            generalize wt3.alloc (.cells vw0 46) = wt9 at *
            refine hK.out _ _ (⟨H6.out.at 126 _ (by omega) rfl, H6.out.at 127 _ (by omega) rfl, H6.out.at 146 _ (by omega) rfl⟩) (fun hHeld => ?_)
            clear hK K
            clear hHeld
            refine wpAnyH_ready (rs := [19]) (by kernel_rfl) (by simp) ?_
            refine AllReadyH.cons rfl (fun K hK => ?_) AllReadyH.nil
            go_simp
            refine (idxB H6.out).mono ?_
            rintro e wt10 ⟨rfl, hb⟩
            replace H6 := hide (H6.out.after hb)
            replace HB := hide (below_next HB.out (Nat.le_refl _) hb)
            replace HZ := hide (HZ.out.after hb)
            clear hb
            refine hK.out _ _ (⟨H6.out.at 126 _ (by omega) rfl, H6.out.at 127 _ (by omega) rfl, H6.out.at 146 _ (by omega) rfl⟩) (fun hHeld => ?_)
            clear hK K
            clear hHeld
            refine wpAnyH_ready (rs := [21]) (by kernel_rfl) (by simp) ?_
            refine AllReadyH.cons rfl (fun K hK => ?_) AllReadyH.nil
            go_simp
            refine (bad_no H6.out).mono ?_
            rintro e wt11 ⟨rfl, hb⟩
            replace H6 := hide (H6.out.after hb)
            replace HB := hide (below_next HB.out (Nat.le_refl _) hb)
            replace HZ := hide (HZ.out.after hb)
            clear hb
            refine hK.out _ _ (⟨H6.out.at 126 _ (by omega) rfl, H6.out.at 127 _ (by omega) rfl, H6.out.at 146 _ (by omega) rfl⟩) (fun hHeld => ?_)
            clear hK K
            refine take_at (i := 27) (v := .agg vw0) (d := some 36) rfl rfl (by kernel_rfl) (by kernel_rfl) (by kernel_rfl) (fun _ _ _ h => h) (Or.inl ⟨by rfl, fun wS ⟨hS0, hS1, hS2⟩ => by go_simp; all_goals (rw [IntKind.wrap_i64]; omega)⟩) (by assumption) ?_
            simp only [Act.put, List.setIfInBounds_toArray, List.set_cons_zero, List.set_cons_succ]
            clear hHeld
            refine wpAnyH_done (by kernel_rfl) (then_last ?_) _
            refine wp_store_row 46 _ _ rfl bz vw0 rfl rfl 46 vw0 HZ.out (by kernel_rfl) rfl (by kernel_rfl) ?_
            go_simp
            (try go_wp2_with fail)
            go_meet
            exact ⟨bz, rfl, hzb, setRow_heap _ _ _ _ _ _ HZ.out, below_setRow HB.out hzb _⟩
        · go_simp
          have HZ := hide (Blk.new wt2 vw0 46)
          have hzb := HB.out.size
          replace H6 := hide (H6.out.after (below_alloc wt2 (.cells vw0 46)))
          replace HB := hide (below_next HB.out (Nat.le_refl _) (below_alloc wt2 (.cells vw0 46)))
          generalize wt2.heap.size = bz at *
          generalize wt2.alloc (.cells vw0 46) = wt12 at *
          refine hK.out _ _ (⟨H6.out.at 126 _ (by omega) rfl, H6.out.at 127 _ (by omega) rfl, H6.out.at 146 _ (by omega) rfl⟩) (fun hHeld => ?_)
          clear hK K
          clear hHeld
          refine wpAnyH_ready (rs := [13]) (by kernel_rfl) (by simp) ?_
          refine AllReadyH.cons rfl (fun K hK => ?_) AllReadyH.nil
          go_simp
          refine (latB H6.out).mono ?_
          rintro e wt13 ⟨rfl, hb⟩
          replace H6 := hide (H6.out.after hb)
          replace HB := hide (below_next HB.out (Nat.le_refl _) hb)
          replace HZ := hide (HZ.out.after hb)
          clear hb
          refine hK.out _ _ (⟨H6.out.at 126 _ (by omega) rfl, H6.out.at 127 _ (by omega) rfl, H6.out.at 146 _ (by omega) rfl⟩) (fun hHeld => ?_)
          clear hK K
          clear hHeld
          refine wpAnyH_ready (rs := [19]) (by kernel_rfl) (by simp) ?_
          refine AllReadyH.cons rfl (fun K hK => ?_) AllReadyH.nil
          go_simp
          refine (idxB H6.out).mono ?_
          rintro e wt14 ⟨rfl, hb⟩
          replace H6 := hide (H6.out.after hb)
          replace HB := hide (below_next HB.out (Nat.le_refl _) hb)
          replace HZ := hide (HZ.out.after hb)
          clear hb
          refine hK.out _ _ (⟨H6.out.at 126 _ (by omega) rfl, H6.out.at 127 _ (by omega) rfl, H6.out.at 146 _ (by omega) rfl⟩) (fun hHeld => ?_)
          clear hK K
          clear hHeld
          refine wpAnyH_ready (rs := [21]) (by kernel_rfl) (by simp) ?_
          refine AllReadyH.cons rfl (fun K hK => ?_) AllReadyH.nil
          go_simp
          refine (bad_no H6.out).mono ?_
          rintro e wt15 ⟨rfl, hb⟩
          replace H6 := hide (H6.out.after hb)
          replace HB := hide (below_next HB.out (Nat.le_refl _) hb)
          replace HZ := hide (HZ.out.after hb)
          clear hb
          refine hK.out _ _ (⟨H6.out.at 126 _ (by omega) rfl, H6.out.at 127 _ (by omega) rfl, H6.out.at 146 _ (by omega) rfl⟩) (fun hHeld => ?_)
          clear hK K
          refine take_at (i := 27) (v := .agg vw0) (d := some 36) rfl rfl (by kernel_rfl) (by kernel_rfl) (by kernel_rfl) (fun _ _ _ h => h) (Or.inl ⟨by rfl, fun wS ⟨hS0, hS1, hS2⟩ => by go_simp; all_goals (rw [IntKind.wrap_i64]; omega)⟩) (by assumption) ?_
          simp only [Act.put, List.setIfInBounds_toArray, List.set_cons_zero, List.set_cons_succ]
          clear hHeld
          refine wpAnyH_done (by kernel_rfl) (then_last ?_) _
          refine wp_store_row 46 _ _ rfl bz vw0 rfl rfl 46 vw0 HZ.out (by kernel_rfl) rfl (by kernel_rfl) ?_
          go_simp
          (try go_wp2_with fail)
          go_meet
          exact ⟨bz, rfl, hzb, setRow_heap _ _ _ _ _ _ HZ.out, below_setRow HB.out hzb _⟩
      · go_simp
        have HZ := hide (Blk.new wt1 vw0 46)
        have hzb := HB.out.size
        replace H6 := hide (H6.out.after (below_alloc wt1 (.cells vw0 46)))
        replace HB := hide (below_next HB.out (Nat.le_refl _) (below_alloc wt1 (.cells vw0 46)))
        generalize wt1.heap.size = bz at *
        generalize wt1.alloc (.cells vw0 46) = wt16 at *
        refine hK.out _ _ (⟨H6.out.at 126 _ (by omega) rfl, H6.out.at 127 _ (by omega) rfl, H6.out.at 146 _ (by omega) rfl⟩) (fun hHeld => ?_)
        clear hK K
        clear hHeld
        refine wpAnyH_ready (rs := [7]) (by kernel_rfl) (by simp) ?_
        refine AllReadyH.cons rfl (fun K hK => ?_) AllReadyH.nil
        go_simp
        refine (armedB_no H6.out).mono ?_
        rintro e wt17 ⟨rfl, hb⟩
        replace H6 := hide (H6.out.after hb)
        replace HB := hide (below_next HB.out (Nat.le_refl _) hb)
        replace HZ := hide (HZ.out.after hb)
        clear hb
        refine hK.out _ _ (⟨H6.out.at 126 _ (by omega) rfl, H6.out.at 127 _ (by omega) rfl, H6.out.at 146 _ (by omega) rfl⟩) (fun hHeld => ?_)
        clear hK K
        clear hHeld
        refine wpAnyH_ready (rs := [13]) (by kernel_rfl) (by simp) ?_
        refine AllReadyH.cons rfl (fun K hK => ?_) AllReadyH.nil
        go_simp
        refine (latB H6.out).mono ?_
        rintro e wt18 ⟨rfl, hb⟩
        replace H6 := hide (H6.out.after hb)
        replace HB := hide (below_next HB.out (Nat.le_refl _) hb)
        replace HZ := hide (HZ.out.after hb)
        clear hb
        refine hK.out _ _ (⟨H6.out.at 126 _ (by omega) rfl, H6.out.at 127 _ (by omega) rfl, H6.out.at 146 _ (by omega) rfl⟩) (fun hHeld => ?_)
        clear hK K
        clear hHeld
        refine wpAnyH_ready (rs := [19]) (by kernel_rfl) (by simp) ?_
        refine AllReadyH.cons rfl (fun K hK => ?_) AllReadyH.nil
        go_simp
        refine (idxB H6.out).mono ?_
        rintro e wt19 ⟨rfl, hb⟩
        replace H6 := hide (H6.out.after hb)
        replace HB := hide (below_next HB.out (Nat.le_refl _) hb)
        replace HZ := hide (HZ.out.after hb)
        clear hb
        refine hK.out _ _ (⟨H6.out.at 126 _ (by omega) rfl, H6.out.at 127 _ (by omega) rfl, H6.out.at 146 _ (by omega) rfl⟩) (fun hHeld => ?_)
        clear hK K
        clear hHeld
        refine wpAnyH_ready (rs := [21]) (by kernel_rfl) (by simp) ?_
        refine AllReadyH.cons rfl (fun K hK => ?_) AllReadyH.nil
        go_simp
        refine (bad_no H6.out).mono ?_
        rintro e wt20 ⟨rfl, hb⟩
        replace H6 := hide (H6.out.after hb)
        replace HB := hide (below_next HB.out (Nat.le_refl _) hb)
        replace HZ := hide (HZ.out.after hb)
        clear hb
        refine hK.out _ _ (⟨H6.out.at 126 _ (by omega) rfl, H6.out.at 127 _ (by omega) rfl, H6.out.at 146 _ (by omega) rfl⟩) (fun hHeld => ?_)
        clear hK K
        refine take_at (i := 27) (v := .agg vw0) (d := some 36) rfl rfl (by kernel_rfl) (by kernel_rfl) (by kernel_rfl) (fun _ _ _ h => h) (Or.inl ⟨by rfl, fun wS ⟨hS0, hS1, hS2⟩ => by go_simp; all_goals (rw [IntKind.wrap_i64]; omega)⟩) (by assumption) ?_
        simp only [Act.put, List.setIfInBounds_toArray, List.set_cons_zero, List.set_cons_succ]
        clear hHeld
        refine wpAnyH_done (by kernel_rfl) (then_last ?_) _
        refine wp_store_row 46 _ _ rfl bz vw0 rfl rfl 46 vw0 HZ.out (by kernel_rfl) rfl (by kernel_rfl) ?_
        go_simp
        (try go_wp2_with fail)
        go_meet
        exact ⟨bz, rfl, hzb, setRow_heap _ _ _ _ _ _ HZ.out, below_setRow HB.out hzb _⟩
    · go_simp
      have HZ := hide (Blk.new Wd vw0 46)
      have hzb := HB.out.size
      replace H6 := hide (H6.out.after (below_alloc Wd (.cells vw0 46)))
      replace HB := hide (below_next HB.out (Nat.le_refl _) (below_alloc Wd (.cells vw0 46)))
      generalize Wd.heap.size = bz at *
      generalize Wd.alloc (.cells vw0 46) = wt21 at *
      refine hK.out _ _ (⟨H6.out.at 126 _ (by omega) rfl, H6.out.at 127 _ (by omega) rfl, H6.out.at 146 _ (by omega) rfl⟩) (fun hHeld => ?_)
      clear hK K
      clear hHeld
      refine wpAnyH_ready (rs := [3]) (by kernel_rfl) (by simp) ?_
      refine AllReadyH.cons rfl (fun K hK => ?_) AllReadyH.nil
      go_simp
      refine (modeB H6.out).mono ?_
      rintro e wt22 ⟨rfl, hb⟩
      replace H6 := hide (H6.out.after hb)
      replace HB := hide (below_next HB.out (Nat.le_refl _) hb)
      replace HZ := hide (HZ.out.after hb)
      clear hb
      refine hK.out _ _ (⟨H6.out.at 126 _ (by omega) rfl, H6.out.at 127 _ (by omega) rfl, H6.out.at 146 _ (by omega) rfl⟩) (fun hHeld => ?_)
      clear hK K
      clear hHeld
      refine wpAnyH_ready (rs := [7]) (by kernel_rfl) (by simp) ?_
      refine AllReadyH.cons rfl (fun K hK => ?_) AllReadyH.nil
      go_simp
      refine (armedB_no H6.out).mono ?_
      rintro e wt23 ⟨rfl, hb⟩
      replace H6 := hide (H6.out.after hb)
      replace HB := hide (below_next HB.out (Nat.le_refl _) hb)
      replace HZ := hide (HZ.out.after hb)
      clear hb
      refine hK.out _ _ (⟨H6.out.at 126 _ (by omega) rfl, H6.out.at 127 _ (by omega) rfl, H6.out.at 146 _ (by omega) rfl⟩) (fun hHeld => ?_)
      clear hK K
      clear hHeld
      refine wpAnyH_ready (rs := [13]) (by kernel_rfl) (by simp) ?_
      refine AllReadyH.cons rfl (fun K hK => ?_) AllReadyH.nil
      go_simp
      refine (latB H6.out).mono ?_
      rintro e wt24 ⟨rfl, hb⟩
      replace H6 := hide (H6.out.after hb)
      replace HB := hide (below_next HB.out (Nat.le_refl _) hb)
      replace HZ := hide (HZ.out.after hb)
      clear hb
      refine hK.out _ _ (⟨H6.out.at 126 _ (by omega) rfl, H6.out.at 127 _ (by omega) rfl, H6.out.at 146 _ (by omega) rfl⟩) (fun hHeld => ?_)
      clear hK K
      clear hHeld
      refine wpAnyH_ready (rs := [19]) (by kernel_rfl) (by simp) ?_
      refine AllReadyH.cons rfl (fun K hK => ?_) AllReadyH.nil
      go_simp
      refine (idxB H6.out).mono ?_
      rintro e wt25 ⟨rfl, hb⟩
      replace H6 := hide (H6.out.after hb)
      replace HB := hide (below_next HB.out (Nat.le_refl _) hb)
      replace HZ := hide (HZ.out.after hb)
      clear hb
      refine hK.out _ _ (⟨H6.out.at 126 _ (by omega) rfl, H6.out.at 127 _ (by omega) rfl, H6.out.at 146 _ (by omega) rfl⟩) (fun hHeld => ?_)
      clear hK K
      clear hHeld
      refine wpAnyH_ready (rs := [21]) (by kernel_rfl) (by simp) ?_
      refine AllReadyH.cons rfl (fun K hK => ?_) AllReadyH.nil
      go_simp
      refine (bad_no H6.out).mono ?_
      rintro e wt26 ⟨rfl, hb⟩
      replace H6 := hide (H6.out.after hb)
      replace HB := hide (below_next HB.out (Nat.le_refl _) hb)
      replace HZ := hide (HZ.out.after hb)
      clear hb
      refine hK.out _ _ (⟨H6.out.at 126 _ (by omega) rfl, H6.out.at 127 _ (by omega) rfl, H6.out.at 146 _ (by omega) rfl⟩) (fun hHeld => ?_)
      clear hK K
      refine take_at (i := 27) (v := .agg vw0) (d := some 36) rfl rfl (by kernel_rfl) (by kernel_rfl) (by kernel_rfl) (fun _ _ _ h => h) (Or.inl ⟨by rfl, fun wS ⟨hS0, hS1, hS2⟩ => by go_simp; all_goals (rw [IntKind.wrap_i64]; omega)⟩) (by assumption) ?_
      simp only [Act.put, List.setIfInBounds_toArray, List.set_cons_zero, List.set_cons_succ]
      clear hHeld
      refine wpAnyH_done (by kernel_rfl) (then_last ?_) _
      refine wp_store_row 46 _ _ rfl bz vw0 rfl rfl 46 vw0 HZ.out (by kernel_rfl) rfl (by kernel_rfl) ?_
      go_simp
      (try go_wp2_with fail)
      go_meet
      exact ⟨bz, rfl, hzb, setRow_heap _ _ _ _ _ _ HZ.out, below_setRow HB.out hzb _⟩
  case rest =>
    obtain ⟨gz, rfl, hgz, hG, hBz⟩ := hcut
    have H7 := hide (HK.out.after hBz)
    have HG := hide hG
    have HR := hide (HZ0.out.after hBz)
    have HB7 := hide (below_two HB0.out hBz)
    clear hG hBz H6 HK HZ0 HB0
    have c0 := H7.out.at 115 (pt (a.F 0)) (by omega) rfl
    have c1 := H7.out.at 116 (pt (a.F 1)) (by omega) rfl
    have c2 := H7.out.at 117 (pt (a.F 2)) (by omega) rfl
    go_wp2_with fail
    clear c0 c1 c2
    go_loopw [42] (fun v wx => ∃ j : Nat, v = .int .i64 (j : Int) ∧ j ≤ 3 ∧ Hid (Below wc.heap.size wc wx)) (fun v _ => 3 - (intOf v).toNat)
    case atStart => exact ⟨0, rfl, by omega, hide (Below.refl _ _)⟩
    case round =>
      obtain ⟨j, rfl, hj, HX⟩ := hrel
      have H8 := hide (H7.out.after HX.out)
      have HG8 := hide (HG.out.after HX.out)
      have HR8 := hide (HR.out.after HX.out)
      have HB8 := hide (below_two HB7.out HX.out)
      clear H7 HG HR HB7
      rcases (show j = 3 ∨ j = 0 ∨ j = 1 ∨ j = 2 by omega) with q | q | q | q
      · subst q
        have c0 : wr.cell? ⟨a.B, 119, none⟩ = some (pt a.Ba) := H8.out.at 119 _ (by omega) rfl
        go_wp2_with fail
        refine (leftE H8.out.Ba).mono ?_
        rintro e w9 ⟨rfl, hb⟩
        have HG9 := hide (HG8.out.after hb)
        have HR9 := hide (HR8.out.after hb)
        have HB9 := hide (below_two HB8.out hb)
        clear hb c0
        have c18 : w9.cell? ⟨gz, 18, none⟩ = some (.int .i64 0) := HG9.out.cell 18 rfl
        have f18 : w9.frozen? ⟨gz, 18, none⟩ = false := HG9.out.frozen 18
        have q18 : w9.setCell ⟨gz, 18, none⟩ (.int .i64 0) = w9 := HG9.out.same (k := 18) rfl
        have c19 : w9.cell? ⟨gz, 19, none⟩ = some (.int .i64 0) := HG9.out.cell 19 rfl
        have f19 : w9.frozen? ⟨gz, 19, none⟩ = false := HG9.out.frozen 19
        have q19 : w9.setCell ⟨gz, 19, none⟩ (.int .i64 0) = w9 := HG9.out.same (k := 19) rfl
        go_upto_region 10 with fail
        apply wp_region_lit
        refine (wpList_load_row rfl 46 _ rfl gz rfl 46 vw0 (0, 0) _ HG9.out Tryz.underlying46 rfl (by kernel_rfl) ?_)
        refine (wpList_store_row rfl 46 _ _ rfl w.heap.size vw0 rfl rfl 46 vw0 HR9.out (by kernel_rfl) rfl (by kernel_rfl) ?_)
        have R10 := setRow_heap w9 w.heap.size vw0 vw0 _ _ HR9.out
        have B10 := hide (below_setRow HB9.out (Nat.le_refl _) vw0)
        go_wp2_with fail
        refine bodyPost_ret (res_back Tryz.results7 Tryz.underlying46 (by kernel_rfl) _ _ w.heap.size rfl R10) rfl ?_
        exact ⟨rfl, B10.out⟩
      · subst q
        have ix : ∀ w, (Instr.index 70 (.agg #[pt (a.F 0), pt (a.F 1), pt (a.F 2)]) (.int .i64 0)).run Tryz.prog w = .ok (pt (a.F 0)) w := fil_ix a 0 (by omega)
        go_wp2_with fail
        refine (axisE0 _ _ 8 (H8.out.F 0 (by omega))).mono ?_
        rintro e w9 ⟨rfl, hb⟩
        have G9 := HG8.out.after hb
        have hx := hide (below_two HX.out hb)
        have c0 : w9.cell? ⟨gz, 6, none⟩ = some (.int .i64 0) := G9.cell 6 rfl
        have f0 : w9.frozen? ⟨gz, 6, none⟩ = false := G9.frozen 6
        have q0 : w9.setCell ⟨gz, 6, none⟩ (.int .i64 0) = w9 := G9.same (k := 6) rfl
        have c1 : w9.cell? ⟨gz, 7, none⟩ = some (.int .i64 0) := G9.cell 7 rfl
        have f1 : w9.frozen? ⟨gz, 7, none⟩ = false := G9.frozen 7
        have q1 : w9.setCell ⟨gz, 7, none⟩ (.int .i64 0) = w9 := G9.same (k := 7) rfl
        have c2 : w9.cell? ⟨gz, 8, none⟩ = some (.int .i64 0) := G9.cell 8 rfl
        have f2 : w9.frozen? ⟨gz, 8, none⟩ = false := G9.frozen 8
        have q2 : w9.setCell ⟨gz, 8, none⟩ (.int .i64 0) = w9 := G9.same (k := 8) rfl
        have c3 : w9.cell? ⟨gz, 9, none⟩ = some (.int .i64 0) := G9.cell 9 rfl
        have f3 : w9.frozen? ⟨gz, 9, none⟩ = false := G9.frozen 9
        have q3 : w9.setCell ⟨gz, 9, none⟩ (.int .i64 0) = w9 := G9.same (k := 9) rfl
        clear hb G9
        go_wp2_with fail
        exact ⟨⟨1, by rfl, by omega, hx⟩, by simp [intOf]⟩
      · subst q
        have ix : ∀ w, (Instr.index 70 (.agg #[pt (a.F 0), pt (a.F 1), pt (a.F 2)]) (.int .i64 1)).run Tryz.prog w = .ok (pt (a.F 1)) w := fil_ix a 1 (by omega)
        go_wp2_with fail
        refine (axisE0 _ _ 8 (H8.out.F 1 (by omega))).mono ?_
        rintro e w9 ⟨rfl, hb⟩
        have G9 := HG8.out.after hb
        have hx := hide (below_two HX.out hb)
        have c0 : w9.cell? ⟨gz, 10, none⟩ = some (.int .i64 0) := G9.cell 10 rfl
        have f0 : w9.frozen? ⟨gz, 10, none⟩ = false := G9.frozen 10
        have q0 : w9.setCell ⟨gz, 10, none⟩ (.int .i64 0) = w9 := G9.same (k := 10) rfl
        have c1 : w9.cell? ⟨gz, 11, none⟩ = some (.int .i64 0) := G9.cell 11 rfl
        have f1 : w9.frozen? ⟨gz, 11, none⟩ = false := G9.frozen 11
        have q1 : w9.setCell ⟨gz, 11, none⟩ (.int .i64 0) = w9 := G9.same (k := 11) rfl
        have c2 : w9.cell? ⟨gz, 12, none⟩ = some (.int .i64 0) := G9.cell 12 rfl
        have f2 : w9.frozen? ⟨gz, 12, none⟩ = false := G9.frozen 12
        have q2 : w9.setCell ⟨gz, 12, none⟩ (.int .i64 0) = w9 := G9.same (k := 12) rfl
        have c3 : w9.cell? ⟨gz, 13, none⟩ = some (.int .i64 0) := G9.cell 13 rfl
        have f3 : w9.frozen? ⟨gz, 13, none⟩ = false := G9.frozen 13
        have q3 : w9.setCell ⟨gz, 13, none⟩ (.int .i64 0) = w9 := G9.same (k := 13) rfl
        clear hb G9
        go_wp2_with fail
        exact ⟨⟨2, by rfl, by omega, hx⟩, by simp [intOf]⟩
      · subst q
        have ix : ∀ w, (Instr.index 70 (.agg #[pt (a.F 0), pt (a.F 1), pt (a.F 2)]) (.int .i64 2)).run Tryz.prog w = .ok (pt (a.F 2)) w := fil_ix a 2 (by omega)
        go_wp2_with fail
        refine (axisE0 _ _ 8 (H8.out.F 2 (by omega))).mono ?_
        rintro e w9 ⟨rfl, hb⟩
        have G9 := HG8.out.after hb
        have hx := hide (below_two HX.out hb)
        have c0 : w9.cell? ⟨gz, 14, none⟩ = some (.int .i64 0) := G9.cell 14 rfl
        have f0 : w9.frozen? ⟨gz, 14, none⟩ = false := G9.frozen 14
        have q0 : w9.setCell ⟨gz, 14, none⟩ (.int .i64 0) = w9 := G9.same (k := 14) rfl
        have c1 : w9.cell? ⟨gz, 15, none⟩ = some (.int .i64 0) := G9.cell 15 rfl
        have f1 : w9.frozen? ⟨gz, 15, none⟩ = false := G9.frozen 15
        have q1 : w9.setCell ⟨gz, 15, none⟩ (.int .i64 0) = w9 := G9.same (k := 15) rfl
        have c2 : w9.cell? ⟨gz, 16, none⟩ = some (.int .i64 0) := G9.cell 16 rfl
        have f2 : w9.frozen? ⟨gz, 16, none⟩ = false := G9.frozen 16
        have q2 : w9.setCell ⟨gz, 16, none⟩ (.int .i64 0) = w9 := G9.same (k := 16) rfl
        have c3 : w9.cell? ⟨gz, 17, none⟩ = some (.int .i64 0) := G9.cell 17 rfl
        have f3 : w9.frozen? ⟨gz, 17, none⟩ = false := G9.frozen 17
        have q3 : w9.setCell ⟨gz, 17, none⟩ (.int .i64 0) = w9 := G9.same (k := 17) rfl
        clear hb G9
        go_wp2_with fail
        exact ⟨⟨3, by rfl, by omega, hx⟩, by simp [intOf]⟩
end Go.Proofs.YtapfaaaepnplcaaGreatDoor
