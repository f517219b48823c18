/- Qse. -/
import Derived.Test.YtapfaaaepnplcaaGreatDoorG15
import Derived.Test.YtapfaaaepnplcaaGreatDoorG32
set_option maxRecDepth 100000
set_option maxHeartbeats 8000000
namespace Go.Proofs.YtapfaaaepnplcaaGreatDoor
open Go.RowKit Go.Great
/-- a heartbeat's payload, its bytes -/
def fpH : ByteArray := (encM 0 1 [0, 0, 0, 0, 0]).1.2.2
def LH : List UInt8 := encF (0, 1, fpH)
theorem hb_enc : encM 0 1 [0, 0, 0, 0, 0] = ((0, 1, fpH), 0) := by kernel_rfl
theorem hb_size : fpH.size ≤ 64 := of_decide_eq_true (by kernel_rfl)
theorem say_one (w : World) (B : Nat) (c : Nat → Value) (u : Value) (hB : BF w B 174 c 90) (h124 : c 124 = .int .i64 0) (h125 : c 125 = .slice none 0 0) (hI : Ints w u [0, 0, 0, 0, 0]) :
    Calls Tryz.prog 141 #[.pointer (some ⟨B, 120, none⟩), .int .u8 1, u] w fun e w' => e = .returned (.tuple #[]) ∧ ∃ v b, BF w' B 174 (updV (updV c 125 v) 124 (.int .i64 1)) 90 ∧ BRow w' b v LH ∧ w.grownBy w' (some B) := by
  have hb := below_alloc w (.cells #[.int .u8 1, u] 250)
  have SD : Hid _ := hide (send_one (w.alloc (.cells #[.int .u8 1, u] 250)) B w.heap.size c u 1 0 [0, 0, 0, 0, 0] fpH (by omega) (by omega) hb_enc hb_size (hB.after hb) h124 h125 (msg_new w _ _) (hI.below hb) (by decide))
  have HB := hide hb
  obtain ⟨au, cu, rfl, _⟩ := hI
  clear hb hB h124 h125
  go_enter Tryz.func141, Tryz.ntmps141
  go_wp2_with fail
  refine SD.out.mono ?_
  rintro e w1 ⟨rfl, v, x1, x2, x3⟩
  have X1 := hide x1
  have X2 := hide x2
  have X3 := hide (grown_then (grown_below HB.out (some B)) x3 (fun k e => .inl (by injection e with e; exact e.symm)))
  clear x1 x2 x3 SD HB
  go_wp2_with fail
  go_end0
  exact ⟨rfl, v, _, X1.out, X2.out, X3.out⟩
theorem modify_same {w : World} {B : Nat} {cs : Array Value} {t : TypeId} (h : Blk w B cs t) {f : Obj → Obj} (hf : f (.cells cs t (0, 0)) = .cells cs t (0, 0)) : w.heap.modify B f = w.heap := by
  apply Array.ext_getElem?
  intro j
  rw [Array.getElem?_modify]
  split
  · subst j; rw [show w.heap[B]? = _ from h]; simp [hf]
  · rfl
theorem info_view : (Tryz.prog.info? 46).map (fun i => (i.zero, i.size)) = some (some (.agg vw0), 20) := by kernel_rfl
theorem alloc_view (w : World) (ρ : Operand → Value) (o : Oper) (ho : o.op = .alloc 46) : (execOp ρ o).run Tryz.prog w = .ok (.value (.pointer (some ⟨w.heap.size, 0, none⟩))) (w.alloc (.cells vw0 46)) := by
  have hz := (zero_of_info info_view).1
  simp [execOp, ho, go_sem, hz, Value.cells]
theorem tell_no {w0 : World} {b0 : Nat} {w : World} {a : Ad} (h : Bt w0 b0 w a) (ho : a.out = .slice none 0 0) (hq : a.sq = 0) : Calls Tryz.prog 61 #[pt a.B] w fun e w' => e = .returned (.tuple #[]) ∧ ∃ v b, Bt w0 b0 w' { a with out := v, sq := 1 } ∧ BRow w' b v LH := by
  have HH := hide h
  have HO := hide ho
  have HQ := hide hq
  clear h ho hq
  go_enter Tryz.func61, Tryz.ntmps61
  go_wp2_with fail
  refine (view_no HH.out).mono ?_
  rintro e w1 ⟨rfl, hb⟩
  have hb2 := below_two hb (below_alloc w1 (.cells vw0 46))
  have H2 := hide (HH.out.after hb2)
  have HV := hide (Blk.new w1 vw0 46)
  have HS := alloc_view w1
  clear hb hb2 HH
  generalize hw2 : w1.alloc (.cells vw0 46) = w2 at *
  generalize w1.heap.size = z at *
  rename_i K hK
  refine hK _ _ ?_
  clear hK
  refine wpList_run rfl (some 2) rfl (.pointer (some ⟨z, 0, none⟩)) w2 (HS _ _ rfl) ?_
  clear HS hw2
  refine wpList_store_row rfl 46 _ _ rfl z vw0 rfl rfl 46 vw0 HV.out (by kernel_rfl) rfl (by kernel_rfl) ?_
  have hsr : w2.setRow z vw0 = w2 := by
    unfold World.setRow
    rw [modify_same HV.out rfl]
  rw [hsr]
  clear hsr
  go_upto_region 1 with fail
  have z0 := HV.out.cell 0 (v := .int .u8 0) rfl
  have z1 := HV.out.cell 1 (v := .bool false) rfl
  have z2 := HV.out.cell 2 (v := .int .i64 0) rfl
  have z3 := HV.out.cell 3 (v := .int .i64 0) rfl
  have z4 := HV.out.cell 4 (v := .int .i64 0) rfl
  go_upto_region 4 with fail
  refine reg_last_held (fun wx => wx.cell? ⟨z, 0, none⟩ = some (.int .u8 0) ∧ wx.cell? ⟨z, 2, none⟩ = some (.int .i64 0) ∧ wx.cell? ⟨z, 3, none⟩ = some (.int .i64 0) ∧ wx.cell? ⟨z, 4, none⟩ = some (.int .i64 0)) 14 rfl rfl _ rfl (by kernel_rfl) (by kernel_rfl) ⟨z0, z2, z3, z4⟩ (fun hHeld => ?_)
  simp only [List.take_succ_cons, List.take_zero]
  replace H2 := hide (H2.out.drew)
  replace HV := hide (HV.out.after (Below.refl _ _).drew)
  clear z0 z1 z2 z3 z4
  generalize w2.drew = Wd at *
  refine take_at (i := 0) (v := pt a.B) (d := some 8) rfl rfl (by kernel_rfl) (by kernel_rfl) (by kernel_rfl) (fun _ _ _ h => h) (Or.inl ⟨by rfl, fun wS ⟨hS0, hS1, hS2, hS3⟩ => by go_simp; all_goals (rw [IntKind.wrap_i64]; omega)⟩) (by assumption) ?_
  simp only [Act.put, List.setIfInBounds_toArray, List.set_cons_zero, List.set_cons_succ]
  refine take_at (i := 1) (v := pt a.B) (d := some 9) rfl rfl (by kernel_rfl) (by kernel_rfl) (by kernel_rfl) (fun _ _ _ h => h) (Or.inl ⟨by rfl, fun wS ⟨hS0, hS1, hS2, hS3⟩ => by go_simp; all_goals (rw [IntKind.wrap_i64]; omega)⟩) (by assumption) ?_
  simp only [Act.put, List.setIfInBounds_toArray, List.set_cons_zero, List.set_cons_succ]
  refine take_at (i := 2) (v := .pointer (some ⟨a.B, 120, none⟩)) (d := some 10) rfl rfl (by kernel_rfl) (by kernel_rfl) (by kernel_rfl) (fun _ _ _ h => h) (Or.inl ⟨by rfl, fun wS ⟨hS0, hS1, hS2, hS3⟩ => by go_simp; all_goals (rw [IntKind.wrap_i64]; omega)⟩) (by assumption) ?_
  simp only [Act.put, List.setIfInBounds_toArray, List.set_cons_zero, List.set_cons_succ]
  refine take_at (i := 3) (v := .pointer (some ⟨z, 0, none⟩)) (d := some 11) rfl rfl (by kernel_rfl) (by kernel_rfl) (by kernel_rfl) (fun _ _ _ h => h) (Or.inl ⟨by rfl, fun wS ⟨hS0, hS1, hS2, hS3⟩ => by go_simp; all_goals (rw [IntKind.wrap_i64]; omega)⟩) (by assumption) ?_
  simp only [Act.put, List.setIfInBounds_toArray, List.set_cons_zero, List.set_cons_succ]
  refine take_at (i := 4) (v := .int .u8 0) (d := some 12) rfl rfl (by kernel_rfl) (by kernel_rfl) (by kernel_rfl) (fun _ _ _ h => h) (Or.inl ⟨by rfl, fun wS ⟨hS0, hS1, hS2, hS3⟩ => by go_simp; all_goals (rw [IntKind.wrap_i64]; omega)⟩) (by assumption) ?_
  simp only [Act.put, List.setIfInBounds_toArray, List.set_cons_zero, List.set_cons_succ]
  refine take_at (i := 5) (v := .int .i64 0) (d := some 13) rfl rfl (by kernel_rfl) (by kernel_rfl) (by kernel_rfl) (fun _ _ _ h => h) (Or.inl ⟨by rfl, fun wS ⟨hS0, hS1, hS2, hS3⟩ => by go_simp; all_goals (rw [IntKind.wrap_i64]; omega)⟩) (by assumption) ?_
  simp only [Act.put, List.setIfInBounds_toArray, List.set_cons_zero, List.set_cons_succ]
  refine take_at (i := 6) (v := .int .i64 0) (d := some 14) rfl rfl (by kernel_rfl) (by kernel_rfl) (by kernel_rfl) (fun _ _ _ h => h) (Or.inl ⟨by rfl, fun wS ⟨hS0, hS1, hS2, hS3⟩ => by go_simp; all_goals (rw [IntKind.wrap_i64]; omega)⟩) (by assumption) ?_
  simp only [Act.put, List.setIfInBounds_toArray, List.set_cons_zero, List.set_cons_succ]
  refine take_at (i := 7) (v := .pointer (some ⟨z, 2, none⟩)) (d := some 15) rfl rfl (by kernel_rfl) (by kernel_rfl) (by kernel_rfl) (fun _ _ _ h => h) (Or.inl ⟨by rfl, fun wS ⟨hS0, hS1, hS2, hS3⟩ => by go_simp; all_goals (rw [IntKind.wrap_i64]; omega)⟩) (by assumption) ?_
  simp only [Act.put, List.setIfInBounds_toArray, List.set_cons_zero, List.set_cons_succ]
  refine take_at (i := 8) (v := .int .i64 0) (d := some 16) rfl rfl (by kernel_rfl) (by kernel_rfl) (by kernel_rfl) (fun _ _ _ h => h) (Or.inl ⟨by rfl, fun wS ⟨hS0, hS1, hS2, hS3⟩ => by go_simp; all_goals (rw [IntKind.wrap_i64]; omega)⟩) (by assumption) ?_
  simp only [Act.put, List.setIfInBounds_toArray, List.set_cons_zero, List.set_cons_succ]
  refine take_at (i := 9) (v := .pointer (some ⟨z, 3, none⟩)) (d := some 17) rfl rfl (by kernel_rfl) (by kernel_rfl) (by kernel_rfl) (fun _ _ _ h => h) (Or.inl ⟨by rfl, fun wS ⟨hS0, hS1, hS2, hS3⟩ => by go_simp; all_goals (rw [IntKind.wrap_i64]; omega)⟩) (by assumption) ?_
  simp only [Act.put, List.setIfInBounds_toArray, List.set_cons_zero, List.set_cons_succ]
  refine take_at (i := 10) (v := .int .i64 0) (d := some 18) rfl rfl (by kernel_rfl) (by kernel_rfl) (by kernel_rfl) (fun _ _ _ h => h) (Or.inl ⟨by rfl, fun wS ⟨hS0, hS1, hS2, hS3⟩ => by go_simp; all_goals (rw [IntKind.wrap_i64]; omega)⟩) (by assumption) ?_
  simp only [Act.put, List.setIfInBounds_toArray, List.set_cons_zero, List.set_cons_succ]
  refine take_at (i := 11) (v := .pointer (some ⟨z, 4, none⟩)) (d := some 19) rfl rfl (by kernel_rfl) (by kernel_rfl) (by kernel_rfl) (fun _ _ _ h => h) (Or.inl ⟨by rfl, fun wS ⟨hS0, hS1, hS2, hS3⟩ => by go_simp; all_goals (rw [IntKind.wrap_i64]; omega)⟩) (by assumption) ?_
  simp only [Act.put, List.setIfInBounds_toArray, List.set_cons_zero, List.set_cons_succ]
  refine take_at (i := 12) (v := .int .i64 0) (d := some 20) rfl rfl (by kernel_rfl) (by kernel_rfl) (by kernel_rfl) (fun _ _ _ h => h) (Or.inl ⟨by rfl, fun wS ⟨hS0, hS1, hS2, hS3⟩ => by go_simp; all_goals (rw [IntKind.wrap_i64]; omega)⟩) (by assumption) ?_
  simp only [Act.put, List.setIfInBounds_toArray, List.set_cons_zero, List.set_cons_succ]
  clear hHeld
  refine wpAnyH_ready (rs := [13]) (by kernel_rfl) (by simp) ?_
  refine AllReadyH.cons rfl (fun K hK => ?_) AllReadyH.nil
  go_simp
  have hk := below_alloc Wd (.cells #[.int .i64 0, .int .i64 0, .int .i64 0, .int .i64 0, .int .i64 0] 3)
  have H3 := hide (H2.out.after hk)
  have HV3 := HV.out.after hk
  have HI := hide (ints_row (l := [0, 0, 0, 0, 0]) (heap_alloc_new Wd (.cells #[.int .i64 0, .int .i64 0, .int .i64 0, .int .i64 0, .int .i64 0] 3)) 5 5 rfl)
  refine hK.out _ _ ⟨HV3.cell 0 rfl, HV3.cell 2 rfl, HV3.cell 3 rfl, HV3.cell 4 rfl⟩ (fun hHeld => ?_)
  clear hK K HV3 hHeld
  refine wpAnyH_done (by kernel_rfl) (then_last ?_) _
  go_simp
  refine (say_one _ a.B (pilF a) _ H3.out.P (by show Value.int .i64 a.sq = _; rw [HQ.out]) HO.out HI.out).mono ?_
  rintro e w4 ⟨rfl, v, b, x1, x2, x3⟩
  have H4 : Hid (Bt w0 b0 w4 { a with out := v, sq := 1 }) := hide (H3.out.upd x3 a.le a.si v 1 (by
    have ha : cN 174 (updV (updV (pilF a) 125 v) 124 (.int .i64 1)) = cN 174 (pilF { a with le := a.le, si := a.si, out := v, sq := 1 }) := by kernel_rfl
    unfold BF at x1 ⊢
    rwa [ha] at x1))
  have X2 := hide x2
  clear x1 x2 x3 H3 HI H2 HV
  go_wp2_with fail
  go_end0
  exact ⟨rfl, v, b, H4.out, X2.out⟩
theorem sent_any (w : World) (B b : Nat) (c : Nat → Value) (v : Value) (L : List UInt8) (hB : BF w B 174 c 90) (hv : c 125 = v) (hR : BRow w b v L) : Calls Tryz.prog 12 #[.pointer (some ⟨B, 120, none⟩)] w fun e w' => e = .returned (.string (bs L)) ∧ w' = w.setCell ⟨B, 125, none⟩ (.slice none 0 0) := by
  have c0 := hB.cell 125 (by omega) hv
  have f0 := hB.fz 125
  have ht := hR.text
  obtain ⟨va, vc, rfl⟩ := hR.shape
  clear hR hv hB
  go_enter Tryz.func12, Tryz.ntmps12
  go_wp2_with fail
  go_ret
  exact ⟨rfl, rfl⟩
end Go.Proofs.YtapfaaaepnplcaaGreatDoor
