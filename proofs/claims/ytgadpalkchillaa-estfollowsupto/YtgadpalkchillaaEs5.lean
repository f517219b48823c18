/- Package est: a step of a filter. -/
import Derived.Test.YtgadpalkchillaaEs4
namespace Go.Proofs.Ytgadpalkchillaa
open Go.RowKit Go.Great

theorem step_nilF (w : World) (acc dev : Int) (sd : Bool) (p v : Mea) : Calls Try.prog 10 #[.pointer none, .int .i64 acc, .int .i64 dev, .bool sd, mV p, mV v] w fun e w' => e = .returned (.tuple #[]) ∧ Below w.heap.size w w' := by
  go_enter Try.func10, Try.ntmps10
  go_wp2_with fail
  refine bodyPost_ret (results_none rfl _ _ _) rfl ?_
  exact ⟨rfl, b2 _ _ _⟩
set_option maxHeartbeats 1000000 in
theorem step_no (w : World) (B : Nat) (t : Fi) (acc dev : Int) (sd : Bool) (p v : Mea) (hB : Blk w B (fC t) 72) (hk : t.kn = false) (hp : MOk p) (hv : MOk v) : Calls Try.prog 10 #[.pointer (some ⟨B, 0, none⟩), .int .i64 acc, .int .i64 dev, .bool sd, mV p, mV v] w fun e w' => e = .returned (.tuple #[]) ∧ Blk w' B (fC (fstp acc dev sd p v t)) 72 ∧ w.grownBy w' (some B) := by
  obtain ⟨W0, hW0, b0, P0, V0, hz0⟩ := two_boxes w #[.bool p.o, .int .i64 p.x, .int .i64 p.e] #[.bool v.o, .int .i64 v.x, .int .i64 v.e] 38 38
  have hlB := hB.lt
  have HB0 := hide (hB.below b0 hlB)
  have G0 := hide (grown_below b0 (some B))
  have hkn : W0.cell? ⟨B, 1, none⟩ = some (.bool false) := by rw [← hk]; exact fc8 HB0.out
  have HE : Hid (fstp acc dev sd p v t = fbeg p v t) := hide (by unfold fstp; rw [hk]; rfl)
  have a0 : W0.cell? ⟨w.heap.size, 0, none⟩ = some (.bool p.o) := P0.cell 0 rfl
  have a1 : W0.cell? ⟨w.heap.size, 1, none⟩ = some (.int .i64 p.x) := P0.cell 1 rfl
  have a2 : W0.cell? ⟨w.heap.size, 2, none⟩ = some (.int .i64 p.e) := P0.cell 2 rfl
  have c0 : W0.cell? ⟨w.heap.size + 1, 0, none⟩ = some (.bool v.o) := V0.cell 0 rfl
  have c1 : W0.cell? ⟨w.heap.size + 1, 1, none⟩ = some (.int .i64 v.x) := V0.cell 1 rfl
  have c2 : W0.cell? ⟨w.heap.size + 1, 2, none⟩ = some (.int .i64 v.e) := V0.cell 2 rfl
  clear hB b0 P0 V0 hk
  go_enter Try.func10, Try.ntmps10
  go_wp2_with (go_at_call 24; refine (begin_any W0 B t p v HB0.out hp hv).mono ?_; rintro e w1 ⟨rfl, hB1, hG1⟩)
  refine bodyPost_ret (results_none rfl _ _ _) rfl ?_
  refine ⟨rfl, ?_, grown_more G0.out hG1⟩
  rw [HE.out]
  exact hB1
theorem i64_of {x : Int} (h : 0 ≤ x ∧ x ≤ 9223372036854775807) : I64 x := by unfold I64; omega
/-- the boxes of two measures -/
def Two (w : World) (g : Nat) (p v : Mea) : Prop := Blk w g #[.bool p.o, .int .i64 p.x, .int .i64 p.e] 38 ∧ Blk w (g + 1) #[.bool v.o, .int .i64 v.x, .int .i64 v.e] 38
theorem Two.cells {w : World} {g : Nat} {p v : Mea} (h : Two w g p v) : w.cell? ⟨g, 0, none⟩ = some (.bool p.o) ∧ w.cell? ⟨g, 1, none⟩ = some (.int .i64 p.x) ∧ w.cell? ⟨g, 2, none⟩ = some (.int .i64 p.e) ∧ w.cell? ⟨g + 1, 0, none⟩ = some (.bool v.o) ∧ w.cell? ⟨g + 1, 1, none⟩ = some (.int .i64 v.x) ∧ w.cell? ⟨g + 1, 2, none⟩ = some (.int .i64 v.e) := ⟨h.1.cell 0 rfl, h.1.cell 1 rfl, h.1.cell 2 rfl, h.2.cell 0 rfl, h.2.cell 1 rfl, h.2.cell 2 rfl⟩
theorem Two.after {w w' : World} {g : Nat} {p v : Mea} (h : Two w g p v) (hb : Below w.heap.size w w') : Two w' g p v := ⟨h.1.after hb, h.2.after hb⟩
theorem Two.grown {w w' : World} {g B : Nat} {p v : Mea} (h : Two w g p v) (hG : w.grownBy w' (some B)) (hB : B < g) : Two w' g p v := ⟨h.1.grown hG (fun e => by injection e with e; omega), h.2.grown hG (fun e => by injection e with e; omega)⟩
theorem Two.drew {w : World} {g : Nat} {p v : Mea} (h : Two w g p v) : Two w.drew g p v := h
set_option maxHeartbeats 2000000 in
set_option maxRecDepth 100000 in
theorem step_yes (w : World) (B : Nat) (t : Fi) (acc dev : Int) (sd : Bool) (p v : Mea) (hB : Blk w B (fC t) 72) (hk : t.kn = true) (ht : FOk t) (ha : I64 acc) (hd : I64 dev) (hp : MOk p) (hv : MOk v) : Calls Try.prog 10 #[.pointer (some ⟨B, 0, none⟩), .int .i64 acc, .int .i64 dev, .bool sd, mV p, mV v] w fun e w' => e = .returned (.tuple #[]) ∧ Blk w' B (fC (fstp acc dev sd p v t)) 72 ∧ w.grownBy w' (some B) := by
  obtain ⟨W0, hW0, b0, P0, V0, hz0⟩ := two_boxes w #[.bool p.o, .int .i64 p.x, .int .i64 p.e] #[.bool v.o, .int .i64 v.x, .int .i64 v.e] 38 38
  have hlB := hB.lt
  have HB0 := hide (hB.below b0 hlB)
  have G0 := hide (grown_below b0 (some B))
  have HT0 : Hid (Two W0 w.heap.size p v) := hide ⟨P0, V0⟩
  have hkn : W0.cell? ⟨B, 1, none⟩ = some (.bool true) := by rw [← hk]; exact fc8 HB0.out
  have HE : Hid (fstp acc dev sd p v t = fgo acc dev sd p v t) := hide (by unfold fstp; rw [hk]; rfl)
  have HT := hide ht
  have HA := hide ha
  have HD := hide hd
  have HP := hide hp
  have HV := hide hv
  have I0 := hide (i64_of ht.q0)
  have I1 := hide (i64_of ht.q1)
  clear hB b0 P0 V0 hk ht ha hd hp hv
  go_enter Try.func10, Try.ntmps10
  go_upto_region 4 with fail
  clear hW0 hkn
  refine wp_region_held_drew (S := fun wx => wx.cell? ⟨w.heap.size, 0, none⟩ = some (.bool p.o) ∧ wx.cell? ⟨w.heap.size, 1, none⟩ = some (.int .i64 p.x) ∧ wx.cell? ⟨w.heap.size, 2, none⟩ = some (.int .i64 p.e) ∧ wx.cell? ⟨w.heap.size + 1, 0, none⟩ = some (.bool v.o) ∧ wx.cell? ⟨w.heap.size + 1, 1, none⟩ = some (.int .i64 v.x) ∧ wx.cell? ⟨w.heap.size + 1, 2, none⟩ = some (.int .i64 v.e)) (by kernel_rfl) (HT0.out.drew.cells) (fun hHeld => ?_)
  refine take_at (i := 0) (v := .pointer (some ⟨B, 0, none⟩)) (d := some 25) rfl rfl (by kernel_rfl) (by kernel_rfl) (by kernel_rfl) (fun _ _ _ h => h) (Or.inl ⟨by rfl, fun wS ⟨hS0, hS1, hS2, hS3, hS4, hS5⟩ => by go_simp; all_goals (rw [IntKind.wrap_i64]; omega)⟩) (by assumption) ?_
  simp only [Act.put, List.setIfInBounds_toArray, List.set_cons_zero, List.set_cons_succ]
  refine take_at (i := 1) (v := .pointer (some ⟨B, 0, none⟩)) (d := some 26) rfl rfl (by kernel_rfl) (by kernel_rfl) (by kernel_rfl) (fun _ _ _ h => h) (Or.inl ⟨by rfl, fun wS ⟨hS0, hS1, hS2, hS3, hS4, hS5⟩ => by go_simp; all_goals (rw [IntKind.wrap_i64]; omega)⟩) (by assumption) ?_
  simp only [Act.put, List.setIfInBounds_toArray, List.set_cons_zero, List.set_cons_succ]
  refine take_at (i := 2) (v := .pointer (some ⟨B, 0, none⟩)) (d := some 27) rfl rfl (by kernel_rfl) (by kernel_rfl) (by kernel_rfl) (fun _ _ _ h => h) (Or.inl ⟨by rfl, fun wS ⟨hS0, hS1, hS2, hS3, hS4, hS5⟩ => by go_simp; all_goals (rw [IntKind.wrap_i64]; omega)⟩) (by assumption) ?_
  simp only [Act.put, List.setIfInBounds_toArray, List.set_cons_zero, List.set_cons_succ]
  refine take_at (i := 3) (v := .agg #[.bool p.o, .int .i64 p.x, .int .i64 p.e]) (d := some 28) rfl rfl (by kernel_rfl) (by kernel_rfl) (by kernel_rfl) (fun _ _ _ h => h) (Or.inl ⟨by rfl, fun wS ⟨hS0, hS1, hS2, hS3, hS4, hS5⟩ => by go_simp; all_goals (rw [IntKind.wrap_i64]; omega)⟩) (by assumption) ?_
  simp only [Act.put, List.setIfInBounds_toArray, List.set_cons_zero, List.set_cons_succ]
  refine take_at (i := 4) (v := .agg #[.bool v.o, .int .i64 v.x, .int .i64 v.e]) (d := some 29) rfl rfl (by kernel_rfl) (by kernel_rfl) (by kernel_rfl) (fun _ _ _ h => h) (Or.inl ⟨by rfl, fun wS ⟨hS0, hS1, hS2, hS3, hS4, hS5⟩ => by go_simp; all_goals (rw [IntKind.wrap_i64]; omega)⟩) (by assumption) ?_
  simp only [Act.put, List.setIfInBounds_toArray, List.set_cons_zero, List.set_cons_succ]
  clear hHeld
  refine wpAnyH_ready (rs := [5]) (by kernel_rfl) (by simp) ?_
  refine AllReadyH.cons rfl (fun K hK => ?_) AllReadyH.nil
  go_simp
  have HB1 := hide (HB0.out.alloc (.cells #[.bool p.o, .int .i64 p.x, .int .i64 p.e, .bool v.o, .int .i64 v.x, .int .i64 v.e] 38))
  have HT1 := hide (HT0.out.after (below_alloc W0 (.cells #[.bool p.o, .int .i64 p.x, .int .i64 p.e, .bool v.o, .int .i64 v.x, .int .i64 v.e] 38)))
  have G1 := hide (grown_after G0.out (below_alloc W0 (.cells #[.bool p.o, .int .i64 p.x, .int .i64 p.e, .bool v.o, .int .i64 v.x, .int .i64 v.e] 38)))
  have HS1 : Hid (Blk (W0.alloc (.cells #[.bool p.o, .int .i64 p.x, .int .i64 p.e, .bool v.o, .int .i64 v.x, .int .i64 v.e] 38)) (w.heap.size + 2) #[.bool p.o, .int .i64 p.x, .int .i64 p.e, .bool v.o, .int .i64 v.x, .int .i64 v.e] 38) := hide (by have := Blk.new W0 #[.bool p.o, .int .i64 p.x, .int .i64 p.e, .bool v.o, .int .i64 v.x, .int .i64 v.e] 38; rwa [hz0] at this)
  clear HB0 HT0 G0
  generalize W0.alloc (.cells #[.bool p.o, .int .i64 p.x, .int .i64 p.e, .bool v.o, .int .i64 v.x, .int .i64 v.e] 38) = W1 at *
  refine hK.out _ _ HT1.out.drew.cells (fun hHeld => ?_)
  clear hK K hHeld
  refine wpAnyH_ready (rs := [6]) (by kernel_rfl) (by simp) ?_
  refine AllReadyH.cons rfl (fun K hK => ?_) AllReadyH.nil
  go_simp
  refine (hear2_any W1.drew B (fC t) 72 p t.q0 v t.q1 HB1.out rfl rfl I0.out I1.out (w.heap.size + 2) HS1.out (by omega)).mono ?_
  rintro e w2 ⟨rfl, hB2, hG2⟩
  have HB2 : Hid (Blk w2 B (fC (fhear p v t)) 72) := hide hB2
  have HT2 := hide (HT1.out.drew.grown hG2 hlB)
  have G2 := hide (grown_more (grown_drew1 G1.out) hG2)
  clear HB1 HT1 G1 HS1 hB2 hG2
  refine hK.out _ _ HT2.out.cells (fun hHeld => ?_)
  clear hK K hHeld
  refine wpAnyH_done (by kernel_rfl) ?_ _
  go_simp
  have HT1 := hide (fhear_ok (p := p) (v := v) HT.out)
  have HW : Hid ((fhear p v t).pl = t.pl ∧ (fhear p v t).ph = t.ph) := hide ⟨rfl, rfl⟩
  obtain ⟨t1, ht1⟩ : ∃ t1, Hid (fhear p v t = t1) := ⟨_, hide rfl⟩
  rw [ht1.out] at HB2 HT1 HW
  obtain ⟨c4, c5, c6, c7⟩ := fc4 HB2.out
  rw [HW.out.1] at c4
  rw [HW.out.2] at c5
  have IP := hide HT.out.pl
  have IQ := hide HT.out.ph
  obtain ⟨pl0, hpl0⟩ : ∃ x, t.pl = x := ⟨_, rfl⟩
  obtain ⟨ph0, hph0⟩ : ∃ x, t.ph = x := ⟨_, rfl⟩
  have HPL := hide (And.intro hpl0 hph0)
  rw [hpl0] at c4 IP
  rw [hph0] at c5 IQ
  clear hpl0 hph0
  go_upto_region 6 with fail
  have HX := hide (Blk.new w2 #[.int .i64 pl0, .int .i64 ph0] 28)
  have HB3 := hide (HB2.out.alloc (.cells #[.int .i64 pl0, .int .i64 ph0] 28))
  have HT3 := hide (HT2.out.after (below_alloc w2 (.cells #[.int .i64 pl0, .int .i64 ph0] 28)))
  have G3 := hide (grown_after G2.out (below_alloc w2 (.cells #[.int .i64 pl0, .int .i64 ph0] 28)))
  have hzg : B < w2.heap.size := HB2.out.lt
  clear HB2 HT2 G2 c4 c5 c6 c7
  generalize w2.heap.size = g at *
  generalize w2.alloc (.cells #[.int .i64 pl0, .int .i64 ph0] 28) = W3 at *
  have HDD := hide (imax_ok HD.out i64_nought)
  go_upto_region 7 with (go_at_call 26; refine (move_any W3 B t1 acc (imax dev 0) HB3.out HT1.out HA.out HDD.out).mono ?_; rintro e w4 ⟨rfl, hB4, hG4⟩)
  have HB4 := hide hB4
  have HT4 := hide (HT3.out.grown hG4 hlB)
  have HX4 := hide (HX.out.grown hG4 (fun e => by injection e with e; omega))
  have G4 := hide (grown_more G3.out hG4)
  have HO4 := hide (fmov_ok (acc := acc) HT1.out (imax0 dev))
  clear HB3 HT3 HX G3 hB4 hG4
  have HE4 : Hid (fstp acc dev sd p v t = fcv v (fcp p (if sd = true then fstd pl0 ph0 (fmov acc (imax dev 0) t1) else fmov acc (imax dev 0) t1))) := hide (by rw [HE.out]; unfold fgo; rw [ht1.out, HPL.out.1, HPL.out.2])
  obtain ⟨t2, ht2⟩ : ∃ t2, Hid (fmov acc (imax dev 0) t1 = t2) := ⟨_, hide rfl⟩
  rw [ht2.out] at HB4 HO4 HE4
  cases sd
  · have HE5 : Hid (fstp acc dev false p v t = fcv v (fcp p t2)) := hide (by rw [HE4.out, if_neg (by decide)])
    have HB := HB4
    have HTw := HT4
    have G := G4
    have HO := HO4
    clear HB4 HT4 G4 HO4 HE4 HE HX4
    obtain ⟨t3, ht3⟩ : ∃ t3, Hid (t2 = t3) := ⟨_, hide rfl⟩
    rw [ht3.out] at HB HO HE5
    obtain ⟨ts, hts⟩ : ∃ ts, Hid (t3 = ts) := ⟨_, hide rfl⟩
    rw [hts.out] at HB HO HE5
    have SH : Hid (∀ wx (tx : Fi), Blk wx B (fC tx) 72 → Two wx w.heap.size p v → tx.pl = ts.pl → tx.ph = ts.ph → tx.vl = ts.vl → tx.vh = ts.vh → wx.cell? ⟨B, 4, none⟩ = some (.int .i64 ts.pl) ∧ wx.cell? ⟨B, 5, none⟩ = some (.int .i64 ts.ph) ∧ wx.cell? ⟨w.heap.size, 0, none⟩ = some (.bool p.o) ∧ wx.cell? ⟨w.heap.size, 1, none⟩ = some (.int .i64 p.x) ∧ wx.cell? ⟨w.heap.size, 2, none⟩ = some (.int .i64 p.e)) := hide (fun wx tx h1 h2 e1 e2 e3 e4 => by rw [← e1, ← e2]; exact ⟨h1.cell 4 rfl, h1.cell 5 rfl, h2.1.cell 0 rfl, h2.1.cell 1 rfl, h2.1.cell 2 rfl⟩)
    go_upto_region 10 with fail
    refine reg_last_held (fun wx => wx.cell? ⟨B, 4, none⟩ = some (.int .i64 ts.pl) ∧ wx.cell? ⟨B, 5, none⟩ = some (.int .i64 ts.ph) ∧ wx.cell? ⟨w.heap.size, 0, none⟩ = some (.bool p.o) ∧ wx.cell? ⟨w.heap.size, 1, none⟩ = some (.int .i64 p.x) ∧ wx.cell? ⟨w.heap.size, 2, none⟩ = some (.int .i64 p.e)) 12 rfl rfl _ rfl (by kernel_rfl) (by kernel_rfl) (SH.out w4.drew ts HB.out HTw.out rfl rfl rfl rfl) (fun hHeld => ?_)
    simp only [List.take_succ_cons, List.take_zero]
    refine take_at (i := 0) (v := .pointer (some ⟨B, 0, none⟩)) (d := some 65) rfl rfl (by kernel_rfl) (by kernel_rfl) (by kernel_rfl) (fun _ _ _ h => h) (Or.inl ⟨by rfl, fun wS ⟨hS0, hS1, hS2, hS3, hS4⟩ => by go_simp; all_goals (rw [IntKind.wrap_i64]; omega)⟩) (by assumption) ?_
    simp only [Act.put, List.setIfInBounds_toArray, List.set_cons_zero, List.set_cons_succ]
    refine take_at (i := 1) (v := .pointer (some ⟨B, 0, none⟩)) (d := some 66) rfl rfl (by kernel_rfl) (by kernel_rfl) (by kernel_rfl) (fun _ _ _ h => h) (Or.inl ⟨by rfl, fun wS ⟨hS0, hS1, hS2, hS3, hS4⟩ => by go_simp; all_goals (rw [IntKind.wrap_i64]; omega)⟩) (by assumption) ?_
    simp only [Act.put, List.setIfInBounds_toArray, List.set_cons_zero, List.set_cons_succ]
    refine take_at (i := 2) (v := .pointer (some ⟨B, 0, none⟩)) (d := some 67) rfl rfl (by kernel_rfl) (by kernel_rfl) (by kernel_rfl) (fun _ _ _ h => h) (Or.inl ⟨by rfl, fun wS ⟨hS0, hS1, hS2, hS3, hS4⟩ => by go_simp; all_goals (rw [IntKind.wrap_i64]; omega)⟩) (by assumption) ?_
    simp only [Act.put, List.setIfInBounds_toArray, List.set_cons_zero, List.set_cons_succ]
    refine take_at (i := 3) (v := .pointer (some ⟨B, 0, none⟩)) (d := some 68) rfl rfl (by kernel_rfl) (by kernel_rfl) (by kernel_rfl) (fun _ _ _ h => h) (Or.inl ⟨by rfl, fun wS ⟨hS0, hS1, hS2, hS3, hS4⟩ => by go_simp; all_goals (rw [IntKind.wrap_i64]; omega)⟩) (by assumption) ?_
    simp only [Act.put, List.setIfInBounds_toArray, List.set_cons_zero, List.set_cons_succ]
    refine take_at (i := 4) (v := .pointer (some ⟨B, 4, none⟩)) (d := some 69) rfl rfl (by kernel_rfl) (by kernel_rfl) (by kernel_rfl) (fun _ _ _ h => h) (Or.inl ⟨by rfl, fun wS ⟨hS0, hS1, hS2, hS3, hS4⟩ => by go_simp; all_goals (rw [IntKind.wrap_i64]; omega)⟩) (by assumption) ?_
    simp only [Act.put, List.setIfInBounds_toArray, List.set_cons_zero, List.set_cons_succ]
    refine take_at (i := 5) (v := .pointer (some ⟨B, 4, none⟩)) (d := some 70) rfl rfl (by kernel_rfl) (by kernel_rfl) (by kernel_rfl) (fun _ _ _ h => h) (Or.inl ⟨by rfl, fun wS ⟨hS0, hS1, hS2, hS3, hS4⟩ => by go_simp; all_goals (rw [IntKind.wrap_i64]; omega)⟩) (by assumption) ?_
    simp only [Act.put, List.setIfInBounds_toArray, List.set_cons_zero, List.set_cons_succ]
    refine take_at (i := 6) (v := .agg #[.int .i64 ts.pl, .int .i64 ts.ph]) (d := some 71) rfl rfl (by kernel_rfl) (by kernel_rfl) (by kernel_rfl) (fun _ _ _ h => h) (Or.inl ⟨by rfl, fun wS ⟨hS0, hS1, hS2, hS3, hS4⟩ => by go_simp; all_goals (rw [IntKind.wrap_i64]; omega)⟩) (by assumption) ?_
    simp only [Act.put, List.setIfInBounds_toArray, List.set_cons_zero, List.set_cons_succ]
    refine take_at (i := 7) (v := .agg #[.bool p.o, .int .i64 p.x, .int .i64 p.e]) (d := some 72) rfl rfl (by kernel_rfl) (by kernel_rfl) (by kernel_rfl) (fun _ _ _ h => h) (Or.inl ⟨by rfl, fun wS ⟨hS0, hS1, hS2, hS3, hS4⟩ => by go_simp; all_goals (rw [IntKind.wrap_i64]; omega)⟩) (by assumption) ?_
    simp only [Act.put, List.setIfInBounds_toArray, List.set_cons_zero, List.set_cons_succ]
    clear hHeld
    refine wpAnyH_ready (rs := [8]) (by kernel_rfl) (by simp) ?_
    refine AllReadyH.cons rfl (fun K hK => ?_) AllReadyH.nil
    go_simp
    refine (cut_any w4.drew B ts ts.pl ts.ph p HB.out HO.out.j HP.out).mono ?_
    rintro e wn ⟨rfl, hBn, hGn⟩
    have HBn := hide hBn
    have HTn := hide (HTw.out.drew.grown hGn hlB)
    have Gn := hide (grown_more (grown_drew1 G.out) hGn)
    clear HB HTw G hBn hGn
    refine hK.out _ _ (SH.out _ _ HBn.out HTn.out rfl rfl rfl rfl) (fun hHeld => ?_)
    clear hK K
    refine take_at (i := 9) (v := .pointer (some ⟨B, 0, none⟩)) (d := some 74) rfl rfl (by kernel_rfl) (by kernel_rfl) (by kernel_rfl) (fun _ _ _ h => h) (Or.inl ⟨by rfl, fun wS ⟨hS0, hS1, hS2, hS3, hS4⟩ => by go_simp; all_goals (rw [IntKind.wrap_i64]; omega)⟩) (by assumption) ?_
    simp only [Act.put, List.setIfInBounds_toArray, List.set_cons_zero, List.set_cons_succ]
    refine take_at (i := 10) (v := .pointer (some ⟨B, 4, none⟩)) (d := some 75) rfl rfl (by kernel_rfl) (by kernel_rfl) (by kernel_rfl) (fun _ _ _ h => h) (Or.inl ⟨by rfl, fun wS ⟨hS0, hS1, hS2, hS3, hS4⟩ => by go_simp; all_goals (rw [IntKind.wrap_i64]; omega)⟩) (by assumption) ?_
    simp only [Act.put, List.setIfInBounds_toArray, List.set_cons_zero, List.set_cons_succ]
    refine take_at (i := 11) (v := .pointer (some ⟨B, 4, none⟩)) (d := some 76) rfl rfl (by kernel_rfl) (by kernel_rfl) (by kernel_rfl) (fun _ _ _ h => h) (Or.inl ⟨by rfl, fun wS ⟨hS0, hS1, hS2, hS3, hS4⟩ => by go_simp; all_goals (rw [IntKind.wrap_i64]; omega)⟩) (by assumption) ?_
    simp only [Act.put, List.setIfInBounds_toArray, List.set_cons_zero, List.set_cons_succ]
    clear hHeld
    refine wpAnyH_done (by kernel_rfl) (then_last ?_) _
    have s0 : wn.cell? ⟨B, 4, none⟩ = some (.int .i64 ts.pl) := HBn.out.cell 4 rfl
    have s1 : wn.cell? ⟨B, 5, none⟩ = some (.int .i64 ts.ph) := HBn.out.cell 5 rfl
    have f0 := HBn.out.frozen 4
    have f1 := HBn.out.frozen 5
    obtain ⟨lo, hlo⟩ : ∃ x, Hid (cutL ts.pl ts.ph p = x) := ⟨_, hide rfl⟩
    obtain ⟨hi, hhi⟩ : ∃ x, Hid (cutH ts.pl ts.ph p = x) := ⟨_, hide rfl⟩
    rw [hlo.out, hhi.out]
    go_simp
    have HB : Hid (Blk ((wn.setCell ⟨B, 4, none⟩ (.int .i64 lo)).setCell ⟨B, 5, none⟩ (.int .i64 hi)) B (fC (fcp p ts)) 72) := hide (by rw [← hlo.out, ← hhi.out]; exact (HBn.out.set 4 _).set 5 _)
    have G := hide (grown_more (grown_more Gn.out (grown_set wn B 4 (.int .i64 lo))) (grown_set _ B 5 (.int .i64 hi)))
    have HTw : Hid (Two ((wn.setCell ⟨B, 4, none⟩ (.int .i64 lo)).setCell ⟨B, 5, none⟩ (.int .i64 hi)) w.heap.size p v) := hide ((HTn.out.grown (grown_set wn B _ _) hlB).grown (grown_set _ B _ _) hlB)
    replace HO := hide (fcp_ok (m := p) HO.out)
    clear HBn HTn Gn s0 s1 f0 f1 hlo hhi SH
    generalize (wn.setCell ⟨B, 4, none⟩ (.int .i64 lo)).setCell ⟨B, 5, none⟩ (.int .i64 hi) = W6 at *
    obtain ⟨tz, htz⟩ : ∃ tz, Hid (fcp p ts = tz) := ⟨_, hide rfl⟩
    rw [htz.out] at HB HO HE5
    clear htz
    have SH : Hid (∀ wx (tx : Fi), Blk wx B (fC tx) 72 → Two wx w.heap.size p v → tx.pl = tz.pl → tx.ph = tz.ph → tx.vl = tz.vl → tx.vh = tz.vh → wx.cell? ⟨B, 6, none⟩ = some (.int .i64 tz.vl) ∧ wx.cell? ⟨B, 7, none⟩ = some (.int .i64 tz.vh) ∧ wx.cell? ⟨w.heap.size + 1, 0, none⟩ = some (.bool v.o) ∧ wx.cell? ⟨w.heap.size + 1, 1, none⟩ = some (.int .i64 v.x) ∧ wx.cell? ⟨w.heap.size + 1, 2, none⟩ = some (.int .i64 v.e)) := hide (fun wx tx h1 h2 e1 e2 e3 e4 => by rw [← e3, ← e4]; exact ⟨h1.cell 6 rfl, h1.cell 7 rfl, h2.2.cell 0 rfl, h2.2.cell 1 rfl, h2.2.cell 2 rfl⟩)
    go_upto_region 11 with fail
    refine reg_last_held (fun wx => wx.cell? ⟨B, 6, none⟩ = some (.int .i64 tz.vl) ∧ wx.cell? ⟨B, 7, none⟩ = some (.int .i64 tz.vh) ∧ wx.cell? ⟨w.heap.size + 1, 0, none⟩ = some (.bool v.o) ∧ wx.cell? ⟨w.heap.size + 1, 1, none⟩ = some (.int .i64 v.x) ∧ wx.cell? ⟨w.heap.size + 1, 2, none⟩ = some (.int .i64 v.e)) 12 rfl rfl _ rfl (by kernel_rfl) (by kernel_rfl) (SH.out W6.drew tz HB.out HTw.out rfl rfl rfl rfl) (fun hHeld => ?_)
    simp only [List.take_succ_cons, List.take_zero]
    refine take_at (i := 0) (v := .pointer (some ⟨B, 0, none⟩)) (d := some 77) rfl rfl (by kernel_rfl) (by kernel_rfl) (by kernel_rfl) (fun _ _ _ h => h) (Or.inl ⟨by rfl, fun wS ⟨hS0, hS1, hS2, hS3, hS4⟩ => by go_simp; all_goals (rw [IntKind.wrap_i64]; omega)⟩) (by assumption) ?_
    simp only [Act.put, List.setIfInBounds_toArray, List.set_cons_zero, List.set_cons_succ]
    refine take_at (i := 1) (v := .pointer (some ⟨B, 0, none⟩)) (d := some 78) rfl rfl (by kernel_rfl) (by kernel_rfl) (by kernel_rfl) (fun _ _ _ h => h) (Or.inl ⟨by rfl, fun wS ⟨hS0, hS1, hS2, hS3, hS4⟩ => by go_simp; all_goals (rw [IntKind.wrap_i64]; omega)⟩) (by assumption) ?_
    simp only [Act.put, List.setIfInBounds_toArray, List.set_cons_zero, List.set_cons_succ]
    refine take_at (i := 2) (v := .pointer (some ⟨B, 0, none⟩)) (d := some 79) rfl rfl (by kernel_rfl) (by kernel_rfl) (by kernel_rfl) (fun _ _ _ h => h) (Or.inl ⟨by rfl, fun wS ⟨hS0, hS1, hS2, hS3, hS4⟩ => by go_simp; all_goals (rw [IntKind.wrap_i64]; omega)⟩) (by assumption) ?_
    simp only [Act.put, List.setIfInBounds_toArray, List.set_cons_zero, List.set_cons_succ]
    refine take_at (i := 3) (v := .pointer (some ⟨B, 0, none⟩)) (d := some 80) rfl rfl (by kernel_rfl) (by kernel_rfl) (by kernel_rfl) (fun _ _ _ h => h) (Or.inl ⟨by rfl, fun wS ⟨hS0, hS1, hS2, hS3, hS4⟩ => by go_simp; all_goals (rw [IntKind.wrap_i64]; omega)⟩) (by assumption) ?_
    simp only [Act.put, List.setIfInBounds_toArray, List.set_cons_zero, List.set_cons_succ]
    refine take_at (i := 4) (v := .pointer (some ⟨B, 4, none⟩)) (d := some 81) rfl rfl (by kernel_rfl) (by kernel_rfl) (by kernel_rfl) (fun _ _ _ h => h) (Or.inl ⟨by rfl, fun wS ⟨hS0, hS1, hS2, hS3, hS4⟩ => by go_simp; all_goals (rw [IntKind.wrap_i64]; omega)⟩) (by assumption) ?_
    simp only [Act.put, List.setIfInBounds_toArray, List.set_cons_zero, List.set_cons_succ]
    refine take_at (i := 5) (v := .pointer (some ⟨B, 6, none⟩)) (d := some 82) rfl rfl (by kernel_rfl) (by kernel_rfl) (by kernel_rfl) (fun _ _ _ h => h) (Or.inl ⟨by rfl, fun wS ⟨hS0, hS1, hS2, hS3, hS4⟩ => by go_simp; all_goals (rw [IntKind.wrap_i64]; omega)⟩) (by assumption) ?_
    simp only [Act.put, List.setIfInBounds_toArray, List.set_cons_zero, List.set_cons_succ]
    refine take_at (i := 6) (v := .agg #[.int .i64 tz.vl, .int .i64 tz.vh]) (d := some 83) rfl rfl (by kernel_rfl) (by kernel_rfl) (by kernel_rfl) (fun _ _ _ h => h) (Or.inl ⟨by rfl, fun wS ⟨hS0, hS1, hS2, hS3, hS4⟩ => by go_simp; all_goals (rw [IntKind.wrap_i64]; omega)⟩) (by assumption) ?_
    simp only [Act.put, List.setIfInBounds_toArray, List.set_cons_zero, List.set_cons_succ]
    refine take_at (i := 7) (v := .agg #[.bool v.o, .int .i64 v.x, .int .i64 v.e]) (d := some 84) rfl rfl (by kernel_rfl) (by kernel_rfl) (by kernel_rfl) (fun _ _ _ h => h) (Or.inl ⟨by rfl, fun wS ⟨hS0, hS1, hS2, hS3, hS4⟩ => by go_simp; all_goals (rw [IntKind.wrap_i64]; omega)⟩) (by assumption) ?_
    simp only [Act.put, List.setIfInBounds_toArray, List.set_cons_zero, List.set_cons_succ]
    clear hHeld
    refine wpAnyH_ready (rs := [8]) (by kernel_rfl) (by simp) ?_
    refine AllReadyH.cons rfl (fun K hK => ?_) AllReadyH.nil
    go_simp
    refine (cut_any W6.drew B tz tz.vl tz.vh v HB.out HO.out.j HV.out).mono ?_
    rintro e wn ⟨rfl, hBn, hGn⟩
    have HBn := hide hBn
    have HTn := hide (HTw.out.drew.grown hGn hlB)
    have Gn := hide (grown_more (grown_drew1 G.out) hGn)
    clear HB HTw G hBn hGn
    refine hK.out _ _ (SH.out _ _ HBn.out HTn.out rfl rfl rfl rfl) (fun hHeld => ?_)
    clear hK K
    refine take_at (i := 9) (v := .pointer (some ⟨B, 0, none⟩)) (d := some 86) rfl rfl (by kernel_rfl) (by kernel_rfl) (by kernel_rfl) (fun _ _ _ h => h) (Or.inl ⟨by rfl, fun wS ⟨hS0, hS1, hS2, hS3, hS4⟩ => by go_simp; all_goals (rw [IntKind.wrap_i64]; omega)⟩) (by assumption) ?_
    simp only [Act.put, List.setIfInBounds_toArray, List.set_cons_zero, List.set_cons_succ]
    refine take_at (i := 10) (v := .pointer (some ⟨B, 4, none⟩)) (d := some 87) rfl rfl (by kernel_rfl) (by kernel_rfl) (by kernel_rfl) (fun _ _ _ h => h) (Or.inl ⟨by rfl, fun wS ⟨hS0, hS1, hS2, hS3, hS4⟩ => by go_simp; all_goals (rw [IntKind.wrap_i64]; omega)⟩) (by assumption) ?_
    simp only [Act.put, List.setIfInBounds_toArray, List.set_cons_zero, List.set_cons_succ]
    refine take_at (i := 11) (v := .pointer (some ⟨B, 6, none⟩)) (d := some 88) rfl rfl (by kernel_rfl) (by kernel_rfl) (by kernel_rfl) (fun _ _ _ h => h) (Or.inl ⟨by rfl, fun wS ⟨hS0, hS1, hS2, hS3, hS4⟩ => by go_simp; all_goals (rw [IntKind.wrap_i64]; omega)⟩) (by assumption) ?_
    simp only [Act.put, List.setIfInBounds_toArray, List.set_cons_zero, List.set_cons_succ]
    clear hHeld
    refine wpAnyH_done (by kernel_rfl) (then_last ?_) _
    have s0 : wn.cell? ⟨B, 6, none⟩ = some (.int .i64 tz.vl) := HBn.out.cell 6 rfl
    have s1 : wn.cell? ⟨B, 7, none⟩ = some (.int .i64 tz.vh) := HBn.out.cell 7 rfl
    have f0 := HBn.out.frozen 6
    have f1 := HBn.out.frozen 7
    obtain ⟨lo, hlo⟩ : ∃ x, Hid (cutL tz.vl tz.vh v = x) := ⟨_, hide rfl⟩
    obtain ⟨hi, hhi⟩ : ∃ x, Hid (cutH tz.vl tz.vh v = x) := ⟨_, hide rfl⟩
    rw [hlo.out, hhi.out]
    go_simp
    have HB : Hid (Blk ((wn.setCell ⟨B, 6, none⟩ (.int .i64 lo)).setCell ⟨B, 7, none⟩ (.int .i64 hi)) B (fC (fcv v tz)) 72) := hide (by rw [← hlo.out, ← hhi.out]; exact (HBn.out.set 6 _).set 7 _)
    have G := hide (grown_more (grown_more Gn.out (grown_set wn B 6 (.int .i64 lo))) (grown_set _ B 7 (.int .i64 hi)))
    have HTw : Hid (Two ((wn.setCell ⟨B, 6, none⟩ (.int .i64 lo)).setCell ⟨B, 7, none⟩ (.int .i64 hi)) w.heap.size p v) := hide ((HTn.out.grown (grown_set wn B _ _) hlB).grown (grown_set _ B _ _) hlB)
    replace HO := hide (fcv_ok (m := v) HO.out)
    clear HBn HTn Gn s0 s1 f0 f1 hlo hhi SH
    generalize (wn.setCell ⟨B, 6, none⟩ (.int .i64 lo)).setCell ⟨B, 7, none⟩ (.int .i64 hi) = W7 at *
    go_wp2_with fail
    all_goals
      go_end0
      refine ⟨rfl, ?_, G.out⟩
      rw [HE5.out]
      exact HB.out
  · have HE5 : Hid (fstp acc dev true p v t = fcv v (fcp p (fstd pl0 ph0 t2))) := hide (by rw [HE4.out, if_pos rfl])
    obtain ⟨c4, c5, c6, c7⟩ := fc4 HB4.out
    have f6 := HB4.out.frozen 6
    have f7 := HB4.out.frozen 7
    have AR := hide (around_any t2.vl t2.vh 0 0)
    go_upto_region 9 with (go_at_call 27; refine (AR.out _).mono ?_; rintro e wa ⟨rfl, hba⟩; have HBa := hide (HB4.out.after hba); have HTa := hide (HT4.out.after hba); have HXa := hide (HX4.out.after hba); have Ga := hide (grown_after G4.out hba); clear hba HB4 HT4 HX4 G4 c4 c5 c6 c7 f6 f7; obtain ⟨c4, c5, c6, c7⟩ := fc4 HBa.out; have f6 := HBa.out.frozen 6; have f7 := HBa.out.frozen 7)
    have HB5 : Hid (Blk ((wa.setCell ⟨B, 6, none⟩ (.int .i64 (imin t2.vl 0))).setCell ⟨B, 7, none⟩ (.int .i64 (imax t2.vh 0))) B (fC { t2 with vl := imin t2.vl 0, vh := imax t2.vh 0 }) 72) := hide ((HBa.out.set 6 _).set 7 _)
    have HT5 := hide ((HTa.out.grown (grown_set wa B 6 (.int .i64 (imin t2.vl 0))) hlB).grown (grown_set _ B 7 (.int .i64 (imax t2.vh 0))) hlB)
    have HX5 := hide ((HXa.out.setOther (show g ≠ B by omega) 6 (.int .i64 (imin t2.vl 0))).setOther (show g ≠ B by omega) 7 (.int .i64 (imax t2.vh 0)))
    have G5 := hide (grown_more (grown_more Ga.out (grown_set wa B 6 (.int .i64 (imin t2.vl 0)))) (grown_set _ B 7 (.int .i64 (imax t2.vh 0))))
    clear HBa HTa HXa Ga c4 c5 c6 c7 f6 f7 AR
    generalize (wa.setCell ⟨B, 6, none⟩ (.int .i64 (imin t2.vl 0))).setCell ⟨B, 7, none⟩ (.int .i64 (imax t2.vh 0)) = W5 at *
    have a4 : ∀ x : BelowW W5, x.q.cell? ⟨B, 4, none⟩ = some (.int .i64 t2.pl) := HB5.out.at 4 rfl
    have a5 : ∀ x : BelowW W5, x.q.cell? ⟨B, 5, none⟩ = some (.int .i64 t2.ph) := HB5.out.at 5 rfl
    have x0 : ∀ x : BelowW W5, x.q.cell? ⟨g, 0, none⟩ = some (.int .i64 pl0) := HX5.out.at 0 rfl
    have x1 : ∀ x : BelowW W5, x.q.cell? ⟨g, 1, none⟩ = some (.int .i64 ph0) := HX5.out.at 1 rfl
    have hne : Nonempty (BelowW W5) := ⟨⟨W5, Below.refl _ _⟩⟩
    have AR := hide (around_any t2.pl t2.ph pl0 ph0)
    refine reg_last_calm 11 rfl rfl _ rfl (by kernel_rfl) (by kernel_rfl) (by kernel_rfl) ?_
    simp only [List.take_succ_cons, List.take_zero]
    repeat (go_big_quiet_step (first
      | (go_at_call 27; exact calm_of (AR.out _))))
    refine wpQuiet_nil ?_
    rintro _ ⟨x, rfl⟩
    have HB6 := hide (HB5.out.after x.h)
    have HT6 := hide (HT5.out.after x.h)
    have G6 := hide (grown_after G5.out x.h)
    clear a4 a5 x0 x1 hne HX5 HB5 HT5 G5 HE HE4
    obtain ⟨W6, hx⟩ := x
    have k4 : W6.cell? ⟨B, 4, none⟩ = some (.int .i64 t2.pl) := HB6.out.cell 4 rfl
    have k5 : W6.cell? ⟨B, 5, none⟩ = some (.int .i64 t2.ph) := HB6.out.cell 5 rfl
    have f4 := HB6.out.frozen 4
    have f5 := HB6.out.frozen 5
    obtain ⟨lo, hlo⟩ : ∃ x, Hid (imin t2.pl pl0 = x) := ⟨_, hide rfl⟩
    obtain ⟨hi, hhi⟩ : ∃ x, Hid (imax t2.ph ph0 = x) := ⟨_, hide rfl⟩
    rw [hlo.out, hhi.out]
    go_simp
    have HB : Hid (Blk ((W6.setCell ⟨B, 4, none⟩ (.int .i64 lo)).setCell ⟨B, 5, none⟩ (.int .i64 hi)) B (fC (fstd pl0 ph0 t2)) 72) := hide (by rw [← hlo.out, ← hhi.out]; exact (HB6.out.set 4 _).set 5 _)
    have G := hide (grown_more (grown_more G6.out (grown_set W6 B 4 (.int .i64 lo))) (grown_set _ B 5 (.int .i64 hi)))
    have HTw : Hid (Two ((W6.setCell ⟨B, 4, none⟩ (.int .i64 lo)).setCell ⟨B, 5, none⟩ (.int .i64 hi)) w.heap.size p v) := hide ((HT6.out.grown (grown_set W6 B _ _) hlB).grown (grown_set _ B _ _) hlB)
    have HO := hide (fstd_ok HO4.out IP.out IQ.out)
    clear HB6 HT6 G6 k4 k5 f4 f5 HO4 hx
    generalize (W6.setCell ⟨B, 4, none⟩ (.int .i64 lo)).setCell ⟨B, 5, none⟩ (.int .i64 hi) = Wt at *
    obtain ⟨t3, ht3⟩ : ∃ t3, Hid (fstd pl0 ph0 t2 = t3) := ⟨_, hide rfl⟩
    rw [ht3.out] at HB HO HE5
    obtain ⟨ts, hts⟩ : ∃ ts, Hid (t3 = ts) := ⟨_, hide rfl⟩
    rw [hts.out] at HB HO HE5
    have SH : Hid (∀ wx (tx : Fi), Blk wx B (fC tx) 72 → Two wx w.heap.size p v → tx.pl = ts.pl → tx.ph = ts.ph → tx.vl = ts.vl → tx.vh = ts.vh → wx.cell? ⟨B, 4, none⟩ = some (.int .i64 ts.pl) ∧ wx.cell? ⟨B, 5, none⟩ = some (.int .i64 ts.ph) ∧ wx.cell? ⟨w.heap.size, 0, none⟩ = some (.bool p.o) ∧ wx.cell? ⟨w.heap.size, 1, none⟩ = some (.int .i64 p.x) ∧ wx.cell? ⟨w.heap.size, 2, none⟩ = some (.int .i64 p.e)) := hide (fun wx tx h1 h2 e1 e2 e3 e4 => by rw [← e1, ← e2]; exact ⟨h1.cell 4 rfl, h1.cell 5 rfl, h2.1.cell 0 rfl, h2.1.cell 1 rfl, h2.1.cell 2 rfl⟩)
    go_upto_region 10 with fail
    refine reg_last_held (fun wx => wx.cell? ⟨B, 4, none⟩ = some (.int .i64 ts.pl) ∧ wx.cell? ⟨B, 5, none⟩ = some (.int .i64 ts.ph) ∧ wx.cell? ⟨w.heap.size, 0, none⟩ = some (.bool p.o) ∧ wx.cell? ⟨w.heap.size, 1, none⟩ = some (.int .i64 p.x) ∧ wx.cell? ⟨w.heap.size, 2, none⟩ = some (.int .i64 p.e)) 12 rfl rfl _ rfl (by kernel_rfl) (by kernel_rfl) (SH.out Wt.drew ts HB.out HTw.out rfl rfl rfl rfl) (fun hHeld => ?_)
    simp only [List.take_succ_cons, List.take_zero]
    refine take_at (i := 0) (v := .pointer (some ⟨B, 0, none⟩)) (d := some 65) rfl rfl (by kernel_rfl) (by kernel_rfl) (by kernel_rfl) (fun _ _ _ h => h) (Or.inl ⟨by rfl, fun wS ⟨hS0, hS1, hS2, hS3, hS4⟩ => by go_simp; all_goals (rw [IntKind.wrap_i64]; omega)⟩) (by assumption) ?_
    simp only [Act.put, List.setIfInBounds_toArray, List.set_cons_zero, List.set_cons_succ]
    refine take_at (i := 1) (v := .pointer (some ⟨B, 0, none⟩)) (d := some 66) rfl rfl (by kernel_rfl) (by kernel_rfl) (by kernel_rfl) (fun _ _ _ h => h) (Or.inl ⟨by rfl, fun wS ⟨hS0, hS1, hS2, hS3, hS4⟩ => by go_simp; all_goals (rw [IntKind.wrap_i64]; omega)⟩) (by assumption) ?_
    simp only [Act.put, List.setIfInBounds_toArray, List.set_cons_zero, List.set_cons_succ]
    refine take_at (i := 2) (v := .pointer (some ⟨B, 0, none⟩)) (d := some 67) rfl rfl (by kernel_rfl) (by kernel_rfl) (by kernel_rfl) (fun _ _ _ h => h) (Or.inl ⟨by rfl, fun wS ⟨hS0, hS1, hS2, hS3, hS4⟩ => by go_simp; all_goals (rw [IntKind.wrap_i64]; omega)⟩) (by assumption) ?_
    simp only [Act.put, List.setIfInBounds_toArray, List.set_cons_zero, List.set_cons_succ]
    refine take_at (i := 3) (v := .pointer (some ⟨B, 0, none⟩)) (d := some 68) rfl rfl (by kernel_rfl) (by kernel_rfl) (by kernel_rfl) (fun _ _ _ h => h) (Or.inl ⟨by rfl, fun wS ⟨hS0, hS1, hS2, hS3, hS4⟩ => by go_simp; all_goals (rw [IntKind.wrap_i64]; omega)⟩) (by assumption) ?_
    simp only [Act.put, List.setIfInBounds_toArray, List.set_cons_zero, List.set_cons_succ]
    refine take_at (i := 4) (v := .pointer (some ⟨B, 4, none⟩)) (d := some 69) rfl rfl (by kernel_rfl) (by kernel_rfl) (by kernel_rfl) (fun _ _ _ h => h) (Or.inl ⟨by rfl, fun wS ⟨hS0, hS1, hS2, hS3, hS4⟩ => by go_simp; all_goals (rw [IntKind.wrap_i64]; omega)⟩) (by assumption) ?_
    simp only [Act.put, List.setIfInBounds_toArray, List.set_cons_zero, List.set_cons_succ]
    refine take_at (i := 5) (v := .pointer (some ⟨B, 4, none⟩)) (d := some 70) rfl rfl (by kernel_rfl) (by kernel_rfl) (by kernel_rfl) (fun _ _ _ h => h) (Or.inl ⟨by rfl, fun wS ⟨hS0, hS1, hS2, hS3, hS4⟩ => by go_simp; all_goals (rw [IntKind.wrap_i64]; omega)⟩) (by assumption) ?_
    simp only [Act.put, List.setIfInBounds_toArray, List.set_cons_zero, List.set_cons_succ]
    refine take_at (i := 6) (v := .agg #[.int .i64 ts.pl, .int .i64 ts.ph]) (d := some 71) rfl rfl (by kernel_rfl) (by kernel_rfl) (by kernel_rfl) (fun _ _ _ h => h) (Or.inl ⟨by rfl, fun wS ⟨hS0, hS1, hS2, hS3, hS4⟩ => by go_simp; all_goals (rw [IntKind.wrap_i64]; omega)⟩) (by assumption) ?_
    simp only [Act.put, List.setIfInBounds_toArray, List.set_cons_zero, List.set_cons_succ]
    refine take_at (i := 7) (v := .agg #[.bool p.o, .int .i64 p.x, .int .i64 p.e]) (d := some 72) rfl rfl (by kernel_rfl) (by kernel_rfl) (by kernel_rfl) (fun _ _ _ h => h) (Or.inl ⟨by rfl, fun wS ⟨hS0, hS1, hS2, hS3, hS4⟩ => by go_simp; all_goals (rw [IntKind.wrap_i64]; omega)⟩) (by assumption) ?_
    simp only [Act.put, List.setIfInBounds_toArray, List.set_cons_zero, List.set_cons_succ]
    clear hHeld
    refine wpAnyH_ready (rs := [8]) (by kernel_rfl) (by simp) ?_
    refine AllReadyH.cons rfl (fun K hK => ?_) AllReadyH.nil
    go_simp
    refine (cut_any Wt.drew B ts ts.pl ts.ph p HB.out HO.out.j HP.out).mono ?_
    rintro e wn ⟨rfl, hBn, hGn⟩
    have HBn := hide hBn
    have HTn := hide (HTw.out.drew.grown hGn hlB)
    have Gn := hide (grown_more (grown_drew1 G.out) hGn)
    clear HB HTw G hBn hGn
    refine hK.out _ _ (SH.out _ _ HBn.out HTn.out rfl rfl rfl rfl) (fun hHeld => ?_)
    clear hK K
    refine take_at (i := 9) (v := .pointer (some ⟨B, 0, none⟩)) (d := some 74) rfl rfl (by kernel_rfl) (by kernel_rfl) (by kernel_rfl) (fun _ _ _ h => h) (Or.inl ⟨by rfl, fun wS ⟨hS0, hS1, hS2, hS3, hS4⟩ => by go_simp; all_goals (rw [IntKind.wrap_i64]; omega)⟩) (by assumption) ?_
    simp only [Act.put, List.setIfInBounds_toArray, List.set_cons_zero, List.set_cons_succ]
    refine take_at (i := 10) (v := .pointer (some ⟨B, 4, none⟩)) (d := some 75) rfl rfl (by kernel_rfl) (by kernel_rfl) (by kernel_rfl) (fun _ _ _ h => h) (Or.inl ⟨by rfl, fun wS ⟨hS0, hS1, hS2, hS3, hS4⟩ => by go_simp; all_goals (rw [IntKind.wrap_i64]; omega)⟩) (by assumption) ?_
    simp only [Act.put, List.setIfInBounds_toArray, List.set_cons_zero, List.set_cons_succ]
    refine take_at (i := 11) (v := .pointer (some ⟨B, 4, none⟩)) (d := some 76) rfl rfl (by kernel_rfl) (by kernel_rfl) (by kernel_rfl) (fun _ _ _ h => h) (Or.inl ⟨by rfl, fun wS ⟨hS0, hS1, hS2, hS3, hS4⟩ => by go_simp; all_goals (rw [IntKind.wrap_i64]; omega)⟩) (by assumption) ?_
    simp only [Act.put, List.setIfInBounds_toArray, List.set_cons_zero, List.set_cons_succ]
    clear hHeld
    refine wpAnyH_done (by kernel_rfl) (then_last ?_) _
    have s0 : wn.cell? ⟨B, 4, none⟩ = some (.int .i64 ts.pl) := HBn.out.cell 4 rfl
    have s1 : wn.cell? ⟨B, 5, none⟩ = some (.int .i64 ts.ph) := HBn.out.cell 5 rfl
    have f0 := HBn.out.frozen 4
    have f1 := HBn.out.frozen 5
    obtain ⟨lo, hlo⟩ : ∃ x, Hid (cutL ts.pl ts.ph p = x) := ⟨_, hide rfl⟩
    obtain ⟨hi, hhi⟩ : ∃ x, Hid (cutH ts.pl ts.ph p = x) := ⟨_, hide rfl⟩
    rw [hlo.out, hhi.out]
    go_simp
    have HB : Hid (Blk ((wn.setCell ⟨B, 4, none⟩ (.int .i64 lo)).setCell ⟨B, 5, none⟩ (.int .i64 hi)) B (fC (fcp p ts)) 72) := hide (by rw [← hlo.out, ← hhi.out]; exact (HBn.out.set 4 _).set 5 _)
    have G := hide (grown_more (grown_more Gn.out (grown_set wn B 4 (.int .i64 lo))) (grown_set _ B 5 (.int .i64 hi)))
    have HTw : Hid (Two ((wn.setCell ⟨B, 4, none⟩ (.int .i64 lo)).setCell ⟨B, 5, none⟩ (.int .i64 hi)) w.heap.size p v) := hide ((HTn.out.grown (grown_set wn B _ _) hlB).grown (grown_set _ B _ _) hlB)
    replace HO := hide (fcp_ok (m := p) HO.out)
    clear HBn HTn Gn s0 s1 f0 f1 hlo hhi SH
    generalize (wn.setCell ⟨B, 4, none⟩ (.int .i64 lo)).setCell ⟨B, 5, none⟩ (.int .i64 hi) = W6 at *
    obtain ⟨tz, htz⟩ : ∃ tz, Hid (fcp p ts = tz) := ⟨_, hide rfl⟩
    rw [htz.out] at HB HO HE5
    clear htz
    have SH : Hid (∀ wx (tx : Fi), Blk wx B (fC tx) 72 → Two wx w.heap.size p v → tx.pl = tz.pl → tx.ph = tz.ph → tx.vl = tz.vl → tx.vh = tz.vh → wx.cell? ⟨B, 6, none⟩ = some (.int .i64 tz.vl) ∧ wx.cell? ⟨B, 7, none⟩ = some (.int .i64 tz.vh) ∧ wx.cell? ⟨w.heap.size + 1, 0, none⟩ = some (.bool v.o) ∧ wx.cell? ⟨w.heap.size + 1, 1, none⟩ = some (.int .i64 v.x) ∧ wx.cell? ⟨w.heap.size + 1, 2, none⟩ = some (.int .i64 v.e)) := hide (fun wx tx h1 h2 e1 e2 e3 e4 => by rw [← e3, ← e4]; exact ⟨h1.cell 6 rfl, h1.cell 7 rfl, h2.2.cell 0 rfl, h2.2.cell 1 rfl, h2.2.cell 2 rfl⟩)
    go_upto_region 11 with fail
    refine reg_last_held (fun wx => wx.cell? ⟨B, 6, none⟩ = some (.int .i64 tz.vl) ∧ wx.cell? ⟨B, 7, none⟩ = some (.int .i64 tz.vh) ∧ wx.cell? ⟨w.heap.size + 1, 0, none⟩ = some (.bool v.o) ∧ wx.cell? ⟨w.heap.size + 1, 1, none⟩ = some (.int .i64 v.x) ∧ wx.cell? ⟨w.heap.size + 1, 2, none⟩ = some (.int .i64 v.e)) 12 rfl rfl _ rfl (by kernel_rfl) (by kernel_rfl) (SH.out W6.drew tz HB.out HTw.out rfl rfl rfl rfl) (fun hHeld => ?_)
    simp only [List.take_succ_cons, List.take_zero]
    refine take_at (i := 0) (v := .pointer (some ⟨B, 0, none⟩)) (d := some 77) rfl rfl (by kernel_rfl) (by kernel_rfl) (by kernel_rfl) (fun _ _ _ h => h) (Or.inl ⟨by rfl, fun wS ⟨hS0, hS1, hS2, hS3, hS4⟩ => by go_simp; all_goals (rw [IntKind.wrap_i64]; omega)⟩) (by assumption) ?_
    simp only [Act.put, List.setIfInBounds_toArray, List.set_cons_zero, List.set_cons_succ]
    refine take_at (i := 1) (v := .pointer (some ⟨B, 0, none⟩)) (d := some 78) rfl rfl (by kernel_rfl) (by kernel_rfl) (by kernel_rfl) (fun _ _ _ h => h) (Or.inl ⟨by rfl, fun wS ⟨hS0, hS1, hS2, hS3, hS4⟩ => by go_simp; all_goals (rw [IntKind.wrap_i64]; omega)⟩) (by assumption) ?_
    simp only [Act.put, List.setIfInBounds_toArray, List.set_cons_zero, List.set_cons_succ]
    refine take_at (i := 2) (v := .pointer (some ⟨B, 0, none⟩)) (d := some 79) rfl rfl (by kernel_rfl) (by kernel_rfl) (by kernel_rfl) (fun _ _ _ h => h) (Or.inl ⟨by rfl, fun wS ⟨hS0, hS1, hS2, hS3, hS4⟩ => by go_simp; all_goals (rw [IntKind.wrap_i64]; omega)⟩) (by assumption) ?_
    simp only [Act.put, List.setIfInBounds_toArray, List.set_cons_zero, List.set_cons_succ]
    refine take_at (i := 3) (v := .pointer (some ⟨B, 0, none⟩)) (d := some 80) rfl rfl (by kernel_rfl) (by kernel_rfl) (by kernel_rfl) (fun _ _ _ h => h) (Or.inl ⟨by rfl, fun wS ⟨hS0, hS1, hS2, hS3, hS4⟩ => by go_simp; all_goals (rw [IntKind.wrap_i64]; omega)⟩) (by assumption) ?_
    simp only [Act.put, List.setIfInBounds_toArray, List.set_cons_zero, List.set_cons_succ]
    refine take_at (i := 4) (v := .pointer (some ⟨B, 4, none⟩)) (d := some 81) rfl rfl (by kernel_rfl) (by kernel_rfl) (by kernel_rfl) (fun _ _ _ h => h) (Or.inl ⟨by rfl, fun wS ⟨hS0, hS1, hS2, hS3, hS4⟩ => by go_simp; all_goals (rw [IntKind.wrap_i64]; omega)⟩) (by assumption) ?_
    simp only [Act.put, List.setIfInBounds_toArray, List.set_cons_zero, List.set_cons_succ]
    refine take_at (i := 5) (v := .pointer (some ⟨B, 6, none⟩)) (d := some 82) rfl rfl (by kernel_rfl) (by kernel_rfl) (by kernel_rfl) (fun _ _ _ h => h) (Or.inl ⟨by rfl, fun wS ⟨hS0, hS1, hS2, hS3, hS4⟩ => by go_simp; all_goals (rw [IntKind.wrap_i64]; omega)⟩) (by assumption) ?_
    simp only [Act.put, List.setIfInBounds_toArray, List.set_cons_zero, List.set_cons_succ]
    refine take_at (i := 6) (v := .agg #[.int .i64 tz.vl, .int .i64 tz.vh]) (d := some 83) rfl rfl (by kernel_rfl) (by kernel_rfl) (by kernel_rfl) (fun _ _ _ h => h) (Or.inl ⟨by rfl, fun wS ⟨hS0, hS1, hS2, hS3, hS4⟩ => by go_simp; all_goals (rw [IntKind.wrap_i64]; omega)⟩) (by assumption) ?_
    simp only [Act.put, List.setIfInBounds_toArray, List.set_cons_zero, List.set_cons_succ]
    refine take_at (i := 7) (v := .agg #[.bool v.o, .int .i64 v.x, .int .i64 v.e]) (d := some 84) rfl rfl (by kernel_rfl) (by kernel_rfl) (by kernel_rfl) (fun _ _ _ h => h) (Or.inl ⟨by rfl, fun wS ⟨hS0, hS1, hS2, hS3, hS4⟩ => by go_simp; all_goals (rw [IntKind.wrap_i64]; omega)⟩) (by assumption) ?_
    simp only [Act.put, List.setIfInBounds_toArray, List.set_cons_zero, List.set_cons_succ]
    clear hHeld
    refine wpAnyH_ready (rs := [8]) (by kernel_rfl) (by simp) ?_
    refine AllReadyH.cons rfl (fun K hK => ?_) AllReadyH.nil
    go_simp
    refine (cut_any W6.drew B tz tz.vl tz.vh v HB.out HO.out.j HV.out).mono ?_
    rintro e wn ⟨rfl, hBn, hGn⟩
    have HBn := hide hBn
    have HTn := hide (HTw.out.drew.grown hGn hlB)
    have Gn := hide (grown_more (grown_drew1 G.out) hGn)
    clear HB HTw G hBn hGn
    refine hK.out _ _ (SH.out _ _ HBn.out HTn.out rfl rfl rfl rfl) (fun hHeld => ?_)
    clear hK K
    refine take_at (i := 9) (v := .pointer (some ⟨B, 0, none⟩)) (d := some 86) rfl rfl (by kernel_rfl) (by kernel_rfl) (by kernel_rfl) (fun _ _ _ h => h) (Or.inl ⟨by rfl, fun wS ⟨hS0, hS1, hS2, hS3, hS4⟩ => by go_simp; all_goals (rw [IntKind.wrap_i64]; omega)⟩) (by assumption) ?_
    simp only [Act.put, List.setIfInBounds_toArray, List.set_cons_zero, List.set_cons_succ]
    refine take_at (i := 10) (v := .pointer (some ⟨B, 4, none⟩)) (d := some 87) rfl rfl (by kernel_rfl) (by kernel_rfl) (by kernel_rfl) (fun _ _ _ h => h) (Or.inl ⟨by rfl, fun wS ⟨hS0, hS1, hS2, hS3, hS4⟩ => by go_simp; all_goals (rw [IntKind.wrap_i64]; omega)⟩) (by assumption) ?_
    simp only [Act.put, List.setIfInBounds_toArray, List.set_cons_zero, List.set_cons_succ]
    refine take_at (i := 11) (v := .pointer (some ⟨B, 6, none⟩)) (d := some 88) rfl rfl (by kernel_rfl) (by kernel_rfl) (by kernel_rfl) (fun _ _ _ h => h) (Or.inl ⟨by rfl, fun wS ⟨hS0, hS1, hS2, hS3, hS4⟩ => by go_simp; all_goals (rw [IntKind.wrap_i64]; omega)⟩) (by assumption) ?_
    simp only [Act.put, List.setIfInBounds_toArray, List.set_cons_zero, List.set_cons_succ]
    clear hHeld
    refine wpAnyH_done (by kernel_rfl) (then_last ?_) _
    have s0 : wn.cell? ⟨B, 6, none⟩ = some (.int .i64 tz.vl) := HBn.out.cell 6 rfl
    have s1 : wn.cell? ⟨B, 7, none⟩ = some (.int .i64 tz.vh) := HBn.out.cell 7 rfl
    have f0 := HBn.out.frozen 6
    have f1 := HBn.out.frozen 7
    obtain ⟨lo, hlo⟩ : ∃ x, Hid (cutL tz.vl tz.vh v = x) := ⟨_, hide rfl⟩
    obtain ⟨hi, hhi⟩ : ∃ x, Hid (cutH tz.vl tz.vh v = x) := ⟨_, hide rfl⟩
    rw [hlo.out, hhi.out]
    go_simp
    have HB : Hid (Blk ((wn.setCell ⟨B, 6, none⟩ (.int .i64 lo)).setCell ⟨B, 7, none⟩ (.int .i64 hi)) B (fC (fcv v tz)) 72) := hide (by rw [← hlo.out, ← hhi.out]; exact (HBn.out.set 6 _).set 7 _)
    have G := hide (grown_more (grown_more Gn.out (grown_set wn B 6 (.int .i64 lo))) (grown_set _ B 7 (.int .i64 hi)))
    have HTw : Hid (Two ((wn.setCell ⟨B, 6, none⟩ (.int .i64 lo)).setCell ⟨B, 7, none⟩ (.int .i64 hi)) w.heap.size p v) := hide ((HTn.out.grown (grown_set wn B _ _) hlB).grown (grown_set _ B _ _) hlB)
    replace HO := hide (fcv_ok (m := v) HO.out)
    clear HBn HTn Gn s0 s1 f0 f1 hlo hhi SH
    generalize (wn.setCell ⟨B, 6, none⟩ (.int .i64 lo)).setCell ⟨B, 7, none⟩ (.int .i64 hi) = W7 at *
    go_wp2_with fail
    all_goals
      go_end0
      refine ⟨rfl, ?_, G.out⟩
      rw [HE5.out]
      exact HB.out
theorem stepF_any (w : World) (B : Nat) (t : Fi) (acc dev : Int) (sd : Bool) (p v : Mea) (hB : Blk w B (fC t) 72) (ht : FOk t) (ha : I64 acc) (hd : I64 dev) (hp : MOk p) (hv : MOk v) : Calls Try.prog 10 #[.pointer (some ⟨B, 0, none⟩), .int .i64 acc, .int .i64 dev, .bool sd, mV p, mV v] w fun e w' => e = .returned (.tuple #[]) ∧ Blk w' B (fC (fstp acc dev sd p v t)) 72 ∧ w.grownBy w' (some B) := by
  rcases (show t.kn = true ∨ t.kn = false by cases t.kn <;> simp) with hk | hk
  · exact step_yes w B t acc dev sd p v hB hk ht ha hd hp hv
  · exact step_no w B t acc dev sd p v hB hk hp hv
end Go.Proofs.Ytgadpalkchillaa
