/- Package est: is a filter good; New, Axis, Middle, Jumps; its beginning. -/
import Derived.Test.YtgadpalkchillaaEs3
namespace Go.Proofs.Ytgadpalkchillaa
open Go.RowKit Go.Great

set_option maxHeartbeats 1000000 in
theorem fresh_any (w : World) (B : Nat) (cs : Array Value) (tt : TypeId) (st : Int) (kn : Bool) (s0 s1 : Int) (hB : Blk w B cs tt) (h0 : cs[0]? = some (.int .i64 st)) (h1 : cs[1]? = some (.bool kn)) (h2 : cs[2]? = some (.int .i64 s0)) (h3 : cs[3]? = some (.int .i64 s1)) :
    Calls Try.prog 37 #[.pointer (some ⟨B, 0, none⟩)] w fun e w' => e = .returned (.bool (kn && decide (imax s0 s1 ≤ st))) ∧ ∃ k, w' = w.drewN k := by
  have c0 := hB.cell 0 h0
  have c1 := hB.cell 1 h1
  have c2 := hB.cell 2 h2
  have c3 := hB.cell 3 h3
  clear hB h0 h1 h2 h3
  cases kn
  · go_enter Try.func37, Try.ntmps37
    go_wp2_with fail
    go_quiet (fail)
    go_wp2_with fail
    go_ret
    exact ⟨rfl, _, rfl⟩
  · go_enter Try.func37, Try.ntmps37
    go_wp2_with fail
    go_quiet (fail)
    go_wp2_with fail
    all_goals
      go_ret
      refine ⟨ret_bool ?_, _, rfl⟩
      show _ = decide (imax s0 s1 ≤ st)
      unfold imax
      first | rw [if_pos (by omega)] | rw [if_neg (by omega)]
theorem good_any (w : World) (B : Nat) (t : Fi) (hB : Blk w B (fC t) 72) : Calls Try.prog 15 #[.pointer (some ⟨B, 0, none⟩)] w fun e w' => e = .returned (.bool (fgd t)) ∧ ∃ k, w' = w.drewN k := by
  have FR := hide (fresh_any w B _ _ t.st t.kn t.q0 t.q1 hB rfl rfl rfl rfl)
  go_enter Try.func15, Try.ntmps15
  go_wp2_with (go_at_call 37; refine FR.out.mono ?_; rintro e w1 ⟨rfl, k, rfl⟩)
  go_ret
  exact ⟨rfl, k, rfl⟩
theorem good_nil (w : World) : Calls Try.prog 15 #[.pointer none] w fun e w' => e = .returned (.bool false) ∧ w' = w := by
  go_enter Try.func15, Try.ntmps15
  go_wp2_with fail
  go_ret
  exact ⟨rfl, rfl⟩
theorem jumps_any (w : World) (B : Nat) (t : Fi) (hB : Blk w B (fC t) 72) : Calls Try.prog 17 #[.pointer (some ⟨B, 0, none⟩)] w fun e w' => e = .returned (.int .i64 t.j) ∧ w' = w := by
  have c : w.cell? ⟨B, 8, none⟩ = some (.int .i64 t.j) := hB.cell 8 rfl
  go_enter Try.func17, Try.ntmps17
  go_wp2_with fail
  go_ret
  exact ⟨rfl, rfl⟩
theorem jumps_nil (w : World) : Calls Try.prog 17 #[.pointer none] w fun e w' => e = .returned (.int .i64 0) ∧ w' = w := by
  go_enter Try.func17, Try.ntmps17
  go_wp2_with fail
  go_ret
  exact ⟨rfl, rfl⟩
/-- an axis' value -/
abbrev axV (a b c d : Int) : Value := .agg #[.int .i64 a, .int .i64 b, .int .i64 c, .int .i64 d]
theorem axis_back {fn : Func} {p : Tmp} (h : fn.results = #[.cell p 30]) (tmps : Array Value) (w : World) (g : Nat) (x y z u : Value) (hp : tmps.getD p undef = .pointer (some ⟨g, 0, none⟩)) (hg : Blk w g #[x, y, z, u] 30) : (results fn tmps).run Try.prog w = .ok (.agg #[x, y, z, u]) w :=
  res_back h Try.underlying30 (by kernel_rfl) tmps w g hp hg
theorem axisF_any (w : World) (B : Nat) (t : Fi) (hB : Blk w B (fC t) 72) : Calls Try.prog 14 #[.pointer (some ⟨B, 0, none⟩)] w fun e w' => e = .returned (axV t.pl t.ph t.vl t.vh) ∧ Below w.heap.size w w' := by
  obtain ⟨c4, c5, c6, c7⟩ := fc4 hB
  have hl := hB.lt
  clear hB
  go_enter Try.func14, Try.ntmps14
  go_wp2_with fail
  exact bodyPost_ret (axis_back (p := 2) (by kernel_rfl) _ _ w.heap.size _ _ _ _ rfl (Blk.new _ _ _)) rfl ⟨rfl, below_alloc _ _⟩
theorem axis_nil (w : World) : Calls Try.prog 14 #[.pointer none] w fun e w' => e = .returned (axV 0 0 0 0) ∧ Below w.heap.size w w' := by
  go_enter Try.func14, Try.ntmps14
  go_wp2_with fail
  exact bodyPost_ret (axis_back (p := 2) (by kernel_rfl) _ _ w.heap.size _ _ _ _ rfl (Blk.new _ _ _)) rfl ⟨rfl, below_alloc _ _⟩
/-- where two lie in the middle -/
abbrev midI (a b : Int) : Int := (a + b) / 2
theorem middle_of (w : World) (p : Value) (a b c d : Int) (ha : I64 a) (hb : I64 b) (hc : I64 c) (hd : I64 d) (hA : Calls Try.prog 14 #[p] w fun e w' => e = .returned (axV a b c d) ∧ Below w.heap.size w w') : Calls Try.prog 12 #[p] w fun e w' => e = .returned (.tuple #[.int .i64 (midI a b), .int .i64 (midI c d)]) ∧ Below w.heap.size w w' := by
  have HA := hide hA
  have I1 := hide (fun w => middle_any a b w ha hb)
  have I2 := hide (fun w => middle_any c d w hc hd)
  clear ha hb hc hd hA
  go_enter Try.func12, Try.ntmps12
  go_upto_region 2 with (go_at_call 14; refine HA.out.mono ?_; rintro e w1 ⟨rfl, hb1⟩)
  have HX := hide (Blk.new w1 #[.int .i64 a, .int .i64 b, .int .i64 c, .int .i64 d] 30)
  have Hb := hide (below_next hb1 (Nat.le_refl _) (below_alloc w1 (.cells #[.int .i64 a, .int .i64 b, .int .i64 c, .int .i64 d] 30)))
  clear hb1
  generalize w1.heap.size = g at *
  generalize w1.alloc (.cells #[.int .i64 a, .int .i64 b, .int .i64 c, .int .i64 d] 30) = W1 at *
  have c0 : W1.cell? ⟨g, 0, none⟩ = some (.int .i64 a) := HX.out.cell 0 rfl
  have c1 : W1.cell? ⟨g, 1, none⟩ = some (.int .i64 b) := HX.out.cell 1 rfl
  have c2 : W1.cell? ⟨g, 2, none⟩ = some (.int .i64 c) := HX.out.cell 2 rfl
  have c3 : W1.cell? ⟨g, 3, none⟩ = some (.int .i64 d) := HX.out.cell 3 rfl
  go_quiet (first
    | (go_at_call_of 35 (Value.int IntKind.i64 a); exact Calls.quiet_of_same (I1.out _))
    | (go_at_call_of 35 (Value.int IntKind.i64 c); exact Calls.quiet_of_same (I2.out _)))
  go_wp2_with fail
  go_ret2
  exact ⟨rfl, below_drewN Hb.out nq⟩
theorem middleF_any (w : World) (B : Nat) (t : Fi) (hB : Blk w B (fC t) 72) (ht : FOk t) : Calls Try.prog 12 #[.pointer (some ⟨B, 0, none⟩)] w fun e w' => e = .returned (.tuple #[.int .i64 (midI t.pl t.ph), .int .i64 (midI t.vl t.vh)]) ∧ Below w.heap.size w w' :=
  middle_of w _ _ _ _ _ ht.pl ht.ph ht.vl ht.vh (axisF_any w B t hB)
theorem middle_nil (w : World) : Calls Try.prog 12 #[.pointer none] w fun e w' => e = .returned (.tuple #[.int .i64 0, .int .i64 0]) ∧ Below w.heap.size w w' :=
  middle_of w _ 0 0 0 0 i64_nought i64_nought i64_nought i64_nought (axis_nil w)
theorem newF_any (w : World) (s : Int) (hs : 1 ≤ s) : Calls Try.prog 7 #[.int .i64 s] w fun e w' => ∃ B, e = .returned (.tuple #[.pointer (some ⟨B, 0, none⟩), .int .i64 0]) ∧ Blk w' B (fC (fN s)) 72 ∧ Below w.heap.size w w' ∧ w.heap.size ≤ B := by
  have h1 : ¬ s < 1 := by omega
  go_enter Try.func7, Try.ntmps7
  go_wp2_with fail
  go_ret2
  exact ⟨w.heap.size, rfl, Blk.new _ _ _, below_alloc _ _, Nat.le_refl _⟩
theorem newF_no (w : World) (s : Int) (hs : s < 1) : Calls Try.prog 7 #[.int .i64 s] w fun e w' => e = .returned (.tuple #[.pointer none, .int .i64 1]) ∧ w' = w := by
  go_enter Try.func7, Try.ntmps7
  go_wp2_with fail
  go_ret2
  exact ⟨rfl, rfl⟩
theorem fc8 {w : World} {B : Nat} {t : Fi} (h : Blk w B (fC t) 72) : w.cell? ⟨B, 1, none⟩ = some (.bool t.kn) := h.cell 1 rfl
set_option maxHeartbeats 1000000 in
set_option maxRecDepth 100000 in
theorem begin_any (w : World) (B : Nat) (t : Fi) (p v : Mea) (hB : Blk w B (fC t) 72) (hp : MOk p) (hv : MOk v) : Calls Try.prog 24 #[.pointer (some ⟨B, 0, none⟩), mV p, mV v] w fun e w' => e = .returned (.tuple #[]) ∧ Blk w' B (fC (fbeg p v t)) 72 ∧ w.grownBy w' (some B) := by
  obtain ⟨W0, hW0, b0, P0, V0, hz0⟩ := two_boxes w #[.bool p.o, .int .i64 p.x, .int .i64 p.e] #[.bool v.o, .int .i64 v.x, .int .i64 v.e] 38 38
  have hlB := hB.lt
  have TP := hide (there_any p)
  have TV := hide (there_any v)
  have SP := hide (spanE_any p hp)
  have SV := hide (spanE_any v hv)
  have HB0 := hide (hB.below b0 hlB)
  have G0 := hide (grown_below b0 (some B))
  have HP0 := hide P0
  have HV0 := hide V0
  have a0 : W0.cell? ⟨w.heap.size, 0, none⟩ = some (.bool p.o) := P0.cell 0 rfl
  have a1 : W0.cell? ⟨w.heap.size, 1, none⟩ = some (.int .i64 p.x) := P0.cell 1 rfl
  have a2 : W0.cell? ⟨w.heap.size, 2, none⟩ = some (.int .i64 p.e) := P0.cell 2 rfl
  have e1 : ∀ w1, Below W0.heap.size W0 w1 → w1.cell? ⟨w.heap.size + 1, 0, none⟩ = some (.bool v.o) ∧ w1.cell? ⟨w.heap.size + 1, 1, none⟩ = some (.int .i64 v.x) ∧ w1.cell? ⟨w.heap.size + 1, 2, none⟩ = some (.int .i64 v.e) := fun w1 hb => ⟨(V0.after hb).cell 0 rfl, (V0.after hb).cell 1 rfl, (V0.after hb).cell 2 rfl⟩
  have E1 := hide e1
  clear hB b0 P0 V0 e1 hp hv
  by_cases h1 : mth p = true
  · rw [h1] at TP
    by_cases h2 : mth v = true
    · rw [h2] at TV
      have HE : Hid (fbeg p v t = { t with kn := true, pl := mlo p, ph := mhi p, vl := mlo v, vh := mhi v }) := hide (by unfold fbeg; rw [h1, h2]; rfl)
      clear h1 h2
      obtain ⟨pl, hpl⟩ : ∃ x, Hid (mlo p = x) := ⟨_, hide rfl⟩
      obtain ⟨ph, hph⟩ : ∃ x, Hid (mhi p = x) := ⟨_, hide rfl⟩
      obtain ⟨vl, hvl⟩ : ∃ x, Hid (mlo v = x) := ⟨_, hide rfl⟩
      obtain ⟨vh, hvh⟩ : ∃ x, Hid (mhi v = x) := ⟨_, hide rfl⟩
      rw [hpl.out, hph.out, hvl.out, hvh.out] at HE
      rw [hpl.out, hph.out] at SP
      rw [hvl.out, hvh.out] at SV
      go_enter Try.func24, Try.ntmps24
      go_upto_region 2 with fail
      refine (TP.out _).mono ?_
      rintro e w1 ⟨rfl, hb1⟩
      obtain ⟨v0, v1, v2⟩ := E1.out _ hb1
      have HB1 := hide (HB0.out.after hb1)
      have HP1 := hide (HP0.out.after hb1)
      have HV1 := hide (HV0.out.after hb1)
      have G1 := hide (grown_after G0.out hb1)
      clear HB0 HP0 HV0 G0 hb1 a0 a1 a2 E1 hW0 hz0
      go_upto_region 2 with fail
      refine (TV.out _).mono ?_
      rintro e w2 ⟨rfl, hb2⟩
      have HB2 := hide (HB1.out.after hb2)
      have HP2 := hide (HP1.out.after hb2)
      have HV2 := hide (HV1.out.after hb2)
      have G2 := hide (grown_after G1.out hb2)
      clear HB1 HP1 HV1 G1 hb2 v0 v1 v2
      have k1 := fc8 HB2.out
      have f1 := HB2.out.frozen 1
      go_upto_region 3 with fail
      have HB3 : Hid (Blk (w2.setCell ⟨B, 1, none⟩ (.bool true)) B (fC { t with kn := true }) 72) := hide (HB2.out.set 1 (.bool true))
      have HP3 := hide (HP2.out.setOther (show w.heap.size ≠ B by omega) 1 (.bool true))
      have HV3 := hide (HV2.out.setOther (show w.heap.size + 1 ≠ B by omega) 1 (.bool true))
      have G3 := hide (grown_more G2.out (grown_set w2 B 1 (.bool true)))
      clear HB2 HP2 HV2 G2 k1 f1
      generalize w2.setCell ⟨B, 1, none⟩ (.bool true) = W3 at *
      have a0 : ∀ x : BelowW W3, x.q.cell? ⟨w.heap.size, 0, none⟩ = some (.bool p.o) := HP3.out.at 0 rfl
      have a1 : ∀ x : BelowW W3, x.q.cell? ⟨w.heap.size, 1, none⟩ = some (.int .i64 p.x) := HP3.out.at 1 rfl
      have a2 : ∀ x : BelowW W3, x.q.cell? ⟨w.heap.size, 2, none⟩ = some (.int .i64 p.e) := HP3.out.at 2 rfl
      have b0 : ∀ x : BelowW W3, x.q.cell? ⟨w.heap.size + 1, 0, none⟩ = some (.bool v.o) := HV3.out.at 0 rfl
      have b1 : ∀ x : BelowW W3, x.q.cell? ⟨w.heap.size + 1, 1, none⟩ = some (.int .i64 v.x) := HV3.out.at 1 rfl
      have b2 : ∀ x : BelowW W3, x.q.cell? ⟨w.heap.size + 1, 2, none⟩ = some (.int .i64 v.e) := HV3.out.at 2 rfl
      have hne : Nonempty (BelowW W3) := ⟨⟨W3, Below.refl _ _⟩⟩
      refine reg_last_calm 8 rfl rfl _ rfl (by kernel_rfl) (by kernel_rfl) (by kernel_rfl) ?_
      simp only [List.take_succ_cons, List.take_zero]
      repeat (go_big_quiet_step (first
        | (go_at_call_of 42 (Value.agg #[Value.bool p.o, Value.int IntKind.i64 p.x, Value.int IntKind.i64 p.e]); exact calm_of (SP.out _))
        | (go_at_call_of 42 (Value.agg #[Value.bool v.o, Value.int IntKind.i64 v.x, Value.int IntKind.i64 v.e]); exact calm_of (SV.out _))))
      refine wpQuiet_nil ?_
      rintro _ ⟨x, rfl⟩
      have HB4 := hide (HB3.out.after x.h)
      have G4 := hide (grown_after G3.out x.h)
      clear a0 a1 a2 b0 b1 b2 hne HP3 HV3
      obtain ⟨k4, k5, k6, k7⟩ := fc4 HB4.out
      have f4 := HB4.out.frozen 4
      have f5 := HB4.out.frozen 5
      have f6 := HB4.out.frozen 6
      have f7 := HB4.out.frozen 7
      obtain ⟨W4, hx⟩ := x
      go_simp
      go_wp2_with fail
      go_end0
      refine ⟨rfl, ?_, grown_more (grown_more (grown_more (grown_more G4.out (grown_set _ B _ _)) (grown_set _ B _ _)) (grown_set _ B _ _)) (grown_set _ B _ _)⟩
      rw [HE.out]
      exact (((HB4.out.set 4 (.int .i64 pl)).set 5 (.int .i64 ph)).set 6 (.int .i64 vl)).set 7 (.int .i64 vh)
    · have h2' : mth v = false := by simpa using h2
      rw [h2'] at TV
      have HE : Hid (fbeg p v t = t) := hide (by unfold fbeg; rw [h2']; simp)
      clear h1 h2 h2'
      go_enter Try.func24, Try.ntmps24
      go_wp2_with fail
      refine (TP.out _).mono ?_
      rintro e w1 ⟨rfl, hb1⟩
      obtain ⟨v0, v1, v2⟩ := E1.out _ hb1
      go_wp2_with fail
      refine (TV.out _).mono ?_
      rintro e w2 ⟨rfl, hb2⟩
      go_wp2_with fail
      go_end0
      refine ⟨rfl, ?_, grown_after (grown_after G0.out hb1) hb2⟩
      rw [HE.out]
      exact (HB0.out.after hb1).after hb2
  · have h1' : mth p = false := by simpa using h1
    rw [h1'] at TP
    have HE : Hid (fbeg p v t = t) := hide (by unfold fbeg; rw [h1']; simp)
    clear h1 h1'
    go_enter Try.func24, Try.ntmps24
    go_wp2_with fail
    refine (TP.out _).mono ?_
    rintro e w1 ⟨rfl, hb1⟩
    go_wp2_with fail
    go_end0
    refine ⟨rfl, ?_, grown_after G0.out hb1⟩
    rw [HE.out]
    exact HB0.out.after hb1
end Go.Proofs.Ytgadpalkchillaa
