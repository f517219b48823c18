/- The document's box, walked: reach, Reach. Written by mk_gs2.py. -/
import Derived.Test.YtjinfjibodoflaaGs2
namespace Go.Proofs.Ytjinfjibodoflaa
open Go.RowKit Go.Great

set_option maxHeartbeats 4000000 in
theorem rreach_any (a : Ax) (acc : Int) (m : Mg) (w : World) (ha : AOk a) (hc : I64 acc) (hbr : I64 m.br) (hjo : I64 m.jo) : Calls Try.prog 29 #[axV a, .int .i64 acc, mgV m] w fun e w' => e = .returned (spG (rlo a.pl a.vl acc m.br m.jo) (rhi a.ph a.vh acc m.br m.jo)) ∧ Below w.heap.size w w' := by
  have LT := hide (fun W => rlater_any a acc m W ha hc hbr)
  obtain ⟨pl, ph, vl, vh⟩ := a
  obtain ⟨br, dr, jo, fa, la, dn⟩ := m
  simp only at hbr hjo LT ⊢
  have B2 := hide (fun W => ref_sub_any 0 (dnv vl acc br) W i64_0 (sat_any _))
  have B3 := hide (fun W => ref_add_any (sat (0 - dnv vl acc br)) jo W (sat_any _) hjo)
  have B4 := hide (fun W => rstop_any (sat (sat (0 - dnv vl acc br) + jo)) br W (sat_any _) hbr)
  have B5 := hide (fun W => ref_sub_any (sat (pl + dnv vl acc br)) (stp (sat (sat (0 - dnv vl acc br) + jo)) br) W (sat_any _) (stp_in _ _))
  have C3 := hide (fun W => ref_add_any (upv vh acc br) jo W (sat_any _) hjo)
  have C4 := hide (fun W => rstop_any (sat (upv vh acc br + jo)) br W (sat_any _) hbr)
  have C5 := hide (fun W => ref_add_any (sat (ph + upv vh acc br)) (stp (sat (upv vh acc br + jo)) br) W (sat_any _) (stp_in _ _))
  rw [show sat (sat (pl + dnv vl acc br) - stp (sat (sat (0 - dnv vl acc br) + jo)) br) = rlo pl vl acc br jo from rfl] at B5
  rw [show sat (sat (ph + upv vh acc br) + stp (sat (upv vh acc br + jo)) br) = rhi ph vh acc br jo from rfl] at C5
  generalize rlo pl vl acc br jo = rl at *
  generalize rhi ph vh acc br jo = rh at *
  generalize stp (sat (sat (0 - dnv vl acc br) + jo)) br = s1 at *
  generalize stp (sat (upv vh acc br + jo)) br = s2 at *
  generalize sat (sat (0 - dnv vl acc br) + jo) = b3 at *
  generalize sat (0 - dnv vl acc br) = b2 at *
  generalize sat (pl + dnv vl acc br) = b1 at *
  generalize sat (upv vh acc br + jo) = c3 at *
  generalize sat (ph + upv vh acc br) = c1 at *
  generalize dnv vl acc br = dv at *
  generalize upv vh acc br = uv at *
  clear ha hc hbr hjo
  obtain ⟨W0, hW0, b0, hA, hM, hR, z0⟩ := three_boxes w (axC ⟨pl, ph, vl, vh⟩) (mgC ⟨br, dr, jo, fa, la, dn⟩) #[.int .i64 0, .int .i64 0] 28 32 26
  have HM := hide hM
  have HR := hide hR
  have Hb := hide b0
  obtain ⟨a0, a1, a2, a3⟩ := four_cellsG hA
  obtain ⟨m0, m1, m2, m3, m4, m5⟩ := six_cells hM
  clear hA hM hR b0 z0
  go_enter Try.func29, Try.ntmps29
  go_upto_region 1 with fail
  go_wp2_with fail
  refine (LT.out _).mono ?_
  rintro e w1 ⟨rfl, hb⟩
  replace HM := hide ((HM.out.after hb).alloc (.cells (axC ⟨b1, c1, dv, uv⟩) 28))
  replace HR := hide ((HR.out.after hb).alloc (.cells (axC ⟨b1, c1, dv, uv⟩) 28))
  replace Hb := hide (below_next (below_next Hb.out (Nat.le_refl _) hb) (Nat.le_refl _) (below_alloc w1 (.cells (axC ⟨b1, c1, dv, uv⟩) 28)))
  have HL := hide (Blk.new w1 (axC ⟨b1, c1, dv, uv⟩) 28)
  clear hb a0 a1 a2 a3 m0 m1 m2 m3 m4 m5 hW0 LT
  go_upto_region 2 with fail
  generalize w1.heap.size = gl at *
  generalize w1.alloc (.cells (axC ⟨b1, c1, dv, uv⟩) 28) = W1 at *
  have x0 : ∀ z : BelowW W1, z.q.cell? ⟨w.heap.size + 1, 0, none⟩ = some (.int .i64 br) := HM.out.at 0 rfl
  have x1 : ∀ z : BelowW W1, z.q.cell? ⟨w.heap.size + 1, 2, none⟩ = some (.int .i64 jo) := HM.out.at 2 rfl
  have y0 : ∀ z : BelowW W1, z.q.cell? ⟨gl, 2, none⟩ = some (.int .i64 dv) := HL.out.at 2 rfl
  have hne : Nonempty (BelowW W1) := ⟨⟨W1, Below.refl _ _⟩⟩
  refine wp_region_calm (by kernel_rfl) (by kernel_rfl) ?_
  repeat (go_big_quiet_step (first
    | (go_at_call 33; exact calm_of (B2.out _))
    | (go_at_call 48; exact calm_of (B3.out _))
    | (go_at_call 11; exact calm_of (B4.out _))))
  refine wpQuiet_nil ?_
  rintro _ ⟨x, rfl⟩
  replace HM := hide (HM.out.after x.h)
  replace HL := hide (HL.out.after x.h)
  replace HR := hide (HR.out.after x.h)
  replace Hb := hide (below_next Hb.out (Nat.le_refl _) x.h)
  clear x0 x1 y0 hne B2 B3 B4
  generalize x.q = W2 at *
  clear x
  go_upto_region 3 with fail
  have x0 : ∀ z : BelowW W2, z.q.cell? ⟨w.heap.size + 1, 0, none⟩ = some (.int .i64 br) := HM.out.at 0 rfl
  have x1 : ∀ z : BelowW W2, z.q.cell? ⟨w.heap.size + 1, 2, none⟩ = some (.int .i64 jo) := HM.out.at 2 rfl
  have y0 : ∀ z : BelowW W2, z.q.cell? ⟨gl, 3, none⟩ = some (.int .i64 uv) := HL.out.at 3 rfl
  have hne : Nonempty (BelowW W2) := ⟨⟨W2, Below.refl _ _⟩⟩
  refine wp_region_calm (by kernel_rfl) (by kernel_rfl) ?_
  repeat (go_big_quiet_step (first
    | (go_at_call 48; exact calm_of (C3.out _))
    | (go_at_call 11; exact calm_of (C4.out _))))
  refine wpQuiet_nil ?_
  rintro _ ⟨x, rfl⟩
  replace HL := hide (HL.out.after x.h)
  replace HR := hide (HR.out.after x.h)
  replace Hb := hide (below_next Hb.out (Nat.le_refl _) x.h)
  clear x0 x1 y0 hne C3 C4 HM
  generalize x.q = W3 at *
  clear x
  go_upto_region 4 with fail
  have y0 : ∀ z : BelowW W3, z.q.cell? ⟨gl, 0, none⟩ = some (.int .i64 b1) := HL.out.at 0 rfl
  have y1 : ∀ z : BelowW W3, z.q.cell? ⟨gl, 1, none⟩ = some (.int .i64 c1) := HL.out.at 1 rfl
  have hne : Nonempty (BelowW W3) := ⟨⟨W3, Below.refl _ _⟩⟩
  refine reg_last_calm 11 rfl rfl _ rfl (by kernel_rfl) (by kernel_rfl) (by kernel_rfl) ?_
  simp only [List.take_succ_cons, List.take_zero]
  repeat (go_big_quiet_step (first
    | (go_at_call 33; exact calm_of (B5.out _))
    | (go_at_call 48; exact calm_of (C5.out _))))
  refine wpQuiet_nil ?_
  rintro _ ⟨x, rfl⟩
  replace HR := hide (HR.out.after x.h)
  replace Hb := hide (below_next Hb.out (Nat.le_refl _) x.h)
  clear y0 y1 hne HL
  generalize x.q = W4 at *
  clear x
  obtain ⟨r0, r1⟩ := two_cellsG HR.out
  have f0 := HR.out.frozen 0
  have f1 := HR.out.frozen 1
  go_simp
  go_wp2_with fail
  exact bodyPost_ret (spanG_back (p := 6) (by kernel_rfl) _ _ (w.heap.size + 1 + 1) _ _ rfl (HR.out.set2 _ _)) rfl ⟨rfl, below_set2 Hb.out _ _ _ (by omega) Hb.out.size⟩
theorem upm_max (x : Int) : upm (max 0 x) = max (upm x) 0 := by unfold upm; omega
set_option maxHeartbeats 8000000 in
theorem rReach_any (a b c : Ax) (x y z : Int) (m : Mg) (w : World) (ha : AOk a) (hb : AOk b) (hc : AOk c) (hx : I64 x) (hy : I64 y) (hz : I64 z) (hbr : I64 m.br) (hjo : I64 m.jo) : Calls Try.prog 14 #[axsV a b c, tV x y z, mgV m] w fun e w' => e = .returned (bxV (rlo a.pl a.vl x m.br m.jo / 6400) (upm (rhi a.ph a.vh x m.br m.jo)) (rlo b.pl b.vl y m.br m.jo / 6400) (upm (rhi b.ph b.vh y m.br m.jo)) 0 (max (upm (rhi c.ph c.vh z m.br m.jo)) 0)) ∧ Below w.heap.size w w' := by
  have S0 := hide (fun W => rreach_any a x m W ha hx hbr hjo)
  have S1 := hide (fun W => rreach_any b y m W hb hy hbr hjo)
  have S2 := hide (fun W => rreach_any c z m W hc hz hbr hjo)
  have O0 := hide (fun W => routward_any (rlo a.pl a.vl x m.br m.jo) (rhi a.ph a.vh x m.br m.jo) W (sat_any _) (sat_any _))
  have O1 := hide (fun W => routward_any (rlo b.pl b.vl y m.br m.jo) (rhi b.ph b.vh y m.br m.jo) W (sat_any _) (sat_any _))
  have hr : I64 (rhi c.ph c.vh z m.br m.jo) := sat_any _
  have O2 := hide (fun W => routward_any 0 (max 0 (rhi c.ph c.vh z m.br m.jo)) W i64_0 (by unfold I64 at *; omega))
  rw [upm_max, show (0 : Int) / 6400 = 0 from rfl] at O2
  unfold spG at S0 S1 S2 O0 O1 O2
  clear ha hb hc hx hy hz hbr hjo hr
  generalize rlo a.pl a.vl x m.br m.jo / 6400 = l0 at *
  generalize upm (rhi a.ph a.vh x m.br m.jo) = h0 at *
  generalize rlo b.pl b.vl y m.br m.jo / 6400 = l1 at *
  generalize upm (rhi b.ph b.vh y m.br m.jo) = h1 at *
  generalize max (upm (rhi c.ph c.vh z m.br m.jo)) 0 = h2 at *
  generalize rlo a.pl a.vl x m.br m.jo = d0 at *
  generalize rhi a.ph a.vh x m.br m.jo = u0 at *
  generalize rlo b.pl b.vl y m.br m.jo = d1 at *
  generalize rhi b.ph b.vh y m.br m.jo = e1 at *
  generalize rlo c.pl c.vl z m.br m.jo = d2 at *
  generalize rhi c.ph c.vh z m.br m.jo = e2 at *
  obtain ⟨a0, a1, a2, a3⟩ := a
  obtain ⟨b0, b1, b2, b3⟩ := b
  obtain ⟨c0, c1, c2, c3⟩ := c
  obtain ⟨br, dr, jo, fa, la, dn⟩ := m
  obtain ⟨W0, hW0, bw, hA, hT, hM, hR, zw⟩ := four_boxesG w (axsC ⟨a0, a1, a2, a3⟩ ⟨b0, b1, b2, b3⟩ ⟨c0, c1, c2, c3⟩) (tC x y z) (mgC ⟨br, dr, jo, fa, la, dn⟩) (bxC 0 0 0 0 0 0) 29 30 32 36
  have HB := hide (RB.mk (w := w) (n := w.heap.size) hA hT hM hR bw)
  obtain ⟨q0, q1, q2, q3, q4, q5, q6, q7, q8, q9, q10, q11, t0, t1, t2, m0, m1, m2, m3, m4, m5⟩ := HB.out.cells
  clear bw hA hT hM hR zw q0 q1 q2 q3 q4 q5 q6 q7 t0 t1
  go_enter Try.func14, Try.ntmps14
  go_upto_region 1 with fail
  go_wp2_with fail
  refine (S2.out _).mono ?_
  rintro e w1 ⟨rfl, hb⟩
  replace HB := hide ((HB.out.after hb).after (below_alloc w1 (.cells #[.int .i64 d2, .int .i64 e2] 26)))
  have HZ := hide (Blk.new w1 #[.int .i64 d2, .int .i64 e2] 26)
  clear hb q8 q9 q10 q11 t2 m0 m1 m2 m3 m4 m5 hW0
  go_upto_region 2 with fail
  generalize w1.heap.size = gz at *
  generalize w1.alloc (.cells #[.int .i64 d2, .int .i64 e2] 26) = W1 at *
  have RC : ∀ zz : BelowW W1, _ := fun zz : BelowW W1 => (HB.out.after zz.h).cells
  have q0 := fun zz : BelowW W1 => (RC zz).1
  have q1 := fun zz : BelowW W1 => (RC zz).2.1
  have q2 := fun zz : BelowW W1 => (RC zz).2.2.1
  have q3 := fun zz : BelowW W1 => (RC zz).2.2.2.1
  have q4 := fun zz : BelowW W1 => (RC zz).2.2.2.2.1
  have q5 := fun zz : BelowW W1 => (RC zz).2.2.2.2.2.1
  have q6 := fun zz : BelowW W1 => (RC zz).2.2.2.2.2.2.1
  have q7 := fun zz : BelowW W1 => (RC zz).2.2.2.2.2.2.2.1
  have t0 := fun zz : BelowW W1 => (RC zz).2.2.2.2.2.2.2.2.2.2.2.2.1
  have t1 := fun zz : BelowW W1 => (RC zz).2.2.2.2.2.2.2.2.2.2.2.2.2.1
  have m0 := fun zz : BelowW W1 => (RC zz).2.2.2.2.2.2.2.2.2.2.2.2.2.2.2.1
  have m1 := fun zz : BelowW W1 => (RC zz).2.2.2.2.2.2.2.2.2.2.2.2.2.2.2.2.1
  have m2 := fun zz : BelowW W1 => (RC zz).2.2.2.2.2.2.2.2.2.2.2.2.2.2.2.2.2.1
  have m3 := fun zz : BelowW W1 => (RC zz).2.2.2.2.2.2.2.2.2.2.2.2.2.2.2.2.2.2.1
  have m4 := fun zz : BelowW W1 => (RC zz).2.2.2.2.2.2.2.2.2.2.2.2.2.2.2.2.2.2.2.1
  have m5 := fun zz : BelowW W1 => (RC zz).2.2.2.2.2.2.2.2.2.2.2.2.2.2.2.2.2.2.2.2
  have y1 : ∀ zz : BelowW W1, zz.q.cell? ⟨gz, 1, none⟩ = some (.int .i64 e2) := HZ.out.at 1 rfl
  have hne : Nonempty (BelowW W1) := ⟨⟨W1, Below.refl _ _⟩⟩
  clear RC
  refine reg_last_calm 20 rfl rfl _ rfl (by kernel_rfl) (by kernel_rfl) (by kernel_rfl) ?_
  simp only [List.take_succ_cons, List.take_zero]
  repeat (go_big_quiet_step (first
    | (go_at_call_of 29 (Value.agg #[Value.int IntKind.i64 a0, Value.int IntKind.i64 a1, Value.int IntKind.i64 a2, Value.int IntKind.i64 a3]); exact calm_of (S0.out _))
    | (go_at_call_of 29 (Value.agg #[Value.int IntKind.i64 b0, Value.int IntKind.i64 b1, Value.int IntKind.i64 b2, Value.int IntKind.i64 b3]); exact calm_of (S1.out _))
    | (go_at_call_of 30 (Value.agg #[Value.int IntKind.i64 d0, Value.int IntKind.i64 u0]); exact calm_of (O0.out _))
    | (go_at_call_of 30 (Value.agg #[Value.int IntKind.i64 d1, Value.int IntKind.i64 e1]); exact calm_of (O1.out _))
    | (go_at_call 30; exact calm_of (O2.out _))))
  refine wpQuiet_nil ?_
  rintro _ ⟨xx, rfl⟩
  replace HB := hide (HB.out.after xx.h)
  clear q0 q1 q2 q3 q4 q5 q6 q7 t0 t1 m0 m1 m2 m3 m4 m5 y1 hne HZ
  generalize xx.q = W2 at *
  clear xx
  obtain ⟨r0, r1, r2, r3, r4, r5⟩ := six_cells HB.out.r
  obtain ⟨f0, f1, f2, f3, f4, f5⟩ := six_set HB.out.r
  go_simp
  go_wp2_with fail
  exact bodyPost_ret (box_back (p := 6) (by kernel_rfl) _ _ (w.heap.size + 1 + 1 + 1) _ _ _ _ _ _ rfl (HB.out.r.set6 _ _ _ _ _ _)) rfl ⟨rfl, below_set6 HB.out.b _ _ _ _ _ _ _ (by omega) HB.out.b.size⟩
end Go.Proofs.Ytjinfjibodoflaa
