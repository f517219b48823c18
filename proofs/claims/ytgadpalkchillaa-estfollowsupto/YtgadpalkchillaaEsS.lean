/- The document's filter: New, Good, Middle; a step of one that knows nothing. -/
import Derived.Test.YtgadpalkchillaaEsR
namespace Go.Proofs.Ytgadpalkchillaa
open Go.RowKit Go.Great

/-- the document's filter's cells -/
def rC (t : Fi) : Array Value := #[.int .i64 t.st, .bool t.kn, .int .i64 t.pl, .int .i64 t.ph, .int .i64 t.vl, .int .i64 t.vh, .int .i64 t.q0, .int .i64 t.q1, .int .i64 t.j]
theorem Blk.set9 {W : World} {B : Nat} {t : TypeId} {x0 x1 x2 x3 x4 x5 x6 x7 x8 : Value} (h : Blk W B #[x0, x1, x2, x3, x4, x5, x6, x7, x8] t) (y0 y1 y2 y3 y4 y5 y6 y7 y8 : Value) :
    Blk (((((((((W.setCell ⟨B, 0, none⟩ y0).setCell ⟨B, 1, none⟩ y1).setCell ⟨B, 2, none⟩ y2).setCell ⟨B, 3, none⟩ y3).setCell ⟨B, 4, none⟩ y4).setCell ⟨B, 5, none⟩ y5).setCell ⟨B, 6, none⟩ y6).setCell ⟨B, 7, none⟩ y7).setCell ⟨B, 8, none⟩ y8) B #[y0, y1, y2, y3, y4, y5, y6, y7, y8] t := by
  have h0 : Blk _ B #[y0, x1, x2, x3, x4, x5, x6, x7, x8] t := h.set 0 y0
  have h1 : Blk _ B #[y0, y1, x2, x3, x4, x5, x6, x7, x8] t := h0.set 1 y1
  have h2 : Blk _ B #[y0, y1, y2, x3, x4, x5, x6, x7, x8] t := h1.set 2 y2
  have h3 : Blk _ B #[y0, y1, y2, y3, x4, x5, x6, x7, x8] t := h2.set 3 y3
  have h4 : Blk _ B #[y0, y1, y2, y3, y4, x5, x6, x7, x8] t := h3.set 4 y4
  have h5 : Blk _ B #[y0, y1, y2, y3, y4, y5, x6, x7, x8] t := h4.set 5 y5
  have h6 : Blk _ B #[y0, y1, y2, y3, y4, y5, y6, x7, x8] t := h5.set 6 y6
  have h7 : Blk _ B #[y0, y1, y2, y3, y4, y5, y6, y7, x8] t := h6.set 7 y7
  exact h7.set 8 y8
theorem rf_back {fn : Func} {p : Tmp} (h : fn.results = #[.cell p 33]) (tmps : Array Value) (w : World) (g : Nat) (t : Fi) (hp : tmps.getD p undef = .pointer (some ⟨g, 0, none⟩)) (hg : Blk w g (rC t) 33) : (results fn tmps).run Try.prog w = .ok (.agg (rC t)) w :=
  res_back h Try.underlying33 (by kernel_rfl) tmps w g hp hg
theorem rnew_any (w : World) (s : Int) (hs : 1 ≤ s) : Calls Try.prog 8 #[.int .i64 s] w fun e w' => e = .returned (.tuple #[.agg (rC (fN s)), .int .i64 0]) ∧ Below w.heap.size w w' := by
  have h1 : ¬ s < 1 := by omega
  go_enter Try.func8, Try.ntmps8
  go_wp2_with fail
  refine bodyPost_ret (res_back2 (p := 2) (u := 3) (by kernel_rfl) Try.underlying33 (cs := rC (fN s)) (by kernel_rfl) _ _ w.heap.size _ rfl rfl (Blk.new _ _ _)) rfl ⟨rfl, below_alloc _ _⟩
theorem rnew_no (w : World) (s : Int) (hs : s < 1) : Calls Try.prog 8 #[.int .i64 s] w fun e w' => e = .returned (.tuple #[.agg (rC (fN 0)), .int .i64 1]) ∧ Below w.heap.size w w' := by
  go_enter Try.func8, Try.ntmps8
  go_wp2_with fail
  refine bodyPost_ret (res_back2 (p := 2) (u := 3) (by kernel_rfl) Try.underlying33 (cs := rC (fN 0)) (by kernel_rfl) _ _ w.heap.size _ rfl rfl (Blk.new _ _ _)) rfl ⟨rfl, below_alloc _ _⟩
theorem good_eq (t : Fi) : fgd t = (t.kn && (decide (t.q0 ≤ t.st) && decide (t.q1 ≤ t.st))) := by
  unfold fgd
  congr 1
  rw [← Bool.decide_and, decide_eq_decide]
  unfold imax
  split <;> omega
theorem rgood_any (t : Fi) (w : World) : Calls Try.prog 16 #[.agg (rC t)] w fun e w' => e = .returned (.bool (fgd t)) ∧ Below w.heap.size w w' := by
  rw [good_eq]
  obtain ⟨st, kn, q0, q1, pl, ph, vl, vh, j⟩ := t
  unfold rC
  cases kn
  · go_enter Try.func16, Try.ntmps16
    go_wp2_with fail
    go_ret
    exact ⟨rfl, below_alloc _ _⟩
  · by_cases h : q0 ≤ st
    · have h' : decide (q0 ≤ st) = true := by simpa using h
      go_enter Try.func16, Try.ntmps16
      go_wp2_with fail
      all_goals go_ret
      all_goals exact ⟨by simp [h], below_alloc _ _⟩
    · have h' : decide (q0 ≤ st) = false := by simpa using h
      go_enter Try.func16, Try.ntmps16
      go_wp2_with fail
      all_goals go_ret
      all_goals exact ⟨by simp, below_alloc _ _⟩
set_option maxRecDepth 100000 in
theorem rmiddle_any (t : Fi) (ht : FOk t) (w : World) : Calls Try.prog 13 #[.agg (rC t)] w fun e w' => e = .returned (.tuple #[.int .i64 (midI t.pl t.ph), .int .i64 (midI t.vl t.vh)]) ∧ Below w.heap.size w w' := by
  obtain ⟨W0, hW0⟩ : ∃ W0, w.alloc (.cells (rC t) 33) = W0 := ⟨_, rfl⟩
  have HF : Hid (Blk W0 w.heap.size (rC t) 33) := hide (by rw [← hW0]; exact Blk.new _ _ _)
  have Hb : Hid (Below w.heap.size w W0) := hide (by rw [← hW0]; exact below_alloc _ _)
  have a0 : ∀ z : BelowW W0, z.q.cell? ⟨w.heap.size, 2, none⟩ = some (.int .i64 t.pl) := HF.out.at 2 rfl
  have a1 : ∀ z : BelowW W0, z.q.cell? ⟨w.heap.size, 3, none⟩ = some (.int .i64 t.ph) := HF.out.at 3 rfl
  have a2 : ∀ z : BelowW W0, z.q.cell? ⟨w.heap.size, 4, none⟩ = some (.int .i64 t.vl) := HF.out.at 4 rfl
  have a3 : ∀ z : BelowW W0, z.q.cell? ⟨w.heap.size, 5, none⟩ = some (.int .i64 t.vh) := HF.out.at 5 rfl
  have hne : Nonempty (BelowW W0) := ⟨⟨W0, Below.refl _ _⟩⟩
  have M1 := hide (fun w => ref_middle_any t.pl t.ph w ht.pl ht.ph)
  have M2 := hide (fun w => ref_middle_any t.vl t.vh w ht.vl ht.vh)
  clear ht
  unfold rC at hW0 ⊢
  generalize t.pl = x0 at *
  generalize t.ph = x1 at *
  generalize t.vl = x2 at *
  generalize t.vh = x3 at *
  go_enter Try.func13, Try.ntmps13
  go_wp2_with fail
  refine wp_region_calm (by kernel_rfl) (by kernel_rfl) ?_
  repeat (go_big_quiet_step (first
    | (go_at_call_of 36 (Value.int IntKind.i64 x0); exact calm_of (M1.out _))
    | (go_at_call_of 36 (Value.int IntKind.i64 x2); exact calm_of (M2.out _))))
  refine wpQuiet_nil ?_
  rintro _ ⟨z, rfl⟩
  go_wp2_with fail
  go_ret2
  exact ⟨rfl, below_next Hb.out (Nat.le_refl _) z.h⟩
/-- the boxes of a step of the document's filter -/
structure RSt (w0 : World) (g : Nat) (t r : Fi) (p v : Mea) (wx : World) : Prop where
  F : Blk wx g (rC t) 33
  T : Two wx (g + 1) p v
  R : Blk wx (g + 1 + 1 + 1) (rC r) 33
  b : Below w0.heap.size w0 wx
theorem RSt.after {w0 w1 w2 : World} {g : Nat} {t r : Fi} {p v : Mea} (h : RSt w0 g t r p v w1) (hb : Below w1.heap.size w1 w2) : RSt w0 g t r p v w2 := ⟨h.F.after hb, h.T.after hb, h.R.after hb, below_next h.b (Nat.le_refl _) hb⟩
theorem RSt.drewN {w0 w1 : World} {g : Nat} {t r : Fi} {p v : Mea} (h : RSt w0 g t r p v w1) (n : Nat) : RSt w0 g t r p v (w1.drewN n) := h.after (below_drewN (Below.refl _ _) n)
theorem RSt.drew {w0 w1 : World} {g : Nat} {t r : Fi} {p v : Mea} (h : RSt w0 g t r p v w1) : RSt w0 g t r p v w1.drew := h.after (Below.refl _ _).drew
theorem four_boxes (w : World) (t : Fi) (p v : Mea) (r : Fi) : ∃ W0, (((w.alloc (.cells (rC t) 33)).alloc (.cells #[.bool p.o, .int .i64 p.x, .int .i64 p.e] 38)).alloc (.cells #[.bool v.o, .int .i64 v.x, .int .i64 v.e] 38)).alloc (.cells (rC r) 33) = W0 ∧ RSt w w.heap.size t r p v W0 ∧ W0.heap.size = w.heap.size + 4 := by
  obtain ⟨W1, h, b, B1, B2, B3, hz⟩ := three_boxes w (rC t) #[.bool p.o, .int .i64 p.x, .int .i64 p.e] #[.bool v.o, .int .i64 v.x, .int .i64 v.e] 33 38 38
  refine ⟨_, rfl, ?_, ?_⟩
  · rw [h]
    refine ⟨B1.alloc _, ⟨B2.alloc _, B3.alloc _⟩, ?_, below_next b (Nat.le_refl _) (below_alloc _ _)⟩
    have := Blk.new W1 (rC r) 33
    rwa [hz] at this
  · rw [h, size_alloc, hz]
theorem RSt.setOther {w0 W : World} {g : Nat} {t r : Fi} {p v : Mea} (h : RSt w0 g t r p v W) {b : Nat} (hb : g + 3 < b) (hg : w0.heap.size ≤ g) (i : Nat) (u : Value) : RSt w0 g t r p v (W.setCell ⟨b, i, none⟩ u) :=
  ⟨h.F.setOther (by omega) _ _, ⟨h.T.1.setOther (by omega) _ _, h.T.2.setOther (by omega) _ _⟩, h.R.setOther (by omega) _ _, below_set h.b _ _ _ (by omega) h.b.size⟩
/-- the result's box behind the last store -/
def resW (W : World) (B : Nat) (t : Fi) : World := (((((((((W.setCell ⟨B, 0, none⟩ (.int .i64 t.st)).setCell ⟨B, 1, none⟩ (.bool t.kn)).setCell ⟨B, 2, none⟩ (.int .i64 t.pl)).setCell ⟨B, 3, none⟩ (.int .i64 t.ph)).setCell ⟨B, 4, none⟩ (.int .i64 t.vl)).setCell ⟨B, 5, none⟩ (.int .i64 t.vh)).setCell ⟨B, 6, none⟩ (.int .i64 t.q0)).setCell ⟨B, 7, none⟩ (.int .i64 t.q1)).setCell ⟨B, 8, none⟩ (.int .i64 t.j))
theorem RSt.res {w0 W : World} {g : Nat} {t r : Fi} {p v : Mea} (h : RSt w0 g t r p v W) (hg : w0.heap.size ≤ g) : Blk (resW W (g + 1 + 1 + 1) t) (g + 1 + 1 + 1) (rC t) 33 ∧ Below w0.heap.size w0 (resW W (g + 1 + 1 + 1) t) := by
  refine ⟨Blk.set9 h.R _ _ _ _ _ _ _ _ _, ?_⟩
  have step : ∀ (X : World) (i : Nat) (u : Value), w0.heap.size ≤ X.heap.size ∧ Below w0.heap.size w0 X → w0.heap.size ≤ (X.setCell ⟨g + 1 + 1 + 1, i, none⟩ u).heap.size ∧ Below w0.heap.size w0 (X.setCell ⟨g + 1 + 1 + 1, i, none⟩ u) := fun X i u ⟨h1, h2⟩ => ⟨by rw [setCell_size]; exact h1, below_set h2 _ _ _ (by omega) h1⟩
  exact (step _ _ _ (step _ _ _ (step _ _ _ (step _ _ _ (step _ _ _ (step _ _ _ (step _ _ _ (step _ _ _ (step _ _ _ ⟨h.b.size, h.b⟩))))))))).2
theorem RSt.fcells {w0 W : World} {g : Nat} {t r : Fi} {p v : Mea} (h : RSt w0 g t r p v W) : W.cell? ⟨g, 0, none⟩ = some (.int .i64 t.st) ∧ W.cell? ⟨g, 1, none⟩ = some (.bool t.kn) ∧ W.cell? ⟨g, 2, none⟩ = some (.int .i64 t.pl) ∧ W.cell? ⟨g, 3, none⟩ = some (.int .i64 t.ph) ∧ W.cell? ⟨g, 4, none⟩ = some (.int .i64 t.vl) ∧ W.cell? ⟨g, 5, none⟩ = some (.int .i64 t.vh) ∧ W.cell? ⟨g, 6, none⟩ = some (.int .i64 t.q0) ∧ W.cell? ⟨g, 7, none⟩ = some (.int .i64 t.q1) ∧ W.cell? ⟨g, 8, none⟩ = some (.int .i64 t.j) :=
  ⟨h.F.cell 0 rfl, h.F.cell 1 rfl, h.F.cell 2 rfl, h.F.cell 3 rfl, h.F.cell 4 rfl, h.F.cell 5 rfl, h.F.cell 6 rfl, h.F.cell 7 rfl, h.F.cell 8 rfl⟩
theorem RSt.rcells {w0 W : World} {g : Nat} {t r : Fi} {p v : Mea} (h : RSt w0 g t r p v W) : W.cell? ⟨g + 1 + 1 + 1, 0, none⟩ = some (.int .i64 r.st) ∧ W.cell? ⟨g + 1 + 1 + 1, 1, none⟩ = some (.bool r.kn) ∧ W.cell? ⟨g + 1 + 1 + 1, 2, none⟩ = some (.int .i64 r.pl) ∧ W.cell? ⟨g + 1 + 1 + 1, 3, none⟩ = some (.int .i64 r.ph) ∧ W.cell? ⟨g + 1 + 1 + 1, 4, none⟩ = some (.int .i64 r.vl) ∧ W.cell? ⟨g + 1 + 1 + 1, 5, none⟩ = some (.int .i64 r.vh) ∧ W.cell? ⟨g + 1 + 1 + 1, 6, none⟩ = some (.int .i64 r.q0) ∧ W.cell? ⟨g + 1 + 1 + 1, 7, none⟩ = some (.int .i64 r.q1) ∧ W.cell? ⟨g + 1 + 1 + 1, 8, none⟩ = some (.int .i64 r.j) :=
  ⟨h.R.cell 0 rfl, h.R.cell 1 rfl, h.R.cell 2 rfl, h.R.cell 3 rfl, h.R.cell 4 rfl, h.R.cell 5 rfl, h.R.cell 6 rfl, h.R.cell 7 rfl, h.R.cell 8 rfl⟩
theorem RSt.axis {w0 W : World} {g : Nat} {t r : Fi} {p v : Mea} (h : RSt w0 g t r p v W) (x0 x1 x2 x3 : Int) (hg : w0.heap.size ≤ g) : RSt w0 g { t with pl := x0, ph := x1, vl := x2, vh := x3 } r p v ((((W.setCell ⟨g, 2, none⟩ (.int .i64 x0)).setCell ⟨g, 3, none⟩ (.int .i64 x1)).setCell ⟨g, 4, none⟩ (.int .i64 x2)).setCell ⟨g, 5, none⟩ (.int .i64 x3)) := by
  have n1 : g + 1 ≠ g := by omega
  have n2 : g + 1 + 1 ≠ g := by omega
  have n3 : g + 1 + 1 + 1 ≠ g := by omega
  have step : ∀ (X : World) (i : Nat) (u : Value), w0.heap.size ≤ X.heap.size ∧ Below w0.heap.size w0 X → w0.heap.size ≤ (X.setCell ⟨g, i, none⟩ u).heap.size ∧ Below w0.heap.size w0 (X.setCell ⟨g, i, none⟩ u) := fun X i u ⟨h1, h2⟩ => ⟨by rw [setCell_size]; exact h1, below_set h2 _ _ _ hg h1⟩
  exact ⟨(((h.F.set 2 _).set 3 _).set 4 _).set 5 _, ⟨(((h.T.1.setOther n1 _ _).setOther n1 _ _).setOther n1 _ _).setOther n1 _ _, (((h.T.2.setOther n2 _ _).setOther n2 _ _).setOther n2 _ _).setOther n2 _ _⟩, (((h.R.setOther n3 _ _).setOther n3 _ _).setOther n3 _ _).setOther n3 _ _, (step _ _ _ (step _ _ _ (step _ _ _ (step _ _ _ ⟨h.b.size, h.b⟩)))).2⟩
theorem RSt.jump {w0 W : World} {g : Nat} {t r : Fi} {p v : Mea} (h : RSt w0 g t r p v W) (x : Int) (hg : w0.heap.size ≤ g) : RSt w0 g { t with j := x } r p v (W.setCell ⟨g, 8, none⟩ (.int .i64 x)) :=
  ⟨h.F.set 8 _, ⟨h.T.1.setOther (by omega) _ _, h.T.2.setOther (by omega) _ _⟩, h.R.setOther (by omega) _ _, below_set h.b _ _ _ hg h.b.size⟩
theorem RSt.quiet {w0 W : World} {g : Nat} {t r : Fi} {p v : Mea} (h : RSt w0 g t r p v W) (x y : Int) (hg : w0.heap.size ≤ g) : RSt w0 g { t with q0 := x, q1 := y } r p v ((W.setCell ⟨g, 6, none⟩ (.int .i64 x)).setCell ⟨g, 7, none⟩ (.int .i64 y)) :=
  ⟨(h.F.set 6 _).set 7 _, ⟨(h.T.1.setOther (by omega) _ _).setOther (by omega) _ _, (h.T.2.setOther (by omega) _ _).setOther (by omega) _ _⟩, (h.R.setOther (by omega) _ _).setOther (by omega) _ _, below_set (below_set h.b _ _ _ hg h.b.size) _ _ _ hg (by rw [setCell_size]; exact h.b.size)⟩
set_option maxHeartbeats 2000000 in
set_option maxRecDepth 100000 in
theorem rstep_no (w : World) (t : Fi) (acc dev : Int) (sd : Bool) (p v : Mea) (hk : t.kn = false) (hp : MOk p) (hv : MOk v) : Calls Try.prog 11 #[.agg (rC t), .int .i64 acc, .int .i64 dev, .bool sd, mV p, mV v] w fun e w' => e = .returned (.agg (rC (fstp acc dev sd p v t))) ∧ Below w.heap.size w w' := by
  have HE : Hid (fstp acc dev sd p v t = fbeg p v t) := hide (by unfold fstp; rw [hk]; rfl)
  rw [HE.out]
  obtain ⟨st, kn, q0, q1, pl, ph, vl, vh, j⟩ := t
  obtain rfl : kn = false := hk
  obtain ⟨W0, hW0, hS, hz⟩ := four_boxes w ⟨st, false, q0, q1, pl, ph, vl, vh, j⟩ p v ⟨0, false, 0, 0, 0, 0, 0, 0, 0⟩
  have HS := hide hS
  have TP := hide (rthere_any p)
  have TV := hide (rthere_any v)
  have SP := hide (rspan_any p hp)
  have SV := hide (rspan_any v hv)
  have c1 : W0.cell? ⟨w.heap.size, 1, none⟩ = some (.bool false) := hS.F.cell 1 rfl
  obtain ⟨a0, a1, a2, d0, d1, d2⟩ := hS.T.cells
  clear hS HE hp hv
  unfold rC at hW0
  simp only [] at hW0
  unfold rC
  by_cases h1 : mth p = true
  · rw [h1] at TP
    by_cases h2 : mth v = true
    · rw [h2] at TV
      have HE : Hid (fbeg p v ⟨st, false, q0, q1, pl, ph, vl, vh, j⟩ = ⟨st, true, q0, q1, mlo p, mhi p, mlo v, mhi v, j⟩) := hide (by unfold fbeg; rw [h1, h2]; rfl)
      rw [HE.out]
      clear h1 h2 HE
      generalize mlo p = x0 at *
      generalize mhi p = x1 at *
      generalize mlo v = x2 at *
      generalize mhi v = x3 at *
      go_enter Try.func11, Try.ntmps11
      go_upto_region 3 with fail
      refine (TP.out _).mono ?_
      rintro e w1 ⟨rfl, hb1⟩
      replace HS := hide (HS.out.after hb1)
      clear hb1 c1 a0 a1 a2 d0 d1 d2 hW0 hz
      obtain ⟨a0, a1, a2, d0, d1, d2⟩ := HS.out.T.cells
      go_upto_region 3 with fail
      refine (TV.out _).mono ?_
      rintro e w2 ⟨rfl, hb2⟩
      replace HS := hide (HS.out.after hb2)
      clear hb2 a0 a1 a2 d0 d1 d2
      have c1 : w2.cell? ⟨w.heap.size, 1, none⟩ = some (.bool false) := HS.out.F.cell 1 rfl
      have f1 := HS.out.F.frozen 1
      go_upto_region 4 with fail
      have HS3 : Hid (RSt w w.heap.size ⟨st, true, q0, q1, pl, ph, vl, vh, j⟩ ⟨0, false, 0, 0, 0, 0, 0, 0, 0⟩ p v (w2.setCell ⟨w.heap.size, 1, none⟩ (.bool true))) := hide ⟨HS.out.F.set 1 (.bool true), ⟨HS.out.T.1.setOther (by omega) _ _, HS.out.T.2.setOther (by omega) _ _⟩, HS.out.R.setOther (by omega) _ _, below_set HS.out.b _ _ _ (Nat.le_refl _) HS.out.b.size⟩
      clear HS c1 f1
      generalize w2.setCell ⟨w.heap.size, 1, none⟩ (.bool true) = W3 at *
      have a0 : ∀ x : BelowW W3, x.q.cell? ⟨w.heap.size + 1, 0, none⟩ = some (.bool p.o) := HS3.out.T.1.at 0 rfl
      have a1 : ∀ x : BelowW W3, x.q.cell? ⟨w.heap.size + 1, 1, none⟩ = some (.int .i64 p.x) := HS3.out.T.1.at 1 rfl
      have a2 : ∀ x : BelowW W3, x.q.cell? ⟨w.heap.size + 1, 2, none⟩ = some (.int .i64 p.e) := HS3.out.T.1.at 2 rfl
      have b0 : ∀ x : BelowW W3, x.q.cell? ⟨w.heap.size + 1 + 1, 0, none⟩ = some (.bool v.o) := HS3.out.T.2.at 0 rfl
      have b1 : ∀ x : BelowW W3, x.q.cell? ⟨w.heap.size + 1 + 1, 1, none⟩ = some (.int .i64 v.x) := HS3.out.T.2.at 1 rfl
      have b2 : ∀ x : BelowW W3, x.q.cell? ⟨w.heap.size + 1 + 1, 2, none⟩ = some (.int .i64 v.e) := HS3.out.T.2.at 2 rfl
      have hne : Nonempty (BelowW W3) := ⟨⟨W3, Below.refl _ _⟩⟩
      refine reg_last_calm 6 rfl rfl _ rfl (by kernel_rfl) (by kernel_rfl) (by kernel_rfl) ?_
      simp only [List.take_succ_cons, List.take_zero]
      repeat (go_big_quiet_step (first
        | (go_at_call_of 30 (Value.agg #[Value.bool p.o, Value.int IntKind.i64 p.x, Value.int IntKind.i64 p.e]); exact calm_of (SP.out _))
        | (go_at_call_of 30 (Value.agg #[Value.bool v.o, Value.int IntKind.i64 v.x, Value.int IntKind.i64 v.e]); exact calm_of (SV.out _))))
      refine wpQuiet_nil ?_
      rintro _ ⟨x, rfl⟩
      obtain ⟨W4, hx⟩ := x
      have HS4 := hide (HS3.out.after hx)
      clear a0 a1 a2 b0 b1 b2 hne HS3
      have k2 : W4.cell? ⟨w.heap.size, 2, none⟩ = some (.int .i64 pl) := HS4.out.F.cell 2 rfl
      have k3 : W4.cell? ⟨w.heap.size, 3, none⟩ = some (.int .i64 ph) := HS4.out.F.cell 3 rfl
      have k4 : W4.cell? ⟨w.heap.size, 4, none⟩ = some (.int .i64 vl) := HS4.out.F.cell 4 rfl
      have k5 : W4.cell? ⟨w.heap.size, 5, none⟩ = some (.int .i64 vh) := HS4.out.F.cell 5 rfl
      have f2 : W4.frozen? ⟨w.heap.size, 2, none⟩ = false := HS4.out.F.frozen 2
      have f3 : W4.frozen? ⟨w.heap.size, 3, none⟩ = false := HS4.out.F.frozen 3
      have f4 : W4.frozen? ⟨w.heap.size, 4, none⟩ = false := HS4.out.F.frozen 4
      have f5 : W4.frozen? ⟨w.heap.size, 5, none⟩ = false := HS4.out.F.frozen 5
      go_simp
      have HS5 := hide (HS4.out.axis x0 x1 x2 x3 (Nat.le_refl _))
      clear HS4 k2 k3 k4 k5 f2 f3 f4 f5 hx
      generalize (((W4.setCell ⟨w.heap.size, 2, none⟩ (.int .i64 x0)).setCell ⟨w.heap.size, 3, none⟩ (.int .i64 x1)).setCell ⟨w.heap.size, 4, none⟩ (.int .i64 x2)).setCell ⟨w.heap.size, 5, none⟩ (.int .i64 x3) = W5 at *
      go_upto_region 5 with fail
      obtain ⟨u0, u1, u2, u3, u4, u5, u6, u7, u8⟩ := HS5.out.fcells
      obtain ⟨r0, r1, r2, r3, r4, r5, r6, r7, r8⟩ := HS5.out.rcells
      have z0 := HS5.out.R.frozen 0
      have z1 := HS5.out.R.frozen 1
      have z2 := HS5.out.R.frozen 2
      have z3 := HS5.out.R.frozen 3
      have z4 := HS5.out.R.frozen 4
      have z5 := HS5.out.R.frozen 5
      have z6 := HS5.out.R.frozen 6
      have z7 := HS5.out.R.frozen 7
      have z8 := HS5.out.R.frozen 8
      simp only [] at u0 u1 u2 u3 u4 u5 u6 u7 u8 r0 r1 r2 r3 r4 r5 r6 r7 r8
      obtain ⟨hres, hbel⟩ := HS5.out.res (Nat.le_refl _)
      have HRES := hide hres
      have HBEL := hide hbel
      clear hres hbel
      go_wp2_with fail
      exact bodyPost_ret (rf_back (p := 12) (by kernel_rfl) _ _ (w.heap.size + 1 + 1 + 1) _ rfl HRES.out) rfl ⟨rfl, HBEL.out⟩
    · have h2' : mth v = false := by simpa using h2
      rw [h2'] at TV
      have HE : Hid (fbeg p v ⟨st, false, q0, q1, pl, ph, vl, vh, j⟩ = ⟨st, false, q0, q1, pl, ph, vl, vh, j⟩) := hide (by unfold fbeg; rw [h2']; simp)
      rw [HE.out]
      clear h1 h2 h2' HE
      go_enter Try.func11, Try.ntmps11
      go_upto_region 5 with fail
      refine (TP.out _).mono ?_
      rintro e w1 ⟨rfl, hb1⟩
      replace HS := hide (HS.out.after hb1)
      clear hb1 c1 a0 a1 a2 d0 d1 d2 hW0 hz
      obtain ⟨a0, a1, a2, d0, d1, d2⟩ := HS.out.T.cells
      go_upto_region 5 with fail
      refine (TV.out _).mono ?_
      rintro e w2 ⟨rfl, hb2⟩
      have HS1 := hide (HS.out.after hb2)
      clear HS hb2 a0 a1 a2 d0 d1 d2
      go_upto_region 5 with fail
      obtain ⟨u0, u1, u2, u3, u4, u5, u6, u7, u8⟩ := HS1.out.fcells
      obtain ⟨r0, r1, r2, r3, r4, r5, r6, r7, r8⟩ := HS1.out.rcells
      have z0 := HS1.out.R.frozen 0
      have z1 := HS1.out.R.frozen 1
      have z2 := HS1.out.R.frozen 2
      have z3 := HS1.out.R.frozen 3
      have z4 := HS1.out.R.frozen 4
      have z5 := HS1.out.R.frozen 5
      have z6 := HS1.out.R.frozen 6
      have z7 := HS1.out.R.frozen 7
      have z8 := HS1.out.R.frozen 8
      simp only [] at u0 u1 u2 u3 u4 u5 u6 u7 u8 r0 r1 r2 r3 r4 r5 r6 r7 r8
      obtain ⟨hres, hbel⟩ := HS1.out.res (Nat.le_refl _)
      have HRES := hide hres
      have HBEL := hide hbel
      clear hres hbel
      go_wp2_with fail
      exact bodyPost_ret (rf_back (p := 12) (by kernel_rfl) _ _ (w.heap.size + 1 + 1 + 1) _ rfl HRES.out) rfl ⟨rfl, HBEL.out⟩
  · have h1' : mth p = false := by simpa using h1
    rw [h1'] at TP
    have HE : Hid (fbeg p v ⟨st, false, q0, q1, pl, ph, vl, vh, j⟩ = ⟨st, false, q0, q1, pl, ph, vl, vh, j⟩) := hide (by unfold fbeg; rw [h1']; simp)
    rw [HE.out]
    go_enter Try.func11, Try.ntmps11
    go_upto_region 5 with (go_at_call 29; refine (TP.out _).mono ?_; rintro e w1 ⟨rfl, hb1⟩)
    have HS1 := hide (HS.out.after hb1)
    clear HS hb1 c1 a0 a1 a2 d0 d1 d2 hW0 hz
    obtain ⟨u0, u1, u2, u3, u4, u5, u6, u7, u8⟩ := HS1.out.fcells
    obtain ⟨r0, r1, r2, r3, r4, r5, r6, r7, r8⟩ := HS1.out.rcells
    have z0 := HS1.out.R.frozen 0
    have z1 := HS1.out.R.frozen 1
    have z2 := HS1.out.R.frozen 2
    have z3 := HS1.out.R.frozen 3
    have z4 := HS1.out.R.frozen 4
    have z5 := HS1.out.R.frozen 5
    have z6 := HS1.out.R.frozen 6
    have z7 := HS1.out.R.frozen 7
    have z8 := HS1.out.R.frozen 8
    simp only [] at u0 u1 u2 u3 u4 u5 u6 u7 u8 r0 r1 r2 r3 r4 r5 r6 r7 r8
    obtain ⟨hres, hbel⟩ := HS1.out.res (Nat.le_refl _)
    have HRES := hide hres
    have HBEL := hide hbel
    clear hres hbel
    go_wp2_with fail
    exact bodyPost_ret (rf_back (p := 12) (by kernel_rfl) _ _ (w.heap.size + 1 + 1 + 1) _ rfl HRES.out) rfl ⟨rfl, HBEL.out⟩
end Go.Proofs.Ytgadpalkchillaa
