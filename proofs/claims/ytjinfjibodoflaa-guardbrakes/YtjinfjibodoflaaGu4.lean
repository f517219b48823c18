/- Package guard, walked: Reach. Written by mk_gu4.py. -/
import Derived.Test.YtjinfjibodoflaaGu3
namespace Go.Proofs.Ytjinfjibodoflaa
open Go.RowKit Go.Great

abbrev axsC (a b c : Ax) : Array Value := #[.int .i64 a.pl, .int .i64 a.ph, .int .i64 a.vl, .int .i64 a.vh, .int .i64 b.pl, .int .i64 b.ph, .int .i64 b.vl, .int .i64 b.vh, .int .i64 c.pl, .int .i64 c.ph, .int .i64 c.vl, .int .i64 c.vh]
abbrev axsV (a b c : Ax) : Value := .agg (axsC a b c)
/-- six ints: a box -/
abbrev bxC (a b c d e f : Int) : Array Value := #[.int .i64 a, .int .i64 b, .int .i64 c, .int .i64 d, .int .i64 e, .int .i64 f]
abbrev bxV (a b c d e f : Int) : Value := .agg (bxC a b c d e f)
/-- what is kept while the three spans are reckoned -/
structure RB (w : World) (n : Nat) (A T M : Array Value) (W : World) : Prop where
  a : Blk W n A 29
  t : Blk W (n + 1) T 30
  m : Blk W (n + 1 + 1) M 32
  r : Blk W (n + 1 + 1 + 1) (bxC 0 0 0 0 0 0) 36
  b : Below n w W
theorem RB.after {w : World} {n : Nat} {A T M : Array Value} {W W' : World} (h : RB w n A T M W) (hb : Below W.heap.size W W') : RB w n A T M W' :=
  ⟨h.a.after hb, h.t.after hb, h.m.after hb, h.r.after hb, h.b.trans (hb.mono (by have := h.a.lt; omega))⟩
theorem RB.set {w : World} {n : Nat} {A T M : Array Value} {W : World} (h : RB w n A T M W) (g i : Nat) (v : Value) (hg : n + 1 + 1 + 1 < g) : RB w n A T M (W.setCell ⟨g, i, none⟩ v) :=
  ⟨h.a.setOther (by omega) _ _, h.t.setOther (by omega) _ _, h.m.setOther (by omega) _ _, h.r.setOther (by omega) _ _, below_set h.b _ _ _ (by omega) (by have := h.a.lt; omega)⟩
/-- a span's new variable -/
def SB (n : Nat) (W : World) (g : Nat) : Prop := Blk W g #[.int .i64 0, .int .i64 0] 26 ∧ n + 1 + 1 + 1 < g
theorem SB.after {n : Nat} {W W' : World} {g : Nat} (h : SB n W g) (hb : Below W.heap.size W W') : SB n W' g := ⟨h.1.after hb, h.2⟩
theorem SB.new {w : World} {n : Nat} {A T M : Array Value} {W : World} (h : RB w n A T M W) : SB n (W.alloc (.cells #[.int .i64 0, .int .i64 0] 26)) W.heap.size := ⟨Blk.new _ _ _, h.r.lt⟩
theorem SB.ne {n : Nat} {W : World} {g : Nat} (h : SB n W g) : g ≠ W.heap.size := fun e => by have := h.1.lt; omega
theorem memoF {P : Program} {md : Region.Mode} {ops : Array Oper} {Q : Exit → Act → World → Prop} {S : World → Prop} {f : Nat} {l : Array Bool} {a : Act} {w : World} (f' : Nat) (l' : Array Bool) (a' : Nat × Nat × Nat → Act) (R : Nat × Nat × Nat → World → Prop) (h : ∀ i w', R i w' → wpAnyH P md ops Q S f' l' (a' i) w') (g : (∀ i w', R i w' → wpAnyH P md ops Q S f' l' (a' i) w') → wpAnyH P md ops Q S f l a w) : wpAnyH P md ops Q S f l a w := g h
theorem box_back {fn : Func} {p : Tmp} (h : fn.results = #[.cell p 36]) (tmps : Array Value) (w : World) (g : Nat) (a b c d e f : Value) (hp : tmps.getD p undef = .pointer (some ⟨g, 0, none⟩)) (hg : Blk w g #[a, b, c, d, e, f] 36) : (results fn tmps).run Try.prog w = .ok (.agg #[a, b, c, d, e, f]) w :=
  res_back h Try.underlying36 (by kernel_rfl) tmps w g hp hg
theorem Blk.set6 {W : World} {B : Nat} {a b c d e f : Value} {t : TypeId} (h : Blk W B #[a, b, c, d, e, f] t) (u v x y z q : Value) : Blk ((((((W.setCell ⟨B, 0, none⟩ u).setCell ⟨B, 1, none⟩ v).setCell ⟨B, 2, none⟩ x).setCell ⟨B, 3, none⟩ y).setCell ⟨B, 4, none⟩ z).setCell ⟨B, 5, none⟩ q) B #[u, v, x, y, z, q] t := heap_set (heap_set (heap_set (heap_set (heap_set (heap_set h 0 u) 1 v) 2 x) 3 y) 4 z) 5 q
theorem below_set6 {n : Nat} {w w1 : World} (h : Below n w w1) (g : Nat) (u v x y z q : Value) (hg : n ≤ g) (hn : n ≤ w1.heap.size) : Below n w ((((((w1.setCell ⟨g, 0, none⟩ u).setCell ⟨g, 1, none⟩ v).setCell ⟨g, 2, none⟩ x).setCell ⟨g, 3, none⟩ y).setCell ⟨g, 4, none⟩ z).setCell ⟨g, 5, none⟩ q) := by
  refine below_set (below_set (below_set (below_set (below_set (below_set h _ _ _ hg hn) _ _ _ hg ?_) _ _ _ hg ?_) _ _ _ hg ?_) _ _ _ hg ?_) _ _ _ hg ?_ <;> simp only [setCell_size] <;> exact hn
theorem six_cells {W : World} {d : Nat} {a b c x y z : Value} {t : TypeId} (h : Blk W d #[a, b, c, x, y, z] t) : W.cell? ⟨d, 0, none⟩ = some a ∧ W.cell? ⟨d, 1, none⟩ = some b ∧ W.cell? ⟨d, 2, none⟩ = some c ∧ W.cell? ⟨d, 3, none⟩ = some x ∧ W.cell? ⟨d, 4, none⟩ = some y ∧ W.cell? ⟨d, 5, none⟩ = some z := ⟨h.cell 0 rfl, h.cell 1 rfl, h.cell 2 rfl, h.cell 3 rfl, h.cell 4 rfl, h.cell 5 rfl⟩
theorem six_set {W : World} {d : Nat} {cs : Array Value} {t : TypeId} (h : Blk W d cs t) : W.frozen? ⟨d, 0, none⟩ = false ∧ W.frozen? ⟨d, 1, none⟩ = false ∧ W.frozen? ⟨d, 2, none⟩ = false ∧ W.frozen? ⟨d, 3, none⟩ = false ∧ W.frozen? ⟨d, 4, none⟩ = false ∧ W.frozen? ⟨d, 5, none⟩ = false := ⟨h.frozen 0, h.frozen 1, h.frozen 2, h.frozen 3, h.frozen 4, h.frozen 5⟩
theorem four_boxesG (w : World) (A B C D : Array Value) (t u v x : TypeId) : ∃ W0, (((w.alloc (.cells A t)).alloc (.cells B u)).alloc (.cells C v)).alloc (.cells D x) = W0 ∧ Below w.heap.size w W0 ∧ Blk W0 w.heap.size A t ∧ Blk W0 (w.heap.size + 1) B u ∧ Blk W0 (w.heap.size + 1 + 1) C v ∧ Blk W0 (w.heap.size + 1 + 1 + 1) D x ∧ W0.heap.size = w.heap.size + 4 := by
  obtain ⟨W0, h0, b0, hA, hB, hz⟩ := two_boxes w A B t u
  obtain ⟨W1, h1, b1, hD, hE, hy⟩ := two_boxes W0 C D v x
  rw [h0, h1]
  refine ⟨W1, rfl, below_next b0 (Nat.le_refl _) b1, hA.after b1, hB.after b1, ?_, ?_, by omega⟩
  · rw [hz] at hD; exact hD
  · rw [hz] at hE; exact hE
theorem RB.cells {w W : World} {n : Nat} {a0 a1 a2 a3 b0 b1 b2 b3 c0 c1 c2 c3 x y z br dr jo fa la dn : Int} (h : RB w n #[.int .i64 a0, .int .i64 a1, .int .i64 a2, .int .i64 a3, .int .i64 b0, .int .i64 b1, .int .i64 b2, .int .i64 b3, .int .i64 c0, .int .i64 c1, .int .i64 c2, .int .i64 c3] #[.int .i64 x, .int .i64 y, .int .i64 z] #[.int .i64 br, .int .i64 dr, .int .i64 jo, .int .i64 fa, .int .i64 la, .int .i64 dn] W) : W.cell? ⟨n, 0, none⟩ = some (.int .i64 a0) ∧ W.cell? ⟨n, 1, none⟩ = some (.int .i64 a1) ∧ W.cell? ⟨n, 2, none⟩ = some (.int .i64 a2) ∧ W.cell? ⟨n, 3, none⟩ = some (.int .i64 a3) ∧ W.cell? ⟨n, 4, none⟩ = some (.int .i64 b0) ∧ W.cell? ⟨n, 5, none⟩ = some (.int .i64 b1) ∧ W.cell? ⟨n, 6, none⟩ = some (.int .i64 b2) ∧ W.cell? ⟨n, 7, none⟩ = some (.int .i64 b3) ∧ W.cell? ⟨n, 8, none⟩ = some (.int .i64 c0) ∧ W.cell? ⟨n, 9, none⟩ = some (.int .i64 c1) ∧ W.cell? ⟨n, 10, none⟩ = some (.int .i64 c2) ∧ W.cell? ⟨n, 11, none⟩ = some (.int .i64 c3) ∧ W.cell? ⟨n + 1, 0, none⟩ = some (.int .i64 x) ∧ W.cell? ⟨n + 1, 1, none⟩ = some (.int .i64 y) ∧ W.cell? ⟨n + 1, 2, none⟩ = some (.int .i64 z) ∧ W.cell? ⟨n + 1 + 1, 0, none⟩ = some (.int .i64 br) ∧ W.cell? ⟨n + 1 + 1, 1, none⟩ = some (.int .i64 dr) ∧ W.cell? ⟨n + 1 + 1, 2, none⟩ = some (.int .i64 jo) ∧ W.cell? ⟨n + 1 + 1, 3, none⟩ = some (.int .i64 fa) ∧ W.cell? ⟨n + 1 + 1, 4, none⟩ = some (.int .i64 la) ∧ W.cell? ⟨n + 1 + 1, 5, none⟩ = some (.int .i64 dn) :=
  ⟨h.a.cell 0 rfl, h.a.cell 1 rfl, h.a.cell 2 rfl, h.a.cell 3 rfl, h.a.cell 4 rfl, h.a.cell 5 rfl, h.a.cell 6 rfl, h.a.cell 7 rfl, h.a.cell 8 rfl, h.a.cell 9 rfl, h.a.cell 10 rfl, h.a.cell 11 rfl, h.t.cell 0 rfl, h.t.cell 1 rfl, h.t.cell 2 rfl, h.m.cell 0 rfl, h.m.cell 1 rfl, h.m.cell 2 rfl, h.m.cell 3 rfl, h.m.cell 4 rfl, h.m.cell 5 rfl⟩
set_option maxHeartbeats 8000000 in
theorem reach_any (a b c : Ax) (x y z : Int) (m : Mg) (w : World) (ha : AOk a) (hb : AOk b) (hc : AOk c) (hx : I64 x) (hy : I64 y) (hz : I64 z) (hbr : I64 m.br) (hjo : I64 m.jo) : Calls Try.prog 13 #[axsV a b c, tV x y z, mgV m] w fun e w' => e = .returned (bxV (rlo a.pl a.vl x m.br m.jo / 6400) (upm (rhi a.ph a.vh x m.br m.jo)) (rlo b.pl b.vl y m.br m.jo / 6400) (upm (rhi b.ph b.vh y m.br m.jo)) 0 (max (upm (rhi c.ph c.vh z m.br m.jo)) 0)) ∧ Below w.heap.size w w' := by
  have S0 := hide (fun W => stretch_any a x m W ha hx hbr hjo)
  have S1 := hide (fun W => stretch_any b y m W hb hy hbr hjo)
  have S2 := hide (fun W => stretch_any c z m W hc hz hbr hjo)
  clear ha hb hc hx hy hz hbr hjo
  generalize rlo a.pl a.vl x m.br m.jo / 6400 = l0 at *
  generalize upm (rhi a.ph a.vh x m.br m.jo) = h0 at *
  generalize rlo b.pl b.vl y m.br m.jo / 6400 = l1 at *
  generalize upm (rhi b.ph b.vh y m.br m.jo) = h1 at *
  generalize rlo c.pl c.vl z m.br m.jo / 6400 = l2 at *
  generalize upm (rhi c.ph c.vh z m.br m.jo) = h2 at *
  obtain ⟨a0, a1, a2, a3⟩ := a
  obtain ⟨b0, b1, b2, b3⟩ := b
  obtain ⟨c0, c1, c2, c3⟩ := c
  obtain ⟨br, dr, jo, fa, la, dn⟩ := m
  obtain ⟨W0, hW0, bw, hA, hT, hM, hR, zw⟩ := four_boxesG w (axsC ⟨a0, a1, a2, a3⟩ ⟨b0, b1, b2, b3⟩ ⟨c0, c1, c2, c3⟩) (tC x y z) (mgC ⟨br, dr, jo, fa, la, dn⟩) (bxC 0 0 0 0 0 0) 29 30 32 36
  have HB := hide (RB.mk (w := w) (n := w.heap.size) hA hT hM hR bw)
  clear bw hA hT hM hR zw
  go_enter Try.func13, Try.ntmps13
  go_upto_region 1 with fail
  clear hW0
  generalize hn : w.heap.size = n at *
  refine wp_region_held_drew (S := fun wx => wx.cell? ⟨n, 0, none⟩ = some (.int .i64 a0) ∧ wx.cell? ⟨n, 1, none⟩ = some (.int .i64 a1) ∧ wx.cell? ⟨n, 2, none⟩ = some (.int .i64 a2) ∧ wx.cell? ⟨n, 3, none⟩ = some (.int .i64 a3) ∧ wx.cell? ⟨n, 4, none⟩ = some (.int .i64 b0) ∧ wx.cell? ⟨n, 5, none⟩ = some (.int .i64 b1) ∧ wx.cell? ⟨n, 6, none⟩ = some (.int .i64 b2) ∧ wx.cell? ⟨n, 7, none⟩ = some (.int .i64 b3) ∧ wx.cell? ⟨n, 8, none⟩ = some (.int .i64 c0) ∧ wx.cell? ⟨n, 9, none⟩ = some (.int .i64 c1) ∧ wx.cell? ⟨n, 10, none⟩ = some (.int .i64 c2) ∧ wx.cell? ⟨n, 11, none⟩ = some (.int .i64 c3) ∧ wx.cell? ⟨n + 1, 0, none⟩ = some (.int .i64 x) ∧ wx.cell? ⟨n + 1, 1, none⟩ = some (.int .i64 y) ∧ wx.cell? ⟨n + 1, 2, none⟩ = some (.int .i64 z) ∧ wx.cell? ⟨n + 1 + 1, 0, none⟩ = some (.int .i64 br) ∧ wx.cell? ⟨n + 1 + 1, 1, none⟩ = some (.int .i64 dr) ∧ wx.cell? ⟨n + 1 + 1, 2, none⟩ = some (.int .i64 jo) ∧ wx.cell? ⟨n + 1 + 1, 3, none⟩ = some (.int .i64 fa) ∧ wx.cell? ⟨n + 1 + 1, 4, none⟩ = some (.int .i64 la) ∧ wx.cell? ⟨n + 1 + 1, 5, none⟩ = some (.int .i64 dn)) (by kernel_rfl) (HB.out.cells) (fun hHeld => ?_)
  replace HB := hide (HB.out.after (below_drewN (Below.refl _ _) 1))
  refine take_at (i := 0) (v := Value.pointer (some ⟨n, 0, none⟩)) (d := some 10) rfl rfl (by kernel_rfl) (by kernel_rfl) (by kernel_rfl) (fun _ _ _ h => h) (Or.inl ⟨by rfl, fun wS ⟨hS0, hS1, hS2, hS3, hS4, hS5, hS6, hS7, hS8, hS9, hS10, hS11, hS12, hS13, hS14, hS15, hS16, hS17, hS18, hS19, hS20⟩ => by go_simp⟩) (by assumption) ?_
  simp only [Act.put, List.setIfInBounds_toArray, List.set_cons_zero, List.set_cons_succ]
  refine take_at (i := 1) (v := Value.agg #[Value.int IntKind.i64 a0, Value.int IntKind.i64 a1, Value.int IntKind.i64 a2, Value.int IntKind.i64 a3]) (d := some 11) rfl rfl (by kernel_rfl) (by kernel_rfl) (by kernel_rfl) (fun _ _ _ h => h) (Or.inl ⟨by rfl, fun wS ⟨hS0, hS1, hS2, hS3, hS4, hS5, hS6, hS7, hS8, hS9, hS10, hS11, hS12, hS13, hS14, hS15, hS16, hS17, hS18, hS19, hS20⟩ => by go_simp⟩) (by assumption) ?_
  simp only [Act.put, List.setIfInBounds_toArray, List.set_cons_zero, List.set_cons_succ]
  refine take_at (i := 2) (v := Value.pointer (some ⟨n + 1, 0, none⟩)) (d := some 12) rfl rfl (by kernel_rfl) (by kernel_rfl) (by kernel_rfl) (fun _ _ _ h => h) (Or.inl ⟨by rfl, fun wS ⟨hS0, hS1, hS2, hS3, hS4, hS5, hS6, hS7, hS8, hS9, hS10, hS11, hS12, hS13, hS14, hS15, hS16, hS17, hS18, hS19, hS20⟩ => by go_simp⟩) (by assumption) ?_
  simp only [Act.put, List.setIfInBounds_toArray, List.set_cons_zero, List.set_cons_succ]
  refine take_at (i := 3) (v := Value.int IntKind.i64 x) (d := some 13) rfl rfl (by kernel_rfl) (by kernel_rfl) (by kernel_rfl) (fun _ _ _ h => h) (Or.inl ⟨by rfl, fun wS ⟨hS0, hS1, hS2, hS3, hS4, hS5, hS6, hS7, hS8, hS9, hS10, hS11, hS12, hS13, hS14, hS15, hS16, hS17, hS18, hS19, hS20⟩ => by go_simp⟩) (by assumption) ?_
  simp only [Act.put, List.setIfInBounds_toArray, List.set_cons_zero, List.set_cons_succ]
  refine take_at (i := 4) (v := Value.agg #[Value.int IntKind.i64 br, Value.int IntKind.i64 dr, Value.int IntKind.i64 jo, Value.int IntKind.i64 fa, Value.int IntKind.i64 la, Value.int IntKind.i64 dn]) (d := some 14) rfl rfl (by kernel_rfl) (by kernel_rfl) (by kernel_rfl) (fun _ _ _ h => h) (Or.inl ⟨by rfl, fun wS ⟨hS0, hS1, hS2, hS3, hS4, hS5, hS6, hS7, hS8, hS9, hS10, hS11, hS12, hS13, hS14, hS15, hS16, hS17, hS18, hS19, hS20⟩ => by go_simp⟩) (by assumption) ?_
  simp only [Act.put, List.setIfInBounds_toArray, List.set_cons_zero, List.set_cons_succ]
  refine take_at (i := 6) (v := Value.pointer (some ⟨n, 4, none⟩)) (d := some 16) rfl rfl (by kernel_rfl) (by kernel_rfl) (by kernel_rfl) (fun _ _ _ h => h) (Or.inl ⟨by rfl, fun wS ⟨hS0, hS1, hS2, hS3, hS4, hS5, hS6, hS7, hS8, hS9, hS10, hS11, hS12, hS13, hS14, hS15, hS16, hS17, hS18, hS19, hS20⟩ => by go_simp⟩) (by assumption) ?_
  simp only [Act.put, List.setIfInBounds_toArray, List.set_cons_zero, List.set_cons_succ]
  refine take_at (i := 7) (v := Value.agg #[Value.int IntKind.i64 b0, Value.int IntKind.i64 b1, Value.int IntKind.i64 b2, Value.int IntKind.i64 b3]) (d := some 17) rfl rfl (by kernel_rfl) (by kernel_rfl) (by kernel_rfl) (fun _ _ _ h => h) (Or.inl ⟨by rfl, fun wS ⟨hS0, hS1, hS2, hS3, hS4, hS5, hS6, hS7, hS8, hS9, hS10, hS11, hS12, hS13, hS14, hS15, hS16, hS17, hS18, hS19, hS20⟩ => by go_simp⟩) (by assumption) ?_
  simp only [Act.put, List.setIfInBounds_toArray, List.set_cons_zero, List.set_cons_succ]
  refine take_at (i := 8) (v := Value.pointer (some ⟨n + 1, 1, none⟩)) (d := some 18) rfl rfl (by kernel_rfl) (by kernel_rfl) (by kernel_rfl) (fun _ _ _ h => h) (Or.inl ⟨by rfl, fun wS ⟨hS0, hS1, hS2, hS3, hS4, hS5, hS6, hS7, hS8, hS9, hS10, hS11, hS12, hS13, hS14, hS15, hS16, hS17, hS18, hS19, hS20⟩ => by go_simp⟩) (by assumption) ?_
  simp only [Act.put, List.setIfInBounds_toArray, List.set_cons_zero, List.set_cons_succ]
  refine take_at (i := 9) (v := Value.int IntKind.i64 y) (d := some 19) rfl rfl (by kernel_rfl) (by kernel_rfl) (by kernel_rfl) (fun _ _ _ h => h) (Or.inl ⟨by rfl, fun wS ⟨hS0, hS1, hS2, hS3, hS4, hS5, hS6, hS7, hS8, hS9, hS10, hS11, hS12, hS13, hS14, hS15, hS16, hS17, hS18, hS19, hS20⟩ => by go_simp⟩) (by assumption) ?_
  simp only [Act.put, List.setIfInBounds_toArray, List.set_cons_zero, List.set_cons_succ]
  refine take_at (i := 10) (v := Value.agg #[Value.int IntKind.i64 br, Value.int IntKind.i64 dr, Value.int IntKind.i64 jo, Value.int IntKind.i64 fa, Value.int IntKind.i64 la, Value.int IntKind.i64 dn]) (d := some 20) rfl rfl (by kernel_rfl) (by kernel_rfl) (by kernel_rfl) (fun _ _ _ h => h) (Or.inl ⟨by rfl, fun wS ⟨hS0, hS1, hS2, hS3, hS4, hS5, hS6, hS7, hS8, hS9, hS10, hS11, hS12, hS13, hS14, hS15, hS16, hS17, hS18, hS19, hS20⟩ => by go_simp⟩) (by assumption) ?_
  simp only [Act.put, List.setIfInBounds_toArray, List.set_cons_zero, List.set_cons_succ]
  refine take_at (i := 12) (v := Value.pointer (some ⟨n, 8, none⟩)) (d := some 22) rfl rfl (by kernel_rfl) (by kernel_rfl) (by kernel_rfl) (fun _ _ _ h => h) (Or.inl ⟨by rfl, fun wS ⟨hS0, hS1, hS2, hS3, hS4, hS5, hS6, hS7, hS8, hS9, hS10, hS11, hS12, hS13, hS14, hS15, hS16, hS17, hS18, hS19, hS20⟩ => by go_simp⟩) (by assumption) ?_
  simp only [Act.put, List.setIfInBounds_toArray, List.set_cons_zero, List.set_cons_succ]
  refine take_at (i := 13) (v := Value.agg #[Value.int IntKind.i64 c0, Value.int IntKind.i64 c1, Value.int IntKind.i64 c2, Value.int IntKind.i64 c3]) (d := some 23) rfl rfl (by kernel_rfl) (by kernel_rfl) (by kernel_rfl) (fun _ _ _ h => h) (Or.inl ⟨by rfl, fun wS ⟨hS0, hS1, hS2, hS3, hS4, hS5, hS6, hS7, hS8, hS9, hS10, hS11, hS12, hS13, hS14, hS15, hS16, hS17, hS18, hS19, hS20⟩ => by go_simp⟩) (by assumption) ?_
  simp only [Act.put, List.setIfInBounds_toArray, List.set_cons_zero, List.set_cons_succ]
  refine take_at (i := 14) (v := Value.pointer (some ⟨n + 1, 2, none⟩)) (d := some 24) rfl rfl (by kernel_rfl) (by kernel_rfl) (by kernel_rfl) (fun _ _ _ h => h) (Or.inl ⟨by rfl, fun wS ⟨hS0, hS1, hS2, hS3, hS4, hS5, hS6, hS7, hS8, hS9, hS10, hS11, hS12, hS13, hS14, hS15, hS16, hS17, hS18, hS19, hS20⟩ => by go_simp⟩) (by assumption) ?_
  simp only [Act.put, List.setIfInBounds_toArray, List.set_cons_zero, List.set_cons_succ]
  refine take_at (i := 15) (v := Value.int IntKind.i64 z) (d := some 25) rfl rfl (by kernel_rfl) (by kernel_rfl) (by kernel_rfl) (fun _ _ _ h => h) (Or.inl ⟨by rfl, fun wS ⟨hS0, hS1, hS2, hS3, hS4, hS5, hS6, hS7, hS8, hS9, hS10, hS11, hS12, hS13, hS14, hS15, hS16, hS17, hS18, hS19, hS20⟩ => by go_simp⟩) (by assumption) ?_
  simp only [Act.put, List.setIfInBounds_toArray, List.set_cons_zero, List.set_cons_succ]
  refine take_at (i := 16) (v := Value.agg #[Value.int IntKind.i64 br, Value.int IntKind.i64 dr, Value.int IntKind.i64 jo, Value.int IntKind.i64 fa, Value.int IntKind.i64 la, Value.int IntKind.i64 dn]) (d := some 26) rfl rfl (by kernel_rfl) (by kernel_rfl) (by kernel_rfl) (fun _ _ _ h => h) (Or.inl ⟨by rfl, fun wS ⟨hS0, hS1, hS2, hS3, hS4, hS5, hS6, hS7, hS8, hS9, hS10, hS11, hS12, hS13, hS14, hS15, hS16, hS17, hS18, hS19, hS20⟩ => by go_simp⟩) (by assumption) ?_
  simp only [Act.put, List.setIfInBounds_toArray, List.set_cons_zero, List.set_cons_succ]
  clear hHeld
  refine memoF 3 #[true, true, true, true, true, true, true, true, true, true, true, true, true, true, true, true, true, true, true, true, true, false, false, false] (fun g => { tmps := #[Value.agg #[Value.int IntKind.i64 a0, Value.int IntKind.i64 a1, Value.int IntKind.i64 a2, Value.int IntKind.i64 a3, Value.int IntKind.i64 b0, Value.int IntKind.i64 b1, Value.int IntKind.i64 b2, Value.int IntKind.i64 b3, Value.int IntKind.i64 c0, Value.int IntKind.i64 c1, Value.int IntKind.i64 c2, Value.int IntKind.i64 c3], Value.agg #[Value.int IntKind.i64 x, Value.int IntKind.i64 y, Value.int IntKind.i64 z], Value.agg #[Value.int IntKind.i64 br, Value.int IntKind.i64 dr, Value.int IntKind.i64 jo, Value.int IntKind.i64 fa, Value.int IntKind.i64 la, Value.int IntKind.i64 dn], Value.pointer (some ⟨n, 0, none⟩), Value.pointer (some ⟨n + 1, 0, none⟩), Value.pointer (some ⟨n + 1 + 1, 0, none⟩), Value.pointer (some ⟨n + 1 + 1 + 1, 0, none⟩), Value.pointer (some ⟨g.1, 0, none⟩), Value.pointer (some ⟨g.2.1, 0, none⟩), Value.pointer (some ⟨g.2.2, 0, none⟩), Value.pointer (some ⟨n, 0, none⟩), Value.agg #[Value.int IntKind.i64 a0, Value.int IntKind.i64 a1, Value.int IntKind.i64 a2, Value.int IntKind.i64 a3], Value.pointer (some ⟨n + 1, 0, none⟩), Value.int IntKind.i64 x, Value.agg #[Value.int IntKind.i64 br, Value.int IntKind.i64 dr, Value.int IntKind.i64 jo, Value.int IntKind.i64 fa, Value.int IntKind.i64 la, Value.int IntKind.i64 dn], Value.agg #[Value.int IntKind.i64 l0, Value.int IntKind.i64 h0], Value.pointer (some ⟨n, 4, none⟩), Value.agg #[Value.int IntKind.i64 b0, Value.int IntKind.i64 b1, Value.int IntKind.i64 b2, Value.int IntKind.i64 b3], Value.pointer (some ⟨n + 1, 1, none⟩), Value.int IntKind.i64 y, Value.agg #[Value.int IntKind.i64 br, Value.int IntKind.i64 dr, Value.int IntKind.i64 jo, Value.int IntKind.i64 fa, Value.int IntKind.i64 la, Value.int IntKind.i64 dn], Value.agg #[Value.int IntKind.i64 l1, Value.int IntKind.i64 h1], Value.pointer (some ⟨n, 8, none⟩), Value.agg #[Value.int IntKind.i64 c0, Value.int IntKind.i64 c1, Value.int IntKind.i64 c2, Value.int IntKind.i64 c3], Value.pointer (some ⟨n + 1, 2, none⟩), Value.int IntKind.i64 z, Value.agg #[Value.int IntKind.i64 br, Value.int IntKind.i64 dr, Value.int IntKind.i64 jo, Value.int IntKind.i64 fa, Value.int IntKind.i64 la, Value.int IntKind.i64 dn], Value.agg #[Value.int IntKind.i64 l2, Value.int IntKind.i64 h2], undef, undef, undef, undef, undef, undef, undef], defers := [] }) (fun g wx => RB w n #[.int .i64 a0, .int .i64 a1, .int .i64 a2, .int .i64 a3, .int .i64 b0, .int .i64 b1, .int .i64 b2, .int .i64 b3, .int .i64 c0, .int .i64 c1, .int .i64 c2, .int .i64 c3] #[.int .i64 x, .int .i64 y, .int .i64 z] #[.int .i64 br, .int .i64 dr, .int .i64 jo, .int .i64 fa, .int .i64 la, .int .i64 dn] wx ∧ SB n wx g.1 ∧ SB n wx g.2.1 ∧ SB n wx g.2.2 ∧ g.1 ≠ g.2.1 ∧ g.1 ≠ g.2.2 ∧ g.2.1 ≠ g.2.2) ?_ (fun q3_012 => ?_)
  · intro g wx hx
    obtain ⟨hR, hz0, hz1, hz2, ne01, ne02, ne12⟩ := hx
    obtain ⟨g0, g1, g2⟩ := g
    simp only at *
    have HR := hide hR
    clear hR
    have HZ0 := hide hz0
    clear hz0
    have HZ1 := hide hz1
    clear hz1
    have HZ2 := hide hz2
    clear hz2
    have NE01 := hide ne01
    clear ne01
    have NE02 := hide ne02
    clear ne02
    have NE12 := hide ne12
    clear ne12
    clear S0 S1 S2 HB
    refine wpAnyH_ready (rs := [21]) (by kernel_rfl) (by simp) ?_
    refine AllReadyH.cons rfl (fun K hK => ?_) AllReadyH.nil
    have e0 := HZ0.out.1.cell 0 rfl
    have e1 := HZ0.out.1.cell 1 rfl
    have f0 := HZ0.out.1.frozen 0
    have f1 := HZ0.out.1.frozen 1
    go_simp
    clear e0 e1 f0 f1
    have hRn := (HR.out.set g0 0 (.int .i64 l0) HZ0.out.2).set g0 1 (.int .i64 h0) HZ0.out.2
    have hy0 := HZ0.out.1.set2 (.int .i64 l0) (.int .i64 h0)
    have hy1 : SB n ((wx.setCell ⟨g0, 0, none⟩ (.int .i64 l0)).setCell ⟨g0, 1, none⟩ (.int .i64 h0)) g1 := ⟨(HZ1.out.1.setOther (Ne.symm NE01.out) 0 (.int .i64 l0)).setOther (Ne.symm NE01.out) 1 (.int .i64 h0), HZ1.out.2⟩
    have hy2 : SB n ((wx.setCell ⟨g0, 0, none⟩ (.int .i64 l0)).setCell ⟨g0, 1, none⟩ (.int .i64 h0)) g2 := ⟨(HZ2.out.1.setOther (Ne.symm NE02.out) 0 (.int .i64 l0)).setOther (Ne.symm NE02.out) 1 (.int .i64 h0), HZ2.out.2⟩
    refine hK.out _ _ hRn.cells (fun hHeld => ?_)
    clear hK K hHeld
    replace HR := hide hRn
    have HY0 := hide hy0
    replace HZ1 := hide hy1
    replace HZ2 := hide hy2
    clear hRn hy0 hy1 hy2
    generalize (wx.setCell ⟨g0, 0, none⟩ (.int .i64 l0)).setCell ⟨g0, 1, none⟩ (.int .i64 h0) = wy0 at *
    refine wpAnyH_ready (rs := [22]) (by kernel_rfl) (by simp) ?_
    refine AllReadyH.cons rfl (fun K hK => ?_) AllReadyH.nil
    have e0 := HZ1.out.1.cell 0 rfl
    have e1 := HZ1.out.1.cell 1 rfl
    have f0 := HZ1.out.1.frozen 0
    have f1 := HZ1.out.1.frozen 1
    go_simp
    clear e0 e1 f0 f1
    have hRn := (HR.out.set g1 0 (.int .i64 l1) HZ1.out.2).set g1 1 (.int .i64 h1) HZ1.out.2
    have hy0 := (HY0.out.setOther NE01.out 0 (.int .i64 l1)).setOther NE01.out 1 (.int .i64 h1)
    have hy1 := HZ1.out.1.set2 (.int .i64 l1) (.int .i64 h1)
    have hy2 : SB n ((wy0.setCell ⟨g1, 0, none⟩ (.int .i64 l1)).setCell ⟨g1, 1, none⟩ (.int .i64 h1)) g2 := ⟨(HZ2.out.1.setOther (Ne.symm NE12.out) 0 (.int .i64 l1)).setOther (Ne.symm NE12.out) 1 (.int .i64 h1), HZ2.out.2⟩
    refine hK.out _ _ hRn.cells (fun hHeld => ?_)
    clear hK K hHeld
    replace HR := hide hRn
    replace HY0 := hide hy0
    have HY1 := hide hy1
    replace HZ2 := hide hy2
    clear hRn hy0 hy1 hy2
    generalize (wy0.setCell ⟨g1, 0, none⟩ (.int .i64 l1)).setCell ⟨g1, 1, none⟩ (.int .i64 h1) = wy1 at *
    refine wpAnyH_ready (rs := [23]) (by kernel_rfl) (by simp) ?_
    refine AllReadyH.cons rfl (fun K hK => ?_) AllReadyH.nil
    have e0 := HZ2.out.1.cell 0 rfl
    have e1 := HZ2.out.1.cell 1 rfl
    have f0 := HZ2.out.1.frozen 0
    have f1 := HZ2.out.1.frozen 1
    go_simp
    clear e0 e1 f0 f1
    have hRn := (HR.out.set g2 0 (.int .i64 l2) HZ2.out.2).set g2 1 (.int .i64 h2) HZ2.out.2
    have hy0 := (HY0.out.setOther NE02.out 0 (.int .i64 l2)).setOther NE02.out 1 (.int .i64 h2)
    have hy1 := (HY1.out.setOther NE12.out 0 (.int .i64 l2)).setOther NE12.out 1 (.int .i64 h2)
    have hy2 := HZ2.out.1.set2 (.int .i64 l2) (.int .i64 h2)
    refine hK.out _ _ hRn.cells (fun hHeld => ?_)
    clear hK K hHeld
    replace HR := hide hRn
    replace HY0 := hide hy0
    replace HY1 := hide hy1
    have HY2 := hide hy2
    clear hRn hy0 hy1 hy2
    generalize (wy1.setCell ⟨g2, 0, none⟩ (.int .i64 l2)).setCell ⟨g2, 1, none⟩ (.int .i64 h2) = wy2 at *
    refine wpAnyH_done (by kernel_rfl) ?_ _
    obtain ⟨p0, p1⟩ := two_cellsG HY0.out
    obtain ⟨p2, p3⟩ := two_cellsG HY1.out
    obtain ⟨p4, p5⟩ := two_cellsG HY2.out
    obtain ⟨r0, r1, r2, r3, r4, r5⟩ := six_cells HR.out.r
    obtain ⟨f0, f1, f2, f3, f4, f5⟩ := six_set HR.out.r
    have Hr := hide HR.out.r
    have Hb := hide HR.out.b
    have hz := HR.out.r.lt
    clear HR HY0 HY1 HY2 HZ0 HZ1 HZ2
    go_wp2_with fail
    exact bodyPost_ret (box_back (p := 6) (by kernel_rfl) _ _ (n + 1 + 1 + 1) _ _ _ _ _ _ rfl (Hr.out.set6 _ _ _ _ _ _)) rfl ⟨rfl, by first | exact below_set6 Hb.out _ _ _ _ _ _ _ (by omega) (by omega) | (rw [hn]; exact below_set6 Hb.out _ _ _ _ _ _ _ (by omega) (by omega))⟩
  refine memoF 4 #[true, true, true, true, true, true, true, true, true, true, true, true, true, true, true, true, true, false, true, true, true, false, false, false] (fun g => { tmps := #[Value.agg #[Value.int IntKind.i64 a0, Value.int IntKind.i64 a1, Value.int IntKind.i64 a2, Value.int IntKind.i64 a3, Value.int IntKind.i64 b0, Value.int IntKind.i64 b1, Value.int IntKind.i64 b2, Value.int IntKind.i64 b3, Value.int IntKind.i64 c0, Value.int IntKind.i64 c1, Value.int IntKind.i64 c2, Value.int IntKind.i64 c3], Value.agg #[Value.int IntKind.i64 x, Value.int IntKind.i64 y, Value.int IntKind.i64 z], Value.agg #[Value.int IntKind.i64 br, Value.int IntKind.i64 dr, Value.int IntKind.i64 jo, Value.int IntKind.i64 fa, Value.int IntKind.i64 la, Value.int IntKind.i64 dn], Value.pointer (some ⟨n, 0, none⟩), Value.pointer (some ⟨n + 1, 0, none⟩), Value.pointer (some ⟨n + 1 + 1, 0, none⟩), Value.pointer (some ⟨n + 1 + 1 + 1, 0, none⟩), Value.pointer (some ⟨g.1, 0, none⟩), Value.pointer (some ⟨g.2.1, 0, none⟩), Value.pointer (some ⟨g.2.2, 0, none⟩), Value.pointer (some ⟨n, 0, none⟩), Value.agg #[Value.int IntKind.i64 a0, Value.int IntKind.i64 a1, Value.int IntKind.i64 a2, Value.int IntKind.i64 a3], Value.pointer (some ⟨n + 1, 0, none⟩), Value.int IntKind.i64 x, Value.agg #[Value.int IntKind.i64 br, Value.int IntKind.i64 dr, Value.int IntKind.i64 jo, Value.int IntKind.i64 fa, Value.int IntKind.i64 la, Value.int IntKind.i64 dn], Value.agg #[Value.int IntKind.i64 l0, Value.int IntKind.i64 h0], Value.pointer (some ⟨n, 4, none⟩), Value.agg #[Value.int IntKind.i64 b0, Value.int IntKind.i64 b1, Value.int IntKind.i64 b2, Value.int IntKind.i64 b3], Value.pointer (some ⟨n + 1, 1, none⟩), Value.int IntKind.i64 y, Value.agg #[Value.int IntKind.i64 br, Value.int IntKind.i64 dr, Value.int IntKind.i64 jo, Value.int IntKind.i64 fa, Value.int IntKind.i64 la, Value.int IntKind.i64 dn], Value.agg #[Value.int IntKind.i64 l1, Value.int IntKind.i64 h1], Value.pointer (some ⟨n, 8, none⟩), Value.agg #[Value.int IntKind.i64 c0, Value.int IntKind.i64 c1, Value.int IntKind.i64 c2, Value.int IntKind.i64 c3], Value.pointer (some ⟨n + 1, 2, none⟩), Value.int IntKind.i64 z, Value.agg #[Value.int IntKind.i64 br, Value.int IntKind.i64 dr, Value.int IntKind.i64 jo, Value.int IntKind.i64 fa, Value.int IntKind.i64 la, Value.int IntKind.i64 dn], undef, undef, undef, undef, undef, undef, undef, undef], defers := [] }) (fun g wx => RB w n #[.int .i64 a0, .int .i64 a1, .int .i64 a2, .int .i64 a3, .int .i64 b0, .int .i64 b1, .int .i64 b2, .int .i64 b3, .int .i64 c0, .int .i64 c1, .int .i64 c2, .int .i64 c3] #[.int .i64 x, .int .i64 y, .int .i64 z] #[.int .i64 br, .int .i64 dr, .int .i64 jo, .int .i64 fa, .int .i64 la, .int .i64 dn] wx ∧ SB n wx g.1 ∧ SB n wx g.2.1 ∧ SB n wx g.2.2 ∧ g.1 ≠ g.2.1 ∧ g.1 ≠ g.2.2 ∧ g.2.1 ≠ g.2.2) ?_ (fun q2_012 => ?_)
  · intro g wx hx
    obtain ⟨hR, hz0, hz1, hz2, ne01, ne02, ne12⟩ := hx
    obtain ⟨g0, g1, g2⟩ := g
    simp only at *
    have HR := hide hR
    clear hR
    have HZ0 := hide hz0
    clear hz0
    have HZ1 := hide hz1
    clear hz1
    have HZ2 := hide hz2
    clear hz2
    have NE01 := hide ne01
    clear ne01
    have NE02 := hide ne02
    clear ne02
    have NE12 := hide ne12
    clear ne12
    refine wpAnyH_ready (rs := [17]) (by kernel_rfl) (by simp) ?_
    refine AllReadyH.cons rfl (fun K hK => ?_) ?_
    · go_simp
      refine (S2.out _).mono ?_
      rintro e wt ⟨rfl, hb⟩
      refine hK.out _ _ (HR.out.after hb).cells (fun hHeld => ?_)
      exact q3_012 (g0, g1, g2) wt ⟨HR.out.after hb, HZ0.out.after hb, HZ1.out.after hb, HZ2.out.after hb, NE01.out, NE02.out, NE12.out⟩
    exact AllReadyH.nil
  refine memoF 4 #[true, true, true, true, true, true, true, true, true, true, true, true, true, true, true, true, true, true, true, true, false, false, false, false] (fun g => { tmps := #[Value.agg #[Value.int IntKind.i64 a0, Value.int IntKind.i64 a1, Value.int IntKind.i64 a2, Value.int IntKind.i64 a3, Value.int IntKind.i64 b0, Value.int IntKind.i64 b1, Value.int IntKind.i64 b2, Value.int IntKind.i64 b3, Value.int IntKind.i64 c0, Value.int IntKind.i64 c1, Value.int IntKind.i64 c2, Value.int IntKind.i64 c3], Value.agg #[Value.int IntKind.i64 x, Value.int IntKind.i64 y, Value.int IntKind.i64 z], Value.agg #[Value.int IntKind.i64 br, Value.int IntKind.i64 dr, Value.int IntKind.i64 jo, Value.int IntKind.i64 fa, Value.int IntKind.i64 la, Value.int IntKind.i64 dn], Value.pointer (some ⟨n, 0, none⟩), Value.pointer (some ⟨n + 1, 0, none⟩), Value.pointer (some ⟨n + 1 + 1, 0, none⟩), Value.pointer (some ⟨n + 1 + 1 + 1, 0, none⟩), Value.pointer (some ⟨g.1, 0, none⟩), Value.pointer (some ⟨g.2.1, 0, none⟩), undef, Value.pointer (some ⟨n, 0, none⟩), Value.agg #[Value.int IntKind.i64 a0, Value.int IntKind.i64 a1, Value.int IntKind.i64 a2, Value.int IntKind.i64 a3], Value.pointer (some ⟨n + 1, 0, none⟩), Value.int IntKind.i64 x, Value.agg #[Value.int IntKind.i64 br, Value.int IntKind.i64 dr, Value.int IntKind.i64 jo, Value.int IntKind.i64 fa, Value.int IntKind.i64 la, Value.int IntKind.i64 dn], Value.agg #[Value.int IntKind.i64 l0, Value.int IntKind.i64 h0], Value.pointer (some ⟨n, 4, none⟩), Value.agg #[Value.int IntKind.i64 b0, Value.int IntKind.i64 b1, Value.int IntKind.i64 b2, Value.int IntKind.i64 b3], Value.pointer (some ⟨n + 1, 1, none⟩), Value.int IntKind.i64 y, Value.agg #[Value.int IntKind.i64 br, Value.int IntKind.i64 dr, Value.int IntKind.i64 jo, Value.int IntKind.i64 fa, Value.int IntKind.i64 la, Value.int IntKind.i64 dn], Value.agg #[Value.int IntKind.i64 l1, Value.int IntKind.i64 h1], Value.pointer (some ⟨n, 8, none⟩), Value.agg #[Value.int IntKind.i64 c0, Value.int IntKind.i64 c1, Value.int IntKind.i64 c2, Value.int IntKind.i64 c3], Value.pointer (some ⟨n + 1, 2, none⟩), Value.int IntKind.i64 z, Value.agg #[Value.int IntKind.i64 br, Value.int IntKind.i64 dr, Value.int IntKind.i64 jo, Value.int IntKind.i64 fa, Value.int IntKind.i64 la, Value.int IntKind.i64 dn], Value.agg #[Value.int IntKind.i64 l2, Value.int IntKind.i64 h2], undef, undef, undef, undef, undef, undef, undef], defers := [] }) (fun g wx => RB w n #[.int .i64 a0, .int .i64 a1, .int .i64 a2, .int .i64 a3, .int .i64 b0, .int .i64 b1, .int .i64 b2, .int .i64 b3, .int .i64 c0, .int .i64 c1, .int .i64 c2, .int .i64 c3] #[.int .i64 x, .int .i64 y, .int .i64 z] #[.int .i64 br, .int .i64 dr, .int .i64 jo, .int .i64 fa, .int .i64 la, .int .i64 dn] wx ∧ SB n wx g.1 ∧ SB n wx g.2.1 ∧ g.1 ≠ g.2.1) ?_ (fun q3_01 => ?_)
  · intro g wx hx
    obtain ⟨hR, hz0, hz1, ne01⟩ := hx
    obtain ⟨g0, g1, g2⟩ := g
    simp only at *
    have HR := hide hR
    clear hR
    have HZ0 := hide hz0
    clear hz0
    have HZ1 := hide hz1
    clear hz1
    have NE01 := hide ne01
    clear ne01
    refine wpAnyH_ready (rs := [20]) (by kernel_rfl) (by simp) ?_
    refine AllReadyH.cons rfl (fun K hK => ?_) ?_
    · go_simp
      have hb := (below_alloc wx (.cells #[.int .i64 0, .int .i64 0] 26))
      refine hK.out _ _ (HR.out.after hb).cells (fun hHeld => ?_)
      exact q3_012 (g0, g1, wx.heap.size) _ ⟨HR.out.after hb, HZ0.out.after hb, HZ1.out.after hb, SB.new HR.out, NE01.out, HZ0.out.ne, HZ1.out.ne⟩
    exact AllReadyH.nil
  refine memoF 4 #[true, true, true, true, true, true, true, true, true, true, true, true, true, true, true, true, true, true, true, false, true, false, false, false] (fun g => { tmps := #[Value.agg #[Value.int IntKind.i64 a0, Value.int IntKind.i64 a1, Value.int IntKind.i64 a2, Value.int IntKind.i64 a3, Value.int IntKind.i64 b0, Value.int IntKind.i64 b1, Value.int IntKind.i64 b2, Value.int IntKind.i64 b3, Value.int IntKind.i64 c0, Value.int IntKind.i64 c1, Value.int IntKind.i64 c2, Value.int IntKind.i64 c3], Value.agg #[Value.int IntKind.i64 x, Value.int IntKind.i64 y, Value.int IntKind.i64 z], Value.agg #[Value.int IntKind.i64 br, Value.int IntKind.i64 dr, Value.int IntKind.i64 jo, Value.int IntKind.i64 fa, Value.int IntKind.i64 la, Value.int IntKind.i64 dn], Value.pointer (some ⟨n, 0, none⟩), Value.pointer (some ⟨n + 1, 0, none⟩), Value.pointer (some ⟨n + 1 + 1, 0, none⟩), Value.pointer (some ⟨n + 1 + 1 + 1, 0, none⟩), Value.pointer (some ⟨g.1, 0, none⟩), undef, Value.pointer (some ⟨g.2.2, 0, none⟩), Value.pointer (some ⟨n, 0, none⟩), Value.agg #[Value.int IntKind.i64 a0, Value.int IntKind.i64 a1, Value.int IntKind.i64 a2, Value.int IntKind.i64 a3], Value.pointer (some ⟨n + 1, 0, none⟩), Value.int IntKind.i64 x, Value.agg #[Value.int IntKind.i64 br, Value.int IntKind.i64 dr, Value.int IntKind.i64 jo, Value.int IntKind.i64 fa, Value.int IntKind.i64 la, Value.int IntKind.i64 dn], Value.agg #[Value.int IntKind.i64 l0, Value.int IntKind.i64 h0], Value.pointer (some ⟨n, 4, none⟩), Value.agg #[Value.int IntKind.i64 b0, Value.int IntKind.i64 b1, Value.int IntKind.i64 b2, Value.int IntKind.i64 b3], Value.pointer (some ⟨n + 1, 1, none⟩), Value.int IntKind.i64 y, Value.agg #[Value.int IntKind.i64 br, Value.int IntKind.i64 dr, Value.int IntKind.i64 jo, Value.int IntKind.i64 fa, Value.int IntKind.i64 la, Value.int IntKind.i64 dn], Value.agg #[Value.int IntKind.i64 l1, Value.int IntKind.i64 h1], Value.pointer (some ⟨n, 8, none⟩), Value.agg #[Value.int IntKind.i64 c0, Value.int IntKind.i64 c1, Value.int IntKind.i64 c2, Value.int IntKind.i64 c3], Value.pointer (some ⟨n + 1, 2, none⟩), Value.int IntKind.i64 z, Value.agg #[Value.int IntKind.i64 br, Value.int IntKind.i64 dr, Value.int IntKind.i64 jo, Value.int IntKind.i64 fa, Value.int IntKind.i64 la, Value.int IntKind.i64 dn], Value.agg #[Value.int IntKind.i64 l2, Value.int IntKind.i64 h2], undef, undef, undef, undef, undef, undef, undef], defers := [] }) (fun g wx => RB w n #[.int .i64 a0, .int .i64 a1, .int .i64 a2, .int .i64 a3, .int .i64 b0, .int .i64 b1, .int .i64 b2, .int .i64 b3, .int .i64 c0, .int .i64 c1, .int .i64 c2, .int .i64 c3] #[.int .i64 x, .int .i64 y, .int .i64 z] #[.int .i64 br, .int .i64 dr, .int .i64 jo, .int .i64 fa, .int .i64 la, .int .i64 dn] wx ∧ SB n wx g.1 ∧ SB n wx g.2.2 ∧ g.1 ≠ g.2.2) ?_ (fun q3_02 => ?_)
  · intro g wx hx
    obtain ⟨hR, hz0, hz2, ne02⟩ := hx
    obtain ⟨g0, g1, g2⟩ := g
    simp only at *
    have HR := hide hR
    clear hR
    have HZ0 := hide hz0
    clear hz0
    have HZ2 := hide hz2
    clear hz2
    have NE02 := hide ne02
    clear ne02
    refine wpAnyH_ready (rs := [19]) (by kernel_rfl) (by simp) ?_
    refine AllReadyH.cons rfl (fun K hK => ?_) ?_
    · go_simp
      have hb := (below_alloc wx (.cells #[.int .i64 0, .int .i64 0] 26))
      refine hK.out _ _ (HR.out.after hb).cells (fun hHeld => ?_)
      exact q3_012 (g0, wx.heap.size, g2) _ ⟨HR.out.after hb, HZ0.out.after hb, SB.new HR.out, HZ2.out.after hb, HZ0.out.ne, NE02.out, Ne.symm HZ2.out.ne⟩
    exact AllReadyH.nil
  refine memoF 4 #[true, true, true, true, true, true, true, true, true, true, true, true, true, true, true, true, true, true, false, true, true, false, false, false] (fun g => { tmps := #[Value.agg #[Value.int IntKind.i64 a0, Value.int IntKind.i64 a1, Value.int IntKind.i64 a2, Value.int IntKind.i64 a3, Value.int IntKind.i64 b0, Value.int IntKind.i64 b1, Value.int IntKind.i64 b2, Value.int IntKind.i64 b3, Value.int IntKind.i64 c0, Value.int IntKind.i64 c1, Value.int IntKind.i64 c2, Value.int IntKind.i64 c3], Value.agg #[Value.int IntKind.i64 x, Value.int IntKind.i64 y, Value.int IntKind.i64 z], Value.agg #[Value.int IntKind.i64 br, Value.int IntKind.i64 dr, Value.int IntKind.i64 jo, Value.int IntKind.i64 fa, Value.int IntKind.i64 la, Value.int IntKind.i64 dn], Value.pointer (some ⟨n, 0, none⟩), Value.pointer (some ⟨n + 1, 0, none⟩), Value.pointer (some ⟨n + 1 + 1, 0, none⟩), Value.pointer (some ⟨n + 1 + 1 + 1, 0, none⟩), undef, Value.pointer (some ⟨g.2.1, 0, none⟩), Value.pointer (some ⟨g.2.2, 0, none⟩), Value.pointer (some ⟨n, 0, none⟩), Value.agg #[Value.int IntKind.i64 a0, Value.int IntKind.i64 a1, Value.int IntKind.i64 a2, Value.int IntKind.i64 a3], Value.pointer (some ⟨n + 1, 0, none⟩), Value.int IntKind.i64 x, Value.agg #[Value.int IntKind.i64 br, Value.int IntKind.i64 dr, Value.int IntKind.i64 jo, Value.int IntKind.i64 fa, Value.int IntKind.i64 la, Value.int IntKind.i64 dn], Value.agg #[Value.int IntKind.i64 l0, Value.int IntKind.i64 h0], Value.pointer (some ⟨n, 4, none⟩), Value.agg #[Value.int IntKind.i64 b0, Value.int IntKind.i64 b1, Value.int IntKind.i64 b2, Value.int IntKind.i64 b3], Value.pointer (some ⟨n + 1, 1, none⟩), Value.int IntKind.i64 y, Value.agg #[Value.int IntKind.i64 br, Value.int IntKind.i64 dr, Value.int IntKind.i64 jo, Value.int IntKind.i64 fa, Value.int IntKind.i64 la, Value.int IntKind.i64 dn], Value.agg #[Value.int IntKind.i64 l1, Value.int IntKind.i64 h1], Value.pointer (some ⟨n, 8, none⟩), Value.agg #[Value.int IntKind.i64 c0, Value.int IntKind.i64 c1, Value.int IntKind.i64 c2, Value.int IntKind.i64 c3], Value.pointer (some ⟨n + 1, 2, none⟩), Value.int IntKind.i64 z, Value.agg #[Value.int IntKind.i64 br, Value.int IntKind.i64 dr, Value.int IntKind.i64 jo, Value.int IntKind.i64 fa, Value.int IntKind.i64 la, Value.int IntKind.i64 dn], Value.agg #[Value.int IntKind.i64 l2, Value.int IntKind.i64 h2], undef, undef, undef, undef, undef, undef, undef], defers := [] }) (fun g wx => RB w n #[.int .i64 a0, .int .i64 a1, .int .i64 a2, .int .i64 a3, .int .i64 b0, .int .i64 b1, .int .i64 b2, .int .i64 b3, .int .i64 c0, .int .i64 c1, .int .i64 c2, .int .i64 c3] #[.int .i64 x, .int .i64 y, .int .i64 z] #[.int .i64 br, .int .i64 dr, .int .i64 jo, .int .i64 fa, .int .i64 la, .int .i64 dn] wx ∧ SB n wx g.2.1 ∧ SB n wx g.2.2 ∧ g.2.1 ≠ g.2.2) ?_ (fun q3_12 => ?_)
  · intro g wx hx
    obtain ⟨hR, hz1, hz2, ne12⟩ := hx
    obtain ⟨g0, g1, g2⟩ := g
    simp only at *
    have HR := hide hR
    clear hR
    have HZ1 := hide hz1
    clear hz1
    have HZ2 := hide hz2
    clear hz2
    have NE12 := hide ne12
    clear ne12
    refine wpAnyH_ready (rs := [18]) (by kernel_rfl) (by simp) ?_
    refine AllReadyH.cons rfl (fun K hK => ?_) ?_
    · go_simp
      have hb := (below_alloc wx (.cells #[.int .i64 0, .int .i64 0] 26))
      refine hK.out _ _ (HR.out.after hb).cells (fun hHeld => ?_)
      exact q3_012 (wx.heap.size, g1, g2) _ ⟨HR.out.after hb, SB.new HR.out, HZ1.out.after hb, HZ2.out.after hb, Ne.symm HZ1.out.ne, Ne.symm HZ2.out.ne, NE12.out⟩
    exact AllReadyH.nil
  refine memoF 5 #[true, true, true, true, true, true, true, true, true, true, true, false, true, true, true, true, true, false, true, true, true, false, false, false] (fun g => { tmps := #[Value.agg #[Value.int IntKind.i64 a0, Value.int IntKind.i64 a1, Value.int IntKind.i64 a2, Value.int IntKind.i64 a3, Value.int IntKind.i64 b0, Value.int IntKind.i64 b1, Value.int IntKind.i64 b2, Value.int IntKind.i64 b3, Value.int IntKind.i64 c0, Value.int IntKind.i64 c1, Value.int IntKind.i64 c2, Value.int IntKind.i64 c3], Value.agg #[Value.int IntKind.i64 x, Value.int IntKind.i64 y, Value.int IntKind.i64 z], Value.agg #[Value.int IntKind.i64 br, Value.int IntKind.i64 dr, Value.int IntKind.i64 jo, Value.int IntKind.i64 fa, Value.int IntKind.i64 la, Value.int IntKind.i64 dn], Value.pointer (some ⟨n, 0, none⟩), Value.pointer (some ⟨n + 1, 0, none⟩), Value.pointer (some ⟨n + 1 + 1, 0, none⟩), Value.pointer (some ⟨n + 1 + 1 + 1, 0, none⟩), Value.pointer (some ⟨g.1, 0, none⟩), Value.pointer (some ⟨g.2.1, 0, none⟩), Value.pointer (some ⟨g.2.2, 0, none⟩), Value.pointer (some ⟨n, 0, none⟩), Value.agg #[Value.int IntKind.i64 a0, Value.int IntKind.i64 a1, Value.int IntKind.i64 a2, Value.int IntKind.i64 a3], Value.pointer (some ⟨n + 1, 0, none⟩), Value.int IntKind.i64 x, Value.agg #[Value.int IntKind.i64 br, Value.int IntKind.i64 dr, Value.int IntKind.i64 jo, Value.int IntKind.i64 fa, Value.int IntKind.i64 la, Value.int IntKind.i64 dn], Value.agg #[Value.int IntKind.i64 l0, Value.int IntKind.i64 h0], Value.pointer (some ⟨n, 4, none⟩), Value.agg #[Value.int IntKind.i64 b0, Value.int IntKind.i64 b1, Value.int IntKind.i64 b2, Value.int IntKind.i64 b3], Value.pointer (some ⟨n + 1, 1, none⟩), Value.int IntKind.i64 y, Value.agg #[Value.int IntKind.i64 br, Value.int IntKind.i64 dr, Value.int IntKind.i64 jo, Value.int IntKind.i64 fa, Value.int IntKind.i64 la, Value.int IntKind.i64 dn], undef, Value.pointer (some ⟨n, 8, none⟩), Value.agg #[Value.int IntKind.i64 c0, Value.int IntKind.i64 c1, Value.int IntKind.i64 c2, Value.int IntKind.i64 c3], Value.pointer (some ⟨n + 1, 2, none⟩), Value.int IntKind.i64 z, Value.agg #[Value.int IntKind.i64 br, Value.int IntKind.i64 dr, Value.int IntKind.i64 jo, Value.int IntKind.i64 fa, Value.int IntKind.i64 la, Value.int IntKind.i64 dn], undef, undef, undef, undef, undef, undef, undef, undef], defers := [] }) (fun g wx => RB w n #[.int .i64 a0, .int .i64 a1, .int .i64 a2, .int .i64 a3, .int .i64 b0, .int .i64 b1, .int .i64 b2, .int .i64 b3, .int .i64 c0, .int .i64 c1, .int .i64 c2, .int .i64 c3] #[.int .i64 x, .int .i64 y, .int .i64 z] #[.int .i64 br, .int .i64 dr, .int .i64 jo, .int .i64 fa, .int .i64 la, .int .i64 dn] wx ∧ SB n wx g.1 ∧ SB n wx g.2.1 ∧ SB n wx g.2.2 ∧ g.1 ≠ g.2.1 ∧ g.1 ≠ g.2.2 ∧ g.2.1 ≠ g.2.2) ?_ (fun q1_012 => ?_)
  · intro g wx hx
    obtain ⟨hR, hz0, hz1, hz2, ne01, ne02, ne12⟩ := hx
    obtain ⟨g0, g1, g2⟩ := g
    simp only at *
    have HR := hide hR
    clear hR
    have HZ0 := hide hz0
    clear hz0
    have HZ1 := hide hz1
    clear hz1
    have HZ2 := hide hz2
    clear hz2
    have NE01 := hide ne01
    clear ne01
    have NE02 := hide ne02
    clear ne02
    have NE12 := hide ne12
    clear ne12
    refine wpAnyH_ready (rs := [11]) (by kernel_rfl) (by simp) ?_
    refine AllReadyH.cons rfl (fun K hK => ?_) ?_
    · go_simp
      refine (S1.out _).mono ?_
      rintro e wt ⟨rfl, hb⟩
      refine hK.out _ _ (HR.out.after hb).cells (fun hHeld => ?_)
      exact q2_012 (g0, g1, g2) wt ⟨HR.out.after hb, HZ0.out.after hb, HZ1.out.after hb, HZ2.out.after hb, NE01.out, NE02.out, NE12.out⟩
    exact AllReadyH.nil
  refine memoF 5 #[true, true, true, true, true, true, true, true, true, true, true, true, true, true, true, true, true, false, true, true, false, false, false, false] (fun g => { tmps := #[Value.agg #[Value.int IntKind.i64 a0, Value.int IntKind.i64 a1, Value.int IntKind.i64 a2, Value.int IntKind.i64 a3, Value.int IntKind.i64 b0, Value.int IntKind.i64 b1, Value.int IntKind.i64 b2, Value.int IntKind.i64 b3, Value.int IntKind.i64 c0, Value.int IntKind.i64 c1, Value.int IntKind.i64 c2, Value.int IntKind.i64 c3], Value.agg #[Value.int IntKind.i64 x, Value.int IntKind.i64 y, Value.int IntKind.i64 z], Value.agg #[Value.int IntKind.i64 br, Value.int IntKind.i64 dr, Value.int IntKind.i64 jo, Value.int IntKind.i64 fa, Value.int IntKind.i64 la, Value.int IntKind.i64 dn], Value.pointer (some ⟨n, 0, none⟩), Value.pointer (some ⟨n + 1, 0, none⟩), Value.pointer (some ⟨n + 1 + 1, 0, none⟩), Value.pointer (some ⟨n + 1 + 1 + 1, 0, none⟩), Value.pointer (some ⟨g.1, 0, none⟩), Value.pointer (some ⟨g.2.1, 0, none⟩), undef, Value.pointer (some ⟨n, 0, none⟩), Value.agg #[Value.int IntKind.i64 a0, Value.int IntKind.i64 a1, Value.int IntKind.i64 a2, Value.int IntKind.i64 a3], Value.pointer (some ⟨n + 1, 0, none⟩), Value.int IntKind.i64 x, Value.agg #[Value.int IntKind.i64 br, Value.int IntKind.i64 dr, Value.int IntKind.i64 jo, Value.int IntKind.i64 fa, Value.int IntKind.i64 la, Value.int IntKind.i64 dn], Value.agg #[Value.int IntKind.i64 l0, Value.int IntKind.i64 h0], Value.pointer (some ⟨n, 4, none⟩), Value.agg #[Value.int IntKind.i64 b0, Value.int IntKind.i64 b1, Value.int IntKind.i64 b2, Value.int IntKind.i64 b3], Value.pointer (some ⟨n + 1, 1, none⟩), Value.int IntKind.i64 y, Value.agg #[Value.int IntKind.i64 br, Value.int IntKind.i64 dr, Value.int IntKind.i64 jo, Value.int IntKind.i64 fa, Value.int IntKind.i64 la, Value.int IntKind.i64 dn], Value.agg #[Value.int IntKind.i64 l1, Value.int IntKind.i64 h1], Value.pointer (some ⟨n, 8, none⟩), Value.agg #[Value.int IntKind.i64 c0, Value.int IntKind.i64 c1, Value.int IntKind.i64 c2, Value.int IntKind.i64 c3], Value.pointer (some ⟨n + 1, 2, none⟩), Value.int IntKind.i64 z, Value.agg #[Value.int IntKind.i64 br, Value.int IntKind.i64 dr, Value.int IntKind.i64 jo, Value.int IntKind.i64 fa, Value.int IntKind.i64 la, Value.int IntKind.i64 dn], undef, undef, undef, undef, undef, undef, undef, undef], defers := [] }) (fun g wx => RB w n #[.int .i64 a0, .int .i64 a1, .int .i64 a2, .int .i64 a3, .int .i64 b0, .int .i64 b1, .int .i64 b2, .int .i64 b3, .int .i64 c0, .int .i64 c1, .int .i64 c2, .int .i64 c3] #[.int .i64 x, .int .i64 y, .int .i64 z] #[.int .i64 br, .int .i64 dr, .int .i64 jo, .int .i64 fa, .int .i64 la, .int .i64 dn] wx ∧ SB n wx g.1 ∧ SB n wx g.2.1 ∧ g.1 ≠ g.2.1) ?_ (fun q2_01 => ?_)
  · intro g wx hx
    obtain ⟨hR, hz0, hz1, ne01⟩ := hx
    obtain ⟨g0, g1, g2⟩ := g
    simp only at *
    have HR := hide hR
    clear hR
    have HZ0 := hide hz0
    clear hz0
    have HZ1 := hide hz1
    clear hz1
    have NE01 := hide ne01
    clear ne01
    refine wpAnyH_ready (rs := [17, 20]) (by kernel_rfl) (by simp) ?_
    refine AllReadyH.cons rfl (fun K hK => ?_) ?_
    · go_simp
      refine (S2.out _).mono ?_
      rintro e wt ⟨rfl, hb⟩
      refine hK.out _ _ (HR.out.after hb).cells (fun hHeld => ?_)
      exact q3_01 (g0, g1, g2) wt ⟨HR.out.after hb, HZ0.out.after hb, HZ1.out.after hb, NE01.out⟩
    refine AllReadyH.cons rfl (fun K hK => ?_) ?_
    · go_simp
      have hb := (below_alloc wx (.cells #[.int .i64 0, .int .i64 0] 26))
      refine hK.out _ _ (HR.out.after hb).cells (fun hHeld => ?_)
      exact q2_012 (g0, g1, wx.heap.size) _ ⟨HR.out.after hb, HZ0.out.after hb, HZ1.out.after hb, SB.new HR.out, NE01.out, HZ0.out.ne, HZ1.out.ne⟩
    exact AllReadyH.nil
  refine memoF 5 #[true, true, true, true, true, true, true, true, true, true, true, true, true, true, true, true, true, false, true, false, true, false, false, false] (fun g => { tmps := #[Value.agg #[Value.int IntKind.i64 a0, Value.int IntKind.i64 a1, Value.int IntKind.i64 a2, Value.int IntKind.i64 a3, Value.int IntKind.i64 b0, Value.int IntKind.i64 b1, Value.int IntKind.i64 b2, Value.int IntKind.i64 b3, Value.int IntKind.i64 c0, Value.int IntKind.i64 c1, Value.int IntKind.i64 c2, Value.int IntKind.i64 c3], Value.agg #[Value.int IntKind.i64 x, Value.int IntKind.i64 y, Value.int IntKind.i64 z], Value.agg #[Value.int IntKind.i64 br, Value.int IntKind.i64 dr, Value.int IntKind.i64 jo, Value.int IntKind.i64 fa, Value.int IntKind.i64 la, Value.int IntKind.i64 dn], Value.pointer (some ⟨n, 0, none⟩), Value.pointer (some ⟨n + 1, 0, none⟩), Value.pointer (some ⟨n + 1 + 1, 0, none⟩), Value.pointer (some ⟨n + 1 + 1 + 1, 0, none⟩), Value.pointer (some ⟨g.1, 0, none⟩), undef, Value.pointer (some ⟨g.2.2, 0, none⟩), Value.pointer (some ⟨n, 0, none⟩), Value.agg #[Value.int IntKind.i64 a0, Value.int IntKind.i64 a1, Value.int IntKind.i64 a2, Value.int IntKind.i64 a3], Value.pointer (some ⟨n + 1, 0, none⟩), Value.int IntKind.i64 x, Value.agg #[Value.int IntKind.i64 br, Value.int IntKind.i64 dr, Value.int IntKind.i64 jo, Value.int IntKind.i64 fa, Value.int IntKind.i64 la, Value.int IntKind.i64 dn], Value.agg #[Value.int IntKind.i64 l0, Value.int IntKind.i64 h0], Value.pointer (some ⟨n, 4, none⟩), Value.agg #[Value.int IntKind.i64 b0, Value.int IntKind.i64 b1, Value.int IntKind.i64 b2, Value.int IntKind.i64 b3], Value.pointer (some ⟨n + 1, 1, none⟩), Value.int IntKind.i64 y, Value.agg #[Value.int IntKind.i64 br, Value.int IntKind.i64 dr, Value.int IntKind.i64 jo, Value.int IntKind.i64 fa, Value.int IntKind.i64 la, Value.int IntKind.i64 dn], Value.agg #[Value.int IntKind.i64 l1, Value.int IntKind.i64 h1], Value.pointer (some ⟨n, 8, none⟩), Value.agg #[Value.int IntKind.i64 c0, Value.int IntKind.i64 c1, Value.int IntKind.i64 c2, Value.int IntKind.i64 c3], Value.pointer (some ⟨n + 1, 2, none⟩), Value.int IntKind.i64 z, Value.agg #[Value.int IntKind.i64 br, Value.int IntKind.i64 dr, Value.int IntKind.i64 jo, Value.int IntKind.i64 fa, Value.int IntKind.i64 la, Value.int IntKind.i64 dn], undef, undef, undef, undef, undef, undef, undef, undef], defers := [] }) (fun g wx => RB w n #[.int .i64 a0, .int .i64 a1, .int .i64 a2, .int .i64 a3, .int .i64 b0, .int .i64 b1, .int .i64 b2, .int .i64 b3, .int .i64 c0, .int .i64 c1, .int .i64 c2, .int .i64 c3] #[.int .i64 x, .int .i64 y, .int .i64 z] #[.int .i64 br, .int .i64 dr, .int .i64 jo, .int .i64 fa, .int .i64 la, .int .i64 dn] wx ∧ SB n wx g.1 ∧ SB n wx g.2.2 ∧ g.1 ≠ g.2.2) ?_ (fun q2_02 => ?_)
  · intro g wx hx
    obtain ⟨hR, hz0, hz2, ne02⟩ := hx
    obtain ⟨g0, g1, g2⟩ := g
    simp only at *
    have HR := hide hR
    clear hR
    have HZ0 := hide hz0
    clear hz0
    have HZ2 := hide hz2
    clear hz2
    have NE02 := hide ne02
    clear ne02
    refine wpAnyH_ready (rs := [17, 19]) (by kernel_rfl) (by simp) ?_
    refine AllReadyH.cons rfl (fun K hK => ?_) ?_
    · go_simp
      refine (S2.out _).mono ?_
      rintro e wt ⟨rfl, hb⟩
      refine hK.out _ _ (HR.out.after hb).cells (fun hHeld => ?_)
      exact q3_02 (g0, g1, g2) wt ⟨HR.out.after hb, HZ0.out.after hb, HZ2.out.after hb, NE02.out⟩
    refine AllReadyH.cons rfl (fun K hK => ?_) ?_
    · go_simp
      have hb := (below_alloc wx (.cells #[.int .i64 0, .int .i64 0] 26))
      refine hK.out _ _ (HR.out.after hb).cells (fun hHeld => ?_)
      exact q2_012 (g0, wx.heap.size, g2) _ ⟨HR.out.after hb, HZ0.out.after hb, SB.new HR.out, HZ2.out.after hb, HZ0.out.ne, NE02.out, Ne.symm HZ2.out.ne⟩
    exact AllReadyH.nil
  refine memoF 5 #[true, true, true, true, true, true, true, true, true, true, true, true, true, true, true, true, true, false, false, true, true, false, false, false] (fun g => { tmps := #[Value.agg #[Value.int IntKind.i64 a0, Value.int IntKind.i64 a1, Value.int IntKind.i64 a2, Value.int IntKind.i64 a3, Value.int IntKind.i64 b0, Value.int IntKind.i64 b1, Value.int IntKind.i64 b2, Value.int IntKind.i64 b3, Value.int IntKind.i64 c0, Value.int IntKind.i64 c1, Value.int IntKind.i64 c2, Value.int IntKind.i64 c3], Value.agg #[Value.int IntKind.i64 x, Value.int IntKind.i64 y, Value.int IntKind.i64 z], Value.agg #[Value.int IntKind.i64 br, Value.int IntKind.i64 dr, Value.int IntKind.i64 jo, Value.int IntKind.i64 fa, Value.int IntKind.i64 la, Value.int IntKind.i64 dn], Value.pointer (some ⟨n, 0, none⟩), Value.pointer (some ⟨n + 1, 0, none⟩), Value.pointer (some ⟨n + 1 + 1, 0, none⟩), Value.pointer (some ⟨n + 1 + 1 + 1, 0, none⟩), undef, Value.pointer (some ⟨g.2.1, 0, none⟩), Value.pointer (some ⟨g.2.2, 0, none⟩), Value.pointer (some ⟨n, 0, none⟩), Value.agg #[Value.int IntKind.i64 a0, Value.int IntKind.i64 a1, Value.int IntKind.i64 a2, Value.int IntKind.i64 a3], Value.pointer (some ⟨n + 1, 0, none⟩), Value.int IntKind.i64 x, Value.agg #[Value.int IntKind.i64 br, Value.int IntKind.i64 dr, Value.int IntKind.i64 jo, Value.int IntKind.i64 fa, Value.int IntKind.i64 la, Value.int IntKind.i64 dn], Value.agg #[Value.int IntKind.i64 l0, Value.int IntKind.i64 h0], Value.pointer (some ⟨n, 4, none⟩), Value.agg #[Value.int IntKind.i64 b0, Value.int IntKind.i64 b1, Value.int IntKind.i64 b2, Value.int IntKind.i64 b3], Value.pointer (some ⟨n + 1, 1, none⟩), Value.int IntKind.i64 y, Value.agg #[Value.int IntKind.i64 br, Value.int IntKind.i64 dr, Value.int IntKind.i64 jo, Value.int IntKind.i64 fa, Value.int IntKind.i64 la, Value.int IntKind.i64 dn], Value.agg #[Value.int IntKind.i64 l1, Value.int IntKind.i64 h1], Value.pointer (some ⟨n, 8, none⟩), Value.agg #[Value.int IntKind.i64 c0, Value.int IntKind.i64 c1, Value.int IntKind.i64 c2, Value.int IntKind.i64 c3], Value.pointer (some ⟨n + 1, 2, none⟩), Value.int IntKind.i64 z, Value.agg #[Value.int IntKind.i64 br, Value.int IntKind.i64 dr, Value.int IntKind.i64 jo, Value.int IntKind.i64 fa, Value.int IntKind.i64 la, Value.int IntKind.i64 dn], undef, undef, undef, undef, undef, undef, undef, undef], defers := [] }) (fun g wx => RB w n #[.int .i64 a0, .int .i64 a1, .int .i64 a2, .int .i64 a3, .int .i64 b0, .int .i64 b1, .int .i64 b2, .int .i64 b3, .int .i64 c0, .int .i64 c1, .int .i64 c2, .int .i64 c3] #[.int .i64 x, .int .i64 y, .int .i64 z] #[.int .i64 br, .int .i64 dr, .int .i64 jo, .int .i64 fa, .int .i64 la, .int .i64 dn] wx ∧ SB n wx g.2.1 ∧ SB n wx g.2.2 ∧ g.2.1 ≠ g.2.2) ?_ (fun q2_12 => ?_)
  · intro g wx hx
    obtain ⟨hR, hz1, hz2, ne12⟩ := hx
    obtain ⟨g0, g1, g2⟩ := g
    simp only at *
    have HR := hide hR
    clear hR
    have HZ1 := hide hz1
    clear hz1
    have HZ2 := hide hz2
    clear hz2
    have NE12 := hide ne12
    clear ne12
    refine wpAnyH_ready (rs := [17, 18]) (by kernel_rfl) (by simp) ?_
    refine AllReadyH.cons rfl (fun K hK => ?_) ?_
    · go_simp
      refine (S2.out _).mono ?_
      rintro e wt ⟨rfl, hb⟩
      refine hK.out _ _ (HR.out.after hb).cells (fun hHeld => ?_)
      exact q3_12 (g0, g1, g2) wt ⟨HR.out.after hb, HZ1.out.after hb, HZ2.out.after hb, NE12.out⟩
    refine AllReadyH.cons rfl (fun K hK => ?_) ?_
    · go_simp
      have hb := (below_alloc wx (.cells #[.int .i64 0, .int .i64 0] 26))
      refine hK.out _ _ (HR.out.after hb).cells (fun hHeld => ?_)
      exact q2_012 (wx.heap.size, g1, g2) _ ⟨HR.out.after hb, SB.new HR.out, HZ1.out.after hb, HZ2.out.after hb, Ne.symm HZ1.out.ne, Ne.symm HZ2.out.ne, NE12.out⟩
    exact AllReadyH.nil
  refine memoF 5 #[true, true, true, true, true, true, true, true, true, true, true, true, true, true, true, true, true, true, true, false, false, false, false, false] (fun g => { tmps := #[Value.agg #[Value.int IntKind.i64 a0, Value.int IntKind.i64 a1, Value.int IntKind.i64 a2, Value.int IntKind.i64 a3, Value.int IntKind.i64 b0, Value.int IntKind.i64 b1, Value.int IntKind.i64 b2, Value.int IntKind.i64 b3, Value.int IntKind.i64 c0, Value.int IntKind.i64 c1, Value.int IntKind.i64 c2, Value.int IntKind.i64 c3], Value.agg #[Value.int IntKind.i64 x, Value.int IntKind.i64 y, Value.int IntKind.i64 z], Value.agg #[Value.int IntKind.i64 br, Value.int IntKind.i64 dr, Value.int IntKind.i64 jo, Value.int IntKind.i64 fa, Value.int IntKind.i64 la, Value.int IntKind.i64 dn], Value.pointer (some ⟨n, 0, none⟩), Value.pointer (some ⟨n + 1, 0, none⟩), Value.pointer (some ⟨n + 1 + 1, 0, none⟩), Value.pointer (some ⟨n + 1 + 1 + 1, 0, none⟩), Value.pointer (some ⟨g.1, 0, none⟩), undef, undef, Value.pointer (some ⟨n, 0, none⟩), Value.agg #[Value.int IntKind.i64 a0, Value.int IntKind.i64 a1, Value.int IntKind.i64 a2, Value.int IntKind.i64 a3], Value.pointer (some ⟨n + 1, 0, none⟩), Value.int IntKind.i64 x, Value.agg #[Value.int IntKind.i64 br, Value.int IntKind.i64 dr, Value.int IntKind.i64 jo, Value.int IntKind.i64 fa, Value.int IntKind.i64 la, Value.int IntKind.i64 dn], Value.agg #[Value.int IntKind.i64 l0, Value.int IntKind.i64 h0], Value.pointer (some ⟨n, 4, none⟩), Value.agg #[Value.int IntKind.i64 b0, Value.int IntKind.i64 b1, Value.int IntKind.i64 b2, Value.int IntKind.i64 b3], Value.pointer (some ⟨n + 1, 1, none⟩), Value.int IntKind.i64 y, Value.agg #[Value.int IntKind.i64 br, Value.int IntKind.i64 dr, Value.int IntKind.i64 jo, Value.int IntKind.i64 fa, Value.int IntKind.i64 la, Value.int IntKind.i64 dn], Value.agg #[Value.int IntKind.i64 l1, Value.int IntKind.i64 h1], Value.pointer (some ⟨n, 8, none⟩), Value.agg #[Value.int IntKind.i64 c0, Value.int IntKind.i64 c1, Value.int IntKind.i64 c2, Value.int IntKind.i64 c3], Value.pointer (some ⟨n + 1, 2, none⟩), Value.int IntKind.i64 z, Value.agg #[Value.int IntKind.i64 br, Value.int IntKind.i64 dr, Value.int IntKind.i64 jo, Value.int IntKind.i64 fa, Value.int IntKind.i64 la, Value.int IntKind.i64 dn], Value.agg #[Value.int IntKind.i64 l2, Value.int IntKind.i64 h2], undef, undef, undef, undef, undef, undef, undef], defers := [] }) (fun g wx => RB w n #[.int .i64 a0, .int .i64 a1, .int .i64 a2, .int .i64 a3, .int .i64 b0, .int .i64 b1, .int .i64 b2, .int .i64 b3, .int .i64 c0, .int .i64 c1, .int .i64 c2, .int .i64 c3] #[.int .i64 x, .int .i64 y, .int .i64 z] #[.int .i64 br, .int .i64 dr, .int .i64 jo, .int .i64 fa, .int .i64 la, .int .i64 dn] wx ∧ SB n wx g.1) ?_ (fun q3_0 => ?_)
  · intro g wx hx
    obtain ⟨hR, hz0⟩ := hx
    obtain ⟨g0, g1, g2⟩ := g
    simp only at *
    have HR := hide hR
    clear hR
    have HZ0 := hide hz0
    clear hz0
    refine wpAnyH_ready (rs := [19, 20]) (by kernel_rfl) (by simp) ?_
    refine AllReadyH.cons rfl (fun K hK => ?_) ?_
    · go_simp
      have hb := (below_alloc wx (.cells #[.int .i64 0, .int .i64 0] 26))
      refine hK.out _ _ (HR.out.after hb).cells (fun hHeld => ?_)
      exact q3_01 (g0, wx.heap.size, g2) _ ⟨HR.out.after hb, HZ0.out.after hb, SB.new HR.out, HZ0.out.ne⟩
    refine AllReadyH.cons rfl (fun K hK => ?_) ?_
    · go_simp
      have hb := (below_alloc wx (.cells #[.int .i64 0, .int .i64 0] 26))
      refine hK.out _ _ (HR.out.after hb).cells (fun hHeld => ?_)
      exact q3_02 (g0, g1, wx.heap.size) _ ⟨HR.out.after hb, HZ0.out.after hb, SB.new HR.out, HZ0.out.ne⟩
    exact AllReadyH.nil
  refine memoF 5 #[true, true, true, true, true, true, true, true, true, true, true, true, true, true, true, true, true, true, false, true, false, false, false, false] (fun g => { tmps := #[Value.agg #[Value.int IntKind.i64 a0, Value.int IntKind.i64 a1, Value.int IntKind.i64 a2, Value.int IntKind.i64 a3, Value.int IntKind.i64 b0, Value.int IntKind.i64 b1, Value.int IntKind.i64 b2, Value.int IntKind.i64 b3, Value.int IntKind.i64 c0, Value.int IntKind.i64 c1, Value.int IntKind.i64 c2, Value.int IntKind.i64 c3], Value.agg #[Value.int IntKind.i64 x, Value.int IntKind.i64 y, Value.int IntKind.i64 z], Value.agg #[Value.int IntKind.i64 br, Value.int IntKind.i64 dr, Value.int IntKind.i64 jo, Value.int IntKind.i64 fa, Value.int IntKind.i64 la, Value.int IntKind.i64 dn], Value.pointer (some ⟨n, 0, none⟩), Value.pointer (some ⟨n + 1, 0, none⟩), Value.pointer (some ⟨n + 1 + 1, 0, none⟩), Value.pointer (some ⟨n + 1 + 1 + 1, 0, none⟩), undef, Value.pointer (some ⟨g.2.1, 0, none⟩), undef, Value.pointer (some ⟨n, 0, none⟩), Value.agg #[Value.int IntKind.i64 a0, Value.int IntKind.i64 a1, Value.int IntKind.i64 a2, Value.int IntKind.i64 a3], Value.pointer (some ⟨n + 1, 0, none⟩), Value.int IntKind.i64 x, Value.agg #[Value.int IntKind.i64 br, Value.int IntKind.i64 dr, Value.int IntKind.i64 jo, Value.int IntKind.i64 fa, Value.int IntKind.i64 la, Value.int IntKind.i64 dn], Value.agg #[Value.int IntKind.i64 l0, Value.int IntKind.i64 h0], Value.pointer (some ⟨n, 4, none⟩), Value.agg #[Value.int IntKind.i64 b0, Value.int IntKind.i64 b1, Value.int IntKind.i64 b2, Value.int IntKind.i64 b3], Value.pointer (some ⟨n + 1, 1, none⟩), Value.int IntKind.i64 y, Value.agg #[Value.int IntKind.i64 br, Value.int IntKind.i64 dr, Value.int IntKind.i64 jo, Value.int IntKind.i64 fa, Value.int IntKind.i64 la, Value.int IntKind.i64 dn], Value.agg #[Value.int IntKind.i64 l1, Value.int IntKind.i64 h1], Value.pointer (some ⟨n, 8, none⟩), Value.agg #[Value.int IntKind.i64 c0, Value.int IntKind.i64 c1, Value.int IntKind.i64 c2, Value.int IntKind.i64 c3], Value.pointer (some ⟨n + 1, 2, none⟩), Value.int IntKind.i64 z, Value.agg #[Value.int IntKind.i64 br, Value.int IntKind.i64 dr, Value.int IntKind.i64 jo, Value.int IntKind.i64 fa, Value.int IntKind.i64 la, Value.int IntKind.i64 dn], Value.agg #[Value.int IntKind.i64 l2, Value.int IntKind.i64 h2], undef, undef, undef, undef, undef, undef, undef], defers := [] }) (fun g wx => RB w n #[.int .i64 a0, .int .i64 a1, .int .i64 a2, .int .i64 a3, .int .i64 b0, .int .i64 b1, .int .i64 b2, .int .i64 b3, .int .i64 c0, .int .i64 c1, .int .i64 c2, .int .i64 c3] #[.int .i64 x, .int .i64 y, .int .i64 z] #[.int .i64 br, .int .i64 dr, .int .i64 jo, .int .i64 fa, .int .i64 la, .int .i64 dn] wx ∧ SB n wx g.2.1) ?_ (fun q3_1 => ?_)
  · intro g wx hx
    obtain ⟨hR, hz1⟩ := hx
    obtain ⟨g0, g1, g2⟩ := g
    simp only at *
    have HR := hide hR
    clear hR
    have HZ1 := hide hz1
    clear hz1
    refine wpAnyH_ready (rs := [18, 20]) (by kernel_rfl) (by simp) ?_
    refine AllReadyH.cons rfl (fun K hK => ?_) ?_
    · go_simp
      have hb := (below_alloc wx (.cells #[.int .i64 0, .int .i64 0] 26))
      refine hK.out _ _ (HR.out.after hb).cells (fun hHeld => ?_)
      exact q3_01 (wx.heap.size, g1, g2) _ ⟨HR.out.after hb, SB.new HR.out, HZ1.out.after hb, Ne.symm HZ1.out.ne⟩
    refine AllReadyH.cons rfl (fun K hK => ?_) ?_
    · go_simp
      have hb := (below_alloc wx (.cells #[.int .i64 0, .int .i64 0] 26))
      refine hK.out _ _ (HR.out.after hb).cells (fun hHeld => ?_)
      exact q3_12 (g0, g1, wx.heap.size) _ ⟨HR.out.after hb, HZ1.out.after hb, SB.new HR.out, HZ1.out.ne⟩
    exact AllReadyH.nil
  refine memoF 5 #[true, true, true, true, true, true, true, true, true, true, true, true, true, true, true, true, true, true, false, false, true, false, false, false] (fun g => { tmps := #[Value.agg #[Value.int IntKind.i64 a0, Value.int IntKind.i64 a1, Value.int IntKind.i64 a2, Value.int IntKind.i64 a3, Value.int IntKind.i64 b0, Value.int IntKind.i64 b1, Value.int IntKind.i64 b2, Value.int IntKind.i64 b3, Value.int IntKind.i64 c0, Value.int IntKind.i64 c1, Value.int IntKind.i64 c2, Value.int IntKind.i64 c3], Value.agg #[Value.int IntKind.i64 x, Value.int IntKind.i64 y, Value.int IntKind.i64 z], Value.agg #[Value.int IntKind.i64 br, Value.int IntKind.i64 dr, Value.int IntKind.i64 jo, Value.int IntKind.i64 fa, Value.int IntKind.i64 la, Value.int IntKind.i64 dn], Value.pointer (some ⟨n, 0, none⟩), Value.pointer (some ⟨n + 1, 0, none⟩), Value.pointer (some ⟨n + 1 + 1, 0, none⟩), Value.pointer (some ⟨n + 1 + 1 + 1, 0, none⟩), undef, undef, Value.pointer (some ⟨g.2.2, 0, none⟩), Value.pointer (some ⟨n, 0, none⟩), Value.agg #[Value.int IntKind.i64 a0, Value.int IntKind.i64 a1, Value.int IntKind.i64 a2, Value.int IntKind.i64 a3], Value.pointer (some ⟨n + 1, 0, none⟩), Value.int IntKind.i64 x, Value.agg #[Value.int IntKind.i64 br, Value.int IntKind.i64 dr, Value.int IntKind.i64 jo, Value.int IntKind.i64 fa, Value.int IntKind.i64 la, Value.int IntKind.i64 dn], Value.agg #[Value.int IntKind.i64 l0, Value.int IntKind.i64 h0], Value.pointer (some ⟨n, 4, none⟩), Value.agg #[Value.int IntKind.i64 b0, Value.int IntKind.i64 b1, Value.int IntKind.i64 b2, Value.int IntKind.i64 b3], Value.pointer (some ⟨n + 1, 1, none⟩), Value.int IntKind.i64 y, Value.agg #[Value.int IntKind.i64 br, Value.int IntKind.i64 dr, Value.int IntKind.i64 jo, Value.int IntKind.i64 fa, Value.int IntKind.i64 la, Value.int IntKind.i64 dn], Value.agg #[Value.int IntKind.i64 l1, Value.int IntKind.i64 h1], Value.pointer (some ⟨n, 8, none⟩), Value.agg #[Value.int IntKind.i64 c0, Value.int IntKind.i64 c1, Value.int IntKind.i64 c2, Value.int IntKind.i64 c3], Value.pointer (some ⟨n + 1, 2, none⟩), Value.int IntKind.i64 z, Value.agg #[Value.int IntKind.i64 br, Value.int IntKind.i64 dr, Value.int IntKind.i64 jo, Value.int IntKind.i64 fa, Value.int IntKind.i64 la, Value.int IntKind.i64 dn], Value.agg #[Value.int IntKind.i64 l2, Value.int IntKind.i64 h2], undef, undef, undef, undef, undef, undef, undef], defers := [] }) (fun g wx => RB w n #[.int .i64 a0, .int .i64 a1, .int .i64 a2, .int .i64 a3, .int .i64 b0, .int .i64 b1, .int .i64 b2, .int .i64 b3, .int .i64 c0, .int .i64 c1, .int .i64 c2, .int .i64 c3] #[.int .i64 x, .int .i64 y, .int .i64 z] #[.int .i64 br, .int .i64 dr, .int .i64 jo, .int .i64 fa, .int .i64 la, .int .i64 dn] wx ∧ SB n wx g.2.2) ?_ (fun q3_2 => ?_)
  · intro g wx hx
    obtain ⟨hR, hz2⟩ := hx
    obtain ⟨g0, g1, g2⟩ := g
    simp only at *
    have HR := hide hR
    clear hR
    have HZ2 := hide hz2
    clear hz2
    refine wpAnyH_ready (rs := [18, 19]) (by kernel_rfl) (by simp) ?_
    refine AllReadyH.cons rfl (fun K hK => ?_) ?_
    · go_simp
      have hb := (below_alloc wx (.cells #[.int .i64 0, .int .i64 0] 26))
      refine hK.out _ _ (HR.out.after hb).cells (fun hHeld => ?_)
      exact q3_02 (wx.heap.size, g1, g2) _ ⟨HR.out.after hb, SB.new HR.out, HZ2.out.after hb, Ne.symm HZ2.out.ne⟩
    refine AllReadyH.cons rfl (fun K hK => ?_) ?_
    · go_simp
      have hb := (below_alloc wx (.cells #[.int .i64 0, .int .i64 0] 26))
      refine hK.out _ _ (HR.out.after hb).cells (fun hHeld => ?_)
      exact q3_12 (g0, wx.heap.size, g2) _ ⟨HR.out.after hb, SB.new HR.out, HZ2.out.after hb, Ne.symm HZ2.out.ne⟩
    exact AllReadyH.nil
  refine memoF 6 #[true, true, true, true, true, false, true, true, true, true, true, false, true, true, true, true, true, false, true, true, true, false, false, false] (fun g => { tmps := #[Value.agg #[Value.int IntKind.i64 a0, Value.int IntKind.i64 a1, Value.int IntKind.i64 a2, Value.int IntKind.i64 a3, Value.int IntKind.i64 b0, Value.int IntKind.i64 b1, Value.int IntKind.i64 b2, Value.int IntKind.i64 b3, Value.int IntKind.i64 c0, Value.int IntKind.i64 c1, Value.int IntKind.i64 c2, Value.int IntKind.i64 c3], Value.agg #[Value.int IntKind.i64 x, Value.int IntKind.i64 y, Value.int IntKind.i64 z], Value.agg #[Value.int IntKind.i64 br, Value.int IntKind.i64 dr, Value.int IntKind.i64 jo, Value.int IntKind.i64 fa, Value.int IntKind.i64 la, Value.int IntKind.i64 dn], Value.pointer (some ⟨n, 0, none⟩), Value.pointer (some ⟨n + 1, 0, none⟩), Value.pointer (some ⟨n + 1 + 1, 0, none⟩), Value.pointer (some ⟨n + 1 + 1 + 1, 0, none⟩), Value.pointer (some ⟨g.1, 0, none⟩), Value.pointer (some ⟨g.2.1, 0, none⟩), Value.pointer (some ⟨g.2.2, 0, none⟩), Value.pointer (some ⟨n, 0, none⟩), Value.agg #[Value.int IntKind.i64 a0, Value.int IntKind.i64 a1, Value.int IntKind.i64 a2, Value.int IntKind.i64 a3], Value.pointer (some ⟨n + 1, 0, none⟩), Value.int IntKind.i64 x, Value.agg #[Value.int IntKind.i64 br, Value.int IntKind.i64 dr, Value.int IntKind.i64 jo, Value.int IntKind.i64 fa, Value.int IntKind.i64 la, Value.int IntKind.i64 dn], undef, Value.pointer (some ⟨n, 4, none⟩), Value.agg #[Value.int IntKind.i64 b0, Value.int IntKind.i64 b1, Value.int IntKind.i64 b2, Value.int IntKind.i64 b3], Value.pointer (some ⟨n + 1, 1, none⟩), Value.int IntKind.i64 y, Value.agg #[Value.int IntKind.i64 br, Value.int IntKind.i64 dr, Value.int IntKind.i64 jo, Value.int IntKind.i64 fa, Value.int IntKind.i64 la, Value.int IntKind.i64 dn], undef, Value.pointer (some ⟨n, 8, none⟩), Value.agg #[Value.int IntKind.i64 c0, Value.int IntKind.i64 c1, Value.int IntKind.i64 c2, Value.int IntKind.i64 c3], Value.pointer (some ⟨n + 1, 2, none⟩), Value.int IntKind.i64 z, Value.agg #[Value.int IntKind.i64 br, Value.int IntKind.i64 dr, Value.int IntKind.i64 jo, Value.int IntKind.i64 fa, Value.int IntKind.i64 la, Value.int IntKind.i64 dn], undef, undef, undef, undef, undef, undef, undef, undef], defers := [] }) (fun g wx => RB w n #[.int .i64 a0, .int .i64 a1, .int .i64 a2, .int .i64 a3, .int .i64 b0, .int .i64 b1, .int .i64 b2, .int .i64 b3, .int .i64 c0, .int .i64 c1, .int .i64 c2, .int .i64 c3] #[.int .i64 x, .int .i64 y, .int .i64 z] #[.int .i64 br, .int .i64 dr, .int .i64 jo, .int .i64 fa, .int .i64 la, .int .i64 dn] wx ∧ SB n wx g.1 ∧ SB n wx g.2.1 ∧ SB n wx g.2.2 ∧ g.1 ≠ g.2.1 ∧ g.1 ≠ g.2.2 ∧ g.2.1 ≠ g.2.2) ?_ (fun q0_012 => ?_)
  · intro g wx hx
    obtain ⟨hR, hz0, hz1, hz2, ne01, ne02, ne12⟩ := hx
    obtain ⟨g0, g1, g2⟩ := g
    simp only at *
    have HR := hide hR
    clear hR
    have HZ0 := hide hz0
    clear hz0
    have HZ1 := hide hz1
    clear hz1
    have HZ2 := hide hz2
    clear hz2
    have NE01 := hide ne01
    clear ne01
    have NE02 := hide ne02
    clear ne02
    have NE12 := hide ne12
    clear ne12
    refine wpAnyH_ready (rs := [5]) (by kernel_rfl) (by simp) ?_
    refine AllReadyH.cons rfl (fun K hK => ?_) ?_
    · go_simp
      refine (S0.out _).mono ?_
      rintro e wt ⟨rfl, hb⟩
      refine hK.out _ _ (HR.out.after hb).cells (fun hHeld => ?_)
      exact q1_012 (g0, g1, g2) wt ⟨HR.out.after hb, HZ0.out.after hb, HZ1.out.after hb, HZ2.out.after hb, NE01.out, NE02.out, NE12.out⟩
    exact AllReadyH.nil
  refine memoF 6 #[true, true, true, true, true, true, true, true, true, true, true, false, true, true, true, true, true, false, true, true, false, false, false, false] (fun g => { tmps := #[Value.agg #[Value.int IntKind.i64 a0, Value.int IntKind.i64 a1, Value.int IntKind.i64 a2, Value.int IntKind.i64 a3, Value.int IntKind.i64 b0, Value.int IntKind.i64 b1, Value.int IntKind.i64 b2, Value.int IntKind.i64 b3, Value.int IntKind.i64 c0, Value.int IntKind.i64 c1, Value.int IntKind.i64 c2, Value.int IntKind.i64 c3], Value.agg #[Value.int IntKind.i64 x, Value.int IntKind.i64 y, Value.int IntKind.i64 z], Value.agg #[Value.int IntKind.i64 br, Value.int IntKind.i64 dr, Value.int IntKind.i64 jo, Value.int IntKind.i64 fa, Value.int IntKind.i64 la, Value.int IntKind.i64 dn], Value.pointer (some ⟨n, 0, none⟩), Value.pointer (some ⟨n + 1, 0, none⟩), Value.pointer (some ⟨n + 1 + 1, 0, none⟩), Value.pointer (some ⟨n + 1 + 1 + 1, 0, none⟩), Value.pointer (some ⟨g.1, 0, none⟩), Value.pointer (some ⟨g.2.1, 0, none⟩), undef, Value.pointer (some ⟨n, 0, none⟩), Value.agg #[Value.int IntKind.i64 a0, Value.int IntKind.i64 a1, Value.int IntKind.i64 a2, Value.int IntKind.i64 a3], Value.pointer (some ⟨n + 1, 0, none⟩), Value.int IntKind.i64 x, Value.agg #[Value.int IntKind.i64 br, Value.int IntKind.i64 dr, Value.int IntKind.i64 jo, Value.int IntKind.i64 fa, Value.int IntKind.i64 la, Value.int IntKind.i64 dn], Value.agg #[Value.int IntKind.i64 l0, Value.int IntKind.i64 h0], Value.pointer (some ⟨n, 4, none⟩), Value.agg #[Value.int IntKind.i64 b0, Value.int IntKind.i64 b1, Value.int IntKind.i64 b2, Value.int IntKind.i64 b3], Value.pointer (some ⟨n + 1, 1, none⟩), Value.int IntKind.i64 y, Value.agg #[Value.int IntKind.i64 br, Value.int IntKind.i64 dr, Value.int IntKind.i64 jo, Value.int IntKind.i64 fa, Value.int IntKind.i64 la, Value.int IntKind.i64 dn], undef, Value.pointer (some ⟨n, 8, none⟩), Value.agg #[Value.int IntKind.i64 c0, Value.int IntKind.i64 c1, Value.int IntKind.i64 c2, Value.int IntKind.i64 c3], Value.pointer (some ⟨n + 1, 2, none⟩), Value.int IntKind.i64 z, Value.agg #[Value.int IntKind.i64 br, Value.int IntKind.i64 dr, Value.int IntKind.i64 jo, Value.int IntKind.i64 fa, Value.int IntKind.i64 la, Value.int IntKind.i64 dn], undef, undef, undef, undef, undef, undef, undef, undef], defers := [] }) (fun g wx => RB w n #[.int .i64 a0, .int .i64 a1, .int .i64 a2, .int .i64 a3, .int .i64 b0, .int .i64 b1, .int .i64 b2, .int .i64 b3, .int .i64 c0, .int .i64 c1, .int .i64 c2, .int .i64 c3] #[.int .i64 x, .int .i64 y, .int .i64 z] #[.int .i64 br, .int .i64 dr, .int .i64 jo, .int .i64 fa, .int .i64 la, .int .i64 dn] wx ∧ SB n wx g.1 ∧ SB n wx g.2.1 ∧ g.1 ≠ g.2.1) ?_ (fun q1_01 => ?_)
  · intro g wx hx
    obtain ⟨hR, hz0, hz1, ne01⟩ := hx
    obtain ⟨g0, g1, g2⟩ := g
    simp only at *
    have HR := hide hR
    clear hR
    have HZ0 := hide hz0
    clear hz0
    have HZ1 := hide hz1
    clear hz1
    have NE01 := hide ne01
    clear ne01
    refine wpAnyH_ready (rs := [11, 20]) (by kernel_rfl) (by simp) ?_
    refine AllReadyH.cons rfl (fun K hK => ?_) ?_
    · go_simp
      refine (S1.out _).mono ?_
      rintro e wt ⟨rfl, hb⟩
      refine hK.out _ _ (HR.out.after hb).cells (fun hHeld => ?_)
      exact q2_01 (g0, g1, g2) wt ⟨HR.out.after hb, HZ0.out.after hb, HZ1.out.after hb, NE01.out⟩
    refine AllReadyH.cons rfl (fun K hK => ?_) ?_
    · go_simp
      have hb := (below_alloc wx (.cells #[.int .i64 0, .int .i64 0] 26))
      refine hK.out _ _ (HR.out.after hb).cells (fun hHeld => ?_)
      exact q1_012 (g0, g1, wx.heap.size) _ ⟨HR.out.after hb, HZ0.out.after hb, HZ1.out.after hb, SB.new HR.out, NE01.out, HZ0.out.ne, HZ1.out.ne⟩
    exact AllReadyH.nil
  refine memoF 6 #[true, true, true, true, true, true, true, true, true, true, true, false, true, true, true, true, true, false, true, false, true, false, false, false] (fun g => { tmps := #[Value.agg #[Value.int IntKind.i64 a0, Value.int IntKind.i64 a1, Value.int IntKind.i64 a2, Value.int IntKind.i64 a3, Value.int IntKind.i64 b0, Value.int IntKind.i64 b1, Value.int IntKind.i64 b2, Value.int IntKind.i64 b3, Value.int IntKind.i64 c0, Value.int IntKind.i64 c1, Value.int IntKind.i64 c2, Value.int IntKind.i64 c3], Value.agg #[Value.int IntKind.i64 x, Value.int IntKind.i64 y, Value.int IntKind.i64 z], Value.agg #[Value.int IntKind.i64 br, Value.int IntKind.i64 dr, Value.int IntKind.i64 jo, Value.int IntKind.i64 fa, Value.int IntKind.i64 la, Value.int IntKind.i64 dn], Value.pointer (some ⟨n, 0, none⟩), Value.pointer (some ⟨n + 1, 0, none⟩), Value.pointer (some ⟨n + 1 + 1, 0, none⟩), Value.pointer (some ⟨n + 1 + 1 + 1, 0, none⟩), Value.pointer (some ⟨g.1, 0, none⟩), undef, Value.pointer (some ⟨g.2.2, 0, none⟩), Value.pointer (some ⟨n, 0, none⟩), Value.agg #[Value.int IntKind.i64 a0, Value.int IntKind.i64 a1, Value.int IntKind.i64 a2, Value.int IntKind.i64 a3], Value.pointer (some ⟨n + 1, 0, none⟩), Value.int IntKind.i64 x, Value.agg #[Value.int IntKind.i64 br, Value.int IntKind.i64 dr, Value.int IntKind.i64 jo, Value.int IntKind.i64 fa, Value.int IntKind.i64 la, Value.int IntKind.i64 dn], Value.agg #[Value.int IntKind.i64 l0, Value.int IntKind.i64 h0], Value.pointer (some ⟨n, 4, none⟩), Value.agg #[Value.int IntKind.i64 b0, Value.int IntKind.i64 b1, Value.int IntKind.i64 b2, Value.int IntKind.i64 b3], Value.pointer (some ⟨n + 1, 1, none⟩), Value.int IntKind.i64 y, Value.agg #[Value.int IntKind.i64 br, Value.int IntKind.i64 dr, Value.int IntKind.i64 jo, Value.int IntKind.i64 fa, Value.int IntKind.i64 la, Value.int IntKind.i64 dn], undef, Value.pointer (some ⟨n, 8, none⟩), Value.agg #[Value.int IntKind.i64 c0, Value.int IntKind.i64 c1, Value.int IntKind.i64 c2, Value.int IntKind.i64 c3], Value.pointer (some ⟨n + 1, 2, none⟩), Value.int IntKind.i64 z, Value.agg #[Value.int IntKind.i64 br, Value.int IntKind.i64 dr, Value.int IntKind.i64 jo, Value.int IntKind.i64 fa, Value.int IntKind.i64 la, Value.int IntKind.i64 dn], undef, undef, undef, undef, undef, undef, undef, undef], defers := [] }) (fun g wx => RB w n #[.int .i64 a0, .int .i64 a1, .int .i64 a2, .int .i64 a3, .int .i64 b0, .int .i64 b1, .int .i64 b2, .int .i64 b3, .int .i64 c0, .int .i64 c1, .int .i64 c2, .int .i64 c3] #[.int .i64 x, .int .i64 y, .int .i64 z] #[.int .i64 br, .int .i64 dr, .int .i64 jo, .int .i64 fa, .int .i64 la, .int .i64 dn] wx ∧ SB n wx g.1 ∧ SB n wx g.2.2 ∧ g.1 ≠ g.2.2) ?_ (fun q1_02 => ?_)
  · intro g wx hx
    obtain ⟨hR, hz0, hz2, ne02⟩ := hx
    obtain ⟨g0, g1, g2⟩ := g
    simp only at *
    have HR := hide hR
    clear hR
    have HZ0 := hide hz0
    clear hz0
    have HZ2 := hide hz2
    clear hz2
    have NE02 := hide ne02
    clear ne02
    refine wpAnyH_ready (rs := [11, 19]) (by kernel_rfl) (by simp) ?_
    refine AllReadyH.cons rfl (fun K hK => ?_) ?_
    · go_simp
      refine (S1.out _).mono ?_
      rintro e wt ⟨rfl, hb⟩
      refine hK.out _ _ (HR.out.after hb).cells (fun hHeld => ?_)
      exact q2_02 (g0, g1, g2) wt ⟨HR.out.after hb, HZ0.out.after hb, HZ2.out.after hb, NE02.out⟩
    refine AllReadyH.cons rfl (fun K hK => ?_) ?_
    · go_simp
      have hb := (below_alloc wx (.cells #[.int .i64 0, .int .i64 0] 26))
      refine hK.out _ _ (HR.out.after hb).cells (fun hHeld => ?_)
      exact q1_012 (g0, wx.heap.size, g2) _ ⟨HR.out.after hb, HZ0.out.after hb, SB.new HR.out, HZ2.out.after hb, HZ0.out.ne, NE02.out, Ne.symm HZ2.out.ne⟩
    exact AllReadyH.nil
  refine memoF 6 #[true, true, true, true, true, true, true, true, true, true, true, false, true, true, true, true, true, false, false, true, true, false, false, false] (fun g => { tmps := #[Value.agg #[Value.int IntKind.i64 a0, Value.int IntKind.i64 a1, Value.int IntKind.i64 a2, Value.int IntKind.i64 a3, Value.int IntKind.i64 b0, Value.int IntKind.i64 b1, Value.int IntKind.i64 b2, Value.int IntKind.i64 b3, Value.int IntKind.i64 c0, Value.int IntKind.i64 c1, Value.int IntKind.i64 c2, Value.int IntKind.i64 c3], Value.agg #[Value.int IntKind.i64 x, Value.int IntKind.i64 y, Value.int IntKind.i64 z], Value.agg #[Value.int IntKind.i64 br, Value.int IntKind.i64 dr, Value.int IntKind.i64 jo, Value.int IntKind.i64 fa, Value.int IntKind.i64 la, Value.int IntKind.i64 dn], Value.pointer (some ⟨n, 0, none⟩), Value.pointer (some ⟨n + 1, 0, none⟩), Value.pointer (some ⟨n + 1 + 1, 0, none⟩), Value.pointer (some ⟨n + 1 + 1 + 1, 0, none⟩), undef, Value.pointer (some ⟨g.2.1, 0, none⟩), Value.pointer (some ⟨g.2.2, 0, none⟩), Value.pointer (some ⟨n, 0, none⟩), Value.agg #[Value.int IntKind.i64 a0, Value.int IntKind.i64 a1, Value.int IntKind.i64 a2, Value.int IntKind.i64 a3], Value.pointer (some ⟨n + 1, 0, none⟩), Value.int IntKind.i64 x, Value.agg #[Value.int IntKind.i64 br, Value.int IntKind.i64 dr, Value.int IntKind.i64 jo, Value.int IntKind.i64 fa, Value.int IntKind.i64 la, Value.int IntKind.i64 dn], Value.agg #[Value.int IntKind.i64 l0, Value.int IntKind.i64 h0], Value.pointer (some ⟨n, 4, none⟩), Value.agg #[Value.int IntKind.i64 b0, Value.int IntKind.i64 b1, Value.int IntKind.i64 b2, Value.int IntKind.i64 b3], Value.pointer (some ⟨n + 1, 1, none⟩), Value.int IntKind.i64 y, Value.agg #[Value.int IntKind.i64 br, Value.int IntKind.i64 dr, Value.int IntKind.i64 jo, Value.int IntKind.i64 fa, Value.int IntKind.i64 la, Value.int IntKind.i64 dn], undef, Value.pointer (some ⟨n, 8, none⟩), Value.agg #[Value.int IntKind.i64 c0, Value.int IntKind.i64 c1, Value.int IntKind.i64 c2, Value.int IntKind.i64 c3], Value.pointer (some ⟨n + 1, 2, none⟩), Value.int IntKind.i64 z, Value.agg #[Value.int IntKind.i64 br, Value.int IntKind.i64 dr, Value.int IntKind.i64 jo, Value.int IntKind.i64 fa, Value.int IntKind.i64 la, Value.int IntKind.i64 dn], undef, undef, undef, undef, undef, undef, undef, undef], defers := [] }) (fun g wx => RB w n #[.int .i64 a0, .int .i64 a1, .int .i64 a2, .int .i64 a3, .int .i64 b0, .int .i64 b1, .int .i64 b2, .int .i64 b3, .int .i64 c0, .int .i64 c1, .int .i64 c2, .int .i64 c3] #[.int .i64 x, .int .i64 y, .int .i64 z] #[.int .i64 br, .int .i64 dr, .int .i64 jo, .int .i64 fa, .int .i64 la, .int .i64 dn] wx ∧ SB n wx g.2.1 ∧ SB n wx g.2.2 ∧ g.2.1 ≠ g.2.2) ?_ (fun q1_12 => ?_)
  · intro g wx hx
    obtain ⟨hR, hz1, hz2, ne12⟩ := hx
    obtain ⟨g0, g1, g2⟩ := g
    simp only at *
    have HR := hide hR
    clear hR
    have HZ1 := hide hz1
    clear hz1
    have HZ2 := hide hz2
    clear hz2
    have NE12 := hide ne12
    clear ne12
    refine wpAnyH_ready (rs := [11, 18]) (by kernel_rfl) (by simp) ?_
    refine AllReadyH.cons rfl (fun K hK => ?_) ?_
    · go_simp
      refine (S1.out _).mono ?_
      rintro e wt ⟨rfl, hb⟩
      refine hK.out _ _ (HR.out.after hb).cells (fun hHeld => ?_)
      exact q2_12 (g0, g1, g2) wt ⟨HR.out.after hb, HZ1.out.after hb, HZ2.out.after hb, NE12.out⟩
    refine AllReadyH.cons rfl (fun K hK => ?_) ?_
    · go_simp
      have hb := (below_alloc wx (.cells #[.int .i64 0, .int .i64 0] 26))
      refine hK.out _ _ (HR.out.after hb).cells (fun hHeld => ?_)
      exact q1_012 (wx.heap.size, g1, g2) _ ⟨HR.out.after hb, SB.new HR.out, HZ1.out.after hb, HZ2.out.after hb, Ne.symm HZ1.out.ne, Ne.symm HZ2.out.ne, NE12.out⟩
    exact AllReadyH.nil
  refine memoF 6 #[true, true, true, true, true, true, true, true, true, true, true, true, true, true, true, true, true, false, true, false, false, false, false, false] (fun g => { tmps := #[Value.agg #[Value.int IntKind.i64 a0, Value.int IntKind.i64 a1, Value.int IntKind.i64 a2, Value.int IntKind.i64 a3, Value.int IntKind.i64 b0, Value.int IntKind.i64 b1, Value.int IntKind.i64 b2, Value.int IntKind.i64 b3, Value.int IntKind.i64 c0, Value.int IntKind.i64 c1, Value.int IntKind.i64 c2, Value.int IntKind.i64 c3], Value.agg #[Value.int IntKind.i64 x, Value.int IntKind.i64 y, Value.int IntKind.i64 z], Value.agg #[Value.int IntKind.i64 br, Value.int IntKind.i64 dr, Value.int IntKind.i64 jo, Value.int IntKind.i64 fa, Value.int IntKind.i64 la, Value.int IntKind.i64 dn], Value.pointer (some ⟨n, 0, none⟩), Value.pointer (some ⟨n + 1, 0, none⟩), Value.pointer (some ⟨n + 1 + 1, 0, none⟩), Value.pointer (some ⟨n + 1 + 1 + 1, 0, none⟩), Value.pointer (some ⟨g.1, 0, none⟩), undef, undef, Value.pointer (some ⟨n, 0, none⟩), Value.agg #[Value.int IntKind.i64 a0, Value.int IntKind.i64 a1, Value.int IntKind.i64 a2, Value.int IntKind.i64 a3], Value.pointer (some ⟨n + 1, 0, none⟩), Value.int IntKind.i64 x, Value.agg #[Value.int IntKind.i64 br, Value.int IntKind.i64 dr, Value.int IntKind.i64 jo, Value.int IntKind.i64 fa, Value.int IntKind.i64 la, Value.int IntKind.i64 dn], Value.agg #[Value.int IntKind.i64 l0, Value.int IntKind.i64 h0], Value.pointer (some ⟨n, 4, none⟩), Value.agg #[Value.int IntKind.i64 b0, Value.int IntKind.i64 b1, Value.int IntKind.i64 b2, Value.int IntKind.i64 b3], Value.pointer (some ⟨n + 1, 1, none⟩), Value.int IntKind.i64 y, Value.agg #[Value.int IntKind.i64 br, Value.int IntKind.i64 dr, Value.int IntKind.i64 jo, Value.int IntKind.i64 fa, Value.int IntKind.i64 la, Value.int IntKind.i64 dn], Value.agg #[Value.int IntKind.i64 l1, Value.int IntKind.i64 h1], Value.pointer (some ⟨n, 8, none⟩), Value.agg #[Value.int IntKind.i64 c0, Value.int IntKind.i64 c1, Value.int IntKind.i64 c2, Value.int IntKind.i64 c3], Value.pointer (some ⟨n + 1, 2, none⟩), Value.int IntKind.i64 z, Value.agg #[Value.int IntKind.i64 br, Value.int IntKind.i64 dr, Value.int IntKind.i64 jo, Value.int IntKind.i64 fa, Value.int IntKind.i64 la, Value.int IntKind.i64 dn], undef, undef, undef, undef, undef, undef, undef, undef], defers := [] }) (fun g wx => RB w n #[.int .i64 a0, .int .i64 a1, .int .i64 a2, .int .i64 a3, .int .i64 b0, .int .i64 b1, .int .i64 b2, .int .i64 b3, .int .i64 c0, .int .i64 c1, .int .i64 c2, .int .i64 c3] #[.int .i64 x, .int .i64 y, .int .i64 z] #[.int .i64 br, .int .i64 dr, .int .i64 jo, .int .i64 fa, .int .i64 la, .int .i64 dn] wx ∧ SB n wx g.1) ?_ (fun q2_0 => ?_)
  · intro g wx hx
    obtain ⟨hR, hz0⟩ := hx
    obtain ⟨g0, g1, g2⟩ := g
    simp only at *
    have HR := hide hR
    clear hR
    have HZ0 := hide hz0
    clear hz0
    refine wpAnyH_ready (rs := [17, 19, 20]) (by kernel_rfl) (by simp) ?_
    refine AllReadyH.cons rfl (fun K hK => ?_) ?_
    · go_simp
      refine (S2.out _).mono ?_
      rintro e wt ⟨rfl, hb⟩
      refine hK.out _ _ (HR.out.after hb).cells (fun hHeld => ?_)
      exact q3_0 (g0, g1, g2) wt ⟨HR.out.after hb, HZ0.out.after hb⟩
    refine AllReadyH.cons rfl (fun K hK => ?_) ?_
    · go_simp
      have hb := (below_alloc wx (.cells #[.int .i64 0, .int .i64 0] 26))
      refine hK.out _ _ (HR.out.after hb).cells (fun hHeld => ?_)
      exact q2_01 (g0, wx.heap.size, g2) _ ⟨HR.out.after hb, HZ0.out.after hb, SB.new HR.out, HZ0.out.ne⟩
    refine AllReadyH.cons rfl (fun K hK => ?_) ?_
    · go_simp
      have hb := (below_alloc wx (.cells #[.int .i64 0, .int .i64 0] 26))
      refine hK.out _ _ (HR.out.after hb).cells (fun hHeld => ?_)
      exact q2_02 (g0, g1, wx.heap.size) _ ⟨HR.out.after hb, HZ0.out.after hb, SB.new HR.out, HZ0.out.ne⟩
    exact AllReadyH.nil
  refine memoF 6 #[true, true, true, true, true, true, true, true, true, true, true, true, true, true, true, true, true, false, false, true, false, false, false, false] (fun g => { tmps := #[Value.agg #[Value.int IntKind.i64 a0, Value.int IntKind.i64 a1, Value.int IntKind.i64 a2, Value.int IntKind.i64 a3, Value.int IntKind.i64 b0, Value.int IntKind.i64 b1, Value.int IntKind.i64 b2, Value.int IntKind.i64 b3, Value.int IntKind.i64 c0, Value.int IntKind.i64 c1, Value.int IntKind.i64 c2, Value.int IntKind.i64 c3], Value.agg #[Value.int IntKind.i64 x, Value.int IntKind.i64 y, Value.int IntKind.i64 z], Value.agg #[Value.int IntKind.i64 br, Value.int IntKind.i64 dr, Value.int IntKind.i64 jo, Value.int IntKind.i64 fa, Value.int IntKind.i64 la, Value.int IntKind.i64 dn], Value.pointer (some ⟨n, 0, none⟩), Value.pointer (some ⟨n + 1, 0, none⟩), Value.pointer (some ⟨n + 1 + 1, 0, none⟩), Value.pointer (some ⟨n + 1 + 1 + 1, 0, none⟩), undef, Value.pointer (some ⟨g.2.1, 0, none⟩), undef, Value.pointer (some ⟨n, 0, none⟩), Value.agg #[Value.int IntKind.i64 a0, Value.int IntKind.i64 a1, Value.int IntKind.i64 a2, Value.int IntKind.i64 a3], Value.pointer (some ⟨n + 1, 0, none⟩), Value.int IntKind.i64 x, Value.agg #[Value.int IntKind.i64 br, Value.int IntKind.i64 dr, Value.int IntKind.i64 jo, Value.int IntKind.i64 fa, Value.int IntKind.i64 la, Value.int IntKind.i64 dn], Value.agg #[Value.int IntKind.i64 l0, Value.int IntKind.i64 h0], Value.pointer (some ⟨n, 4, none⟩), Value.agg #[Value.int IntKind.i64 b0, Value.int IntKind.i64 b1, Value.int IntKind.i64 b2, Value.int IntKind.i64 b3], Value.pointer (some ⟨n + 1, 1, none⟩), Value.int IntKind.i64 y, Value.agg #[Value.int IntKind.i64 br, Value.int IntKind.i64 dr, Value.int IntKind.i64 jo, Value.int IntKind.i64 fa, Value.int IntKind.i64 la, Value.int IntKind.i64 dn], Value.agg #[Value.int IntKind.i64 l1, Value.int IntKind.i64 h1], Value.pointer (some ⟨n, 8, none⟩), Value.agg #[Value.int IntKind.i64 c0, Value.int IntKind.i64 c1, Value.int IntKind.i64 c2, Value.int IntKind.i64 c3], Value.pointer (some ⟨n + 1, 2, none⟩), Value.int IntKind.i64 z, Value.agg #[Value.int IntKind.i64 br, Value.int IntKind.i64 dr, Value.int IntKind.i64 jo, Value.int IntKind.i64 fa, Value.int IntKind.i64 la, Value.int IntKind.i64 dn], undef, undef, undef, undef, undef, undef, undef, undef], defers := [] }) (fun g wx => RB w n #[.int .i64 a0, .int .i64 a1, .int .i64 a2, .int .i64 a3, .int .i64 b0, .int .i64 b1, .int .i64 b2, .int .i64 b3, .int .i64 c0, .int .i64 c1, .int .i64 c2, .int .i64 c3] #[.int .i64 x, .int .i64 y, .int .i64 z] #[.int .i64 br, .int .i64 dr, .int .i64 jo, .int .i64 fa, .int .i64 la, .int .i64 dn] wx ∧ SB n wx g.2.1) ?_ (fun q2_1 => ?_)
  · intro g wx hx
    obtain ⟨hR, hz1⟩ := hx
    obtain ⟨g0, g1, g2⟩ := g
    simp only at *
    have HR := hide hR
    clear hR
    have HZ1 := hide hz1
    clear hz1
    refine wpAnyH_ready (rs := [17, 18, 20]) (by kernel_rfl) (by simp) ?_
    refine AllReadyH.cons rfl (fun K hK => ?_) ?_
    · go_simp
      refine (S2.out _).mono ?_
      rintro e wt ⟨rfl, hb⟩
      refine hK.out _ _ (HR.out.after hb).cells (fun hHeld => ?_)
      exact q3_1 (g0, g1, g2) wt ⟨HR.out.after hb, HZ1.out.after hb⟩
    refine AllReadyH.cons rfl (fun K hK => ?_) ?_
    · go_simp
      have hb := (below_alloc wx (.cells #[.int .i64 0, .int .i64 0] 26))
      refine hK.out _ _ (HR.out.after hb).cells (fun hHeld => ?_)
      exact q2_01 (wx.heap.size, g1, g2) _ ⟨HR.out.after hb, SB.new HR.out, HZ1.out.after hb, Ne.symm HZ1.out.ne⟩
    refine AllReadyH.cons rfl (fun K hK => ?_) ?_
    · go_simp
      have hb := (below_alloc wx (.cells #[.int .i64 0, .int .i64 0] 26))
      refine hK.out _ _ (HR.out.after hb).cells (fun hHeld => ?_)
      exact q2_12 (g0, g1, wx.heap.size) _ ⟨HR.out.after hb, HZ1.out.after hb, SB.new HR.out, HZ1.out.ne⟩
    exact AllReadyH.nil
  refine memoF 6 #[true, true, true, true, true, true, true, true, true, true, true, true, true, true, true, true, true, false, false, false, true, false, false, false] (fun g => { tmps := #[Value.agg #[Value.int IntKind.i64 a0, Value.int IntKind.i64 a1, Value.int IntKind.i64 a2, Value.int IntKind.i64 a3, Value.int IntKind.i64 b0, Value.int IntKind.i64 b1, Value.int IntKind.i64 b2, Value.int IntKind.i64 b3, Value.int IntKind.i64 c0, Value.int IntKind.i64 c1, Value.int IntKind.i64 c2, Value.int IntKind.i64 c3], Value.agg #[Value.int IntKind.i64 x, Value.int IntKind.i64 y, Value.int IntKind.i64 z], Value.agg #[Value.int IntKind.i64 br, Value.int IntKind.i64 dr, Value.int IntKind.i64 jo, Value.int IntKind.i64 fa, Value.int IntKind.i64 la, Value.int IntKind.i64 dn], Value.pointer (some ⟨n, 0, none⟩), Value.pointer (some ⟨n + 1, 0, none⟩), Value.pointer (some ⟨n + 1 + 1, 0, none⟩), Value.pointer (some ⟨n + 1 + 1 + 1, 0, none⟩), undef, undef, Value.pointer (some ⟨g.2.2, 0, none⟩), Value.pointer (some ⟨n, 0, none⟩), Value.agg #[Value.int IntKind.i64 a0, Value.int IntKind.i64 a1, Value.int IntKind.i64 a2, Value.int IntKind.i64 a3], Value.pointer (some ⟨n + 1, 0, none⟩), Value.int IntKind.i64 x, Value.agg #[Value.int IntKind.i64 br, Value.int IntKind.i64 dr, Value.int IntKind.i64 jo, Value.int IntKind.i64 fa, Value.int IntKind.i64 la, Value.int IntKind.i64 dn], Value.agg #[Value.int IntKind.i64 l0, Value.int IntKind.i64 h0], Value.pointer (some ⟨n, 4, none⟩), Value.agg #[Value.int IntKind.i64 b0, Value.int IntKind.i64 b1, Value.int IntKind.i64 b2, Value.int IntKind.i64 b3], Value.pointer (some ⟨n + 1, 1, none⟩), Value.int IntKind.i64 y, Value.agg #[Value.int IntKind.i64 br, Value.int IntKind.i64 dr, Value.int IntKind.i64 jo, Value.int IntKind.i64 fa, Value.int IntKind.i64 la, Value.int IntKind.i64 dn], Value.agg #[Value.int IntKind.i64 l1, Value.int IntKind.i64 h1], Value.pointer (some ⟨n, 8, none⟩), Value.agg #[Value.int IntKind.i64 c0, Value.int IntKind.i64 c1, Value.int IntKind.i64 c2, Value.int IntKind.i64 c3], Value.pointer (some ⟨n + 1, 2, none⟩), Value.int IntKind.i64 z, Value.agg #[Value.int IntKind.i64 br, Value.int IntKind.i64 dr, Value.int IntKind.i64 jo, Value.int IntKind.i64 fa, Value.int IntKind.i64 la, Value.int IntKind.i64 dn], undef, undef, undef, undef, undef, undef, undef, undef], defers := [] }) (fun g wx => RB w n #[.int .i64 a0, .int .i64 a1, .int .i64 a2, .int .i64 a3, .int .i64 b0, .int .i64 b1, .int .i64 b2, .int .i64 b3, .int .i64 c0, .int .i64 c1, .int .i64 c2, .int .i64 c3] #[.int .i64 x, .int .i64 y, .int .i64 z] #[.int .i64 br, .int .i64 dr, .int .i64 jo, .int .i64 fa, .int .i64 la, .int .i64 dn] wx ∧ SB n wx g.2.2) ?_ (fun q2_2 => ?_)
  · intro g wx hx
    obtain ⟨hR, hz2⟩ := hx
    obtain ⟨g0, g1, g2⟩ := g
    simp only at *
    have HR := hide hR
    clear hR
    have HZ2 := hide hz2
    clear hz2
    refine wpAnyH_ready (rs := [17, 18, 19]) (by kernel_rfl) (by simp) ?_
    refine AllReadyH.cons rfl (fun K hK => ?_) ?_
    · go_simp
      refine (S2.out _).mono ?_
      rintro e wt ⟨rfl, hb⟩
      refine hK.out _ _ (HR.out.after hb).cells (fun hHeld => ?_)
      exact q3_2 (g0, g1, g2) wt ⟨HR.out.after hb, HZ2.out.after hb⟩
    refine AllReadyH.cons rfl (fun K hK => ?_) ?_
    · go_simp
      have hb := (below_alloc wx (.cells #[.int .i64 0, .int .i64 0] 26))
      refine hK.out _ _ (HR.out.after hb).cells (fun hHeld => ?_)
      exact q2_02 (wx.heap.size, g1, g2) _ ⟨HR.out.after hb, SB.new HR.out, HZ2.out.after hb, Ne.symm HZ2.out.ne⟩
    refine AllReadyH.cons rfl (fun K hK => ?_) ?_
    · go_simp
      have hb := (below_alloc wx (.cells #[.int .i64 0, .int .i64 0] 26))
      refine hK.out _ _ (HR.out.after hb).cells (fun hHeld => ?_)
      exact q2_12 (g0, wx.heap.size, g2) _ ⟨HR.out.after hb, SB.new HR.out, HZ2.out.after hb, Ne.symm HZ2.out.ne⟩
    exact AllReadyH.nil
  refine memoF 6 #[true, true, true, true, true, true, true, true, true, true, true, true, true, true, true, true, true, true, false, false, false, false, false, false] (fun g => { tmps := #[Value.agg #[Value.int IntKind.i64 a0, Value.int IntKind.i64 a1, Value.int IntKind.i64 a2, Value.int IntKind.i64 a3, Value.int IntKind.i64 b0, Value.int IntKind.i64 b1, Value.int IntKind.i64 b2, Value.int IntKind.i64 b3, Value.int IntKind.i64 c0, Value.int IntKind.i64 c1, Value.int IntKind.i64 c2, Value.int IntKind.i64 c3], Value.agg #[Value.int IntKind.i64 x, Value.int IntKind.i64 y, Value.int IntKind.i64 z], Value.agg #[Value.int IntKind.i64 br, Value.int IntKind.i64 dr, Value.int IntKind.i64 jo, Value.int IntKind.i64 fa, Value.int IntKind.i64 la, Value.int IntKind.i64 dn], Value.pointer (some ⟨n, 0, none⟩), Value.pointer (some ⟨n + 1, 0, none⟩), Value.pointer (some ⟨n + 1 + 1, 0, none⟩), Value.pointer (some ⟨n + 1 + 1 + 1, 0, none⟩), undef, undef, undef, Value.pointer (some ⟨n, 0, none⟩), Value.agg #[Value.int IntKind.i64 a0, Value.int IntKind.i64 a1, Value.int IntKind.i64 a2, Value.int IntKind.i64 a3], Value.pointer (some ⟨n + 1, 0, none⟩), Value.int IntKind.i64 x, Value.agg #[Value.int IntKind.i64 br, Value.int IntKind.i64 dr, Value.int IntKind.i64 jo, Value.int IntKind.i64 fa, Value.int IntKind.i64 la, Value.int IntKind.i64 dn], Value.agg #[Value.int IntKind.i64 l0, Value.int IntKind.i64 h0], Value.pointer (some ⟨n, 4, none⟩), Value.agg #[Value.int IntKind.i64 b0, Value.int IntKind.i64 b1, Value.int IntKind.i64 b2, Value.int IntKind.i64 b3], Value.pointer (some ⟨n + 1, 1, none⟩), Value.int IntKind.i64 y, Value.agg #[Value.int IntKind.i64 br, Value.int IntKind.i64 dr, Value.int IntKind.i64 jo, Value.int IntKind.i64 fa, Value.int IntKind.i64 la, Value.int IntKind.i64 dn], Value.agg #[Value.int IntKind.i64 l1, Value.int IntKind.i64 h1], Value.pointer (some ⟨n, 8, none⟩), Value.agg #[Value.int IntKind.i64 c0, Value.int IntKind.i64 c1, Value.int IntKind.i64 c2, Value.int IntKind.i64 c3], Value.pointer (some ⟨n + 1, 2, none⟩), Value.int IntKind.i64 z, Value.agg #[Value.int IntKind.i64 br, Value.int IntKind.i64 dr, Value.int IntKind.i64 jo, Value.int IntKind.i64 fa, Value.int IntKind.i64 la, Value.int IntKind.i64 dn], Value.agg #[Value.int IntKind.i64 l2, Value.int IntKind.i64 h2], undef, undef, undef, undef, undef, undef, undef], defers := [] }) (fun g wx => RB w n #[.int .i64 a0, .int .i64 a1, .int .i64 a2, .int .i64 a3, .int .i64 b0, .int .i64 b1, .int .i64 b2, .int .i64 b3, .int .i64 c0, .int .i64 c1, .int .i64 c2, .int .i64 c3] #[.int .i64 x, .int .i64 y, .int .i64 z] #[.int .i64 br, .int .i64 dr, .int .i64 jo, .int .i64 fa, .int .i64 la, .int .i64 dn] wx) ?_ (fun q3_ => ?_)
  · intro g wx hx
    have hR := hx
    clear hx
    obtain ⟨g0, g1, g2⟩ := g
    simp only at *
    have HR := hide hR
    clear hR
    refine wpAnyH_ready (rs := [18, 19, 20]) (by kernel_rfl) (by simp) ?_
    refine AllReadyH.cons rfl (fun K hK => ?_) ?_
    · go_simp
      have hb := (below_alloc wx (.cells #[.int .i64 0, .int .i64 0] 26))
      refine hK.out _ _ (HR.out.after hb).cells (fun hHeld => ?_)
      exact q3_0 (wx.heap.size, g1, g2) _ ⟨HR.out.after hb, SB.new HR.out⟩
    refine AllReadyH.cons rfl (fun K hK => ?_) ?_
    · go_simp
      have hb := (below_alloc wx (.cells #[.int .i64 0, .int .i64 0] 26))
      refine hK.out _ _ (HR.out.after hb).cells (fun hHeld => ?_)
      exact q3_1 (g0, wx.heap.size, g2) _ ⟨HR.out.after hb, SB.new HR.out⟩
    refine AllReadyH.cons rfl (fun K hK => ?_) ?_
    · go_simp
      have hb := (below_alloc wx (.cells #[.int .i64 0, .int .i64 0] 26))
      refine hK.out _ _ (HR.out.after hb).cells (fun hHeld => ?_)
      exact q3_2 (g0, g1, wx.heap.size) _ ⟨HR.out.after hb, SB.new HR.out⟩
    exact AllReadyH.nil
  refine memoF 7 #[true, true, true, true, true, false, true, true, true, true, true, false, true, true, true, true, true, false, true, true, false, false, false, false] (fun g => { tmps := #[Value.agg #[Value.int IntKind.i64 a0, Value.int IntKind.i64 a1, Value.int IntKind.i64 a2, Value.int IntKind.i64 a3, Value.int IntKind.i64 b0, Value.int IntKind.i64 b1, Value.int IntKind.i64 b2, Value.int IntKind.i64 b3, Value.int IntKind.i64 c0, Value.int IntKind.i64 c1, Value.int IntKind.i64 c2, Value.int IntKind.i64 c3], Value.agg #[Value.int IntKind.i64 x, Value.int IntKind.i64 y, Value.int IntKind.i64 z], Value.agg #[Value.int IntKind.i64 br, Value.int IntKind.i64 dr, Value.int IntKind.i64 jo, Value.int IntKind.i64 fa, Value.int IntKind.i64 la, Value.int IntKind.i64 dn], Value.pointer (some ⟨n, 0, none⟩), Value.pointer (some ⟨n + 1, 0, none⟩), Value.pointer (some ⟨n + 1 + 1, 0, none⟩), Value.pointer (some ⟨n + 1 + 1 + 1, 0, none⟩), Value.pointer (some ⟨g.1, 0, none⟩), Value.pointer (some ⟨g.2.1, 0, none⟩), undef, Value.pointer (some ⟨n, 0, none⟩), Value.agg #[Value.int IntKind.i64 a0, Value.int IntKind.i64 a1, Value.int IntKind.i64 a2, Value.int IntKind.i64 a3], Value.pointer (some ⟨n + 1, 0, none⟩), Value.int IntKind.i64 x, Value.agg #[Value.int IntKind.i64 br, Value.int IntKind.i64 dr, Value.int IntKind.i64 jo, Value.int IntKind.i64 fa, Value.int IntKind.i64 la, Value.int IntKind.i64 dn], undef, Value.pointer (some ⟨n, 4, none⟩), Value.agg #[Value.int IntKind.i64 b0, Value.int IntKind.i64 b1, Value.int IntKind.i64 b2, Value.int IntKind.i64 b3], Value.pointer (some ⟨n + 1, 1, none⟩), Value.int IntKind.i64 y, Value.agg #[Value.int IntKind.i64 br, Value.int IntKind.i64 dr, Value.int IntKind.i64 jo, Value.int IntKind.i64 fa, Value.int IntKind.i64 la, Value.int IntKind.i64 dn], undef, Value.pointer (some ⟨n, 8, none⟩), Value.agg #[Value.int IntKind.i64 c0, Value.int IntKind.i64 c1, Value.int IntKind.i64 c2, Value.int IntKind.i64 c3], Value.pointer (some ⟨n + 1, 2, none⟩), Value.int IntKind.i64 z, Value.agg #[Value.int IntKind.i64 br, Value.int IntKind.i64 dr, Value.int IntKind.i64 jo, Value.int IntKind.i64 fa, Value.int IntKind.i64 la, Value.int IntKind.i64 dn], undef, undef, undef, undef, undef, undef, undef, undef], defers := [] }) (fun g wx => RB w n #[.int .i64 a0, .int .i64 a1, .int .i64 a2, .int .i64 a3, .int .i64 b0, .int .i64 b1, .int .i64 b2, .int .i64 b3, .int .i64 c0, .int .i64 c1, .int .i64 c2, .int .i64 c3] #[.int .i64 x, .int .i64 y, .int .i64 z] #[.int .i64 br, .int .i64 dr, .int .i64 jo, .int .i64 fa, .int .i64 la, .int .i64 dn] wx ∧ SB n wx g.1 ∧ SB n wx g.2.1 ∧ g.1 ≠ g.2.1) ?_ (fun q0_01 => ?_)
  · intro g wx hx
    obtain ⟨hR, hz0, hz1, ne01⟩ := hx
    obtain ⟨g0, g1, g2⟩ := g
    simp only at *
    have HR := hide hR
    clear hR
    have HZ0 := hide hz0
    clear hz0
    have HZ1 := hide hz1
    clear hz1
    have NE01 := hide ne01
    clear ne01
    refine wpAnyH_ready (rs := [5, 20]) (by kernel_rfl) (by simp) ?_
    refine AllReadyH.cons rfl (fun K hK => ?_) ?_
    · go_simp
      refine (S0.out _).mono ?_
      rintro e wt ⟨rfl, hb⟩
      refine hK.out _ _ (HR.out.after hb).cells (fun hHeld => ?_)
      exact q1_01 (g0, g1, g2) wt ⟨HR.out.after hb, HZ0.out.after hb, HZ1.out.after hb, NE01.out⟩
    refine AllReadyH.cons rfl (fun K hK => ?_) ?_
    · go_simp
      have hb := (below_alloc wx (.cells #[.int .i64 0, .int .i64 0] 26))
      refine hK.out _ _ (HR.out.after hb).cells (fun hHeld => ?_)
      exact q0_012 (g0, g1, wx.heap.size) _ ⟨HR.out.after hb, HZ0.out.after hb, HZ1.out.after hb, SB.new HR.out, NE01.out, HZ0.out.ne, HZ1.out.ne⟩
    exact AllReadyH.nil
  refine memoF 7 #[true, true, true, true, true, false, true, true, true, true, true, false, true, true, true, true, true, false, true, false, true, false, false, false] (fun g => { tmps := #[Value.agg #[Value.int IntKind.i64 a0, Value.int IntKind.i64 a1, Value.int IntKind.i64 a2, Value.int IntKind.i64 a3, Value.int IntKind.i64 b0, Value.int IntKind.i64 b1, Value.int IntKind.i64 b2, Value.int IntKind.i64 b3, Value.int IntKind.i64 c0, Value.int IntKind.i64 c1, Value.int IntKind.i64 c2, Value.int IntKind.i64 c3], Value.agg #[Value.int IntKind.i64 x, Value.int IntKind.i64 y, Value.int IntKind.i64 z], Value.agg #[Value.int IntKind.i64 br, Value.int IntKind.i64 dr, Value.int IntKind.i64 jo, Value.int IntKind.i64 fa, Value.int IntKind.i64 la, Value.int IntKind.i64 dn], Value.pointer (some ⟨n, 0, none⟩), Value.pointer (some ⟨n + 1, 0, none⟩), Value.pointer (some ⟨n + 1 + 1, 0, none⟩), Value.pointer (some ⟨n + 1 + 1 + 1, 0, none⟩), Value.pointer (some ⟨g.1, 0, none⟩), undef, Value.pointer (some ⟨g.2.2, 0, none⟩), Value.pointer (some ⟨n, 0, none⟩), Value.agg #[Value.int IntKind.i64 a0, Value.int IntKind.i64 a1, Value.int IntKind.i64 a2, Value.int IntKind.i64 a3], Value.pointer (some ⟨n + 1, 0, none⟩), Value.int IntKind.i64 x, Value.agg #[Value.int IntKind.i64 br, Value.int IntKind.i64 dr, Value.int IntKind.i64 jo, Value.int IntKind.i64 fa, Value.int IntKind.i64 la, Value.int IntKind.i64 dn], undef, Value.pointer (some ⟨n, 4, none⟩), Value.agg #[Value.int IntKind.i64 b0, Value.int IntKind.i64 b1, Value.int IntKind.i64 b2, Value.int IntKind.i64 b3], Value.pointer (some ⟨n + 1, 1, none⟩), Value.int IntKind.i64 y, Value.agg #[Value.int IntKind.i64 br, Value.int IntKind.i64 dr, Value.int IntKind.i64 jo, Value.int IntKind.i64 fa, Value.int IntKind.i64 la, Value.int IntKind.i64 dn], undef, Value.pointer (some ⟨n, 8, none⟩), Value.agg #[Value.int IntKind.i64 c0, Value.int IntKind.i64 c1, Value.int IntKind.i64 c2, Value.int IntKind.i64 c3], Value.pointer (some ⟨n + 1, 2, none⟩), Value.int IntKind.i64 z, Value.agg #[Value.int IntKind.i64 br, Value.int IntKind.i64 dr, Value.int IntKind.i64 jo, Value.int IntKind.i64 fa, Value.int IntKind.i64 la, Value.int IntKind.i64 dn], undef, undef, undef, undef, undef, undef, undef, undef], defers := [] }) (fun g wx => RB w n #[.int .i64 a0, .int .i64 a1, .int .i64 a2, .int .i64 a3, .int .i64 b0, .int .i64 b1, .int .i64 b2, .int .i64 b3, .int .i64 c0, .int .i64 c1, .int .i64 c2, .int .i64 c3] #[.int .i64 x, .int .i64 y, .int .i64 z] #[.int .i64 br, .int .i64 dr, .int .i64 jo, .int .i64 fa, .int .i64 la, .int .i64 dn] wx ∧ SB n wx g.1 ∧ SB n wx g.2.2 ∧ g.1 ≠ g.2.2) ?_ (fun q0_02 => ?_)
  · intro g wx hx
    obtain ⟨hR, hz0, hz2, ne02⟩ := hx
    obtain ⟨g0, g1, g2⟩ := g
    simp only at *
    have HR := hide hR
    clear hR
    have HZ0 := hide hz0
    clear hz0
    have HZ2 := hide hz2
    clear hz2
    have NE02 := hide ne02
    clear ne02
    refine wpAnyH_ready (rs := [5, 19]) (by kernel_rfl) (by simp) ?_
    refine AllReadyH.cons rfl (fun K hK => ?_) ?_
    · go_simp
      refine (S0.out _).mono ?_
      rintro e wt ⟨rfl, hb⟩
      refine hK.out _ _ (HR.out.after hb).cells (fun hHeld => ?_)
      exact q1_02 (g0, g1, g2) wt ⟨HR.out.after hb, HZ0.out.after hb, HZ2.out.after hb, NE02.out⟩
    refine AllReadyH.cons rfl (fun K hK => ?_) ?_
    · go_simp
      have hb := (below_alloc wx (.cells #[.int .i64 0, .int .i64 0] 26))
      refine hK.out _ _ (HR.out.after hb).cells (fun hHeld => ?_)
      exact q0_012 (g0, wx.heap.size, g2) _ ⟨HR.out.after hb, HZ0.out.after hb, SB.new HR.out, HZ2.out.after hb, HZ0.out.ne, NE02.out, Ne.symm HZ2.out.ne⟩
    exact AllReadyH.nil
  refine memoF 7 #[true, true, true, true, true, false, true, true, true, true, true, false, true, true, true, true, true, false, false, true, true, false, false, false] (fun g => { tmps := #[Value.agg #[Value.int IntKind.i64 a0, Value.int IntKind.i64 a1, Value.int IntKind.i64 a2, Value.int IntKind.i64 a3, Value.int IntKind.i64 b0, Value.int IntKind.i64 b1, Value.int IntKind.i64 b2, Value.int IntKind.i64 b3, Value.int IntKind.i64 c0, Value.int IntKind.i64 c1, Value.int IntKind.i64 c2, Value.int IntKind.i64 c3], Value.agg #[Value.int IntKind.i64 x, Value.int IntKind.i64 y, Value.int IntKind.i64 z], Value.agg #[Value.int IntKind.i64 br, Value.int IntKind.i64 dr, Value.int IntKind.i64 jo, Value.int IntKind.i64 fa, Value.int IntKind.i64 la, Value.int IntKind.i64 dn], Value.pointer (some ⟨n, 0, none⟩), Value.pointer (some ⟨n + 1, 0, none⟩), Value.pointer (some ⟨n + 1 + 1, 0, none⟩), Value.pointer (some ⟨n + 1 + 1 + 1, 0, none⟩), undef, Value.pointer (some ⟨g.2.1, 0, none⟩), Value.pointer (some ⟨g.2.2, 0, none⟩), Value.pointer (some ⟨n, 0, none⟩), Value.agg #[Value.int IntKind.i64 a0, Value.int IntKind.i64 a1, Value.int IntKind.i64 a2, Value.int IntKind.i64 a3], Value.pointer (some ⟨n + 1, 0, none⟩), Value.int IntKind.i64 x, Value.agg #[Value.int IntKind.i64 br, Value.int IntKind.i64 dr, Value.int IntKind.i64 jo, Value.int IntKind.i64 fa, Value.int IntKind.i64 la, Value.int IntKind.i64 dn], undef, Value.pointer (some ⟨n, 4, none⟩), Value.agg #[Value.int IntKind.i64 b0, Value.int IntKind.i64 b1, Value.int IntKind.i64 b2, Value.int IntKind.i64 b3], Value.pointer (some ⟨n + 1, 1, none⟩), Value.int IntKind.i64 y, Value.agg #[Value.int IntKind.i64 br, Value.int IntKind.i64 dr, Value.int IntKind.i64 jo, Value.int IntKind.i64 fa, Value.int IntKind.i64 la, Value.int IntKind.i64 dn], undef, Value.pointer (some ⟨n, 8, none⟩), Value.agg #[Value.int IntKind.i64 c0, Value.int IntKind.i64 c1, Value.int IntKind.i64 c2, Value.int IntKind.i64 c3], Value.pointer (some ⟨n + 1, 2, none⟩), Value.int IntKind.i64 z, Value.agg #[Value.int IntKind.i64 br, Value.int IntKind.i64 dr, Value.int IntKind.i64 jo, Value.int IntKind.i64 fa, Value.int IntKind.i64 la, Value.int IntKind.i64 dn], undef, undef, undef, undef, undef, undef, undef, undef], defers := [] }) (fun g wx => RB w n #[.int .i64 a0, .int .i64 a1, .int .i64 a2, .int .i64 a3, .int .i64 b0, .int .i64 b1, .int .i64 b2, .int .i64 b3, .int .i64 c0, .int .i64 c1, .int .i64 c2, .int .i64 c3] #[.int .i64 x, .int .i64 y, .int .i64 z] #[.int .i64 br, .int .i64 dr, .int .i64 jo, .int .i64 fa, .int .i64 la, .int .i64 dn] wx ∧ SB n wx g.2.1 ∧ SB n wx g.2.2 ∧ g.2.1 ≠ g.2.2) ?_ (fun q0_12 => ?_)
  · intro g wx hx
    obtain ⟨hR, hz1, hz2, ne12⟩ := hx
    obtain ⟨g0, g1, g2⟩ := g
    simp only at *
    have HR := hide hR
    clear hR
    have HZ1 := hide hz1
    clear hz1
    have HZ2 := hide hz2
    clear hz2
    have NE12 := hide ne12
    clear ne12
    refine wpAnyH_ready (rs := [5, 18]) (by kernel_rfl) (by simp) ?_
    refine AllReadyH.cons rfl (fun K hK => ?_) ?_
    · go_simp
      refine (S0.out _).mono ?_
      rintro e wt ⟨rfl, hb⟩
      refine hK.out _ _ (HR.out.after hb).cells (fun hHeld => ?_)
      exact q1_12 (g0, g1, g2) wt ⟨HR.out.after hb, HZ1.out.after hb, HZ2.out.after hb, NE12.out⟩
    refine AllReadyH.cons rfl (fun K hK => ?_) ?_
    · go_simp
      have hb := (below_alloc wx (.cells #[.int .i64 0, .int .i64 0] 26))
      refine hK.out _ _ (HR.out.after hb).cells (fun hHeld => ?_)
      exact q0_012 (wx.heap.size, g1, g2) _ ⟨HR.out.after hb, SB.new HR.out, HZ1.out.after hb, HZ2.out.after hb, Ne.symm HZ1.out.ne, Ne.symm HZ2.out.ne, NE12.out⟩
    exact AllReadyH.nil
  refine memoF 7 #[true, true, true, true, true, true, true, true, true, true, true, false, true, true, true, true, true, false, true, false, false, false, false, false] (fun g => { tmps := #[Value.agg #[Value.int IntKind.i64 a0, Value.int IntKind.i64 a1, Value.int IntKind.i64 a2, Value.int IntKind.i64 a3, Value.int IntKind.i64 b0, Value.int IntKind.i64 b1, Value.int IntKind.i64 b2, Value.int IntKind.i64 b3, Value.int IntKind.i64 c0, Value.int IntKind.i64 c1, Value.int IntKind.i64 c2, Value.int IntKind.i64 c3], Value.agg #[Value.int IntKind.i64 x, Value.int IntKind.i64 y, Value.int IntKind.i64 z], Value.agg #[Value.int IntKind.i64 br, Value.int IntKind.i64 dr, Value.int IntKind.i64 jo, Value.int IntKind.i64 fa, Value.int IntKind.i64 la, Value.int IntKind.i64 dn], Value.pointer (some ⟨n, 0, none⟩), Value.pointer (some ⟨n + 1, 0, none⟩), Value.pointer (some ⟨n + 1 + 1, 0, none⟩), Value.pointer (some ⟨n + 1 + 1 + 1, 0, none⟩), Value.pointer (some ⟨g.1, 0, none⟩), undef, undef, Value.pointer (some ⟨n, 0, none⟩), Value.agg #[Value.int IntKind.i64 a0, Value.int IntKind.i64 a1, Value.int IntKind.i64 a2, Value.int IntKind.i64 a3], Value.pointer (some ⟨n + 1, 0, none⟩), Value.int IntKind.i64 x, Value.agg #[Value.int IntKind.i64 br, Value.int IntKind.i64 dr, Value.int IntKind.i64 jo, Value.int IntKind.i64 fa, Value.int IntKind.i64 la, Value.int IntKind.i64 dn], Value.agg #[Value.int IntKind.i64 l0, Value.int IntKind.i64 h0], Value.pointer (some ⟨n, 4, none⟩), Value.agg #[Value.int IntKind.i64 b0, Value.int IntKind.i64 b1, Value.int IntKind.i64 b2, Value.int IntKind.i64 b3], Value.pointer (some ⟨n + 1, 1, none⟩), Value.int IntKind.i64 y, Value.agg #[Value.int IntKind.i64 br, Value.int IntKind.i64 dr, Value.int IntKind.i64 jo, Value.int IntKind.i64 fa, Value.int IntKind.i64 la, Value.int IntKind.i64 dn], undef, Value.pointer (some ⟨n, 8, none⟩), Value.agg #[Value.int IntKind.i64 c0, Value.int IntKind.i64 c1, Value.int IntKind.i64 c2, Value.int IntKind.i64 c3], Value.pointer (some ⟨n + 1, 2, none⟩), Value.int IntKind.i64 z, Value.agg #[Value.int IntKind.i64 br, Value.int IntKind.i64 dr, Value.int IntKind.i64 jo, Value.int IntKind.i64 fa, Value.int IntKind.i64 la, Value.int IntKind.i64 dn], undef, undef, undef, undef, undef, undef, undef, undef], defers := [] }) (fun g wx => RB w n #[.int .i64 a0, .int .i64 a1, .int .i64 a2, .int .i64 a3, .int .i64 b0, .int .i64 b1, .int .i64 b2, .int .i64 b3, .int .i64 c0, .int .i64 c1, .int .i64 c2, .int .i64 c3] #[.int .i64 x, .int .i64 y, .int .i64 z] #[.int .i64 br, .int .i64 dr, .int .i64 jo, .int .i64 fa, .int .i64 la, .int .i64 dn] wx ∧ SB n wx g.1) ?_ (fun q1_0 => ?_)
  · intro g wx hx
    obtain ⟨hR, hz0⟩ := hx
    obtain ⟨g0, g1, g2⟩ := g
    simp only at *
    have HR := hide hR
    clear hR
    have HZ0 := hide hz0
    clear hz0
    refine wpAnyH_ready (rs := [11, 19, 20]) (by kernel_rfl) (by simp) ?_
    refine AllReadyH.cons rfl (fun K hK => ?_) ?_
    · go_simp
      refine (S1.out _).mono ?_
      rintro e wt ⟨rfl, hb⟩
      refine hK.out _ _ (HR.out.after hb).cells (fun hHeld => ?_)
      exact q2_0 (g0, g1, g2) wt ⟨HR.out.after hb, HZ0.out.after hb⟩
    refine AllReadyH.cons rfl (fun K hK => ?_) ?_
    · go_simp
      have hb := (below_alloc wx (.cells #[.int .i64 0, .int .i64 0] 26))
      refine hK.out _ _ (HR.out.after hb).cells (fun hHeld => ?_)
      exact q1_01 (g0, wx.heap.size, g2) _ ⟨HR.out.after hb, HZ0.out.after hb, SB.new HR.out, HZ0.out.ne⟩
    refine AllReadyH.cons rfl (fun K hK => ?_) ?_
    · go_simp
      have hb := (below_alloc wx (.cells #[.int .i64 0, .int .i64 0] 26))
      refine hK.out _ _ (HR.out.after hb).cells (fun hHeld => ?_)
      exact q1_02 (g0, g1, wx.heap.size) _ ⟨HR.out.after hb, HZ0.out.after hb, SB.new HR.out, HZ0.out.ne⟩
    exact AllReadyH.nil
  refine memoF 7 #[true, true, true, true, true, true, true, true, true, true, true, false, true, true, true, true, true, false, false, true, false, false, false, false] (fun g => { tmps := #[Value.agg #[Value.int IntKind.i64 a0, Value.int IntKind.i64 a1, Value.int IntKind.i64 a2, Value.int IntKind.i64 a3, Value.int IntKind.i64 b0, Value.int IntKind.i64 b1, Value.int IntKind.i64 b2, Value.int IntKind.i64 b3, Value.int IntKind.i64 c0, Value.int IntKind.i64 c1, Value.int IntKind.i64 c2, Value.int IntKind.i64 c3], Value.agg #[Value.int IntKind.i64 x, Value.int IntKind.i64 y, Value.int IntKind.i64 z], Value.agg #[Value.int IntKind.i64 br, Value.int IntKind.i64 dr, Value.int IntKind.i64 jo, Value.int IntKind.i64 fa, Value.int IntKind.i64 la, Value.int IntKind.i64 dn], Value.pointer (some ⟨n, 0, none⟩), Value.pointer (some ⟨n + 1, 0, none⟩), Value.pointer (some ⟨n + 1 + 1, 0, none⟩), Value.pointer (some ⟨n + 1 + 1 + 1, 0, none⟩), undef, Value.pointer (some ⟨g.2.1, 0, none⟩), undef, Value.pointer (some ⟨n, 0, none⟩), Value.agg #[Value.int IntKind.i64 a0, Value.int IntKind.i64 a1, Value.int IntKind.i64 a2, Value.int IntKind.i64 a3], Value.pointer (some ⟨n + 1, 0, none⟩), Value.int IntKind.i64 x, Value.agg #[Value.int IntKind.i64 br, Value.int IntKind.i64 dr, Value.int IntKind.i64 jo, Value.int IntKind.i64 fa, Value.int IntKind.i64 la, Value.int IntKind.i64 dn], Value.agg #[Value.int IntKind.i64 l0, Value.int IntKind.i64 h0], Value.pointer (some ⟨n, 4, none⟩), Value.agg #[Value.int IntKind.i64 b0, Value.int IntKind.i64 b1, Value.int IntKind.i64 b2, Value.int IntKind.i64 b3], Value.pointer (some ⟨n + 1, 1, none⟩), Value.int IntKind.i64 y, Value.agg #[Value.int IntKind.i64 br, Value.int IntKind.i64 dr, Value.int IntKind.i64 jo, Value.int IntKind.i64 fa, Value.int IntKind.i64 la, Value.int IntKind.i64 dn], undef, Value.pointer (some ⟨n, 8, none⟩), Value.agg #[Value.int IntKind.i64 c0, Value.int IntKind.i64 c1, Value.int IntKind.i64 c2, Value.int IntKind.i64 c3], Value.pointer (some ⟨n + 1, 2, none⟩), Value.int IntKind.i64 z, Value.agg #[Value.int IntKind.i64 br, Value.int IntKind.i64 dr, Value.int IntKind.i64 jo, Value.int IntKind.i64 fa, Value.int IntKind.i64 la, Value.int IntKind.i64 dn], undef, undef, undef, undef, undef, undef, undef, undef], defers := [] }) (fun g wx => RB w n #[.int .i64 a0, .int .i64 a1, .int .i64 a2, .int .i64 a3, .int .i64 b0, .int .i64 b1, .int .i64 b2, .int .i64 b3, .int .i64 c0, .int .i64 c1, .int .i64 c2, .int .i64 c3] #[.int .i64 x, .int .i64 y, .int .i64 z] #[.int .i64 br, .int .i64 dr, .int .i64 jo, .int .i64 fa, .int .i64 la, .int .i64 dn] wx ∧ SB n wx g.2.1) ?_ (fun q1_1 => ?_)
  · intro g wx hx
    obtain ⟨hR, hz1⟩ := hx
    obtain ⟨g0, g1, g2⟩ := g
    simp only at *
    have HR := hide hR
    clear hR
    have HZ1 := hide hz1
    clear hz1
    refine wpAnyH_ready (rs := [11, 18, 20]) (by kernel_rfl) (by simp) ?_
    refine AllReadyH.cons rfl (fun K hK => ?_) ?_
    · go_simp
      refine (S1.out _).mono ?_
      rintro e wt ⟨rfl, hb⟩
      refine hK.out _ _ (HR.out.after hb).cells (fun hHeld => ?_)
      exact q2_1 (g0, g1, g2) wt ⟨HR.out.after hb, HZ1.out.after hb⟩
    refine AllReadyH.cons rfl (fun K hK => ?_) ?_
    · go_simp
      have hb := (below_alloc wx (.cells #[.int .i64 0, .int .i64 0] 26))
      refine hK.out _ _ (HR.out.after hb).cells (fun hHeld => ?_)
      exact q1_01 (wx.heap.size, g1, g2) _ ⟨HR.out.after hb, SB.new HR.out, HZ1.out.after hb, Ne.symm HZ1.out.ne⟩
    refine AllReadyH.cons rfl (fun K hK => ?_) ?_
    · go_simp
      have hb := (below_alloc wx (.cells #[.int .i64 0, .int .i64 0] 26))
      refine hK.out _ _ (HR.out.after hb).cells (fun hHeld => ?_)
      exact q1_12 (g0, g1, wx.heap.size) _ ⟨HR.out.after hb, HZ1.out.after hb, SB.new HR.out, HZ1.out.ne⟩
    exact AllReadyH.nil
  refine memoF 7 #[true, true, true, true, true, true, true, true, true, true, true, false, true, true, true, true, true, false, false, false, true, false, false, false] (fun g => { tmps := #[Value.agg #[Value.int IntKind.i64 a0, Value.int IntKind.i64 a1, Value.int IntKind.i64 a2, Value.int IntKind.i64 a3, Value.int IntKind.i64 b0, Value.int IntKind.i64 b1, Value.int IntKind.i64 b2, Value.int IntKind.i64 b3, Value.int IntKind.i64 c0, Value.int IntKind.i64 c1, Value.int IntKind.i64 c2, Value.int IntKind.i64 c3], Value.agg #[Value.int IntKind.i64 x, Value.int IntKind.i64 y, Value.int IntKind.i64 z], Value.agg #[Value.int IntKind.i64 br, Value.int IntKind.i64 dr, Value.int IntKind.i64 jo, Value.int IntKind.i64 fa, Value.int IntKind.i64 la, Value.int IntKind.i64 dn], Value.pointer (some ⟨n, 0, none⟩), Value.pointer (some ⟨n + 1, 0, none⟩), Value.pointer (some ⟨n + 1 + 1, 0, none⟩), Value.pointer (some ⟨n + 1 + 1 + 1, 0, none⟩), undef, undef, Value.pointer (some ⟨g.2.2, 0, none⟩), Value.pointer (some ⟨n, 0, none⟩), Value.agg #[Value.int IntKind.i64 a0, Value.int IntKind.i64 a1, Value.int IntKind.i64 a2, Value.int IntKind.i64 a3], Value.pointer (some ⟨n + 1, 0, none⟩), Value.int IntKind.i64 x, Value.agg #[Value.int IntKind.i64 br, Value.int IntKind.i64 dr, Value.int IntKind.i64 jo, Value.int IntKind.i64 fa, Value.int IntKind.i64 la, Value.int IntKind.i64 dn], Value.agg #[Value.int IntKind.i64 l0, Value.int IntKind.i64 h0], Value.pointer (some ⟨n, 4, none⟩), Value.agg #[Value.int IntKind.i64 b0, Value.int IntKind.i64 b1, Value.int IntKind.i64 b2, Value.int IntKind.i64 b3], Value.pointer (some ⟨n + 1, 1, none⟩), Value.int IntKind.i64 y, Value.agg #[Value.int IntKind.i64 br, Value.int IntKind.i64 dr, Value.int IntKind.i64 jo, Value.int IntKind.i64 fa, Value.int IntKind.i64 la, Value.int IntKind.i64 dn], undef, Value.pointer (some ⟨n, 8, none⟩), Value.agg #[Value.int IntKind.i64 c0, Value.int IntKind.i64 c1, Value.int IntKind.i64 c2, Value.int IntKind.i64 c3], Value.pointer (some ⟨n + 1, 2, none⟩), Value.int IntKind.i64 z, Value.agg #[Value.int IntKind.i64 br, Value.int IntKind.i64 dr, Value.int IntKind.i64 jo, Value.int IntKind.i64 fa, Value.int IntKind.i64 la, Value.int IntKind.i64 dn], undef, undef, undef, undef, undef, undef, undef, undef], defers := [] }) (fun g wx => RB w n #[.int .i64 a0, .int .i64 a1, .int .i64 a2, .int .i64 a3, .int .i64 b0, .int .i64 b1, .int .i64 b2, .int .i64 b3, .int .i64 c0, .int .i64 c1, .int .i64 c2, .int .i64 c3] #[.int .i64 x, .int .i64 y, .int .i64 z] #[.int .i64 br, .int .i64 dr, .int .i64 jo, .int .i64 fa, .int .i64 la, .int .i64 dn] wx ∧ SB n wx g.2.2) ?_ (fun q1_2 => ?_)
  · intro g wx hx
    obtain ⟨hR, hz2⟩ := hx
    obtain ⟨g0, g1, g2⟩ := g
    simp only at *
    have HR := hide hR
    clear hR
    have HZ2 := hide hz2
    clear hz2
    refine wpAnyH_ready (rs := [11, 18, 19]) (by kernel_rfl) (by simp) ?_
    refine AllReadyH.cons rfl (fun K hK => ?_) ?_
    · go_simp
      refine (S1.out _).mono ?_
      rintro e wt ⟨rfl, hb⟩
      refine hK.out _ _ (HR.out.after hb).cells (fun hHeld => ?_)
      exact q2_2 (g0, g1, g2) wt ⟨HR.out.after hb, HZ2.out.after hb⟩
    refine AllReadyH.cons rfl (fun K hK => ?_) ?_
    · go_simp
      have hb := (below_alloc wx (.cells #[.int .i64 0, .int .i64 0] 26))
      refine hK.out _ _ (HR.out.after hb).cells (fun hHeld => ?_)
      exact q1_02 (wx.heap.size, g1, g2) _ ⟨HR.out.after hb, SB.new HR.out, HZ2.out.after hb, Ne.symm HZ2.out.ne⟩
    refine AllReadyH.cons rfl (fun K hK => ?_) ?_
    · go_simp
      have hb := (below_alloc wx (.cells #[.int .i64 0, .int .i64 0] 26))
      refine hK.out _ _ (HR.out.after hb).cells (fun hHeld => ?_)
      exact q1_12 (g0, wx.heap.size, g2) _ ⟨HR.out.after hb, SB.new HR.out, HZ2.out.after hb, Ne.symm HZ2.out.ne⟩
    exact AllReadyH.nil
  refine memoF 7 #[true, true, true, true, true, true, true, true, true, true, true, true, true, true, true, true, true, false, false, false, false, false, false, false] (fun g => { tmps := #[Value.agg #[Value.int IntKind.i64 a0, Value.int IntKind.i64 a1, Value.int IntKind.i64 a2, Value.int IntKind.i64 a3, Value.int IntKind.i64 b0, Value.int IntKind.i64 b1, Value.int IntKind.i64 b2, Value.int IntKind.i64 b3, Value.int IntKind.i64 c0, Value.int IntKind.i64 c1, Value.int IntKind.i64 c2, Value.int IntKind.i64 c3], Value.agg #[Value.int IntKind.i64 x, Value.int IntKind.i64 y, Value.int IntKind.i64 z], Value.agg #[Value.int IntKind.i64 br, Value.int IntKind.i64 dr, Value.int IntKind.i64 jo, Value.int IntKind.i64 fa, Value.int IntKind.i64 la, Value.int IntKind.i64 dn], Value.pointer (some ⟨n, 0, none⟩), Value.pointer (some ⟨n + 1, 0, none⟩), Value.pointer (some ⟨n + 1 + 1, 0, none⟩), Value.pointer (some ⟨n + 1 + 1 + 1, 0, none⟩), undef, undef, undef, Value.pointer (some ⟨n, 0, none⟩), Value.agg #[Value.int IntKind.i64 a0, Value.int IntKind.i64 a1, Value.int IntKind.i64 a2, Value.int IntKind.i64 a3], Value.pointer (some ⟨n + 1, 0, none⟩), Value.int IntKind.i64 x, Value.agg #[Value.int IntKind.i64 br, Value.int IntKind.i64 dr, Value.int IntKind.i64 jo, Value.int IntKind.i64 fa, Value.int IntKind.i64 la, Value.int IntKind.i64 dn], Value.agg #[Value.int IntKind.i64 l0, Value.int IntKind.i64 h0], Value.pointer (some ⟨n, 4, none⟩), Value.agg #[Value.int IntKind.i64 b0, Value.int IntKind.i64 b1, Value.int IntKind.i64 b2, Value.int IntKind.i64 b3], Value.pointer (some ⟨n + 1, 1, none⟩), Value.int IntKind.i64 y, Value.agg #[Value.int IntKind.i64 br, Value.int IntKind.i64 dr, Value.int IntKind.i64 jo, Value.int IntKind.i64 fa, Value.int IntKind.i64 la, Value.int IntKind.i64 dn], Value.agg #[Value.int IntKind.i64 l1, Value.int IntKind.i64 h1], Value.pointer (some ⟨n, 8, none⟩), Value.agg #[Value.int IntKind.i64 c0, Value.int IntKind.i64 c1, Value.int IntKind.i64 c2, Value.int IntKind.i64 c3], Value.pointer (some ⟨n + 1, 2, none⟩), Value.int IntKind.i64 z, Value.agg #[Value.int IntKind.i64 br, Value.int IntKind.i64 dr, Value.int IntKind.i64 jo, Value.int IntKind.i64 fa, Value.int IntKind.i64 la, Value.int IntKind.i64 dn], undef, undef, undef, undef, undef, undef, undef, undef], defers := [] }) (fun g wx => RB w n #[.int .i64 a0, .int .i64 a1, .int .i64 a2, .int .i64 a3, .int .i64 b0, .int .i64 b1, .int .i64 b2, .int .i64 b3, .int .i64 c0, .int .i64 c1, .int .i64 c2, .int .i64 c3] #[.int .i64 x, .int .i64 y, .int .i64 z] #[.int .i64 br, .int .i64 dr, .int .i64 jo, .int .i64 fa, .int .i64 la, .int .i64 dn] wx) ?_ (fun q2_ => ?_)
  · intro g wx hx
    have hR := hx
    clear hx
    obtain ⟨g0, g1, g2⟩ := g
    simp only at *
    have HR := hide hR
    clear hR
    refine wpAnyH_ready (rs := [17, 18, 19, 20]) (by kernel_rfl) (by simp) ?_
    refine AllReadyH.cons rfl (fun K hK => ?_) ?_
    · go_simp
      refine (S2.out _).mono ?_
      rintro e wt ⟨rfl, hb⟩
      refine hK.out _ _ (HR.out.after hb).cells (fun hHeld => ?_)
      exact q3_ (g0, g1, g2) wt (HR.out.after hb)
    refine AllReadyH.cons rfl (fun K hK => ?_) ?_
    · go_simp
      have hb := (below_alloc wx (.cells #[.int .i64 0, .int .i64 0] 26))
      refine hK.out _ _ (HR.out.after hb).cells (fun hHeld => ?_)
      exact q2_0 (wx.heap.size, g1, g2) _ ⟨HR.out.after hb, SB.new HR.out⟩
    refine AllReadyH.cons rfl (fun K hK => ?_) ?_
    · go_simp
      have hb := (below_alloc wx (.cells #[.int .i64 0, .int .i64 0] 26))
      refine hK.out _ _ (HR.out.after hb).cells (fun hHeld => ?_)
      exact q2_1 (g0, wx.heap.size, g2) _ ⟨HR.out.after hb, SB.new HR.out⟩
    refine AllReadyH.cons rfl (fun K hK => ?_) ?_
    · go_simp
      have hb := (below_alloc wx (.cells #[.int .i64 0, .int .i64 0] 26))
      refine hK.out _ _ (HR.out.after hb).cells (fun hHeld => ?_)
      exact q2_2 (g0, g1, wx.heap.size) _ ⟨HR.out.after hb, SB.new HR.out⟩
    exact AllReadyH.nil
  refine memoF 8 #[true, true, true, true, true, false, true, true, true, true, true, false, true, true, true, true, true, false, true, false, false, false, false, false] (fun g => { tmps := #[Value.agg #[Value.int IntKind.i64 a0, Value.int IntKind.i64 a1, Value.int IntKind.i64 a2, Value.int IntKind.i64 a3, Value.int IntKind.i64 b0, Value.int IntKind.i64 b1, Value.int IntKind.i64 b2, Value.int IntKind.i64 b3, Value.int IntKind.i64 c0, Value.int IntKind.i64 c1, Value.int IntKind.i64 c2, Value.int IntKind.i64 c3], Value.agg #[Value.int IntKind.i64 x, Value.int IntKind.i64 y, Value.int IntKind.i64 z], Value.agg #[Value.int IntKind.i64 br, Value.int IntKind.i64 dr, Value.int IntKind.i64 jo, Value.int IntKind.i64 fa, Value.int IntKind.i64 la, Value.int IntKind.i64 dn], Value.pointer (some ⟨n, 0, none⟩), Value.pointer (some ⟨n + 1, 0, none⟩), Value.pointer (some ⟨n + 1 + 1, 0, none⟩), Value.pointer (some ⟨n + 1 + 1 + 1, 0, none⟩), Value.pointer (some ⟨g.1, 0, none⟩), undef, undef, Value.pointer (some ⟨n, 0, none⟩), Value.agg #[Value.int IntKind.i64 a0, Value.int IntKind.i64 a1, Value.int IntKind.i64 a2, Value.int IntKind.i64 a3], Value.pointer (some ⟨n + 1, 0, none⟩), Value.int IntKind.i64 x, Value.agg #[Value.int IntKind.i64 br, Value.int IntKind.i64 dr, Value.int IntKind.i64 jo, Value.int IntKind.i64 fa, Value.int IntKind.i64 la, Value.int IntKind.i64 dn], undef, Value.pointer (some ⟨n, 4, none⟩), Value.agg #[Value.int IntKind.i64 b0, Value.int IntKind.i64 b1, Value.int IntKind.i64 b2, Value.int IntKind.i64 b3], Value.pointer (some ⟨n + 1, 1, none⟩), Value.int IntKind.i64 y, Value.agg #[Value.int IntKind.i64 br, Value.int IntKind.i64 dr, Value.int IntKind.i64 jo, Value.int IntKind.i64 fa, Value.int IntKind.i64 la, Value.int IntKind.i64 dn], undef, Value.pointer (some ⟨n, 8, none⟩), Value.agg #[Value.int IntKind.i64 c0, Value.int IntKind.i64 c1, Value.int IntKind.i64 c2, Value.int IntKind.i64 c3], Value.pointer (some ⟨n + 1, 2, none⟩), Value.int IntKind.i64 z, Value.agg #[Value.int IntKind.i64 br, Value.int IntKind.i64 dr, Value.int IntKind.i64 jo, Value.int IntKind.i64 fa, Value.int IntKind.i64 la, Value.int IntKind.i64 dn], undef, undef, undef, undef, undef, undef, undef, undef], defers := [] }) (fun g wx => RB w n #[.int .i64 a0, .int .i64 a1, .int .i64 a2, .int .i64 a3, .int .i64 b0, .int .i64 b1, .int .i64 b2, .int .i64 b3, .int .i64 c0, .int .i64 c1, .int .i64 c2, .int .i64 c3] #[.int .i64 x, .int .i64 y, .int .i64 z] #[.int .i64 br, .int .i64 dr, .int .i64 jo, .int .i64 fa, .int .i64 la, .int .i64 dn] wx ∧ SB n wx g.1) ?_ (fun q0_0 => ?_)
  · intro g wx hx
    obtain ⟨hR, hz0⟩ := hx
    obtain ⟨g0, g1, g2⟩ := g
    simp only at *
    have HR := hide hR
    clear hR
    have HZ0 := hide hz0
    clear hz0
    refine wpAnyH_ready (rs := [5, 19, 20]) (by kernel_rfl) (by simp) ?_
    refine AllReadyH.cons rfl (fun K hK => ?_) ?_
    · go_simp
      refine (S0.out _).mono ?_
      rintro e wt ⟨rfl, hb⟩
      refine hK.out _ _ (HR.out.after hb).cells (fun hHeld => ?_)
      exact q1_0 (g0, g1, g2) wt ⟨HR.out.after hb, HZ0.out.after hb⟩
    refine AllReadyH.cons rfl (fun K hK => ?_) ?_
    · go_simp
      have hb := (below_alloc wx (.cells #[.int .i64 0, .int .i64 0] 26))
      refine hK.out _ _ (HR.out.after hb).cells (fun hHeld => ?_)
      exact q0_01 (g0, wx.heap.size, g2) _ ⟨HR.out.after hb, HZ0.out.after hb, SB.new HR.out, HZ0.out.ne⟩
    refine AllReadyH.cons rfl (fun K hK => ?_) ?_
    · go_simp
      have hb := (below_alloc wx (.cells #[.int .i64 0, .int .i64 0] 26))
      refine hK.out _ _ (HR.out.after hb).cells (fun hHeld => ?_)
      exact q0_02 (g0, g1, wx.heap.size) _ ⟨HR.out.after hb, HZ0.out.after hb, SB.new HR.out, HZ0.out.ne⟩
    exact AllReadyH.nil
  refine memoF 8 #[true, true, true, true, true, false, true, true, true, true, true, false, true, true, true, true, true, false, false, true, false, false, false, false] (fun g => { tmps := #[Value.agg #[Value.int IntKind.i64 a0, Value.int IntKind.i64 a1, Value.int IntKind.i64 a2, Value.int IntKind.i64 a3, Value.int IntKind.i64 b0, Value.int IntKind.i64 b1, Value.int IntKind.i64 b2, Value.int IntKind.i64 b3, Value.int IntKind.i64 c0, Value.int IntKind.i64 c1, Value.int IntKind.i64 c2, Value.int IntKind.i64 c3], Value.agg #[Value.int IntKind.i64 x, Value.int IntKind.i64 y, Value.int IntKind.i64 z], Value.agg #[Value.int IntKind.i64 br, Value.int IntKind.i64 dr, Value.int IntKind.i64 jo, Value.int IntKind.i64 fa, Value.int IntKind.i64 la, Value.int IntKind.i64 dn], Value.pointer (some ⟨n, 0, none⟩), Value.pointer (some ⟨n + 1, 0, none⟩), Value.pointer (some ⟨n + 1 + 1, 0, none⟩), Value.pointer (some ⟨n + 1 + 1 + 1, 0, none⟩), undef, Value.pointer (some ⟨g.2.1, 0, none⟩), undef, Value.pointer (some ⟨n, 0, none⟩), Value.agg #[Value.int IntKind.i64 a0, Value.int IntKind.i64 a1, Value.int IntKind.i64 a2, Value.int IntKind.i64 a3], Value.pointer (some ⟨n + 1, 0, none⟩), Value.int IntKind.i64 x, Value.agg #[Value.int IntKind.i64 br, Value.int IntKind.i64 dr, Value.int IntKind.i64 jo, Value.int IntKind.i64 fa, Value.int IntKind.i64 la, Value.int IntKind.i64 dn], undef, Value.pointer (some ⟨n, 4, none⟩), Value.agg #[Value.int IntKind.i64 b0, Value.int IntKind.i64 b1, Value.int IntKind.i64 b2, Value.int IntKind.i64 b3], Value.pointer (some ⟨n + 1, 1, none⟩), Value.int IntKind.i64 y, Value.agg #[Value.int IntKind.i64 br, Value.int IntKind.i64 dr, Value.int IntKind.i64 jo, Value.int IntKind.i64 fa, Value.int IntKind.i64 la, Value.int IntKind.i64 dn], undef, Value.pointer (some ⟨n, 8, none⟩), Value.agg #[Value.int IntKind.i64 c0, Value.int IntKind.i64 c1, Value.int IntKind.i64 c2, Value.int IntKind.i64 c3], Value.pointer (some ⟨n + 1, 2, none⟩), Value.int IntKind.i64 z, Value.agg #[Value.int IntKind.i64 br, Value.int IntKind.i64 dr, Value.int IntKind.i64 jo, Value.int IntKind.i64 fa, Value.int IntKind.i64 la, Value.int IntKind.i64 dn], undef, undef, undef, undef, undef, undef, undef, undef], defers := [] }) (fun g wx => RB w n #[.int .i64 a0, .int .i64 a1, .int .i64 a2, .int .i64 a3, .int .i64 b0, .int .i64 b1, .int .i64 b2, .int .i64 b3, .int .i64 c0, .int .i64 c1, .int .i64 c2, .int .i64 c3] #[.int .i64 x, .int .i64 y, .int .i64 z] #[.int .i64 br, .int .i64 dr, .int .i64 jo, .int .i64 fa, .int .i64 la, .int .i64 dn] wx ∧ SB n wx g.2.1) ?_ (fun q0_1 => ?_)
  · intro g wx hx
    obtain ⟨hR, hz1⟩ := hx
    obtain ⟨g0, g1, g2⟩ := g
    simp only at *
    have HR := hide hR
    clear hR
    have HZ1 := hide hz1
    clear hz1
    refine wpAnyH_ready (rs := [5, 18, 20]) (by kernel_rfl) (by simp) ?_
    refine AllReadyH.cons rfl (fun K hK => ?_) ?_
    · go_simp
      refine (S0.out _).mono ?_
      rintro e wt ⟨rfl, hb⟩
      refine hK.out _ _ (HR.out.after hb).cells (fun hHeld => ?_)
      exact q1_1 (g0, g1, g2) wt ⟨HR.out.after hb, HZ1.out.after hb⟩
    refine AllReadyH.cons rfl (fun K hK => ?_) ?_
    · go_simp
      have hb := (below_alloc wx (.cells #[.int .i64 0, .int .i64 0] 26))
      refine hK.out _ _ (HR.out.after hb).cells (fun hHeld => ?_)
      exact q0_01 (wx.heap.size, g1, g2) _ ⟨HR.out.after hb, SB.new HR.out, HZ1.out.after hb, Ne.symm HZ1.out.ne⟩
    refine AllReadyH.cons rfl (fun K hK => ?_) ?_
    · go_simp
      have hb := (below_alloc wx (.cells #[.int .i64 0, .int .i64 0] 26))
      refine hK.out _ _ (HR.out.after hb).cells (fun hHeld => ?_)
      exact q0_12 (g0, g1, wx.heap.size) _ ⟨HR.out.after hb, HZ1.out.after hb, SB.new HR.out, HZ1.out.ne⟩
    exact AllReadyH.nil
  refine memoF 8 #[true, true, true, true, true, false, true, true, true, true, true, false, true, true, true, true, true, false, false, false, true, false, false, false] (fun g => { tmps := #[Value.agg #[Value.int IntKind.i64 a0, Value.int IntKind.i64 a1, Value.int IntKind.i64 a2, Value.int IntKind.i64 a3, Value.int IntKind.i64 b0, Value.int IntKind.i64 b1, Value.int IntKind.i64 b2, Value.int IntKind.i64 b3, Value.int IntKind.i64 c0, Value.int IntKind.i64 c1, Value.int IntKind.i64 c2, Value.int IntKind.i64 c3], Value.agg #[Value.int IntKind.i64 x, Value.int IntKind.i64 y, Value.int IntKind.i64 z], Value.agg #[Value.int IntKind.i64 br, Value.int IntKind.i64 dr, Value.int IntKind.i64 jo, Value.int IntKind.i64 fa, Value.int IntKind.i64 la, Value.int IntKind.i64 dn], Value.pointer (some ⟨n, 0, none⟩), Value.pointer (some ⟨n + 1, 0, none⟩), Value.pointer (some ⟨n + 1 + 1, 0, none⟩), Value.pointer (some ⟨n + 1 + 1 + 1, 0, none⟩), undef, undef, Value.pointer (some ⟨g.2.2, 0, none⟩), Value.pointer (some ⟨n, 0, none⟩), Value.agg #[Value.int IntKind.i64 a0, Value.int IntKind.i64 a1, Value.int IntKind.i64 a2, Value.int IntKind.i64 a3], Value.pointer (some ⟨n + 1, 0, none⟩), Value.int IntKind.i64 x, Value.agg #[Value.int IntKind.i64 br, Value.int IntKind.i64 dr, Value.int IntKind.i64 jo, Value.int IntKind.i64 fa, Value.int IntKind.i64 la, Value.int IntKind.i64 dn], undef, Value.pointer (some ⟨n, 4, none⟩), Value.agg #[Value.int IntKind.i64 b0, Value.int IntKind.i64 b1, Value.int IntKind.i64 b2, Value.int IntKind.i64 b3], Value.pointer (some ⟨n + 1, 1, none⟩), Value.int IntKind.i64 y, Value.agg #[Value.int IntKind.i64 br, Value.int IntKind.i64 dr, Value.int IntKind.i64 jo, Value.int IntKind.i64 fa, Value.int IntKind.i64 la, Value.int IntKind.i64 dn], undef, Value.pointer (some ⟨n, 8, none⟩), Value.agg #[Value.int IntKind.i64 c0, Value.int IntKind.i64 c1, Value.int IntKind.i64 c2, Value.int IntKind.i64 c3], Value.pointer (some ⟨n + 1, 2, none⟩), Value.int IntKind.i64 z, Value.agg #[Value.int IntKind.i64 br, Value.int IntKind.i64 dr, Value.int IntKind.i64 jo, Value.int IntKind.i64 fa, Value.int IntKind.i64 la, Value.int IntKind.i64 dn], undef, undef, undef, undef, undef, undef, undef, undef], defers := [] }) (fun g wx => RB w n #[.int .i64 a0, .int .i64 a1, .int .i64 a2, .int .i64 a3, .int .i64 b0, .int .i64 b1, .int .i64 b2, .int .i64 b3, .int .i64 c0, .int .i64 c1, .int .i64 c2, .int .i64 c3] #[.int .i64 x, .int .i64 y, .int .i64 z] #[.int .i64 br, .int .i64 dr, .int .i64 jo, .int .i64 fa, .int .i64 la, .int .i64 dn] wx ∧ SB n wx g.2.2) ?_ (fun q0_2 => ?_)
  · intro g wx hx
    obtain ⟨hR, hz2⟩ := hx
    obtain ⟨g0, g1, g2⟩ := g
    simp only at *
    have HR := hide hR
    clear hR
    have HZ2 := hide hz2
    clear hz2
    refine wpAnyH_ready (rs := [5, 18, 19]) (by kernel_rfl) (by simp) ?_
    refine AllReadyH.cons rfl (fun K hK => ?_) ?_
    · go_simp
      refine (S0.out _).mono ?_
      rintro e wt ⟨rfl, hb⟩
      refine hK.out _ _ (HR.out.after hb).cells (fun hHeld => ?_)
      exact q1_2 (g0, g1, g2) wt ⟨HR.out.after hb, HZ2.out.after hb⟩
    refine AllReadyH.cons rfl (fun K hK => ?_) ?_
    · go_simp
      have hb := (below_alloc wx (.cells #[.int .i64 0, .int .i64 0] 26))
      refine hK.out _ _ (HR.out.after hb).cells (fun hHeld => ?_)
      exact q0_02 (wx.heap.size, g1, g2) _ ⟨HR.out.after hb, SB.new HR.out, HZ2.out.after hb, Ne.symm HZ2.out.ne⟩
    refine AllReadyH.cons rfl (fun K hK => ?_) ?_
    · go_simp
      have hb := (below_alloc wx (.cells #[.int .i64 0, .int .i64 0] 26))
      refine hK.out _ _ (HR.out.after hb).cells (fun hHeld => ?_)
      exact q0_12 (g0, wx.heap.size, g2) _ ⟨HR.out.after hb, SB.new HR.out, HZ2.out.after hb, Ne.symm HZ2.out.ne⟩
    exact AllReadyH.nil
  refine memoF 8 #[true, true, true, true, true, true, true, true, true, true, true, false, true, true, true, true, true, false, false, false, false, false, false, false] (fun g => { tmps := #[Value.agg #[Value.int IntKind.i64 a0, Value.int IntKind.i64 a1, Value.int IntKind.i64 a2, Value.int IntKind.i64 a3, Value.int IntKind.i64 b0, Value.int IntKind.i64 b1, Value.int IntKind.i64 b2, Value.int IntKind.i64 b3, Value.int IntKind.i64 c0, Value.int IntKind.i64 c1, Value.int IntKind.i64 c2, Value.int IntKind.i64 c3], Value.agg #[Value.int IntKind.i64 x, Value.int IntKind.i64 y, Value.int IntKind.i64 z], Value.agg #[Value.int IntKind.i64 br, Value.int IntKind.i64 dr, Value.int IntKind.i64 jo, Value.int IntKind.i64 fa, Value.int IntKind.i64 la, Value.int IntKind.i64 dn], Value.pointer (some ⟨n, 0, none⟩), Value.pointer (some ⟨n + 1, 0, none⟩), Value.pointer (some ⟨n + 1 + 1, 0, none⟩), Value.pointer (some ⟨n + 1 + 1 + 1, 0, none⟩), undef, undef, undef, Value.pointer (some ⟨n, 0, none⟩), Value.agg #[Value.int IntKind.i64 a0, Value.int IntKind.i64 a1, Value.int IntKind.i64 a2, Value.int IntKind.i64 a3], Value.pointer (some ⟨n + 1, 0, none⟩), Value.int IntKind.i64 x, Value.agg #[Value.int IntKind.i64 br, Value.int IntKind.i64 dr, Value.int IntKind.i64 jo, Value.int IntKind.i64 fa, Value.int IntKind.i64 la, Value.int IntKind.i64 dn], Value.agg #[Value.int IntKind.i64 l0, Value.int IntKind.i64 h0], Value.pointer (some ⟨n, 4, none⟩), Value.agg #[Value.int IntKind.i64 b0, Value.int IntKind.i64 b1, Value.int IntKind.i64 b2, Value.int IntKind.i64 b3], Value.pointer (some ⟨n + 1, 1, none⟩), Value.int IntKind.i64 y, Value.agg #[Value.int IntKind.i64 br, Value.int IntKind.i64 dr, Value.int IntKind.i64 jo, Value.int IntKind.i64 fa, Value.int IntKind.i64 la, Value.int IntKind.i64 dn], undef, Value.pointer (some ⟨n, 8, none⟩), Value.agg #[Value.int IntKind.i64 c0, Value.int IntKind.i64 c1, Value.int IntKind.i64 c2, Value.int IntKind.i64 c3], Value.pointer (some ⟨n + 1, 2, none⟩), Value.int IntKind.i64 z, Value.agg #[Value.int IntKind.i64 br, Value.int IntKind.i64 dr, Value.int IntKind.i64 jo, Value.int IntKind.i64 fa, Value.int IntKind.i64 la, Value.int IntKind.i64 dn], undef, undef, undef, undef, undef, undef, undef, undef], defers := [] }) (fun g wx => RB w n #[.int .i64 a0, .int .i64 a1, .int .i64 a2, .int .i64 a3, .int .i64 b0, .int .i64 b1, .int .i64 b2, .int .i64 b3, .int .i64 c0, .int .i64 c1, .int .i64 c2, .int .i64 c3] #[.int .i64 x, .int .i64 y, .int .i64 z] #[.int .i64 br, .int .i64 dr, .int .i64 jo, .int .i64 fa, .int .i64 la, .int .i64 dn] wx) ?_ (fun q1_ => ?_)
  · intro g wx hx
    have hR := hx
    clear hx
    obtain ⟨g0, g1, g2⟩ := g
    simp only at *
    have HR := hide hR
    clear hR
    refine wpAnyH_ready (rs := [11, 18, 19, 20]) (by kernel_rfl) (by simp) ?_
    refine AllReadyH.cons rfl (fun K hK => ?_) ?_
    · go_simp
      refine (S1.out _).mono ?_
      rintro e wt ⟨rfl, hb⟩
      refine hK.out _ _ (HR.out.after hb).cells (fun hHeld => ?_)
      exact q2_ (g0, g1, g2) wt (HR.out.after hb)
    refine AllReadyH.cons rfl (fun K hK => ?_) ?_
    · go_simp
      have hb := (below_alloc wx (.cells #[.int .i64 0, .int .i64 0] 26))
      refine hK.out _ _ (HR.out.after hb).cells (fun hHeld => ?_)
      exact q1_0 (wx.heap.size, g1, g2) _ ⟨HR.out.after hb, SB.new HR.out⟩
    refine AllReadyH.cons rfl (fun K hK => ?_) ?_
    · go_simp
      have hb := (below_alloc wx (.cells #[.int .i64 0, .int .i64 0] 26))
      refine hK.out _ _ (HR.out.after hb).cells (fun hHeld => ?_)
      exact q1_1 (g0, wx.heap.size, g2) _ ⟨HR.out.after hb, SB.new HR.out⟩
    refine AllReadyH.cons rfl (fun K hK => ?_) ?_
    · go_simp
      have hb := (below_alloc wx (.cells #[.int .i64 0, .int .i64 0] 26))
      refine hK.out _ _ (HR.out.after hb).cells (fun hHeld => ?_)
      exact q1_2 (g0, g1, wx.heap.size) _ ⟨HR.out.after hb, SB.new HR.out⟩
    exact AllReadyH.nil
  refine memoF 9 #[true, true, true, true, true, false, true, true, true, true, true, false, true, true, true, true, true, false, false, false, false, false, false, false] (fun g => { tmps := #[Value.agg #[Value.int IntKind.i64 a0, Value.int IntKind.i64 a1, Value.int IntKind.i64 a2, Value.int IntKind.i64 a3, Value.int IntKind.i64 b0, Value.int IntKind.i64 b1, Value.int IntKind.i64 b2, Value.int IntKind.i64 b3, Value.int IntKind.i64 c0, Value.int IntKind.i64 c1, Value.int IntKind.i64 c2, Value.int IntKind.i64 c3], Value.agg #[Value.int IntKind.i64 x, Value.int IntKind.i64 y, Value.int IntKind.i64 z], Value.agg #[Value.int IntKind.i64 br, Value.int IntKind.i64 dr, Value.int IntKind.i64 jo, Value.int IntKind.i64 fa, Value.int IntKind.i64 la, Value.int IntKind.i64 dn], Value.pointer (some ⟨n, 0, none⟩), Value.pointer (some ⟨n + 1, 0, none⟩), Value.pointer (some ⟨n + 1 + 1, 0, none⟩), Value.pointer (some ⟨n + 1 + 1 + 1, 0, none⟩), undef, undef, undef, Value.pointer (some ⟨n, 0, none⟩), Value.agg #[Value.int IntKind.i64 a0, Value.int IntKind.i64 a1, Value.int IntKind.i64 a2, Value.int IntKind.i64 a3], Value.pointer (some ⟨n + 1, 0, none⟩), Value.int IntKind.i64 x, Value.agg #[Value.int IntKind.i64 br, Value.int IntKind.i64 dr, Value.int IntKind.i64 jo, Value.int IntKind.i64 fa, Value.int IntKind.i64 la, Value.int IntKind.i64 dn], undef, Value.pointer (some ⟨n, 4, none⟩), Value.agg #[Value.int IntKind.i64 b0, Value.int IntKind.i64 b1, Value.int IntKind.i64 b2, Value.int IntKind.i64 b3], Value.pointer (some ⟨n + 1, 1, none⟩), Value.int IntKind.i64 y, Value.agg #[Value.int IntKind.i64 br, Value.int IntKind.i64 dr, Value.int IntKind.i64 jo, Value.int IntKind.i64 fa, Value.int IntKind.i64 la, Value.int IntKind.i64 dn], undef, Value.pointer (some ⟨n, 8, none⟩), Value.agg #[Value.int IntKind.i64 c0, Value.int IntKind.i64 c1, Value.int IntKind.i64 c2, Value.int IntKind.i64 c3], Value.pointer (some ⟨n + 1, 2, none⟩), Value.int IntKind.i64 z, Value.agg #[Value.int IntKind.i64 br, Value.int IntKind.i64 dr, Value.int IntKind.i64 jo, Value.int IntKind.i64 fa, Value.int IntKind.i64 la, Value.int IntKind.i64 dn], undef, undef, undef, undef, undef, undef, undef, undef], defers := [] }) (fun g wx => RB w n #[.int .i64 a0, .int .i64 a1, .int .i64 a2, .int .i64 a3, .int .i64 b0, .int .i64 b1, .int .i64 b2, .int .i64 b3, .int .i64 c0, .int .i64 c1, .int .i64 c2, .int .i64 c3] #[.int .i64 x, .int .i64 y, .int .i64 z] #[.int .i64 br, .int .i64 dr, .int .i64 jo, .int .i64 fa, .int .i64 la, .int .i64 dn] wx) ?_ (fun q0_ => ?_)
  · intro g wx hx
    have hR := hx
    clear hx
    obtain ⟨g0, g1, g2⟩ := g
    simp only at *
    have HR := hide hR
    clear hR
    refine wpAnyH_ready (rs := [5, 18, 19, 20]) (by kernel_rfl) (by simp) ?_
    refine AllReadyH.cons rfl (fun K hK => ?_) ?_
    · go_simp
      refine (S0.out _).mono ?_
      rintro e wt ⟨rfl, hb⟩
      refine hK.out _ _ (HR.out.after hb).cells (fun hHeld => ?_)
      exact q1_ (g0, g1, g2) wt (HR.out.after hb)
    refine AllReadyH.cons rfl (fun K hK => ?_) ?_
    · go_simp
      have hb := (below_alloc wx (.cells #[.int .i64 0, .int .i64 0] 26))
      refine hK.out _ _ (HR.out.after hb).cells (fun hHeld => ?_)
      exact q0_0 (wx.heap.size, g1, g2) _ ⟨HR.out.after hb, SB.new HR.out⟩
    refine AllReadyH.cons rfl (fun K hK => ?_) ?_
    · go_simp
      have hb := (below_alloc wx (.cells #[.int .i64 0, .int .i64 0] 26))
      refine hK.out _ _ (HR.out.after hb).cells (fun hHeld => ?_)
      exact q0_1 (g0, wx.heap.size, g2) _ ⟨HR.out.after hb, SB.new HR.out⟩
    refine AllReadyH.cons rfl (fun K hK => ?_) ?_
    · go_simp
      have hb := (below_alloc wx (.cells #[.int .i64 0, .int .i64 0] 26))
      refine hK.out _ _ (HR.out.after hb).cells (fun hHeld => ?_)
      exact q0_2 (g0, g1, wx.heap.size) _ ⟨HR.out.after hb, SB.new HR.out⟩
    exact AllReadyH.nil
  exact q0_ (0, 0, 0) _ HB.out
end Go.Proofs.Ytjinfjibodoflaa
