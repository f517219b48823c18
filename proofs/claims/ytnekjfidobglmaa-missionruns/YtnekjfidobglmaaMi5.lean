/- Package mission: Goal. -/
import Derived.Test.YtnekjfidobglmaaMi4
namespace Go.Proofs.Ytnekjfidobglmaa
open Go.RowKit Go.Great Go.Maps

/-- a goal's cells -/
abbrev gC (k x y z s : Int) : Array Value := #[.int .u8 k, .int .i64 x, .int .i64 y, .int .i64 z, .int .i64 s]
abbrev gV (k x y z s : Int) : Value := .agg (gC k x y z s)
def goalC (r : Rn) : Array Value := match r.L[r.p]? with
  | none => gC 0 0 0 0 0
  | some x => if (x.k.toNat : Int) = 1 then gC 1 0 0 x.a r.s else if (x.k.toNat : Int) = 2 then gC 2 x.a x.b x.c r.s else gC x.k.toNat 0 0 0 r.s
theorem goal_cells {w : World} {g : Nat} {k x y z s : Int} {t : TypeId} (h : Blk w g (gC k x y z s) t) : w.cell? ⟨g, 0, none⟩ = some (.int .u8 k) ∧ w.cell? ⟨g, 1, none⟩ = some (.int .i64 x) ∧ w.cell? ⟨g, 2, none⟩ = some (.int .i64 y) ∧ w.cell? ⟨g, 3, none⟩ = some (.int .i64 z) ∧ w.cell? ⟨g, 4, none⟩ = some (.int .i64 s) := ⟨h.cell 0 rfl, h.cell 1 rfl, h.cell 2 rfl, h.cell 3 rfl, h.cell 4 rfl⟩
theorem Blk.set5 {W : World} {B : Nat} {a b c d e : Value} {t : TypeId} (h : Blk W B #[a, b, c, d, e] t) (x y z u v : Value) : Blk (((((W.setCell ⟨B, 0, none⟩ x).setCell ⟨B, 1, none⟩ y).setCell ⟨B, 2, none⟩ z).setCell ⟨B, 3, none⟩ u).setCell ⟨B, 4, none⟩ v) B #[x, y, z, u, v] t := heap_set (heap_set (heap_set (heap_set (heap_set h 0 x) 1 y) 2 z) 3 u) 4 v
theorem below_set5 {n : Nat} {w w1 : World} (h : Below n w w1) (g : Nat) (x y z u v : Value) (hg : n ≤ g) (hn : n ≤ w1.heap.size) : Below n w (((((w1.setCell ⟨g, 0, none⟩ x).setCell ⟨g, 1, none⟩ y).setCell ⟨g, 2, none⟩ z).setCell ⟨g, 3, none⟩ u).setCell ⟨g, 4, none⟩ v) := by
  refine below_set (below_set4 h g x y z u hg hn) g 4 v hg ?_
  simp only [setCell_size]; exact hn
theorem goal_back {fn : Func} (h : fn.results = #[.cell 2 50]) (tmps : Array Value) (w : World) (g : Nat) (k x y z s : Int) (hp : tmps.getD 2 undef = .pointer (some ⟨g, 0, none⟩)) (hg : Blk w g (gC k x y z s) 50) : (results fn tmps).run Try.prog w = .ok (gV k x y z s) w :=
  res_back h Try.underlying50 (by kernel_rfl) tmps w g hp hg
/-- a run that is nil, or over -/
theorem goal_no (v : Value) (w : World) (IT : ∀ W, Below w.heap.size w W → Calls Try.prog 40 #[v] W fun e w' => e = .returned (.tuple #[iV 0 0 0 0, .bool false]) ∧ Below W.heap.size W w') : Calls Try.prog 24 #[v] w fun e w' => e = .returned (gV 0 0 0 0 0) ∧ Below w.heap.size w w' := by
  have HB := hide (Blk.new w (gC 0 0 0 0 0) 50)
  have Hb := hide (below_alloc w (.cells (gC 0 0 0 0 0) 50))
  have HI := hide IT
  clear IT
  go_enter Try.func24, Try.ntmps24
  go_upto_region 1 with fail
  generalize w.alloc (.cells (gC 0 0 0 0 0) 50) = W at *
  go_wp2_with fail
  refine (HI.out _ Hb.out).mono ?_
  rintro e w1 ⟨rfl, hb1⟩
  replace HB := hide ((HB.out.after hb1).alloc (.cells (iC 0 0 0 0) 48))
  replace Hb := hide (below_next (below_next Hb.out (Nat.le_refl _) hb1) (Nat.le_refl _) (below_alloc w1 (.cells (iC 0 0 0 0) 48)))
  clear hb1 HI
  go_upto_region 2 with fail
  generalize w1.alloc (.cells (iC 0 0 0 0) 48) = W1 at *
  obtain ⟨c0, c1, c2, c3, c4⟩ := goal_cells HB.out
  have fz := HB.out.frozen
  go_wp2_with fail
  refine bodyPost_ret (goal_back Try.results24 _ _ w.heap.size _ _ _ _ _ rfl (HB.out.set5 _ _ _ _ _)) rfl ?_
  exact ⟨rfl, below_set5 Hb.out _ _ _ _ _ _ (Nat.le_refl _) Hb.out.size⟩
set_option maxHeartbeats 4000000 in
theorem goal_is (w : World) (R n : Nat) (r : Rn) (h : RunB w R n r) (x : It) (hx : r.L[r.p]? = some x) : Calls Try.prog 24 #[rP R] w fun e w' => e = .returned (.agg (goalC r)) ∧ Below w.heap.size w w' := by
  have HB := hide (Blk.new w (gC 0 0 0 0 0) 50)
  have Hb := hide (below_alloc w (.cells (gC 0 0 0 0 0) 50))
  have IT := hide (fun W (hb : Below w.heap.size w W) => item_any W R n r (h.grown hb) x hx)
  have HE : Hid (goalC r = if (x.k.toNat : Int) = 1 then gC 1 0 0 x.a r.s else if (x.k.toNat : Int) = 2 then gC 2 x.a x.b x.c r.s else gC x.k.toNat 0 0 0 r.s) := hide (by unfold goalC; rw [hx])
  obtain ⟨iv, m, hR, _, _⟩ := h
  have HR := hide hR
  obtain ⟨k, a, b, c⟩ := x
  simp only at *
  generalize goalC r = E at *
  generalize r.s = s at *
  generalize r.l = l at *
  generalize r.p = p at *
  generalize (k.toNat : Int) = K at *
  clear hR hx
  go_enter Try.func24, Try.ntmps24
  go_upto_region 1 with fail
  generalize w.alloc (.cells (gC 0 0 0 0 0) 50) = W at *
  go_wp2_with fail
  refine (IT.out _ Hb.out).mono ?_
  rintro e w1 ⟨rfl, hb1⟩
  have hs1 := below_next Hb.out (Nat.le_refl _) hb1
  replace HB := hide ((HB.out.after hb1).alloc (.cells (iC K a b c) 48))
  replace Hb := hide (below_next hs1 (Nat.le_refl _) (below_alloc w1 (.cells (iC K a b c) 48)))
  have HX := hide (Blk.new w1 (iC K a b c) 48)
  have hzx := hs1.size
  have hlt := HR.out.lt
  clear hb1 IT hs1
  go_upto_region 4 with fail
  have hz1 : (w1.alloc (.cells (iC K a b c) 48)).heap.size = w1.heap.size + 1 := size_alloc _ _
  generalize w1.alloc (.cells (iC K a b c) 48) = W1 at *
  generalize w1.heap.size = q at *
  obtain ⟨c0, c1, c2, c3⟩ := it_cells HX.out
  obtain ⟨r0, r1, r2, r3, r4⟩ := run_cells (HR.out.after Hb.out)
  have hR1 : R < W1.heap.size := by omega
  have hQ1 : q < W1.heap.size := by omega
  have hG1 : w.heap.size < W1.heap.size := by omega
  clear hz1
  go_region
  have HG : Hid (Blk (W1.alloc (.cells (gC K 0 0 0 s) 50)).drew W1.heap.size (gC K 0 0 0 s) 50) := hide (blk_drew (Blk.new W1 _ _))
  replace HB : Hid (Blk (W1.alloc (.cells (gC K 0 0 0 s) 50)).drew w.heap.size (gC 0 0 0 0 0) 50) := hide (blk_drew (HB.out.alloc _))
  replace HX : Hid (Blk (W1.alloc (.cells (gC K 0 0 0 s) 50)).drew q (iC K a b c) 48) := hide (blk_drew (HX.out.alloc _))
  replace Hb : Hid (Below w.heap.size w (W1.alloc (.cells (gC K 0 0 0 s) 50)).drew) := hide (Below.drew (below_next Hb.out (Nat.le_refl _) (below_alloc W1 _)))
  clear c0 c1 c2 c3 r0 r1 r2 r3 r4 HR hR1 hlt
  generalize (W1.alloc (.cells (gC K 0 0 0 s) 50)).drew = W2 at *
  generalize W1.heap.size = d at *
  have hdg : w.heap.size ≠ d := by omega
  have hqd : q ≠ d := by omega
  obtain ⟨c0, c1, c2, c3⟩ := it_cells HX.out
  by_cases k1 : K = 1
  · subst k1
    have HE2 : Hid (E = gC 1 0 0 a s) := hide HE.out
    have HG2 : Hid (Blk (W2.setCell ⟨d, 3, none⟩ (.int .i64 a)) d (gC 1 0 0 a s) 50) := hide (HG.out.set 3 (.int .i64 a))
    have HB2 : Hid (Blk (W2.setCell ⟨d, 3, none⟩ (.int .i64 a)) w.heap.size (gC 0 0 0 0 0) 50) := hide (HB.out.setOther hdg 3 (.int .i64 a))
    have Hb2 : Hid (Below w.heap.size w (W2.setCell ⟨d, 3, none⟩ (.int .i64 a))) := hide (below_set Hb.out d 3 _ (by omega) Hb.out.size)
    obtain ⟨g0, g1, g2, g3, g4⟩ := goal_cells HG.out
    have f3 := HG.out.frozen 3
    clear HE
    go_upto_region 10 with fail
    clear c0 c1 c2 c3 g0 g1 g2 g3 g4 f3
    generalize W2.setCell ⟨d, 3, none⟩ (.int .i64 a) = W3 at *
    obtain ⟨g0, g1, g2, g3, g4⟩ := goal_cells HG2.out
    obtain ⟨b0, b1, b2, b3, b4⟩ := goal_cells HB2.out
    have fz := HB2.out.frozen
    go_wp2_with fail
    refine bodyPost_ret (goal_back Try.results24 _ _ w.heap.size _ _ _ _ _ rfl (HB2.out.set5 _ _ _ _ _)) rfl ?_
    exact ⟨by rw [HE2.out], below_set5 Hb2.out _ _ _ _ _ _ (Nat.le_refl _) Hb2.out.size⟩
  · by_cases k2 : K = 2
    · subst k2
      have HE2 : Hid (E = gC 2 a b c s) := hide HE.out
      obtain ⟨g0, g1, g2, g3, g4⟩ := goal_cells HG.out
      have f1 := HG.out.frozen 1
      have f2 := HG.out.frozen 2
      have f3 := HG.out.frozen 3
      clear HE
      go_upto_region 9 with fail
      go_region
      have HG2 : Hid (Blk (((W2.setCell ⟨d, 1, none⟩ (.int .i64 a)).setCell ⟨d, 2, none⟩ (.int .i64 b)).setCell ⟨d, 3, none⟩ (.int .i64 c)).drew d (gC 2 a b c s) 50) := hide (blk_drew (((HG.out.set 1 (.int .i64 a)).set 2 (.int .i64 b)).set 3 (.int .i64 c)))
      have HB2 : Hid (Blk (((W2.setCell ⟨d, 1, none⟩ (.int .i64 a)).setCell ⟨d, 2, none⟩ (.int .i64 b)).setCell ⟨d, 3, none⟩ (.int .i64 c)).drew w.heap.size (gC 0 0 0 0 0) 50) := hide (blk_drew (((HB.out.setOther hdg 1 (.int .i64 a)).setOther hdg 2 (.int .i64 b)).setOther hdg 3 (.int .i64 c)))
      have Hb2 : Hid (Below w.heap.size w (((W2.setCell ⟨d, 1, none⟩ (.int .i64 a)).setCell ⟨d, 2, none⟩ (.int .i64 b)).setCell ⟨d, 3, none⟩ (.int .i64 c)).drew) := hide (Below.drew (below_set (below_set (below_set Hb.out d 1 _ (by omega) Hb.out.size) d 2 _ (by omega) (by rw [setCell_size]; exact Hb.out.size)) d 3 _ (by omega) (by rw [setCell_size, setCell_size]; exact Hb.out.size)))
      clear c0 c1 c2 c3 g0 g1 g2 g3 g4 f1 f2 f3
      generalize (((W2.setCell ⟨d, 1, none⟩ (.int .i64 a)).setCell ⟨d, 2, none⟩ (.int .i64 b)).setCell ⟨d, 3, none⟩ (.int .i64 c)).drew = W3 at *
      obtain ⟨g0, g1, g2, g3, g4⟩ := goal_cells HG2.out
      obtain ⟨b0, b1, b2, b3, b4⟩ := goal_cells HB2.out
      have fz := HB2.out.frozen
      go_wp2_with fail
      refine bodyPost_ret (goal_back Try.results24 _ _ w.heap.size _ _ _ _ _ rfl (HB2.out.set5 _ _ _ _ _)) rfl ?_
      exact ⟨by rw [HE2.out], below_set5 Hb2.out _ _ _ _ _ _ (Nat.le_refl _) Hb2.out.size⟩
    · have HE2 : Hid (E = gC K 0 0 0 s) := hide (by rw [HE.out, if_neg k1, if_neg k2])
      obtain ⟨g0, g1, g2, g3, g4⟩ := goal_cells HG.out
      obtain ⟨b0, b1, b2, b3, b4⟩ := goal_cells HB.out
      have fz := HB.out.frozen
      clear HE
      go_wp2_with fail
      refine bodyPost_ret (goal_back Try.results24 _ _ w.heap.size _ _ _ _ _ rfl (HB.out.set5 _ _ _ _ _)) rfl ?_
      exact ⟨by rw [HE2.out], below_set5 Hb.out _ _ _ _ _ _ (Nat.le_refl _) Hb.out.size⟩
theorem goalNil (w : World) : Calls Try.prog 24 #[.pointer none] w fun e w' => e = .returned (gV 0 0 0 0 0) ∧ Below w.heap.size w w' := goal_no _ w (fun W _ => item_nil W)
theorem goal_any (w : World) (R n : Nat) (r : Rn) (h : RunB w R n r) (hp : r.p ≤ r.L.length) : Calls Try.prog 24 #[rP R] w fun e w' => e = .returned (.agg (goalC r)) ∧ Below w.heap.size w w' := by
  by_cases hlt : r.p < r.L.length
  · exact goal_is w R n r h _ (List.getElem?_eq_getElem hlt)
  · have := goal_no (rP R) w (fun W hb => item_end W R n r (h.grown hb) (by omega))
    unfold goalC
    rw [List.getElem?_eq_none (by omega)]
    exact this
end Go.Proofs.Ytnekjfidobglmaa
