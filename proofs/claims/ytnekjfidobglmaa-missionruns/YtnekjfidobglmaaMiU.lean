/- The document's Goal. -/
import Derived.Test.YtnekjfidobglmaaMiT
namespace Go.Proofs.Ytnekjfidobglmaa
open Go.RowKit Go.Great Go.Maps

set_option maxHeartbeats 4000000 in
set_option maxRecDepth 100000 in
theorem rgoal_any (w : World) (iv : Value) (b : Nat) (r : Rn) (h : RefR w iv b r) (hp : r.p ≤ r.L.length) : Calls Try.prog 25 #[.agg (xC iv r.p r.s r.l (jV b r.L.length))] w fun e w' => e = .returned (.agg (goalC r)) ∧ Below w.heap.size w w' := by
  have HM := hide h.i
  obtain ⟨ia, ic, rfl⟩ := h.i.shape
  have HI := hide (fun x (hx : r.L[r.p]? = some x) => h.i.rws.get r.p ((List.getElem?_eq_some_iff.1 hx).1))
  obtain ⟨n, eN⟩ : ∃ n, Hid (r.L.length = n) := ⟨_, hide rfl⟩
  have HGE : Hid (r.p = r.L.length → goalC r = gC 0 0 0 0 0) := hide (fun e => by unfold goalC; rw [List.getElem?_eq_none (by omega)])
  have HGI : Hid (∀ x, r.L[r.p]? = some x → goalC r = if (x.k.toNat : Int) = 1 then gC 1 0 0 x.a r.s else if (x.k.toNat : Int) = 2 then gC 2 x.a x.b x.c r.s else gC x.k.toNat 0 0 0 r.s) := hide (fun x hx => by unfold goalC; rw [hx])
  have HXX : Hid (r.p < r.L.length → ∃ x, r.L[r.p]? = some x) := hide (fun h => ⟨_, List.getElem?_eq_getElem h⟩)
  rw [eN.out] at hp HGE HXX ⊢
  obtain ⟨W0, hW0, hB, HX, HZ, hz⟩ := two_boxes w (xC (.slice ia n ic) r.p r.s r.l (jV b n)) (gC 0 0 0 0 0) 43 50
  have Hb := hide hB
  have HSZ := hide hz
  clear hz
  have HX := hide HX
  have HZ := hide HZ
  clear hB h
  generalize goalC r = E at *
  go_enter Try.func25, Try.ntmps25
  go_upto_region 1 with fail
  try rw [hW0]
  clear hW0
  obtain ⟨x0, x1, x2, x3, x4⟩ := x_cells HX.out
  by_cases hlt : r.p < n
  · obtain ⟨x, hx⟩ := HXX.out hlt
    obtain ⟨g, og, cap, x', e1, hg, hxl, cell⟩ := HI.out x hx
    rw [hx] at hxl
    injection hxl with hxl
    subst hxl
    injection e1 with e1 e2 e3
    subst e1 e3
    have HE := hide (HGI.out x hx)
    have p0 : W0.cell? ⟨g, og + r.p * 4, none⟩ = some (.int .u8 x.k.toNat) := cell W0 Hb.out 0 _ rfl
    have p1 : W0.cell? ⟨g, og + r.p * 4 + 1, none⟩ = some (.int .i64 x.a) := cell W0 Hb.out 1 _ rfl
    have p2 : W0.cell? ⟨g, og + r.p * 4 + 2, none⟩ = some (.int .i64 x.b) := cell W0 Hb.out 2 _ rfl
    have p3 : W0.cell? ⟨g, og + r.p * 4 + 3, none⟩ = some (.int .i64 x.c) := cell W0 Hb.out 3 _ rfl
    clear cell e2 HXX HGI HGE HI hx
    obtain ⟨k, a, bb, c⟩ := x
    simp only at *
    generalize (k.toNat : Int) = K at *
    generalize r.p = p at *
    generalize r.s = s at *
    generalize r.l = l at *
    have HD := hide (Blk.new W0 (iC K a bb c) 48)
    replace HX := hide (HX.out.alloc (.cells (iC K a bb c) 48))
    replace HZ := hide (HZ.out.alloc (.cells (iC K a bb c) 48))
    replace Hb := hide (below_next Hb.out (Nat.le_refl _) (below_alloc W0 (.cells (iC K a bb c) 48)))
    have hq1 : ¬ ((n : Int) ≤ p) := by omega
    go_upto_region 4 with fail
    have HZ1 : Hid ((W0.alloc (.cells (iC K a bb c) 48)).heap.size = w.heap.size + 3) := hide (by rw [size_alloc, HSZ.out])
    generalize W0.alloc (.cells (iC K a bb c) 48) = W1 at *
    generalize W0.heap.size = q at *
    clear x0 x1 x2 x3 x4 p0 p1 p2 p3
    obtain ⟨x0, x1, x2, x3, x4⟩ := x_cells HX.out
    obtain ⟨d0, d1, d2, d3⟩ := it_cells HD.out
    have HG := hide (Blk.new W1 (gC K 0 0 0 s) 50)
    replace HZ := hide (HZ.out.alloc (.cells (gC K 0 0 0 s) 50))
    replace HD := hide (HD.out.alloc (.cells (gC K 0 0 0 s) 50))
    replace Hb := hide (below_next Hb.out (Nat.le_refl _) (below_alloc W1 (.cells (gC K 0 0 0 s) 50)))
    go_upto_region 5 with fail
    generalize W1.alloc (.cells (gC K 0 0 0 s) 50) = W2 at *
    have hgz : w.heap.size + 1 ≠ W1.heap.size := by have := HZ1.out; omega
    have hwd : w.heap.size ≤ W1.heap.size := by have := HZ1.out; omega
    clear HZ1
    generalize W1.heap.size = d at *
    clear x0 x1 x2 x3 x4 d0 d1 d2 d3 HX
    obtain ⟨d0, d1, d2, d3⟩ := it_cells HD.out
    by_cases k1 : K = 1
    · subst k1
      have HE2 : Hid (E = gC 1 0 0 a s) := hide HE.out
      have HG2 : Hid (Blk (W2.setCell ⟨d, 3, none⟩ (.int .i64 a)) d (gC 1 0 0 a s) 50) := hide (HG.out.set 3 (.int .i64 a))
      have HZ2 : Hid (Blk (W2.setCell ⟨d, 3, none⟩ (.int .i64 a)) (w.heap.size + 1) (gC 0 0 0 0 0) 50) := hide (HZ.out.setOther hgz 3 (.int .i64 a))
      have HD2 : Hid (Blk (W2.setCell ⟨d, 3, none⟩ (.int .i64 a)) q (iC 1 a bb c) 48) := hide (HD.out.setOther (fun e => by have h1 := HD.out; have h2 := HG.out; unfold Blk at h1 h2; rw [e, h2] at h1; simp at h1) 3 (.int .i64 a))
      have Hb2 : Hid (Below w.heap.size w (W2.setCell ⟨d, 3, none⟩ (.int .i64 a))) := hide (below_set Hb.out d 3 _ hwd Hb.out.size)
      obtain ⟨g0, g1, g2, g3, g4⟩ := goal_cells HG.out
      have f3 := HG.out.frozen 3
      clear HE
      go_upto_region 7 with fail
      clear d0 d1 d2 d3 g0 g1 g2 g3 g4 f3
      generalize W2.setCell ⟨d, 3, none⟩ (.int .i64 a) = W3 at *
      obtain ⟨g0, g1, g2, g3, g4⟩ := goal_cells HG2.out
      obtain ⟨b0, b1, b2, b3, b4⟩ := goal_cells HZ2.out
      obtain ⟨d0, d1, d2, d3⟩ := it_cells HD2.out
      have fz := HZ2.out.frozen
      go_wp2_with fail
      refine bodyPost_ret (goal_back Try.results25 _ _ (w.heap.size + 1) _ _ _ _ _ rfl (HZ2.out.set5 _ _ _ _ _)) rfl ?_
      exact ⟨by rw [HE2.out], below_set5 Hb2.out _ _ _ _ _ _ (by omega) Hb2.out.size⟩
    · by_cases k2 : K = 2
      · subst k2
        have HE2 : Hid (E = gC 2 a bb c s) := hide HE.out
        have hqd : q ≠ d := fun e => by have h1 := HD.out; have h2 := HG.out; unfold Blk at h1 h2; rw [e, h2] at h1; simp at h1
        have HG2 : Hid (Blk (((W2.setCell ⟨d, 1, none⟩ (.int .i64 a)).setCell ⟨d, 2, none⟩ (.int .i64 bb)).setCell ⟨d, 3, none⟩ (.int .i64 c)) d (gC 2 a bb c s) 50) := hide (((HG.out.set 1 (.int .i64 a)).set 2 (.int .i64 bb)).set 3 (.int .i64 c))
        have HZ2 : Hid (Blk (((W2.setCell ⟨d, 1, none⟩ (.int .i64 a)).setCell ⟨d, 2, none⟩ (.int .i64 bb)).setCell ⟨d, 3, none⟩ (.int .i64 c)) (w.heap.size + 1) (gC 0 0 0 0 0) 50) := hide (((HZ.out.setOther hgz 1 (.int .i64 a)).setOther hgz 2 (.int .i64 bb)).setOther hgz 3 (.int .i64 c))
        have Hb2 : Hid (Below w.heap.size w (((W2.setCell ⟨d, 1, none⟩ (.int .i64 a)).setCell ⟨d, 2, none⟩ (.int .i64 bb)).setCell ⟨d, 3, none⟩ (.int .i64 c))) := hide (below_set (below_set (below_set Hb.out d 1 _ hwd Hb.out.size) d 2 _ hwd (by rw [setCell_size]; exact Hb.out.size)) d 3 _ hwd (by rw [setCell_size, setCell_size]; exact Hb.out.size))
        obtain ⟨g0, g1, g2, g3, g4⟩ := goal_cells HG.out
        have fz := HG.out.frozen
        clear HE
        go_upto_region 11 with fail
        clear d0 d1 d2 d3 g0 g1 g2 g3 g4 fz
        generalize ((W2.setCell ⟨d, 1, none⟩ (.int .i64 a)).setCell ⟨d, 2, none⟩ (.int .i64 bb)).setCell ⟨d, 3, none⟩ (.int .i64 c) = W3 at *
        obtain ⟨g0, g1, g2, g3, g4⟩ := goal_cells HG2.out
        obtain ⟨b0, b1, b2, b3, b4⟩ := goal_cells HZ2.out
        have fz := HZ2.out.frozen
        go_wp2_with fail
        refine bodyPost_ret (goal_back Try.results25 _ _ (w.heap.size + 1) _ _ _ _ _ rfl (HZ2.out.set5 _ _ _ _ _)) rfl ?_
        exact ⟨by rw [HE2.out], below_set5 Hb2.out _ _ _ _ _ _ (by omega) Hb2.out.size⟩
      · have HE2 : Hid (E = gC K 0 0 0 s) := hide (by rw [HE.out, if_neg k1, if_neg k2])
        obtain ⟨g0, g1, g2, g3, g4⟩ := goal_cells HG.out
        obtain ⟨b0, b1, b2, b3, b4⟩ := goal_cells HZ.out
        have fz := HZ.out.frozen
        clear HE
        go_wp2_with fail
        refine bodyPost_ret (goal_back Try.results25 _ _ (w.heap.size + 1) _ _ _ _ _ rfl (HZ.out.set5 _ _ _ _ _)) rfl ?_
        exact ⟨by rw [HE2.out], below_set5 Hb.out _ _ _ _ _ _ (by omega) Hb.out.size⟩
  · have hpn : r.p = n := by omega
    have HE := hide (HGE.out hpn)
    have hq1 : ((n : Int) ≤ r.p) := by omega
    obtain ⟨b0, b1, b2, b3, b4⟩ := goal_cells HZ.out
    have fz := HZ.out.frozen
    clear HGE HGI HXX HI
    go_wp2_with fail
    refine bodyPost_ret (goal_back Try.results25 _ _ (w.heap.size + 1) _ _ _ _ _ rfl (HZ.out.set5 _ _ _ _ _)) rfl ?_
    exact ⟨by rw [HE.out], below_set5 Hb.out _ _ _ _ _ _ (by omega) Hb.out.size⟩
end Go.Proofs.Ytnekjfidobglmaa
