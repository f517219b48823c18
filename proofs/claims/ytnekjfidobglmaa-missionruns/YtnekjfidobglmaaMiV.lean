/- The document's Step. -/
import Derived.Test.YtnekjfidobglmaaMiT
import Derived.Test.YtnekjfidobglmaaMi7
namespace Go.Proofs.Ytnekjfidobglmaa
open Go.RowKit Go.Great Go.Maps

/-- behind a step: the answer, what it leads to, what has changed -/
def REnd (w : World) (iv : Value) (b n : Nat) (r' : Rn) (e : Ending) (w' : World) : Prop := e = .returned (.agg (xC iv r'.p r'.s r'.l (jV b n))) ∧ RefR w' iv b r' ∧ w.grownBy w' (some b)
/-- the state at the end: the variable, the result's, what the run leads to -/
theorem rend_of {w W : World} {iv : Value} {b z : Nat} {r' : Rn} (hR : RefR W iv b r') (hG : w.grownBy W (some b)) {cs : Array Value} (hZ : Blk W z cs 43) (hz : w.heap.size ≤ z) (hzb : z ≠ b) (x y s l v : Value) : RefR (((((W.setCell ⟨z, 0, none⟩ x).setCell ⟨z, 1, none⟩ y).setCell ⟨z, 2, none⟩ s).setCell ⟨z, 3, none⟩ l).setCell ⟨z, 4, none⟩ v) iv b r' ∧ w.grownBy (((((W.setCell ⟨z, 0, none⟩ x).setCell ⟨z, 1, none⟩ y).setCell ⟨z, 2, none⟩ s).setCell ⟨z, 3, none⟩ l).setCell ⟨z, 4, none⟩ v) (some b) := by
  have hg := grown_set5 W z x y s l v
  exact ⟨⟨hR.i.grown hg (hR.i.noblk hZ (by decide)), hR.j.grown hg (fun e => by injection e with e; exact hzb e)⟩, grown_then hG hg (fun k e => .inr (by injection e with e; omega))⟩
theorem RefR.set {W : World} {iv : Value} {b : Nat} {r : Rn} (h : RefR W iv b r) {z : Nat} {cs : Array Value} (hZ : Blk W z cs 43) (hzb : z ≠ b) (i : Nat) (x : Value) : RefR (W.setCell ⟨z, i, none⟩ x) iv b r := ⟨h.i.grown (grown_set W z i x) (h.i.noblk hZ (by decide)), h.j.setOther (fun e => hzb e.symm) i x⟩
theorem RefR.upd {W : World} {iv : Value} {b : Nat} {r : Rn} (h : RefR W iv b r) (i : Nat) (v : Int) : RefR (W.setCell ⟨b, i, none⟩ (.int .i64 v)) iv b { r with J := upJ r.J i v } := ⟨h.i.grown (grown_set W b i _) (h.i.noblk h.j (by decide)), by
  have := h.j.set i (.int .i64 v)
  rw [jA_set] at this
  exact this⟩
theorem RefR.of {W : World} {iv : Value} {b : Nat} {r r' : Rn} (h : RefR W iv b r) (hL : r'.L = r.L) (hJ : r'.J = r.J) : RefR W iv b r' := ⟨by rw [hL]; exact h.i, by rw [hL, hJ]; exact h.j⟩
set_option maxHeartbeats 8000000 in
set_option maxRecDepth 100000 in
theorem rstep_any (w : World) (iv : Value) (b : Nat) (r : Rn) (arr : Bool) (h : RefR w iv b r) (ok : ROk r) : Calls Try.prog 29 #[.agg (xC iv r.p r.s r.l (jV b r.L.length)), .bool arr] w (REnd w iv b r.L.length (stp r arr)) := by
  have hp := ok.p
  have hl := ok.l
  have hj := ok.j
  have hl64 := (chk_ok ok.c).1
  have HOK := hide (fun x (hx : r.L[r.p]? = some x) => ok.item hx)
  have HR := hide h
  obtain ⟨ia, ic, rfl⟩ := h.i.shape
  have HI := hide (fun x (hx : r.L[r.p]? = some x) => h.i.rws.get r.p ((List.getElem?_eq_some_iff.1 hx).1))
  have HSE : Hid (r.p = r.L.length → stp r arr = r) := hide (fun e => by unfold stp; rw [List.getElem?_eq_none (by omega)])
  have HSI : Hid (∀ x, r.L[r.p]? = some x → stp r arr = (if (x.k.toNat : Int) = 1 ∨ (x.k.toNat : Int) = 2 then (if arr = true then { r with p := r.p + 1 } else r)
    else if (x.k.toNat : Int) = 3 then (if x.a ≤ r.l + 1 then { r with l := 0, p := r.p + 1 } else { r with l := r.l + 1 })
    else if (x.k.toNat : Int) = 4 then (if r.J r.p < x.b then { r with J := upJ r.J r.p (r.J r.p + 1), p := x.a.toNat } else { r with J := upJ r.J r.p 0, p := r.p + 1 })
    else if (x.k.toNat : Int) = 5 then { r with s := x.a, p := r.p + 1 }
    else r)) := hide (fun x hx => by unfold stp; rw [hx])
  have HXX : Hid (r.p < r.L.length → ∃ x, r.L[r.p]? = some x) := hide (fun h => ⟨_, List.getElem?_eq_getElem h⟩)
  have hbl := h.j.lt
  obtain ⟨n, eN⟩ : ∃ n, Hid (r.L.length = n) := ⟨_, hide rfl⟩
  rw [eN.out] at hp hl64 HSE HXX HR ⊢
  obtain ⟨W0, hW0, hB, HX, HZ, hz⟩ := two_boxes w (xC (.slice ia n ic) r.p r.s r.l (jV b n)) (xC (.slice none 0 0) 0 0 0 (.slice none 0 0)) 43 43
  have Hb := hide hB
  have HX := hide HX
  have HZ := hide HZ
  replace HR := hide (HR.out.below hB)
  have HG := hide (grown_below hB (some b))
  have HSZ := hide hz
  have hXb : w.heap.size ≠ b := by omega
  have hZb : w.heap.size + 1 ≠ b := by omega
  have hXZ : w.heap.size + 1 ≠ w.heap.size := by omega
  clear hB hz h
  generalize hr' : stp r arr = r' at *
  clear hr'
  go_enter Try.func29, Try.ntmps29
  go_upto_region 1 with fail
  try rw [hW0]
  clear hW0
  generalize hX0 : w.heap.size + 1 = Z at *
  have hZw : w.heap.size ≤ Z := by omega
  clear hX0
  obtain ⟨x0, x1, x2, x3, x4⟩ := x_cells HX.out
  by_cases hlt : r.p < n
  · obtain ⟨x, hx⟩ := HXX.out hlt
    obtain ⟨g, og, cap, x', e1, hg, hxl, cell⟩ := HI.out x hx
    rw [hx] at hxl
    injection hxl with hxl
    subst hxl
    injection e1 with e1 e2 e3
    subst e1 e3
    have HE := hide (HSI.out x hx)
    have hok := HOK.out x hx
    have p0 : W0.cell? ⟨g, og + r.p * 4, none⟩ = some (.int .u8 x.k.toNat) := cell W0 Hb.out 0 _ rfl
    have p1 : W0.cell? ⟨g, og + r.p * 4 + 1, none⟩ = some (.int .i64 x.a) := cell W0 Hb.out 1 _ rfl
    have p2 : W0.cell? ⟨g, og + r.p * 4 + 2, none⟩ = some (.int .i64 x.b) := cell W0 Hb.out 2 _ rfl
    have p3 : W0.cell? ⟨g, og + r.p * 4 + 3, none⟩ = some (.int .i64 x.c) := cell W0 Hb.out 3 _ rfl
    clear cell e2 HXX HSI HSE HI hx HOK
    obtain ⟨k, a, bb, c⟩ := x
    obtain ⟨L, p, s, l, J⟩ := r
    simp only at *
    generalize (k.toNat : Int) = K at *
    have hjp := hj p
    have HD := hide (Blk.new W0 (iC K a bb c) 48)
    have hbD := below_alloc W0 (.cells (iC K a bb c) 48)
    replace HX := hide (HX.out.after hbD)
    replace HZ := hide (HZ.out.after hbD)
    replace HR := hide (HR.out.below hbD)
    replace HG := hide (grown_after HG.out hbD)
    clear hbD Hb
    have hq1 : ¬ ((n : Int) ≤ p) := by omega
    go_upto_region 4 with fail
    generalize W0.alloc (.cells (iC K a bb c) 48) = W1 at *
    generalize W0.heap.size = q at *
    clear x0 x1 x2 x3 x4 p0 p1 p2 p3
    generalize hX0 : w.heap.size = X at *
    obtain ⟨x0, x1, x2, x3, x4⟩ := x_cells HX.out
    obtain ⟨d0, d1, d2, d3⟩ := it_cells HD.out
    obtain ⟨z0, z1, z2, z3, z4⟩ := x_cells HZ.out
    have fx := HX.out.frozen
    have fz := HZ.out.frozen
    by_cases k12 : K = 1 ∨ K = 2
    · cases arr
      · have HE2 : Hid (r' = ⟨L, p, s, l, J⟩) := hide (by rw [HE.out, if_pos k12]; rfl)
        clear HE
        rcases k12 with rfl | rfl
        · have HX2 : Hid (Blk W1 X (xC (.slice (some ⟨g, og, none⟩) n ic) p s l (jV b n)) 43) := hide HX.out
          have HZ2 : Hid (Blk W1 Z (xC (.slice none 0 0) 0 0 0 (.slice none 0 0)) 43) := hide HZ.out
          have HR2 : Hid (RefR W1 (.slice (some ⟨g, og, none⟩) n ic) b ⟨L, p, s, l, J⟩) := hide ((HR.out).of rfl rfl)
          have HG2 : Hid (w.grownBy W1 (some b)) := hide HG.out
          go_upto_region 23 with fail
          clear x0 x1 x2 x3 x4 d0 d1 d2 d3 z0 z1 z2 z3 z4 fx fz
          generalize W1 = W9 at *
          obtain ⟨x0, x1, x2, x3, x4⟩ := x_cells HX2.out
          obtain ⟨z0, z1, z2, z3, z4⟩ := x_cells HZ2.out
          have fz := HZ2.out.frozen
          go_wp2_with fail
          refine bodyPost_ret (x_back Try.results29 _ _ Z _ _ _ _ _ rfl (HZ2.out.set5 _ _ _ _ _)) rfl ?_
          have hf := rend_of HR2.out HG2.out HZ2.out (by omega) hZb (.slice (some ⟨g, og, none⟩) n ic) (.int .i64 p) (.int .i64 s) (.int .i64 l) (jV b n)
          rw [HE2.out]
          exact ⟨rfl, hf.1, hf.2⟩
        · have HX2 : Hid (Blk W1 X (xC (.slice (some ⟨g, og, none⟩) n ic) p s l (jV b n)) 43) := hide HX.out
          have HZ2 : Hid (Blk W1 Z (xC (.slice none 0 0) 0 0 0 (.slice none 0 0)) 43) := hide HZ.out
          have HR2 : Hid (RefR W1 (.slice (some ⟨g, og, none⟩) n ic) b ⟨L, p, s, l, J⟩) := hide ((HR.out).of rfl rfl)
          have HG2 : Hid (w.grownBy W1 (some b)) := hide HG.out
          go_upto_region 23 with fail
          clear x0 x1 x2 x3 x4 d0 d1 d2 d3 z0 z1 z2 z3 z4 fx fz
          generalize W1 = W9 at *
          obtain ⟨x0, x1, x2, x3, x4⟩ := x_cells HX2.out
          obtain ⟨z0, z1, z2, z3, z4⟩ := x_cells HZ2.out
          have fz := HZ2.out.frozen
          go_wp2_with fail
          refine bodyPost_ret (x_back Try.results29 _ _ Z _ _ _ _ _ rfl (HZ2.out.set5 _ _ _ _ _)) rfl ?_
          have hf := rend_of HR2.out HG2.out HZ2.out (by omega) hZb (.slice (some ⟨g, og, none⟩) n ic) (.int .i64 p) (.int .i64 s) (.int .i64 l) (jV b n)
          rw [HE2.out]
          exact ⟨rfl, hf.1, hf.2⟩
      · have HE2 : Hid (r' = ⟨L, p + 1, s, l, J⟩) := hide (by rw [HE.out, if_pos k12]; rfl)
        clear HE
        rcases k12 with rfl | rfl
        · have HX2 : Hid (Blk (W1.setCell ⟨X, 1, none⟩ (.int .i64 (p + 1))) X (xC (.slice (some ⟨g, og, none⟩) n ic) (p + 1) s l (jV b n)) 43) := hide (Blk.set (HX.out) 1 (.int .i64 (p + 1)))
          have HZ2 : Hid (Blk (W1.setCell ⟨X, 1, none⟩ (.int .i64 (p + 1))) Z (xC (.slice none 0 0) 0 0 0 (.slice none 0 0)) 43) := hide (Blk.setOther (HZ.out) hXZ 1 (.int .i64 (p + 1)))
          have HR2 : Hid (RefR (W1.setCell ⟨X, 1, none⟩ (.int .i64 (p + 1))) (.slice (some ⟨g, og, none⟩) n ic) b ⟨L, p + 1, s, l, J⟩) := hide (((RefR.set (HR.out) (HX.out) hXb 1 (.int .i64 (p + 1)))).of rfl rfl)
          have HG2 : Hid (w.grownBy (W1.setCell ⟨X, 1, none⟩ (.int .i64 (p + 1))) (some b)) := hide (grown_then (HG.out) (grown_set W1 X 1 (.int .i64 (p + 1))) (fun k e => .inr (by injection e with e; omega)))
          go_upto_region 23 with fail
          clear x0 x1 x2 x3 x4 d0 d1 d2 d3 z0 z1 z2 z3 z4 fx fz
          generalize (W1.setCell ⟨X, 1, none⟩ (.int .i64 (p + 1))) = W9 at *
          obtain ⟨x0, x1, x2, x3, x4⟩ := x_cells HX2.out
          obtain ⟨z0, z1, z2, z3, z4⟩ := x_cells HZ2.out
          have fz := HZ2.out.frozen
          go_wp2_with fail
          refine bodyPost_ret (x_back Try.results29 _ _ Z _ _ _ _ _ rfl (HZ2.out.set5 _ _ _ _ _)) rfl ?_
          have hf := rend_of HR2.out HG2.out HZ2.out (by omega) hZb (.slice (some ⟨g, og, none⟩) n ic) (.int .i64 (p + 1)) (.int .i64 s) (.int .i64 l) (jV b n)
          rw [HE2.out]
          exact ⟨rfl, hf.1, hf.2⟩
        · have HX2 : Hid (Blk (W1.setCell ⟨X, 1, none⟩ (.int .i64 (p + 1))) X (xC (.slice (some ⟨g, og, none⟩) n ic) (p + 1) s l (jV b n)) 43) := hide (Blk.set (HX.out) 1 (.int .i64 (p + 1)))
          have HZ2 : Hid (Blk (W1.setCell ⟨X, 1, none⟩ (.int .i64 (p + 1))) Z (xC (.slice none 0 0) 0 0 0 (.slice none 0 0)) 43) := hide (Blk.setOther (HZ.out) hXZ 1 (.int .i64 (p + 1)))
          have HR2 : Hid (RefR (W1.setCell ⟨X, 1, none⟩ (.int .i64 (p + 1))) (.slice (some ⟨g, og, none⟩) n ic) b ⟨L, p + 1, s, l, J⟩) := hide (((RefR.set (HR.out) (HX.out) hXb 1 (.int .i64 (p + 1)))).of rfl rfl)
          have HG2 : Hid (w.grownBy (W1.setCell ⟨X, 1, none⟩ (.int .i64 (p + 1))) (some b)) := hide (grown_then (HG.out) (grown_set W1 X 1 (.int .i64 (p + 1))) (fun k e => .inr (by injection e with e; omega)))
          go_upto_region 23 with fail
          clear x0 x1 x2 x3 x4 d0 d1 d2 d3 z0 z1 z2 z3 z4 fx fz
          generalize (W1.setCell ⟨X, 1, none⟩ (.int .i64 (p + 1))) = W9 at *
          obtain ⟨x0, x1, x2, x3, x4⟩ := x_cells HX2.out
          obtain ⟨z0, z1, z2, z3, z4⟩ := x_cells HZ2.out
          have fz := HZ2.out.frozen
          go_wp2_with fail
          refine bodyPost_ret (x_back Try.results29 _ _ Z _ _ _ _ _ rfl (HZ2.out.set5 _ _ _ _ _)) rfl ?_
          have hf := rend_of HR2.out HG2.out HZ2.out (by omega) hZb (.slice (some ⟨g, og, none⟩) n ic) (.int .i64 (p + 1)) (.int .i64 s) (.int .i64 l) (jV b n)
          rw [HE2.out]
          exact ⟨rfl, hf.1, hf.2⟩
    · by_cases k3 : K = 3
      · subst k3
        have hlo := okK_loiter hok.1
        by_cases ha : a ≤ l + 1
        · have HE2 : Hid (r' = ⟨L, p + 1, s, 0, J⟩) := hide (by rw [HE.out, if_neg (by omega), if_pos rfl, if_pos ha])
          clear HE
          have HX2 : Hid (Blk (((W1.setCell ⟨X, 3, none⟩ (.int .i64 (l + 1))).setCell ⟨X, 3, none⟩ (.int .i64 0)).setCell ⟨X, 1, none⟩ (.int .i64 (p + 1))) X (xC (.slice (some ⟨g, og, none⟩) n ic) (p + 1) s 0 (jV b n)) 43) := hide (Blk.set ((Blk.set ((Blk.set (HX.out) 3 (.int .i64 (l + 1)))) 3 (.int .i64 0))) 1 (.int .i64 (p + 1)))
          have HZ2 : Hid (Blk (((W1.setCell ⟨X, 3, none⟩ (.int .i64 (l + 1))).setCell ⟨X, 3, none⟩ (.int .i64 0)).setCell ⟨X, 1, none⟩ (.int .i64 (p + 1))) Z (xC (.slice none 0 0) 0 0 0 (.slice none 0 0)) 43) := hide (Blk.setOther ((Blk.setOther ((Blk.setOther (HZ.out) hXZ 3 (.int .i64 (l + 1)))) hXZ 3 (.int .i64 0))) hXZ 1 (.int .i64 (p + 1)))
          have HR2 : Hid (RefR (((W1.setCell ⟨X, 3, none⟩ (.int .i64 (l + 1))).setCell ⟨X, 3, none⟩ (.int .i64 0)).setCell ⟨X, 1, none⟩ (.int .i64 (p + 1))) (.slice (some ⟨g, og, none⟩) n ic) b ⟨L, p + 1, s, 0, J⟩) := hide (((RefR.set ((RefR.set ((RefR.set (HR.out) (HX.out) hXb 3 (.int .i64 (l + 1)))) ((Blk.set (HX.out) 3 (.int .i64 (l + 1)))) hXb 3 (.int .i64 0))) ((Blk.set ((Blk.set (HX.out) 3 (.int .i64 (l + 1)))) 3 (.int .i64 0))) hXb 1 (.int .i64 (p + 1)))).of rfl rfl)
          have HG2 : Hid (w.grownBy (((W1.setCell ⟨X, 3, none⟩ (.int .i64 (l + 1))).setCell ⟨X, 3, none⟩ (.int .i64 0)).setCell ⟨X, 1, none⟩ (.int .i64 (p + 1))) (some b)) := hide (grown_then ((grown_then ((grown_then (HG.out) (grown_set W1 X 3 (.int .i64 (l + 1))) (fun k e => .inr (by injection e with e; omega)))) (grown_set (W1.setCell ⟨X, 3, none⟩ (.int .i64 (l + 1))) X 3 (.int .i64 0)) (fun k e => .inr (by injection e with e; omega)))) (grown_set ((W1.setCell ⟨X, 3, none⟩ (.int .i64 (l + 1))).setCell ⟨X, 3, none⟩ (.int .i64 0)) X 1 (.int .i64 (p + 1))) (fun k e => .inr (by injection e with e; omega)))
          go_upto_region 23 with fail
          clear x0 x1 x2 x3 x4 d0 d1 d2 d3 z0 z1 z2 z3 z4 fx fz
          generalize (((W1.setCell ⟨X, 3, none⟩ (.int .i64 (l + 1))).setCell ⟨X, 3, none⟩ (.int .i64 0)).setCell ⟨X, 1, none⟩ (.int .i64 (p + 1))) = W9 at *
          obtain ⟨x0, x1, x2, x3, x4⟩ := x_cells HX2.out
          obtain ⟨z0, z1, z2, z3, z4⟩ := x_cells HZ2.out
          have fz := HZ2.out.frozen
          go_wp2_with fail
          refine bodyPost_ret (x_back Try.results29 _ _ Z _ _ _ _ _ rfl (HZ2.out.set5 _ _ _ _ _)) rfl ?_
          have hf := rend_of HR2.out HG2.out HZ2.out (by omega) hZb (.slice (some ⟨g, og, none⟩) n ic) (.int .i64 (p + 1)) (.int .i64 s) (.int .i64 0) (jV b n)
          rw [HE2.out]
          exact ⟨rfl, hf.1, hf.2⟩
        · have HE2 : Hid (r' = ⟨L, p, s, l + 1, J⟩) := hide (by rw [HE.out, if_neg (by omega), if_pos rfl, if_neg ha])
          clear HE
          have HX2 : Hid (Blk (W1.setCell ⟨X, 3, none⟩ (.int .i64 (l + 1))) X (xC (.slice (some ⟨g, og, none⟩) n ic) p s (l + 1) (jV b n)) 43) := hide (Blk.set (HX.out) 3 (.int .i64 (l + 1)))
          have HZ2 : Hid (Blk (W1.setCell ⟨X, 3, none⟩ (.int .i64 (l + 1))) Z (xC (.slice none 0 0) 0 0 0 (.slice none 0 0)) 43) := hide (Blk.setOther (HZ.out) hXZ 3 (.int .i64 (l + 1)))
          have HR2 : Hid (RefR (W1.setCell ⟨X, 3, none⟩ (.int .i64 (l + 1))) (.slice (some ⟨g, og, none⟩) n ic) b ⟨L, p, s, l + 1, J⟩) := hide (((RefR.set (HR.out) (HX.out) hXb 3 (.int .i64 (l + 1)))).of rfl rfl)
          have HG2 : Hid (w.grownBy (W1.setCell ⟨X, 3, none⟩ (.int .i64 (l + 1))) (some b)) := hide (grown_then (HG.out) (grown_set W1 X 3 (.int .i64 (l + 1))) (fun k e => .inr (by injection e with e; omega)))
          go_upto_region 23 with fail
          clear x0 x1 x2 x3 x4 d0 d1 d2 d3 z0 z1 z2 z3 z4 fx fz
          generalize (W1.setCell ⟨X, 3, none⟩ (.int .i64 (l + 1))) = W9 at *
          obtain ⟨x0, x1, x2, x3, x4⟩ := x_cells HX2.out
          obtain ⟨z0, z1, z2, z3, z4⟩ := x_cells HZ2.out
          have fz := HZ2.out.frozen
          go_wp2_with fail
          refine bodyPost_ret (x_back Try.results29 _ _ Z _ _ _ _ _ rfl (HZ2.out.set5 _ _ _ _ _)) rfl ?_
          have hf := rend_of HR2.out HG2.out HZ2.out (by omega) hZb (.slice (some ⟨g, og, none⟩) n ic) (.int .i64 p) (.int .i64 s) (.int .i64 (l + 1)) (jV b n)
          rw [HE2.out]
          exact ⟨rfl, hf.1, hf.2⟩
      · by_cases k4 : K = 4
        · subst k4
          have hto := hok.2 rfl
          have jc := HR.out.j.cell p (jA_get J L.length p (by rw [eN.out]; exact hlt))
          go_upto_region 15 with fail
          go_quiet (fail)
          replace HX := hide (blk_drewN HX.out nq)
          replace HD := hide (blk_drewN HD.out nq)
          replace HZ := hide (blk_drewN HZ.out nq)
          replace HR := hide (HR.out.below (below_drewN (Below.refl _ _) nq))
          replace HG := hide (grown_drewNN HG.out nq)
          clear x0 x1 x2 x3 x4 d0 d1 d2 d3 z0 z1 z2 z3 z4 fx fz jc
          generalize W1.drewN nq = W2 at *
          obtain ⟨x0, x1, x2, x3, x4⟩ := x_cells HX.out
          obtain ⟨d0, d1, d2, d3⟩ := it_cells HD.out
          obtain ⟨z0, z1, z2, z3, z4⟩ := x_cells HZ.out
          have fx := HX.out.frozen
          have fz := HZ.out.frozen
          have jc := HR.out.j.cell p (jA_get J L.length p (by rw [eN.out]; exact hlt))
          have fj := HR.out.j.frozen p
          by_cases ha : J p < bb
          · have HE2 : Hid (r' = ⟨L, a.toNat, s, l, upJ J p (J p + 1)⟩) := hide (by rw [HE.out, if_neg (by omega), if_neg (by omega), if_pos rfl, if_pos ha])
            clear HE
            go_upto_region 16 with fail
            go_region
            have HR3 : Hid (RefR (W2.setCell ⟨b, p, none⟩ (.int .i64 (J p + 1))).drew (.slice (some ⟨g, og, none⟩) n ic) b ⟨L, p, s, l, upJ J p (J p + 1)⟩) := hide ((HR.out.upd p (J p + 1)).below (below_drewN (Below.refl _ _) 1))
            have HX3 : Hid (Blk (W2.setCell ⟨b, p, none⟩ (.int .i64 (J p + 1))).drew X (xC (.slice (some ⟨g, og, none⟩) n ic) p s l (jV b n)) 43) := hide (blk_drew (HX.out.setOther hXb p (.int .i64 (J p + 1))))
            have HZ3 : Hid (Blk (W2.setCell ⟨b, p, none⟩ (.int .i64 (J p + 1))).drew Z (xC (.slice none 0 0) 0 0 0 (.slice none 0 0)) 43) := hide (blk_drew (HZ.out.setOther hZb p (.int .i64 (J p + 1))))
            have HD3 : Hid (Blk (W2.setCell ⟨b, p, none⟩ (.int .i64 (J p + 1))).drew q (iC 4 a bb c) 48) := hide (blk_drew (HD.out.setOther (fun e => by have h1 := HD.out; have h2 := HR.out.j; unfold Blk at h1 h2; rw [e, h2] at h1; simp at h1) p (.int .i64 (J p + 1))))
            have HG3 : Hid (w.grownBy (W2.setCell ⟨b, p, none⟩ (.int .i64 (J p + 1))).drew (some b)) := hide (grown_drew1 (grown_more HG.out (grown_set W2 b p (.int .i64 (J p + 1)))))
            clear x0 x1 x2 x3 x4 d0 d1 d2 d3 z0 z1 z2 z3 z4 fx fz jc fj HR HX HZ HD HG
            generalize (W2.setCell ⟨b, p, none⟩ (.int .i64 (J p + 1))).drew = W3 at *
            have HR := HR3
            have HX := HX3
            have HZ := HZ3
            have HG := HG3
            obtain ⟨x0, x1, x2, x3, x4⟩ := x_cells HX.out
            obtain ⟨d0, d1, d2, d3⟩ := it_cells HD3.out
            obtain ⟨z0, z1, z2, z3, z4⟩ := x_cells HZ.out
            have fx := HX.out.frozen
            have fz := HZ.out.frozen
            have HX2 : Hid (Blk (W3.setCell ⟨X, 1, none⟩ (.int .i64 a)) X (xC (.slice (some ⟨g, og, none⟩) n ic) a s l (jV b n)) 43) := hide (Blk.set (HX.out) 1 (.int .i64 a))
            have HZ2 : Hid (Blk (W3.setCell ⟨X, 1, none⟩ (.int .i64 a)) Z (xC (.slice none 0 0) 0 0 0 (.slice none 0 0)) 43) := hide (Blk.setOther (HZ.out) hXZ 1 (.int .i64 a))
            have HR2 : Hid (RefR (W3.setCell ⟨X, 1, none⟩ (.int .i64 a)) (.slice (some ⟨g, og, none⟩) n ic) b ⟨L, a.toNat, s, l, upJ J p (J p + 1)⟩) := hide (((RefR.set (HR.out) (HX.out) hXb 1 (.int .i64 a))).of rfl rfl)
            have HG2 : Hid (w.grownBy (W3.setCell ⟨X, 1, none⟩ (.int .i64 a)) (some b)) := hide (grown_then (HG.out) (grown_set W3 X 1 (.int .i64 a)) (fun k e => .inr (by injection e with e; omega)))
            go_upto_region 23 with fail
            clear x0 x1 x2 x3 x4 d0 d1 d2 d3 z0 z1 z2 z3 z4 fx fz
            generalize (W3.setCell ⟨X, 1, none⟩ (.int .i64 a)) = W9 at *
            obtain ⟨x0, x1, x2, x3, x4⟩ := x_cells HX2.out
            obtain ⟨z0, z1, z2, z3, z4⟩ := x_cells HZ2.out
            have fz := HZ2.out.frozen
            go_wp2_with fail
            refine bodyPost_ret (x_back Try.results29 _ _ Z _ _ _ _ _ rfl (HZ2.out.set5 _ _ _ _ _)) rfl ?_
            have hf := rend_of HR2.out HG2.out HZ2.out (by omega) hZb (.slice (some ⟨g, og, none⟩) n ic) (.int .i64 a) (.int .i64 s) (.int .i64 l) (jV b n)
            rw [HE2.out]
            exact ⟨by simp only; rw [show ((a.toNat : Nat) : Int) = a by omega], hf.1, hf.2⟩
          · have HE2 : Hid (r' = ⟨L, p + 1, s, l, upJ J p 0⟩) := hide (by rw [HE.out, if_neg (by omega), if_neg (by omega), if_pos rfl, if_neg ha])
            clear HE
            have HR3 : Hid (RefR (W2.setCell ⟨b, p, none⟩ (.int .i64 0)) (.slice (some ⟨g, og, none⟩) n ic) b ⟨L, p, s, l, upJ J p 0⟩) := hide (HR.out.upd p 0)
            have HX3 : Hid (Blk (W2.setCell ⟨b, p, none⟩ (.int .i64 0)) X (xC (.slice (some ⟨g, og, none⟩) n ic) p s l (jV b n)) 43) := hide (HX.out.setOther hXb p (.int .i64 0))
            have HZ3 : Hid (Blk (W2.setCell ⟨b, p, none⟩ (.int .i64 0)) Z (xC (.slice none 0 0) 0 0 0 (.slice none 0 0)) 43) := hide (HZ.out.setOther hZb p (.int .i64 0))
            have HG3 : Hid (w.grownBy (W2.setCell ⟨b, p, none⟩ (.int .i64 0)) (some b)) := hide (grown_more HG.out (grown_set W2 b p (.int .i64 0)))
            go_upto_region 19 with fail
            clear x0 x1 x2 x3 x4 d0 d1 d2 d3 z0 z1 z2 z3 z4 fx fz jc fj HR HX HZ HG
            generalize W2.setCell ⟨b, p, none⟩ (.int .i64 0) = W3 at *
            have HR := HR3
            have HX := HX3
            have HZ := HZ3
            have HG := HG3
            obtain ⟨x0, x1, x2, x3, x4⟩ := x_cells HX.out
            obtain ⟨z0, z1, z2, z3, z4⟩ := x_cells HZ.out
            have fx := HX.out.frozen
            have fz := HZ.out.frozen
            have HX2 : Hid (Blk (W3.setCell ⟨X, 1, none⟩ (.int .i64 (p + 1))) X (xC (.slice (some ⟨g, og, none⟩) n ic) (p + 1) s l (jV b n)) 43) := hide (Blk.set (HX.out) 1 (.int .i64 (p + 1)))
            have HZ2 : Hid (Blk (W3.setCell ⟨X, 1, none⟩ (.int .i64 (p + 1))) Z (xC (.slice none 0 0) 0 0 0 (.slice none 0 0)) 43) := hide (Blk.setOther (HZ.out) hXZ 1 (.int .i64 (p + 1)))
            have HR2 : Hid (RefR (W3.setCell ⟨X, 1, none⟩ (.int .i64 (p + 1))) (.slice (some ⟨g, og, none⟩) n ic) b ⟨L, p + 1, s, l, upJ J p 0⟩) := hide (((RefR.set (HR.out) (HX.out) hXb 1 (.int .i64 (p + 1)))).of rfl rfl)
            have HG2 : Hid (w.grownBy (W3.setCell ⟨X, 1, none⟩ (.int .i64 (p + 1))) (some b)) := hide (grown_then (HG.out) (grown_set W3 X 1 (.int .i64 (p + 1))) (fun k e => .inr (by injection e with e; omega)))
            go_upto_region 23 with fail
            clear x0 x1 x2 x3 x4 z0 z1 z2 z3 z4 fx fz
            generalize (W3.setCell ⟨X, 1, none⟩ (.int .i64 (p + 1))) = W9 at *
            obtain ⟨x0, x1, x2, x3, x4⟩ := x_cells HX2.out
            obtain ⟨z0, z1, z2, z3, z4⟩ := x_cells HZ2.out
            have fz := HZ2.out.frozen
            go_wp2_with fail
            refine bodyPost_ret (x_back Try.results29 _ _ Z _ _ _ _ _ rfl (HZ2.out.set5 _ _ _ _ _)) rfl ?_
            have hf := rend_of HR2.out HG2.out HZ2.out (by omega) hZb (.slice (some ⟨g, og, none⟩) n ic) (.int .i64 (p + 1)) (.int .i64 s) (.int .i64 l) (jV b n)
            rw [HE2.out]
            exact ⟨rfl, hf.1, hf.2⟩
        · by_cases k5 : K = 5
          · subst k5
            have HE2 : Hid (r' = ⟨L, p + 1, a, l, J⟩) := hide (by rw [HE.out]; rfl)
            clear HE
            have HX2 : Hid (Blk ((W1.setCell ⟨X, 2, none⟩ (.int .i64 a)).setCell ⟨X, 1, none⟩ (.int .i64 (p + 1))) X (xC (.slice (some ⟨g, og, none⟩) n ic) (p + 1) a l (jV b n)) 43) := hide (Blk.set ((Blk.set (HX.out) 2 (.int .i64 a))) 1 (.int .i64 (p + 1)))
            have HZ2 : Hid (Blk ((W1.setCell ⟨X, 2, none⟩ (.int .i64 a)).setCell ⟨X, 1, none⟩ (.int .i64 (p + 1))) Z (xC (.slice none 0 0) 0 0 0 (.slice none 0 0)) 43) := hide (Blk.setOther ((Blk.setOther (HZ.out) hXZ 2 (.int .i64 a))) hXZ 1 (.int .i64 (p + 1)))
            have HR2 : Hid (RefR ((W1.setCell ⟨X, 2, none⟩ (.int .i64 a)).setCell ⟨X, 1, none⟩ (.int .i64 (p + 1))) (.slice (some ⟨g, og, none⟩) n ic) b ⟨L, p + 1, a, l, J⟩) := hide (((RefR.set ((RefR.set (HR.out) (HX.out) hXb 2 (.int .i64 a))) ((Blk.set (HX.out) 2 (.int .i64 a))) hXb 1 (.int .i64 (p + 1)))).of rfl rfl)
            have HG2 : Hid (w.grownBy ((W1.setCell ⟨X, 2, none⟩ (.int .i64 a)).setCell ⟨X, 1, none⟩ (.int .i64 (p + 1))) (some b)) := hide (grown_then ((grown_then (HG.out) (grown_set W1 X 2 (.int .i64 a)) (fun k e => .inr (by injection e with e; omega)))) (grown_set (W1.setCell ⟨X, 2, none⟩ (.int .i64 a)) X 1 (.int .i64 (p + 1))) (fun k e => .inr (by injection e with e; omega)))
            go_upto_region 23 with fail
            clear x0 x1 x2 x3 x4 d0 d1 d2 d3 z0 z1 z2 z3 z4 fx fz
            generalize ((W1.setCell ⟨X, 2, none⟩ (.int .i64 a)).setCell ⟨X, 1, none⟩ (.int .i64 (p + 1))) = W9 at *
            obtain ⟨x0, x1, x2, x3, x4⟩ := x_cells HX2.out
            obtain ⟨z0, z1, z2, z3, z4⟩ := x_cells HZ2.out
            have fz := HZ2.out.frozen
            go_wp2_with fail
            refine bodyPost_ret (x_back Try.results29 _ _ Z _ _ _ _ _ rfl (HZ2.out.set5 _ _ _ _ _)) rfl ?_
            have hf := rend_of HR2.out HG2.out HZ2.out (by omega) hZb (.slice (some ⟨g, og, none⟩) n ic) (.int .i64 (p + 1)) (.int .i64 a) (.int .i64 l) (jV b n)
            rw [HE2.out]
            exact ⟨rfl, hf.1, hf.2⟩
          · have HE2 : Hid (r' = ⟨L, p, s, l, J⟩) := hide (by rw [HE.out, if_neg k12, if_neg k3, if_neg k4, if_neg k5])
            have k1 : ¬ K = 1 := fun e => k12 (.inl e)
            have k2 : ¬ K = 2 := fun e => k12 (.inr e)
            clear HE k12
            have HX2 : Hid (Blk W1 X (xC (.slice (some ⟨g, og, none⟩) n ic) p s l (jV b n)) 43) := hide HX.out
            have HZ2 : Hid (Blk W1 Z (xC (.slice none 0 0) 0 0 0 (.slice none 0 0)) 43) := hide HZ.out
            have HR2 : Hid (RefR W1 (.slice (some ⟨g, og, none⟩) n ic) b ⟨L, p, s, l, J⟩) := hide ((HR.out).of rfl rfl)
            have HG2 : Hid (w.grownBy W1 (some b)) := hide HG.out
            go_upto_region 23 with fail
            clear x0 x1 x2 x3 x4 d0 d1 d2 d3 z0 z1 z2 z3 z4 fx fz
            generalize W1 = W9 at *
            obtain ⟨x0, x1, x2, x3, x4⟩ := x_cells HX2.out
            obtain ⟨z0, z1, z2, z3, z4⟩ := x_cells HZ2.out
            have fz := HZ2.out.frozen
            go_wp2_with fail
            refine bodyPost_ret (x_back Try.results29 _ _ Z _ _ _ _ _ rfl (HZ2.out.set5 _ _ _ _ _)) rfl ?_
            have hf := rend_of HR2.out HG2.out HZ2.out (by omega) hZb (.slice (some ⟨g, og, none⟩) n ic) (.int .i64 p) (.int .i64 s) (.int .i64 l) (jV b n)
            rw [HE2.out]
            exact ⟨rfl, hf.1, hf.2⟩
  · have hpn : r.p = n := by omega
    have HE := hide (HSE.out hpn)
    have hq1 : ((n : Int) ≤ r.p) := by omega
    clear hpn
    obtain ⟨z0, z1, z2, z3, z4⟩ := x_cells HZ.out
    have fz := HZ.out.frozen
    clear HSE HSI HXX HI HOK
    go_wp2_with fail
    refine bodyPost_ret (x_back Try.results29 _ _ Z _ _ _ _ _ rfl (HZ.out.set5 _ _ _ _ _)) rfl ?_
    rw [HE.out]
    have hf := rend_of HR.out HG.out HZ.out hZw hZb (.slice ia n ic) (.int .i64 r.p) (.int .i64 r.s) (.int .i64 r.l) (jV b n)
    exact ⟨rfl, hf.1, hf.2⟩
end Go.Proofs.Ytnekjfidobglmaa
