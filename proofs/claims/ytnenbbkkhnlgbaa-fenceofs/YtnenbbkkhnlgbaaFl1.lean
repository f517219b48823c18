/- The statements' own helpers: fences that are lent, and kept; the same. -/
import Derived.Test.YtnenbbkkhnlgbaaFeD
import Derived.Test.YtnenbbkkhnlgbaaGrG
namespace Go.Proofs.Ytnenbbkkhnlgbaa
open Go.RowKit Go.Great

theorem atF_any (x y : Int) (w : World) : Calls Try.prog 41 #[.int .i64 x, .int .i64 y] w fun e w' => e = .returned (.agg #[.int .i64 x, .int .i64 y]) ∧ w' = w.alloc (.cells #[.int .i64 x, .int .i64 y] 39) := by
  go_enter Try.func41, Try.ntmps41
  go_wp2_with fail
  exact bodyPost_ret (pt_back (p := 4) (by kernel_rfl) _ _ w.heap.size _ _ rfl (Blk.new _ _ _)) rfl ⟨rfl, rfl⟩
theorem atF_below (x y : Int) (w : World) : Calls Try.prog 41 #[.int .i64 x, .int .i64 y] w fun e w' => e = .returned (.agg #[.int .i64 x, .int .i64 y]) ∧ Below w.heap.size w w' :=
  (atF_any x y w).mono fun _ _ ⟨h1, h2⟩ => ⟨h1, h2 ▸ below_alloc _ _⟩
/-- a list that was lent: its own memory, a mark behind -/
def Lnt (w : World) (v : Value) (l : List Pt) : Prop := ∃ g cap, v = .slice (some ⟨g, 0, none⟩) l.length cap ∧ Pts w (.slice (some ⟨g, 0, none⟩) (l.length + 1) cap) (l ++ [mark]) ∧ l.length + 1 ≤ cap
theorem Lnt.pts {w : World} {v : Value} {l : List Pt} (h : Lnt w v l) : Pts w v l := by
  obtain ⟨g, cap, rfl, h1, _⟩ := h
  exact h1.own
theorem Lnt.below {w w' : World} {v : Value} {l : List Pt} (h : Lnt w v l) (hb : Below w.heap.size w w') : Lnt w' v l := by
  obtain ⟨g, cap, e, h1, h2⟩ := h
  exact ⟨g, cap, e, h1.below hb, h2⟩
theorem grown_cell {w w' : World} {row : Option Nat} (h : w.grownBy w' row) {g i : Nat} (hg : g < w.heap.size) (hne : row ≠ some g) : w'.cell? ⟨g, i, none⟩ = w.cell? ⟨g, i, none⟩ := by
  unfold World.cell?
  rw [h.block g hg (fun e => hne e.symm)]
theorem Pts.grown {w w' : World} {v : Value} {l : List Pt} {row : Option Nat} (h : Pts w v l) (hg : w.grownBy w' row) (hne : ∀ g, v.ownBlock = some g → row ≠ some g) : Pts w' v l := by
  obtain ⟨a, cap, rfl, h1⟩ := h
  refine ⟨a, cap, rfl, fun h0 => ?_⟩
  obtain ⟨g, o, rfl, hg1, hc⟩ := h1 h0
  have hs := hg.size
  exact ⟨g, o, rfl, by omega, fun i hi => ⟨(grown_cell hg hg1 (hne g rfl)).trans (hc i hi).1, (grown_cell hg hg1 (hne g rfl)).trans (hc i hi).2⟩⟩
theorem Lnt.grown {w w' : World} {v : Value} {l : List Pt} {row : Option Nat} (h : Lnt w v l) (hg : w.grownBy w' row) (hne : ∀ g, v.ownBlock = some g → row ≠ some g) : Lnt w' v l := by
  obtain ⟨g, cap, rfl, h1, h2⟩ := h
  exact ⟨g, cap, rfl, h1.grown hg (fun g' e => hne g' e), h2⟩
theorem Lnt.lt {w : World} {v : Value} {l : List Pt} (h : Lnt w v l) : ∀ g, v.ownBlock = some g → g < w.heap.size := by
  obtain ⟨g, cap, rfl, h1, h2⟩ := h
  intro g' e
  injection e with e
  have e' : g = g' := e
  clear e
  subst e'
  obtain ⟨_, _, e, h⟩ := h1
  obtain ⟨g3, o, e2, hg, _⟩ := h (by simp)
  rw [e2] at e
  injection e with e
  injection e with e
  injection e with e
  rw [e]
  exact hg
set_option maxRecDepth 100000 in
set_option maxHeartbeats 2000000 in
theorem spare_any (l : List Pt) (v : Value) (w : World) (hv : PtsIn w v l) : Calls Try.prog 40 #[v] w fun e w' => ∃ u, e = .returned u ∧ Lnt w' u l ∧ (∀ g, u.ownBlock = some g → w.heap.size ≤ g) ∧ Below w.heap.size w w' := by
  obtain ⟨hv, hnil, hlen⟩ := hv
  obtain ⟨i0, hi, hz0, hz1, hz2⟩ := info_parts info_pt
  have HV := hide hv
  obtain ⟨a, cap, rfl, hc0⟩ := hv
  have HNIL : Hid (a = none → l.length = 0 ∧ cap = 0) := by
    intro e
    subst e
    refine ⟨?_, hnil _ _ rfl⟩
    refine Decidable.byContradiction fun h => ?_
    obtain ⟨g, o, e, _⟩ := hc0 (by omega)
    cases e
  unfold Lnt
  obtain ⟨n, hn⟩ : ∃ n, l.length = n := ⟨_, rfl⟩
  have HN := hide hn
  rw [hn] at hlen HNIL ⊢
  clear hn hc0 hnil
  go_enter Try.func40, Try.ntmps40
  go_wp2_with (at_builtin; refine wpList_append_any rfl (.tmp 4) (.tmp 5) 22 rfl w.heap.size 39 i0 _ 2 16 Try.underlying22 hi hz0 hz1 hz2 rfl (by decide) (.slice none 0 0) 0 [] rfl (World.ownsRow_nil _ _ _ _) a n cap (ptC l) rfl ?a1 HNIL.out ?a2 (ptC_one l) ?a3 ?a4 (Nat.le_refl _) ?_)
  case a1 => rw [ptC_len, HN.out]
  case a2 => exact pts_news (by rw [HN.out]; exact (HN.out ▸ HV.out))
  case a3 => unfold maxLen; omega
  case a4 => omega
  intro v1 w1 hown1 hgrow1
  have HB1 : Hid (Below w.heap.size w w1) := (Below.refl w.heap.size w).grown hgrow1 (Nat.le_refl _) (fun k e => by cases e)
  obtain ⟨ao1, c1, rfl⟩ : ∃ ao c, v1 = .slice ao n c := by
    rcases hown1.2 with ⟨e1, e2⟩ | ⟨g, cp, cur, e1, _⟩
    · exact ⟨none, 0, by rw [e1, show n = 0 by omega]⟩
    · exact ⟨some ⟨g, 0, none⟩, cp, e1⟩
  have HO0 := hide hown1
  have hs1 := HB1.out.size
  clear hown1 hgrow1 HNIL HV
  go_wp2_with fail
  refine (atF_below _ _ _).mono ?_
  rintro e w3 ⟨rfl, hb3⟩
  have HB3 : Hid (Below w.heap.size w w3) := hide (below_next HB1.out (Nat.le_refl _) hb3)
  have hs3 := HB3.out.size
  have HO1 : Hid ((w3.alloc (.cells #[.int .i64 (-77), .int .i64 (-77)] 39)).ownsRow w.heap.size 39 2 (.slice ao1 n c1) n (ptC l)) := by
    have h := World.ownsRow.kept HO0.out (grown_below (hb3.trans ((below_alloc w3 (.cells #[.int .i64 (-77), .int .i64 (-77)] 39)).mono hb3.size)) none) (by cases ao1 <;> simp [Value.ownBlock])
    exact h
  clear hb3 HO0
  go_wp2_with (at_builtin; refine wpList_append_any rfl (.tmp 7) (.tmp 9) 22 rfl w.heap.size 39 i0 _ 2 16 Try.underlying22 hi hz0 hz1 hz2 rfl (by decide) (.slice ao1 n c1) n (ptC l) rfl HO1.out (some ⟨w3.heap.size, 0, none⟩) 1 1 [.int .i64 (-77), .int .i64 (-77)] rfl rfl (fun e => by cases e) ?b2 ?b5 ?b3 ?b4 ?b6 ?_)
  case b2 =>
    intro ad e
    injection e with e
    subst e
    exact new_cell2 w3 _ rfl _ _ _
  case b5 => intro u hu; simp at hu; subst hu; rfl
  case b3 => unfold maxLen; omega
  case b4 => omega
  case b6 => rw [size_alloc]; omega
  intro v2 w2 hown2 hgrow2
  have hR : PRow w2 w.heap.size v2 (l ++ [mark]) := by
    show World.ownsRow _ _ _ _ _ _ _
    rw [List.length_append, HN.out, ptC_app]
    exact hown2
  have HB2 : Hid (Below w.heap.size w w2) := (HB3.out.alloc hs3 _).grown hgrow2 (by rw [size_alloc]; omega) (fun k e => (HO1.out.lt k e).1)
  obtain ⟨g2, cap2, rfl, hg2, hg3, hc2⟩ := hR.shape (by simp)
  have HP := hide hR.pts
  rw [List.length_append, HN.out] at hc2 HP ⊢
  simp only [List.length_cons, List.length_nil, Nat.zero_add] at hc2 HP ⊢
  have HG2 := hide hg2
  clear hown2 hgrow2 HO1 hR hi hz0 hz1 hz2 hg2 hg3
  have hc3 : n ≤ cap2 := by omega
  go_wp2_with fail
  go_ret
  exact ⟨_, rfl, ⟨g2, cap2, rfl, HP.out, hc2⟩, (fun g e => by injection e with e; have e2 : g2 = g := e; have := HG2.out; omega), HB2.out⟩
set_option maxRecDepth 100000 in
set_option maxHeartbeats 4000000 in
theorem lentF_any (P R : List Pt) (fl ce : Int) (p r : Value) (w : World) (hp : PtsIn w p P) (hr : PtsIn w r R) : Calls Try.prog 16 #[fV p fl ce r] w fun e w' => ∃ p' r', e = .returned (fV p' fl ce r') ∧ Lnt w' p' P ∧ Lnt w' r' R ∧ Below w.heap.size w w' := by
  have L1 := fun W (hb : Below w.heap.size w W) => spare_any P p W ⟨hp.1.below hb, hp.2⟩
  have L2 := fun W (hb : Below w.heap.size w W) => spare_any R r W ⟨hr.1.below hb, hr.2⟩
  obtain ⟨ap, cp, rfl, hcl⟩ := hp.1
  obtain ⟨ar, cr, rfl, hcl'⟩ := hr.1
  generalize P.length = n1 at *
  generalize R.length = n2 at *
  clear hcl hcl' hp hr
  simp only [fV] at *
  go_enter Try.func16, Try.ntmps16
  go_wp2_with fail
  obtain ⟨W0, hW0, hB, B0, B1, B2, hz⟩ := three_boxes w #[.slice ap n1 cp, .int .i64 fl, .int .i64 ce, .slice ar n2 cr] #[.slice none 0 0, .int .i64 0, .int .i64 0, .slice none 0 0] #[.slice ap n1 cp, .int .i64 fl, .int .i64 ce, .slice ar n2 cr] 24 24 24
  rw [hW0]
  clear hW0
  refine (L1 W0 hB).mono ?_
  rintro e w1 ⟨p', rfl, hL1, hf1, hb1⟩
  have hz1 := hb1.size
  replace B0 := B0.after hb1
  replace B1 := B1.after hb1
  replace B2 := B2.after hb1
  replace hB := below_next hB (Nat.le_refl _) hb1
  clear L1 hb1
  obtain ⟨g1, c1, hpv, hP1, hc1⟩ := hL1
  have hL1' : Lnt w1 p' P := ⟨g1, c1, hpv, hP1, hc1⟩
  have hg1 := hf1 g1 (by rw [hpv]; rfl)
  have hg2 := hL1'.lt g1 (by rw [hpv]; rfl)
  have hgr := grown_set w1 (w.heap.size + 1 + 1) 0 p'
  have S0 : Blk (w1.setCell ⟨w.heap.size + 1 + 1, 0, none⟩ p') w.heap.size #[.slice ap n1 cp, .int .i64 fl, .int .i64 ce, .slice ar n2 cr] 24 := B0.grown hgr (by simp; omega)
  have S1 : Blk (w1.setCell ⟨w.heap.size + 1 + 1, 0, none⟩ p') (w.heap.size + 1) #[.slice none 0 0, .int .i64 0, .int .i64 0, .slice none 0 0] 24 := B1.grown hgr (by simp)
  have S2 : Blk (w1.setCell ⟨w.heap.size + 1 + 1, 0, none⟩ p') (w.heap.size + 1 + 1) #[p', .int .i64 fl, .int .i64 ce, .slice ar n2 cr] 24 := heap_set B2 0 _
  have SL : Lnt (w1.setCell ⟨w.heap.size + 1 + 1, 0, none⟩ p') p' P := hL1'.grown hgr (fun g e => by
    rw [hpv] at e
    injection e with e
    have e' : g1 = g := e
    intro e2
    injection e2 with e2
    omega)
  have hBs : Below w.heap.size w (w1.setCell ⟨w.heap.size + 1 + 1, 0, none⟩ p') := below_set hB _ _ _ (by omega) (by omega)
  have hsz := setCell_size w1 (w.heap.size + 1 + 1) 0 p'
  have m0 := B2.cell 0 rfl
  have fz := B2.frozen
  have hw1 : ∀ V : Value, V = p' → w1.setCell ⟨w.heap.size + 1 + 1, 0, none⟩ V = w1.setCell ⟨w.heap.size + 1 + 1, 0, none⟩ p' := fun V e => by rw [e]
  obtain ⟨w2, hw2⟩ : ∃ w2, w1.setCell ⟨w.heap.size + 1 + 1, 0, none⟩ p' = w2 := ⟨_, rfl⟩
  rw [hw2] at S0 S1 S2 SL hBs hsz
  clear hw1 hL1' hP1 hc1 hgr B0 B1 B2 hB hf1
  subst hpv
  generalize P.length = np at *
  have k3 := S0.cell 3 rfl
  go_wp2_with fail
  try rw [hw2]
  clear hw2 m0 fz k3
  refine (L2 w2 hBs).mono ?_
  rintro e w3 ⟨r', rfl, hL2, hf2, hb3⟩
  have hz3 := hb3.size
  replace S0 := S0.after hb3
  replace S1 := S1.after hb3
  replace S2 := S2.after hb3
  replace SL := SL.below hb3
  replace hBs := below_next hBs (Nat.le_refl _) hb3
  clear L2 hb3
  obtain ⟨g4, c4, hrv, hP4, hc4⟩ := hL2
  have hL2' : Lnt w3 r' R := ⟨g4, c4, hrv, hP4, hc4⟩
  have hg4 := hf2 g4 (by rw [hrv]; rfl)
  have hgr := grown_set w3 (w.heap.size + 1 + 1) 3 r'
  have T1 : Blk (w3.setCell ⟨w.heap.size + 1 + 1, 3, none⟩ r') (w.heap.size + 1) #[.slice none 0 0, .int .i64 0, .int .i64 0, .slice none 0 0] 24 := S1.grown hgr (by simp)
  have T2 : Blk (w3.setCell ⟨w.heap.size + 1 + 1, 3, none⟩ r') (w.heap.size + 1 + 1) #[.slice (some ⟨g1, 0, none⟩) np c1, .int .i64 fl, .int .i64 ce, r'] 24 := heap_set S2 3 _
  have TL : Lnt (w3.setCell ⟨w.heap.size + 1 + 1, 3, none⟩ r') (.slice (some ⟨g1, 0, none⟩) np c1) P := SL.grown hgr (fun g e => by
    injection e with e
    have e' : g1 = g := e
    intro e2
    injection e2 with e2
    omega)
  have TM : Lnt (w3.setCell ⟨w.heap.size + 1 + 1, 3, none⟩ r') r' R := hL2'.grown hgr (fun g e => by
    rw [hrv] at e
    injection e with e
    have e' : g4 = g := e
    intro e2
    injection e2 with e2
    omega)
  have hBt : Below w.heap.size w (w3.setCell ⟨w.heap.size + 1 + 1, 3, none⟩ r') := below_set hBs _ _ _ (by omega) (by omega)
  have hst := setCell_size w3 (w.heap.size + 1 + 1) 3 r'
  have m3 := S2.cell 3 rfl
  have fz := S2.frozen
  obtain ⟨w4, hw4⟩ : ∃ w4, w3.setCell ⟨w.heap.size + 1 + 1, 3, none⟩ r' = w4 := ⟨_, rfl⟩
  rw [hw4] at T1 T2 TL TM hBt hst
  clear hL2' hP4 hc4 hgr S0 S1 S2 SL hBs hf2
  subst hrv
  generalize R.length = nr at *
  have a0 := T2.cell 0 rfl
  have a1 := T2.cell 1 rfl
  have a2 := T2.cell 2 rfl
  have a3 := T2.cell 3 rfl
  have b0 := T1.cell 0 rfl
  have b1 := T1.cell 1 rfl
  have b2' := T1.cell 2 rfl
  have b3' := T1.cell 3 rfl
  have fz1 := T1.frozen
  have HT1 := hide T1
  have HTL := hide TL
  have HTM := hide TM
  have HBT := hide hBt
  clear T1 T2 TL TM hBt
  go_wp2_with fail
  refine bodyPost_ret (fence_one (p := 2) (by kernel_rfl) _ _ (w.heap.size + 1) _ _ _ _ rfl (HT1.out.set4 _ _ _ _)) rfl ?_
  refine ⟨_, _, rfl, HTL.out.grown (grown_set4 _ _ _ _ _ _) (fun g e => by
    injection e with e
    have e' : g1 = g := e
    intro e2
    injection e2 with e2
    omega), HTM.out.grown (grown_set4 _ _ _ _ _ _) (fun g e => by
    injection e with e
    have e' : g4 = g := e
    intro e2
    injection e2 with e2
    omega), below_set4 HBT.out _ _ _ _ _ (by omega) (by omega)⟩
end Go.Proofs.Ytnenbbkkhnlgbaa
