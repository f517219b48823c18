/- Four lists of points that share no memory: what is known while they are marked, and while they grow. -/
import Derived.Test.YtnenbbkkhnlgbaaFl1
namespace Go.Proofs.Ytnenbbkkhnlgbaa
open Go.RowKit Go.Great

def mkM (j n : Nat) : List Pt := (List.range n).map fun (k : Nat) => ((j : Int), (k : Int))
def mkN (j t : Nat) : List Pt := (List.range t).map fun (k : Nat) => (-(j : Int) - 1, (k : Int))
theorem mkM_len (j n : Nat) : (mkM j n).length = n := by simp [mkM]
theorem mkN_len (j n : Nat) : (mkN j n).length = n := by simp [mkN]
theorem mkM_at (j n k : Nat) (h : k < n) : (mkM j n).getD k (0, 0) = ((j : Int), (k : Int)) := by simp [mkM, List.getD, h]
theorem mkN_succ (j t : Nat) : mkN j (t + 1) = mkN j t ++ [(-(j : Int) - 1, (t : Int))] := by simp [mkN, List.range_succ]
theorem mkMN_at (j n t k : Nat) (h : k < t) : (mkM j n ++ mkN j t).getD (n + k) (0, 0) = (-(j : Int) - 1, (k : Int)) := by
  simp only [List.getD]
  rw [List.getElem?_append_right (by rw [mkM_len]; omega), mkM_len, Nat.add_sub_cancel_left]
  simp [mkN, h]
/-- a block of four lists -/
def Four (w : World) (L : Nat) (f : Nat → Value) : Prop := Blk w L #[f 0, f 1, f 2, f 3] 22
theorem lt4 {i : Nat} (h : i < 4) : i = 0 ∨ i = 1 ∨ i = 2 ∨ i = 3 := by omega
theorem Four.at {w : World} {L : Nat} {f : Nat → Value} (h : Four w L f) (i : Nat) (hi : i < 4) : w.cell? ⟨L, i, none⟩ = some (f i) := by
  rcases lt4 hi with rfl | rfl | rfl | rfl
  · exact h.cell 0 rfl
  · exact h.cell 1 rfl
  · exact h.cell 2 rfl
  · exact h.cell 3 rfl
theorem Four.fz {w : World} {L : Nat} {f : Nat → Value} (h : Four w L f) (i : Nat) : w.frozen? ⟨L, i, none⟩ = false := h.frozen i
theorem Four.lt {w : World} {L : Nat} {f : Nat → Value} (h : Four w L f) : L < w.heap.size := Blk.lt h
def updF (f : Nat → Value) (i : Nat) (x : Value) : Nat → Value := fun j => if j = i then x else f j
def updN (f : Nat → Nat) (i : Nat) (x : Nat) : Nat → Nat := fun j => if j = i then x else f j
theorem Four.set {w : World} {L : Nat} {f : Nat → Value} (h : Four w L f) (i : Nat) (hi : i < 4) (x : Value) : Four (w.setCell ⟨L, i, none⟩ x) L (updF f i x) := by
  have := heap_set h i x
  rcases lt4 hi with rfl | rfl | rfl | rfl <;> simpa [Four, Blk, updF] using this
theorem Four.grown {w w' : World} {L : Nat} {f : Nat → Value} {row : Option Nat} (h : Four w L f) (g : w.grownBy w' row) (hr : row ≠ some L) : Four w' L f := Blk.grown h g hr
theorem PRow.ne4 {w : World} {base L : Nat} {v : Value} {l : List Pt} {f : Nat → Value} (h : PRow w base v l) (h2 : Four w L f) : v.ownBlock ≠ some L := blk_apart h h2 (by decide)
theorem PRow.grown' {w w' : World} {base : Nat} {v : Value} {l : List Pt} {row : Option Nat} (h : PRow w base v l) (g : w.grownBy w' row) (hne : row = none ∨ v.ownBlock ≠ row) : PRow w' base v l := by
  refine World.ownsRow.kept h g ?_
  rcases hne with e | e
  · rw [e]; cases v.ownBlock <;> simp
  · exact .inr e
theorem set_at (l : List Pt) (k t : Nat) (x : Pt) (hk : k < l.length) : (l.set k x).getD t (0, 0) = if t = k then x else l.getD t (0, 0) := by
  simp only [List.getD]
  rw [List.getElem?_set]
  by_cases e : t = k
  · subst e
    simp [hk]
  · rw [if_neg (fun h => e h.symm), if_neg e]
theorem ptC_set : ∀ (l : List Pt) (k : Nat) (x : Pt), k < l.length → ptC (l.set k x) = ((ptC l).set (k * 2) (.int .i64 x.1)).set (k * 2 + 1) (.int .i64 x.2)
  | [], k, x, h => by simp at h
  | p :: l, 0, x, _ => by simp [ptC]
  | p :: l, k + 1, x, h => by
    have := ptC_set l k x (by simpa using h)
    have e : (k + 1) * 2 = k * 2 + 1 + 1 := by omega
    rw [e]
    simp only [ptC, List.set_cons_succ, List.flatMap_cons, List.cons_append, List.nil_append] at *
    rw [this]
theorem pts_ext {a b : List Pt} (hl : a.length = b.length) (h : ∀ i, i < a.length → a.getD i (0, 0) = b.getD i (0, 0)) : a = b := by
  refine List.ext_getElem hl fun i h1 h2 => ?_
  have := h i h1
  rw [List.getD, List.getD, List.getElem?_eq_getElem h1, List.getElem?_eq_getElem h2] at this
  exact this
/-- while the lists are marked: the first K j places of list j are -/
structure Ap1 (w : World) (base : Nat) (N : Nat → Nat) (L : Nat) (vv : Nat → Value) (K : Nat → Nat) (wx : World) : Prop where
  rows : ∀ j, j < 4 → ∃ l, PRow wx base (vv j) l ∧ l.length = N j ∧ ∀ t, t < K j → l.getD t (0, 0) = ((j : Int), (t : Int))
  ap : ∀ i j, i < 4 → j < 4 → i ≠ j → ∀ g, (vv i).ownBlock = some g → (vv j).ownBlock ≠ some g
  lb : Four wx L vv
  bel : Below base w wx
  bl : base ≤ L
theorem Ap1.below {w : World} {base L : Nat} {N : Nat → Nat} {vv : Nat → Value} {K : Nat → Nat} {wx wy : World} (h : Ap1 w base N L vv K wx) (hb : Below wx.heap.size wx wy) : Ap1 w base N L vv K wy := by
  refine ⟨fun j hj => ?_, h.ap, h.lb.after hb, h.bel.trans (hb.mono (by have := h.lb.lt; have := h.bl; omega)), h.bl⟩
  obtain ⟨l, hR, hl, hm⟩ := h.rows j hj
  exact ⟨l, hR.below hb, hl, hm⟩
/-- one place more is marked -/
theorem Ap1.mark {w : World} {base L : Nat} {N : Nat → Nat} {vv : Nat → Value} {K : Nat → Nat} {wx : World} (h : Ap1 w base N L vv K wx) (i : Nat) (hi : i < 4) (hk : K i < N i) : ∃ g c, vv i = .slice (some ⟨g, 0, none⟩) (N i) c ∧ (∃ x y, wx.cell? ⟨g, K i * 2, none⟩ = some (.int .i64 x) ∧ wx.cell? ⟨g, K i * 2 + 1, none⟩ = some (.int .i64 y)) ∧ (∀ q, wx.frozen? ⟨g, q, none⟩ = false) ∧ g < wx.heap.size ∧ Ap1 w base N L vv (updN K i (K i + 1)) ((wx.setCell ⟨g, K i * 2, none⟩ (.int .i64 (i : Int))).setCell ⟨g, K i * 2 + 1, none⟩ (.int .i64 (K i : Int))) := by
  obtain ⟨l, hR, hl, hm⟩ := h.rows i hi
  have hR0 := hR
  rcases hR.2 with ⟨_, h0⟩ | ⟨g, c, cur, hv, hbg, hh, _⟩
  · omega
  have hRv : wx.ownsRow base 39 2 (.slice (some ⟨g, 0, none⟩) (N i) c) (N i) (ptC l) := by
    have := hR0
    unfold PRow at this
    rw [hv, hl] at this
    exact this
  have hob : (vv i).ownBlock = some g := by rw [hv]; rfl
  have hgL : g ≠ L := fun e => (hR0.ne4 h.lb) (by rw [hob, e])
  have hst1 := World.ownsRow.stored hRv (K i * 2) (.int .i64 (i : Int))
  have hst2 := World.ownsRow.stored hst1.1 (K i * 2 + 1) (.int .i64 (K i : Int))
  have hg2 := grown_then hst1.2 hst2.2 (fun k e => by injection e with e; exact Or.inl e.symm)
  have hc := hRv.2
  have hcell := PRow.pts hR0
  rw [hv] at hcell
  obtain ⟨_, _, e5, h5⟩ := hcell
  obtain ⟨g5, o5, e6, _, hcc⟩ := h5 (by omega)
  rw [e6] at e5
  injection e5 with e5
  injection e5 with e5
  injection e5 with e7 e8
  subst e7 e8
  have hcK := hcc (K i) (by omega)
  rw [Nat.zero_add] at hcK
  refine ⟨g, c, by rw [hv, hl], ⟨_, _, hcK.1, hcK.2⟩, fun q => World.ownsRow.frozenAt hRv q, lt_of_block hh, ?_⟩
  refine ⟨fun j hj => ?_, h.ap, h.lb.grown hg2 (by simpa using hgL), ?_, h.bl⟩
  · by_cases e : j = i
    · subst e
      refine ⟨l.set (K j) ((j : Int), (K j : Int)), ?_, by rw [List.length_set, hl], fun t ht => ?_⟩
      · rw [hv]
        unfold PRow
        rw [List.length_set, hl, ptC_set l (K j) _ (by omega)]
        exact hst2.1
      · rw [set_at _ _ _ _ (by omega)]
        have ht2 : t < K j + 1 := by simpa [updN] using ht
        split
        · rename_i e; rw [e]
        · exact hm t (by omega)
    · obtain ⟨l2, hR2, hl2, hm2⟩ := h.rows j hj
      refine ⟨l2, hR2.grown' hg2 (.inr (h.ap i j hi hj (fun e2 => e e2.symm) g hob)), hl2, fun t ht => hm2 t (by simpa [updN, e] using ht)⟩
  · exact h.bel.grown hg2 (by have := h.lb.lt; have := h.bl; omega) (fun k e => by injection e with e; omega)
/-- while the lists grow -/
structure Ap2 (w : World) (base : Nat) (N : Nat → Nat) (L G : Nat) (vv ww gg : Nat → Value) (T : Nat → Nat) (wx : World) : Prop where
  pts : ∀ j, j < 4 → Pts wx (vv j) (mkM j (N j))
  vlt : ∀ j, j < 4 → ∀ g, (vv j).ownBlock = some g → g < wx.heap.size
  rows : ∀ j, j < 4 → PRow wx base (ww j) (mkM j (N j) ++ mkN j (T j))
  ap : ∀ i j, i < 4 → j < 4 → i ≠ j → ∀ g, (ww i).ownBlock = some g → (ww j).ownBlock ≠ some g ∧ (vv j).ownBlock ≠ some g
  vne : ∀ j, j < 4 → (vv j).ownBlock ≠ some G
  voff : ∀ j, j < 4 → ∀ g off m c, vv j = .slice (some ⟨g, off, none⟩) m c → off = 0
  lb : Four wx L vv
  gb : Four wx G gg
  bel : Below base w wx
  bl : base ≤ L ∧ base ≤ G ∧ L ≠ G
theorem Ap1.full {w : World} {base L : Nat} {N : Nat → Nat} {vv : Nat → Value} {K : Nat → Nat} {wx : World} (h : Ap1 w base N L vv K wx) (hK : ∀ j, j < 4 → N j ≤ K j) (j : Nat) (hj : j < 4) : PRow wx base (vv j) (mkM j (N j)) := by
  obtain ⟨l, hR, hl, hm⟩ := h.rows j hj
  have e : l = mkM j (N j) := pts_ext (by rw [hl, mkM_len]) fun t ht => by rw [hm t (by have := hK j hj; omega), mkM_at j (N j) t (by omega)]
  rw [← e]
  exact hR
theorem Ap1.done {w : World} {base L G : Nat} {N : Nat → Nat} {vv gg : Nat → Value} {K : Nat → Nat} {wx wy : World} (h : Ap1 w base N L vv K wx) (hK : ∀ j, j < 4 → N j ≤ K j) (hg : wx.grownBy wy none) (hG : Four wy G gg) (hbG : wx.heap.size ≤ G) : Ap2 w base N L G vv vv gg (fun _ => 0) wy := by
  have hrow : ∀ j, j < 4 → PRow wx base (vv j) (mkM j (N j)) := fun j hj => h.full hK j hj
  have hrow' : ∀ j, j < 4 → PRow wy base (vv j) (mkM j (N j)) := fun j hj => (hrow j hj).grown' hg (.inl rfl)
  have hL := h.lb.lt
  refine ⟨fun j hj => (hrow' j hj).pts, fun j hj g e => (World.ownsRow.lt (hrow' j hj) g e).2, fun j hj => ?_, fun i j hi hj hij g e => ⟨h.ap i j hi hj hij g e, h.ap i j hi hj hij g e⟩, fun j hj => (hrow' j hj).ne4 hG, fun j hj g off m c e => ?_, h.lb.grown hg (by simp), hG, h.bel.grown hg (by have := h.bl; omega) (fun k e => by cases e), h.bl, by have := h.bl; omega, by omega⟩
  · show PRow _ _ _ (_ ++ [])
    rw [List.append_nil]; exact hrow' j hj
  · rcases (hrow j hj).2 with ⟨e2, _⟩ | ⟨g2, c2, cur2, e2, _⟩
    · rw [e] at e2; cases e2
    · rw [e] at e2
      injection e2 with e3 _ _
      injection e3 with e4
      injection e4
/-- the longer list begins as the list -/
theorem Ap2.keep {w : World} {base L G : Nat} {N : Nat → Nat} {vv ww gg : Nat → Value} {T : Nat → Nat} {wx : World} (h : Ap2 w base N L G vv ww gg T wx) (i : Nat) (hi : i < 4) (x : Value) : Ap2 w base N L G vv ww (updF gg i x) T (wx.setCell ⟨G, i, none⟩ x) := by
  have hset := grown_set wx G i x
  refine ⟨fun j hj => (h.pts j hj).grown hset (fun g e e2 => h.vne j hj (by rw [e, e2])), fun j hj g e => ?_, fun j hj => (h.rows j hj).grown' hset (.inr ((h.rows j hj).ne4 h.gb)), h.ap, h.vne, h.voff, h.lb.grown hset (by simpa using fun e => h.bl.2.2 e.symm), h.gb.set i hi x, ?_, h.bl⟩
  · have := h.vlt j hj g e
    have := hset.size
    omega
  · exact below_set h.bel G i x h.bl.2.1 (by have := h.lb.lt; have := h.bl.1; omega)
/-- a list has grown by one -/
theorem Ap2.step {w : World} {base L G : Nat} {N : Nat → Nat} {vv ww gg : Nat → Value} {T : Nat → Nat} {wx wy w' : World} (h : Ap2 w base N L G vv ww gg T wx) (i : Nat) (hi : i < 4) (hal' : Below wx.heap.size wx wy) (v' : Value)
    (hown : w'.ownsRow base 39 2 v' ((mkM i (N i) ++ mkN i (T i)).length + 1) (ptC (mkM i (N i) ++ mkN i (T i)) ++ [.int .i64 (-(i : Int) - 1), .int .i64 (T i : Int)]))
    (hgrow : wy.grownBy w' (ww i).ownBlock) (hor : (v'.ownBlock = (ww i).ownBlock ∧ (ww i).ownBlock ≠ none) ∨ (wy.grownBy w' none ∧ ∀ k, v'.ownBlock = some k → wy.heap.size ≤ k)) :
    Four w' G gg ∧ Ap2 w base N L G vv (updF ww i v') (updF gg i v') (updN T i (T i + 1)) (w'.setCell ⟨G, i, none⟩ v') := by
  have hal : wx.grownBy wy none := grown_below hal' none
  have hsz := hal'.size
  have hri : PRow w' base v' (mkM i (N i) ++ mkN i (T i + 1)) := by
    unfold PRow
    rw [mkN_succ, ← List.append_assoc, List.length_append, ptC_app]
    exact hown
  have hG1 : Four w' G gg := (h.gb.grown hal (by simp)).grown hgrow ((h.rows i hi).ne4 h.gb)
  have hL1 : Four w' L vv := (h.lb.grown hal (by simp)).grown hgrow ((h.rows i hi).ne4 h.lb)
  have hset := grown_set w' G i v'
  have hint : ∀ j, j < 4 → Pts w' (vv j) (mkM j (N j)) := by
    intro j hj
    have h1 : Pts wy (vv j) (mkM j (N j)) := (h.pts j hj).below hal'
    by_cases e : j = i
    · subst e
      by_cases e2 : (vv j).ownBlock = (ww j).ownBlock
      · rcases hor with ⟨hs, hnn⟩ | ⟨hg, _⟩
        · obtain ⟨a, cap, e3, h3⟩ := h1
          refine ⟨a, cap, e3, fun h0 => ?_⟩
          obtain ⟨b, off, rfl, hb, hc⟩ := h3 h0
          have hvb : v'.ownBlock = some b := by rw [hs, ← e2, e3]; rfl
          have hof : off = 0 := h.voff j hj b off _ _ e3
          subst hof
          have hp := hri.pts
          obtain ⟨a4, c4, e4, h4⟩ := hp
          obtain ⟨b5, o5, rfl, hb5, hc5⟩ := h4 (by rw [List.length_append]; omega)
          have hbb : b5 = b := by
            rw [e4] at hvb
            injection hvb
          have hoo : o5 = 0 := by
            rcases hri.2 with ⟨e6, _⟩ | ⟨g6, c6, cur6, e6, _⟩
            · rw [e4] at e6; cases e6
            · rw [e4] at e6
              injection e6 with e7 _ _
              injection e7 with e8
              injection e8
          subst hbb hoo
          refine ⟨b5, 0, rfl, Nat.lt_of_lt_of_le hb hgrow.size, fun t ht => ?_⟩
          have := hc5 t (by rw [List.length_append]; omega)
          have eg : (mkM j (N j) ++ mkN j (T j + 1)).getD t (0, 0) = (mkM j (N j)).getD t (0, 0) := by rw [List.getD, List.getD, List.getElem?_append_left ht]
          rw [eg] at this
          exact this
        · exact h1.grown hg (fun _ _ => by simp)
      · exact h1.grown hgrow (fun g eg e3 => e2 (by rw [eg, e3]))
    · refine h1.grown hgrow (fun g eg e3 => ?_)
      exact (h.ap i j hi hj (fun e3 => e e3.symm) g e3).2 eg
  refine ⟨hG1, fun j hj => (hint j hj).grown hset (fun g e e2 => h.vne j hj (by rw [e, e2])), fun j hj g e => ?_, fun j hj => ?_, fun a b ha hb hab g e => ?_, h.vne, h.voff, hL1.grown hset (by simpa using fun e => h.bl.2.2 e.symm), hG1.set i hi v', ?_, h.bl⟩
  · have h1 := h.vlt j hj g e
    have h2 := hgrow.size
    have h3 := hset.size
    omega
  · by_cases e : j = i
    · subst e
      have h1 : updF ww j v' j = v' := by simp [updF]
      have h2 : updN T j (T j + 1) j = T j + 1 := by simp [updN]
      rw [h1, h2]
      exact hri.grown' hset (.inr (hri.ne4 hG1))
    · have h1 : updF ww i v' j = ww j := by simp [updF, e]
      have h2 : updN T i (T i + 1) j = T j := by simp [updN, e]
      rw [h1, h2]
      have h3 : PRow w' base (ww j) (mkM j (N j) ++ mkN j (T j)) := by
        refine ((h.rows j hj).grown' hal (.inl rfl)).grown' hgrow ?_
        cases hu : (ww i).ownBlock with
        | none => exact .inl rfl
        | some g => exact .inr (h.ap i j hi hj (fun e3 => e e3.symm) g hu).1
      exact h3.grown' hset (.inr (h3.ne4 hG1))
  · have hb' : ∀ j, j < 4 → ∀ q, (ww j).ownBlock = some q → q < wx.heap.size := fun j hj q e => (World.ownsRow.lt (h.rows j hj) q e).2
    by_cases ea : a = i
    · subst ea
      have eb : b ≠ a := fun e2 => hab e2.symm
      have h1 : updF ww a v' a = v' := by simp [updF]
      have h2 : updF ww a v' b = ww b := by simp [updF, eb]
      rw [h1] at e
      rw [h2]
      rcases hor with ⟨hs, _⟩ | ⟨_, hn⟩
      · rw [hs] at e
        exact h.ap a b ha hb hab g e
      · have hk := hn g e
        exact ⟨fun e2 => by have := hb' b hb g e2; omega, fun e2 => by have := h.vlt b hb g e2; omega⟩
    · have h1 : updF ww i v' a = ww a := by simp [updF, ea]
      rw [h1] at e
      by_cases eb : b = i
      · subst eb
        have h2 : updF ww b v' b = v' := by simp [updF]
        rw [h2]
        refine ⟨fun e2 => ?_, (h.ap a b ha hb hab g e).2⟩
        rcases hor with ⟨hs, _⟩ | ⟨_, hn⟩
        · rw [hs] at e2
          exact (h.ap a b ha hb hab g e).1 e2
        · have hk := hn g e2
          have := hb' a ha g e
          omega
      · have h2 : updF ww i v' b = ww b := by simp [updF, eb]
        rw [h2]
        exact h.ap a b ha hb hab g e
  · have h1 : Below base w wy := h.bel.trans (hal'.mono (by have := h.lb.lt; have := h.bl.1; omega))
    have h2 : Below base w w' := h1.grown hgrow (by have := h.lb.lt; have := h.bl.1; omega) (fun k e => (World.ownsRow.lt (h.rows i hi) k e).1)
    exact below_set h2 G i v' h.bl.2.1 (by have := hL1.lt; have := h.bl.1; omega)
end Go.Proofs.Ytnenbbkkhnlgbaa
