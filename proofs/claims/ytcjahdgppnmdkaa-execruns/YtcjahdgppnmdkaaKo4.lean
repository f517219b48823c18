/- Lists that share no memory: what is known while they are marked, and while they grow. -/
import Derived.Test.YtcjahdgppnmdkaaKo3
set_option maxRecDepth 100000
namespace Go.Proofs.Ytcjahdgppnmdkaa
open Go.RowKit Go.Great

theorem grown_thenO {w w1 w2 : World} {row row2 : Option Nat} (h1 : w.grownBy w1 row) (h2 : w1.grownBy w2 row2) (hr : ∀ k, row2 = some k → row = some k ∨ w.heap.size ≤ k) : w.grownBy w2 row :=
  ⟨h2.os.trans h1.os, h2.tape.trans h1.tape, h2.output.trans h1.output, Nat.le_trans h1.size h2.size, fun k hk hne => (h2.block k (Nat.lt_of_lt_of_le hk h1.size) (fun e => by
    rcases hr k e.symm with e2 | e2
    · exact hne e2.symm
    · omega)).trans (h1.block k hk hne)⟩
/-- while the lists are marked: the first K j places of list j are -/
structure Ap1 (w : World) (base n L G : Nat) (vv uu : Nat → Value) (K : Nat → Nat) (wx : World) : Prop where
  rows : ∀ j, j < 1 → ∃ l, IRow wx base (vv j) l ∧ l.length = n ∧ ∀ t, t < K j → l.getD t 0 = (j : Int) * 1000003 + (t : Int)
  ap : True
  lb : Two2 wx L (vv 0)
  gb : Two2 wx G (uu 0)
  bel : Below base w wx
  bl : base ≤ L ∧ base ≤ G ∧ L ≠ G
  gr : w.grownBy wx (vv 0).ownBlock
  gn : w.heap.size ≤ G
theorem Ap1.ne {w : World} {base n L G : Nat} {vv uu : Nat → Value} {K : Nat → Nat} {wx : World} (h : Ap1 w base n L G vv uu K wx) (i j : Nat) (hi : i < 1) (hj : j < 1) (hij : i ≠ j) (g : Nat) (e : (vv i).ownBlock = some g) : (vv j).ownBlock ≠ some g := by
  have _ := h
  have _ := e
  omega
theorem set_at (l : List Int) (k t : Nat) (x : Int) (hk : k < l.length) : (l.set k x).getD t 0 = if t = k then x else l.getD t 0 := by
  simp only [List.getD]
  rw [List.getElem?_set]
  by_cases e : t = k
  · subst e
    simp [hk]
  · rw [if_neg (fun h => e h.symm), if_neg e]
def updN (f : Nat → Nat) (i : Nat) (x : Nat) : Nat → Nat := fun j => if j = i then x else f j
/-- one place more is marked -/
theorem Ap1.mark {w : World} {base n L G : Nat} {vv uu : Nat → Value} {K : Nat → Nat} {wx : World} (h : Ap1 w base n L G vv uu K wx) (i : Nat) (hi : i < 1) (hk : K i < n) : ∃ g c, vv i = .slice (some ⟨g, 0, none⟩) n c ∧ (∃ x, wx.cell? ⟨g, K i, none⟩ = some (.int .i64 x)) ∧ wx.frozen? ⟨g, K i, none⟩ = false ∧ Ap1 w base n L G vv uu (updN K i (K i + 1)) (wx.setCell ⟨g, K i, none⟩ (.int .i64 ((i : Int) * 1000003 + (K i : Int)))) := by
  obtain ⟨l, hR, hl, hm⟩ := h.rows i hi
  have hR0 := hR
  rcases hR.2 with ⟨_, h0⟩ | ⟨g, c, cur, hv, hbg, hh, _⟩
  · omega
  have hRv : IRow wx base (.slice (some ⟨g, 0, none⟩) n c) l := by rw [← hl, ← hv]; exact hR0
  have hRv' : wx.ownsRow base 3 1 (.slice (some ⟨g, 0, none⟩) n c) n (l.map (Value.int .i64)) := by have := hRv; unfold IRow at this; rw [hl] at this; exact this
  have hob : (vv i).ownBlock = some g := by rw [hv]; rfl
  have hgL : g ≠ L := fun e => (hR0.ne2 h.lb) (by rw [hob, e])
  have hgG : g ≠ G := fun e => (hR0.ne2 h.gb) (by rw [hob, e])
  have hst := World.ownsRow.stored hRv' (K i) (.int .i64 ((i : Int) * 1000003 + (K i : Int)))
  refine ⟨g, c, by rw [hv, hl], ⟨_, hRv.cell (K i) (by omega)⟩, World.ownsRow.frozenAt hRv' (K i), ?_⟩
  refine ⟨fun j hj => ?_, h.ap, h.lb.grown hst.2 (by simpa using hgL), h.gb.grown hst.2 (by simpa using hgG), h.bel.setCell (p := ⟨g, K i, none⟩) hbg _, h.bl, grown_thenO h.gr hst.2 (fun k e => .inl (by have h0 : i = 0 := (by omega); subst h0; rw [hob]; exact e)), h.gn⟩
  by_cases e : j = i
  · subst e
    refine ⟨l.set (K j) ((j : Int) * 1000003 + (K j : Int)), ?_, by rw [List.length_set, hl], fun t ht => ?_⟩
    · rw [hv]
      unfold IRow
      rw [List.length_set, hl, List.map_set]
      exact hst.1
    · rw [set_at _ _ _ _ (by omega)]
      have ht2 : t < K j + 1 := by simpa [updN] using ht
      split
      · rename_i e; rw [e]
      · exact hm t (by omega)
  · obtain ⟨l2, hR2, hl2, hm2⟩ := h.rows j hj
    refine ⟨l2, hR2.grown hst.2 (.inr (h.ne i j hi hj (fun e2 => e e2.symm) g hob)), hl2, fun t ht => hm2 t (by simpa [updN, e] using ht)⟩
/-- the longer list begins as the list -/
theorem Ap1.keep {w : World} {base n L G : Nat} {vv uu : Nat → Value} {K : Nat → Nat} {wx : World} (h : Ap1 w base n L G vv uu K wx) (i : Nat) (hi : i < 1) : Ap1 w base n L G vv (updF uu i (vv i)) K (wx.setCell ⟨G, i, none⟩ (vv i)) := by
  have hg := grown_set wx G i (vv i)
  refine ⟨fun j hj => ?_, h.ap, h.lb.grown hg (by simpa using fun e => h.bl.2.2 e.symm), h.gb.set i hi (vv i), h.bel.setCell (p := ⟨G, i, none⟩) h.bl.2.1 _, h.bl, grown_thenO h.gr hg (fun k e => .inr (by injection e with e; have := h.gn; omega)), h.gn⟩
  obtain ⟨l, hR, hl, hm⟩ := h.rows j hj
  exact ⟨l, hR.grown hg (.inr (hR.ne2 h.gb)), hl, hm⟩
/-- while the lists grow -/
structure Ap2 (w : World) (base n L G : Nat) (vv uu : Nat → Value) (T : Nat → Nat) (wx : World) : Prop where
  ints : ∀ j, j < 1 → Ints wx (vv j) (mkM j n)
  vlt : ∀ j, j < 1 → ∀ g, (vv j).ownBlock = some g → g < wx.heap.size
  rows : ∀ j, j < 1 → IRow wx base (uu j) (mkM j n ++ mkN j (T j))
  ap : ∀ i j, i < 1 → j < 1 → i ≠ j → ∀ g, (uu i).ownBlock = some g → (uu j).ownBlock ≠ some g ∧ (vv j).ownBlock ≠ some g
  vne : ∀ j, j < 1 → (vv j).ownBlock ≠ some G
  voff : ∀ j, j < 1 → ∀ g off m c, vv j = .slice (some ⟨g, off, none⟩) m c → off = 0
  lb : Two2 wx L (vv 0)
  gb : Two2 wx G (uu 0)
  bel : Below base w wx
  bl : base ≤ L ∧ base ≤ G ∧ L ≠ G
  gr : w.grownBy wx (vv 0).ownBlock
  gn : w.heap.size ≤ G
  ug : ∀ j, j < 1 → ∀ k, (uu j).ownBlock = some k → (vv 0).ownBlock = some k ∨ w.heap.size ≤ k
theorem list_ext1 {a b : List Int} (hl : a.length = b.length) (h : ∀ i, i < a.length → a.getD i 0 = b.getD i 0) : a = b := list_ext0 hl h
theorem Ap1.done {w : World} {base n L G : Nat} {vv uu : Nat → Value} {K : Nat → Nat} {wx : World} (h : Ap1 w base n L G vv uu K wx) (hK : ∀ j, j < 1 → n ≤ K j) (hu : ∀ j, j < 1 → uu j = vv j) : Ap2 w base n L G vv uu (fun _ => 0) wx := by
  have hrow : ∀ j, j < 1 → IRow wx base (vv j) (mkM j n) := by
    intro j hj
    obtain ⟨l, hR, hl, hm⟩ := h.rows j hj
    have e : l = mkM j n := list_ext0 (by rw [hl, mkM_len]) fun t ht => by rw [hm t (by have := hK j hj; omega), mkM_at j n t (by omega)]
    rw [← e]; exact hR
  refine ⟨fun j hj => (hrow j hj).ints, fun j hj g e => (World.ownsRow.lt (hrow j hj) g e).2, fun j hj => ?_, fun i j hi hj hij g e => ?_, fun j hj => (hrow j hj).ne2 h.gb, fun j hj g off m c e => ?_, h.lb, h.gb, h.bel, h.bl, h.gr, h.gn, fun j hj k e => .inl (by rw [hu j hj] at e; have h0 : j = 0 := (by omega); subst h0; exact e)⟩
  · rw [hu j hj]
    show IRow _ _ _ (_ ++ [])
    rw [List.append_nil]; exact hrow j hj
  · rw [hu i hi] at e
    rw [hu j hj]
    exact ⟨h.ne i j hi hj hij g e, h.ne i j hi hj hij g e⟩
  · rcases (hrow j hj).2 with ⟨e2, _⟩ | ⟨g2, c2, cur2, e2, _⟩
    · rw [e] at e2; cases e2
    · rw [e] at e2
      injection e2 with e3 _ _
      injection e3 with e4
      injection e4
/-- a list has grown by one -/
theorem Ap2.step {w : World} {base n L G : Nat} {vv uu : Nat → Value} {T : Nat → Nat} {wx w' : World} (h : Ap2 w base n L G vv uu T wx) (i : Nat) (hi : i < 1) (o : Obj) (v' : Value)
    (hown : w'.ownsRow base 3 1 v' ((mkM i n ++ mkN i (T i)).length + 1) ((mkM i n ++ mkN i (T i)).map (Value.int .i64) ++ [.int .i64 (-(i : Int) * 1000003 - (T i : Int) - 1)]))
    (hgrow : (wx.alloc o).grownBy w' (uu i).ownBlock) (hor : (v'.ownBlock = (uu i).ownBlock ∧ (uu i).ownBlock ≠ none) ∨ ((wx.alloc o).grownBy w' none ∧ ∀ k, v'.ownBlock = some k → wx.heap.size + 1 ≤ k)) :
    Ap2 w base n L G vv (updF uu i v') (updN T i (T i + 1)) (w'.setCell ⟨G, i, none⟩ v') := by
  have hal : wx.grownBy (wx.alloc o) none := grown_below (below_alloc wx o) none
  have hsz := size_alloc wx o
  have hri : IRow w' base v' (mkM i n ++ mkN i (T i + 1)) := by
    unfold IRow
    rw [mkN_succ, ← List.append_assoc, List.length_append, List.map_append]
    exact hown
  have hG1 : Two2 w' G (uu 0) := (h.gb.grown hal (by simp)).grown hgrow ((h.rows i hi).ne2 h.gb)
  have hL1 : Two2 w' L (vv 0) := (h.lb.grown hal (by simp)).grown hgrow ((h.rows i hi).ne2 h.lb)
  have hset := grown_set w' G i v'
  have hint : ∀ j, j < 1 → Ints w' (vv j) (mkM j n) := by
    intro j hj
    have h1 : Ints (wx.alloc o) (vv j) (mkM j n) := (h.ints j hj).grown hal (.inl rfl)
    by_cases e : j = i
    · subst e
      by_cases e2 : (vv j).ownBlock = (uu j).ownBlock
      · rcases hor with ⟨hs, hnn⟩ | ⟨hg, _⟩
        · obtain ⟨a, cap, e3, h3⟩ := h1
          refine ⟨a, cap, e3, fun h0 => ?_⟩
          obtain ⟨b, off, rfl, hb, hc⟩ := h3 h0
          have hvb : v'.ownBlock = some b := by rw [hs, ← e2, e3]; rfl
          have hof : off = 0 := by
            exact h.voff j hj b off _ _ e3
          subst hof
          refine ⟨b, 0, rfl, Nat.lt_of_lt_of_le hb hgrow.size, fun t ht => ?_⟩
          have := World.ownsRow.cells hri hvb t (.int .i64 ((mkM j n).getD t 0)) (by
            rw [List.getElem?_map, List.getElem?_append_left ht, List.getElem?_eq_getElem ht, List.getD, List.getElem?_eq_getElem ht]; rfl)
          rw [add_plain'] at this
          exact this
        · exact h1.grown hg (.inl rfl)
      · exact h1.grown hgrow (.inr e2)
    · refine h1.grown hgrow ?_
      cases hu : (uu i).ownBlock with
      | none => exact .inl rfl
      | some g => exact .inr (h.ap i j hi hj (fun e3 => e e3.symm) g hu).2
  refine ⟨fun j hj => (hint j hj).grown hset (.inr (h.vne j hj)), fun j hj g e => ?_, fun j hj => ?_, fun a b ha hb hab g e => ?_, h.vne, h.voff, hL1.grown hset (by simpa using fun e => h.bl.2.2 e.symm), hG1.set i hi v', ?_, h.bl, grown_thenO (grown_thenO (grown_thenO h.gr hal (fun k e => by cases e)) hgrow (fun k e => h.ug i hi k e)) hset (fun k e => .inr (by injection e with e; have := h.gn; omega)), h.gn, fun j hj k e => ?_⟩
  · have h1 := h.vlt j hj g e
    have h2 := hgrow.size
    have h3 := hset.size
    omega
  · by_cases e : j = i
    · subst e
      have h1 : updF uu j v' j = v' := by simp [updF]
      have h2 : updN T j (T j + 1) j = T j + 1 := by simp [updN]
      rw [h1, h2]
      exact hri.grown hset (.inr (hri.ne2 hG1))
    · have h1 : updF uu i v' j = uu j := by simp [updF, e]
      have h2 : updN T i (T i + 1) j = T j := by simp [updN, e]
      rw [h1, h2]
      have h3 : IRow w' base (uu j) (mkM j n ++ mkN j (T j)) := by
        refine ((h.rows j hj).grown hal (.inl rfl)).grown hgrow ?_
        cases hu : (uu i).ownBlock with
        | none => exact .inl rfl
        | some g => exact .inr (h.ap i j hi hj (fun e3 => e e3.symm) g hu).1
      exact h3.grown hset (.inr (h3.ne2 hG1))
  · have hb' : ∀ j, j < 1 → ∀ q, (uu j).ownBlock = some q → q < wx.heap.size := fun j hj q e => (World.ownsRow.lt (h.rows j hj) q e).2
    by_cases ea : a = i
    · subst ea
      have eb : b ≠ a := fun e2 => hab e2.symm
      have h1 : updF uu a v' a = v' := by simp [updF]
      have h2 : updF uu a v' b = uu b := by simp [updF, eb]
      rw [h1] at e
      rw [h2]
      rcases hor with ⟨hs, _⟩ | ⟨_, hn⟩
      · rw [hs] at e
        exact h.ap a b ha hb hab g e
      · have hk := hn g e
        exact ⟨fun e2 => by have := hb' b hb g e2; omega, fun e2 => by have := h.vlt b hb g e2; omega⟩
    · have h1 : updF uu i v' a = uu a := by simp [updF, ea]
      rw [h1] at e
      by_cases eb : b = i
      · subst eb
        have h2 : updF uu b v' b = v' := by simp [updF]
        rw [h2]
        refine ⟨fun e2 => ?_, (h.ap a b ha hb hab g e).2⟩
        rcases hor with ⟨hs, _⟩ | ⟨_, hn⟩
        · rw [hs] at e2
          exact (h.ap a b ha hb hab g e).1 e2
        · have hk := hn g e2
          have := hb' a ha g e
          omega
      · omega
  · have h1 : Below base w (wx.alloc o) := h.bel.alloc (by have := (h.lb).lt; have := h.bl.1; omega) o
    have h2 : Below base w w' := h1.grown hgrow (by have := (h.lb).lt; have := h.bl.1; omega) (fun k e => (World.ownsRow.lt (h.rows i hi) k e).1)
    exact h2.setCell (p := ⟨G, i, none⟩) h.bl.2.1 _
  · obtain rfl : j = i := by omega
    have h1 : updF uu j v' j = v' := by simp [updF]
    rw [h1] at e
    rcases hor with ⟨hs, _⟩ | ⟨_, hn⟩
    · exact h.ug j hi k (by rw [← hs]; exact e)
    · exact .inr (by have := hn k e; have := h.gr.size; omega)
end Go.Proofs.Ytcjahdgppnmdkaa
