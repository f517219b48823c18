/- KrX: Kr3, Kr4, Kr5 in one text. -/
import Derived.Test.YtpoodmfhcoaleaaKr1
import Derived.Test.YtpoodmfhcoaleaaBk0
import Derived.Deep.DeepCutAuto
/- Lists that share no memory: what the marks are (Kq3 over Kr1 and Bk0). -/
namespace Go.Proofs.Ytpoodmfhcoaleaa
open Go.RowKit Go.Great

/-- the marks in a list, and behind it -/
def mkM (j n : Nat) : List Int := (List.range n).map fun (k : Nat) => (j : Int) * 1000003 + (k : Int)
def mkN (j t : Nat) : List Int := (List.range t).map fun (k : Nat) => -(j : Int) * 1000003 - (k : Int) - 1
theorem mkM_len (j n : Nat) : (mkM j n).length = n := by simp [mkM]
theorem mkN_len (j n : Nat) : (mkN j n).length = n := by simp [mkN]
theorem mkM_at (j n k : Nat) (h : k < n) : (mkM j n).getD k 0 = (j : Int) * 1000003 + (k : Int) := by
  simp [mkM, List.getD, h]
theorem mkN_succ (j t : Nat) : mkN j (t + 1) = mkN j t ++ [-(j : Int) * 1000003 - (t : Int) - 1] := by
  simp [mkN, List.range_succ]
theorem mkMN_at (j n t k : Nat) : (k < n → (mkM j n ++ mkN j t).getD k 0 = (j : Int) * 1000003 + (k : Int)) ∧ (k < t → (mkM j n ++ mkN j t).getD (n + k) 0 = -(j : Int) * 1000003 - (k : Int) - 1) := by
  simp only [List.getD]
  constructor
  · intro h
    rw [List.getElem?_append_left (by rw [mkM_len]; exact h)]
    exact mkM_at j n k h
  · intro h
    rw [List.getElem?_append_right (by rw [mkM_len]; omega), mkM_len, Nat.add_sub_cancel_left]
    simp [mkN, h]
/-- a block of two lists -/
def Two2 (w : World) (L : Nat) (x y : Value) : Prop := w.heap[L]? = some (.cells #[x, y] 34 (0, 0))
theorem Two2.at {w : World} {L : Nat} {f : Nat → Value} (h : Two2 w L (f 0) (f 1)) (i : Nat) (hi : i < 2) : w.cell? ⟨L, i, none⟩ = some (f i) := by
  unfold Two2 at h
  have : i = 0 ∨ i = 1 := by omega
  rcases this with rfl | rfl <;> simp [World.cell?, h]
theorem Two2.fz {w : World} {L : Nat} {x y : Value} (h : Two2 w L x y) (i : Nat) : w.frozen? ⟨L, i, none⟩ = false := by
  unfold Two2 at h; simp [World.frozen?, h]
theorem Two2.lt {w : World} {L : Nat} {x y : Value} (h : Two2 w L x y) : L < w.heap.size := lt_of_block h
/-- a row of ints is no block of lists -/
theorem IRow.ne2 {w : World} {base L : Nat} {v : Value} {l : List Int} {x y : Value} (h : IRow w base v l) (h2 : Two2 w L x y) : v.ownBlock ≠ some L := by
  intro e
  rcases h.2 with ⟨rfl, _⟩ | ⟨g, cap, cur, rfl, _, hh, _⟩
  · cases e
  · simp [Value.ownBlock] at e
    subst e
    unfold Two2 at h2
    rw [hh] at h2
    simp at h2
def updF (f : Nat → Value) (i : Nat) (x : Value) : Nat → Value := fun j => if j = i then x else f j
theorem Two2.set {w : World} {L : Nat} {f : Nat → Value} (h : Two2 w L (f 0) (f 1)) (i : Nat) (hi : i < 2) (x : Value) : Two2 (w.setCell ⟨L, i, none⟩ x) L (updF f i x 0) (updF f i x 1) := by
  have := heap_set h i x
  have hc : i = 0 ∨ i = 1 := by omega
  rcases hc with rfl | rfl <;> simpa [Two2, updF] using this
theorem Two2.grown {w w' : World} {L : Nat} {x y : Value} {row : Option Nat} (h : Two2 w L x y) (g : w.grownBy w' row) (hr : row ≠ some L) : Two2 w' L x y := by
  unfold Two2 at h ⊢; rw [g.block L (lt_of_block h) (fun e => hr e.symm), h]
theorem IRow.grown {w w' : World} {base : Nat} {v : Value} {l : List Int} {row : Option Nat} (h : IRow w base v l) (g : w.grownBy w' row) (hne : row = none ∨ v.ownBlock ≠ row) : IRow w' base v l := by
  refine World.ownsRow.kept h g ?_
  rcases hne with e | e
  · rw [e]; cases v.ownBlock <;> simp
  · exact .inr e
theorem Ints.grown {w w' : World} {v : Value} {l : List Int} {row : Option Nat} (h : Ints w v l) (g : w.grownBy w' row) (hne : row = none ∨ v.ownBlock ≠ row) : Ints w' v l := by
  obtain ⟨a, cap, rfl, h1⟩ := h
  refine ⟨a, cap, rfl, fun h0 => ?_⟩
  obtain ⟨b, o, rfl, hb, hc⟩ := h1 h0
  refine ⟨b, o, rfl, Nat.lt_of_lt_of_le hb g.size, fun i hi => ?_⟩
  rw [World.cell?_of_block (a := ⟨b, o + i, none⟩) (g.block b hb ?_)]
  · exact hc i hi
  · rcases hne with e | e
    · rw [e]; simp
    · intro e2; exact e (by rw [← e2]; rfl)
end Go.Proofs.Ytpoodmfhcoaleaa
/- Lists that share no memory: what is known while they are marked, and while they grow. -/
namespace Go.Proofs.Ytpoodmfhcoaleaa
open Go.RowKit Go.Great

/-- while the lists are marked: the first K j places of list j are -/
structure Ap1 (w : World) (base n L G : Nat) (vv uu : Nat → Value) (K : Nat → Nat) (wx : World) : Prop where
  rows : ∀ j, j < 2 → ∃ l, IRow wx base (vv j) l ∧ l.length = n ∧ ∀ t, t < K j → l.getD t 0 = (j : Int) * 1000003 + (t : Int)
  ap : ∀ g, (vv 0).ownBlock = some g → (vv 1).ownBlock ≠ some g
  lb : Two2 wx L (vv 0) (vv 1)
  gb : Two2 wx G (uu 0) (uu 1)
  bel : Below base w wx
  bl : base ≤ L ∧ base ≤ G ∧ L ≠ G
theorem Ap1.ne {w : World} {base n L G : Nat} {vv uu : Nat → Value} {K : Nat → Nat} {wx : World} (h : Ap1 w base n L G vv uu K wx) (i j : Nat) (hi : i < 2) (hj : j < 2) (hij : i ≠ j) (g : Nat) (e : (vv i).ownBlock = some g) : (vv j).ownBlock ≠ some g := by
  have : (i = 0 ∧ j = 1) ∨ (i = 1 ∧ j = 0) := by omega
  rcases this with ⟨rfl, rfl⟩ | ⟨rfl, rfl⟩
  · exact h.ap g e
  · intro e2; exact h.ap g e2 e
theorem set_at (l : List Int) (k t : Nat) (x : Int) (hk : k < l.length) : (l.set k x).getD t 0 = if t = k then x else l.getD t 0 := by
  simp only [List.getD]
  rw [List.getElem?_set]
  by_cases e : t = k
  · subst e
    simp [hk]
  · rw [if_neg (fun h => e h.symm), if_neg e]
def updN (f : Nat → Nat) (i : Nat) (x : Nat) : Nat → Nat := fun j => if j = i then x else f j
/-- one place more is marked -/
theorem Ap1.mark {w : World} {base n L G : Nat} {vv uu : Nat → Value} {K : Nat → Nat} {wx : World} (h : Ap1 w base n L G vv uu K wx) (i : Nat) (hi : i < 2) (hk : K i < n) : ∃ g c, vv i = .slice (some ⟨g, 0, none⟩) n c ∧ (∃ x, wx.cell? ⟨g, K i, none⟩ = some (.int .i64 x)) ∧ wx.frozen? ⟨g, K i, none⟩ = false ∧ Ap1 w base n L G vv uu (updN K i (K i + 1)) (wx.setCell ⟨g, K i, none⟩ (.int .i64 ((i : Int) * 1000003 + (K i : Int)))) := by
  obtain ⟨l, hR, hl, hm⟩ := h.rows i hi
  have hR0 := hR
  rcases hR.2 with ⟨_, h0⟩ | ⟨g, c, cur, hv, hbg, hh, _⟩
  · omega
  have hRv : IRow wx base (.slice (some ⟨g, 0, none⟩) n c) l := by rw [← hl, ← hv]; exact hR0
  have hRv' : wx.ownsRow base 3 1 (.slice (some ⟨g, 0, none⟩) n c) n (l.map (Value.int .i64)) := by have := hRv; unfold IRow at this; rw [hl] at this; exact this
  have hob : (vv i).ownBlock = some g := by rw [hv]; rfl
  have hgL : g ≠ L := fun e => (hR0.ne2 h.lb) (by rw [hob, e])
  have hgG : g ≠ G := fun e => (hR0.ne2 h.gb) (by rw [hob, e])
  have hst := World.ownsRow.stored hRv' (K i) (.int .i64 ((i : Int) * 1000003 + (K i : Int)))
  refine ⟨g, c, by rw [hv, hl], ⟨_, hRv.cell (K i) (by omega)⟩, World.ownsRow.frozenAt hRv' (K i), ?_⟩
  refine ⟨fun j hj => ?_, h.ap, h.lb.grown hst.2 (by simpa using hgL), h.gb.grown hst.2 (by simpa using hgG), h.bel.setCell (p := ⟨g, K i, none⟩) hbg _, h.bl⟩
  by_cases e : j = i
  · subst e
    refine ⟨l.set (K j) ((j : Int) * 1000003 + (K j : Int)), ?_, by rw [List.length_set, hl], fun t ht => ?_⟩
    · rw [hv]
      unfold IRow
      rw [List.length_set, hl, List.map_set]
      exact hst.1
    · rw [set_at _ _ _ _ (by omega)]
      have ht2 : t < K j + 1 := by simpa [updN] using ht
      split
      · rename_i e; rw [e]
      · exact hm t (by omega)
  · obtain ⟨l2, hR2, hl2, hm2⟩ := h.rows j hj
    refine ⟨l2, hR2.grown hst.2 (.inr (h.ne i j hi hj (fun e2 => e e2.symm) g hob)), hl2, fun t ht => hm2 t (by simpa [updN, e] using ht)⟩
/-- the longer list begins as the list -/
theorem Ap1.keep {w : World} {base n L G : Nat} {vv uu : Nat → Value} {K : Nat → Nat} {wx : World} (h : Ap1 w base n L G vv uu K wx) (i : Nat) (hi : i < 2) : Ap1 w base n L G vv (updF uu i (vv i)) K (wx.setCell ⟨G, i, none⟩ (vv i)) := by
  have hg := grown_set wx G i (vv i)
  refine ⟨fun j hj => ?_, h.ap, h.lb.grown hg (by simpa using fun e => h.bl.2.2 e.symm), h.gb.set i hi (vv i), h.bel.setCell (p := ⟨G, i, none⟩) h.bl.2.1 _, h.bl⟩
  obtain ⟨l, hR, hl, hm⟩ := h.rows j hj
  exact ⟨l, hR.grown hg (.inr (hR.ne2 h.gb)), hl, hm⟩
/-- while the lists grow -/
structure Ap2 (w : World) (base n L G : Nat) (vv uu : Nat → Value) (T : Nat → Nat) (wx : World) : Prop where
  ints : ∀ j, j < 2 → Ints wx (vv j) (mkM j n)
  vlt : ∀ j, j < 2 → ∀ g, (vv j).ownBlock = some g → g < wx.heap.size
  rows : ∀ j, j < 2 → IRow wx base (uu j) (mkM j n ++ mkN j (T j))
  ap : ∀ i j, i < 2 → j < 2 → i ≠ j → ∀ g, (uu i).ownBlock = some g → (uu j).ownBlock ≠ some g ∧ (vv j).ownBlock ≠ some g
  vne : ∀ j, j < 2 → (vv j).ownBlock ≠ some G
  voff : ∀ j, j < 2 → ∀ g off m c, vv j = .slice (some ⟨g, off, none⟩) m c → off = 0
  lb : Two2 wx L (vv 0) (vv 1)
  gb : Two2 wx G (uu 0) (uu 1)
  bel : Below base w wx
  bl : base ≤ L ∧ base ≤ G ∧ L ≠ G
theorem list_ext1 {a b : List Int} (hl : a.length = b.length) (h : ∀ i, i < a.length → a.getD i 0 = b.getD i 0) : a = b := list_ext0 hl h
theorem Ap1.done {w : World} {base n L G : Nat} {vv uu : Nat → Value} {K : Nat → Nat} {wx : World} (h : Ap1 w base n L G vv uu K wx) (hK : ∀ j, j < 2 → n ≤ K j) (hu : ∀ j, j < 2 → uu j = vv j) : Ap2 w base n L G vv uu (fun _ => 0) wx := by
  have hrow : ∀ j, j < 2 → IRow wx base (vv j) (mkM j n) := by
    intro j hj
    obtain ⟨l, hR, hl, hm⟩ := h.rows j hj
    have e : l = mkM j n := list_ext0 (by rw [hl, mkM_len]) fun t ht => by rw [hm t (by have := hK j hj; omega), mkM_at j n t (by omega)]
    rw [← e]; exact hR
  refine ⟨fun j hj => (hrow j hj).ints, fun j hj g e => (World.ownsRow.lt (hrow j hj) g e).2, fun j hj => ?_, fun i j hi hj hij g e => ?_, fun j hj => (hrow j hj).ne2 h.gb, fun j hj g off m c e => ?_, h.lb, h.gb, h.bel, h.bl⟩
  · rw [hu j hj]
    show IRow _ _ _ (_ ++ [])
    rw [List.append_nil]; exact hrow j hj
  · rw [hu i hi] at e
    rw [hu j hj]
    exact ⟨h.ne i j hi hj hij g e, h.ne i j hi hj hij g e⟩
  · rcases (hrow j hj).2 with ⟨e2, _⟩ | ⟨g2, c2, cur2, e2, _⟩
    · rw [e] at e2; cases e2
    · rw [e] at e2
      injection e2 with e3 _ _
      injection e3 with e4
      injection e4
/-- a list has grown by one -/
theorem Ap2.step {w : World} {base n L G : Nat} {vv uu : Nat → Value} {T : Nat → Nat} {wx w' : World} (h : Ap2 w base n L G vv uu T wx) (i : Nat) (hi : i < 2) (o : Obj) (v' : Value)
    (hown : w'.ownsRow base 3 1 v' ((mkM i n ++ mkN i (T i)).length + 1) ((mkM i n ++ mkN i (T i)).map (Value.int .i64) ++ [.int .i64 (-(i : Int) * 1000003 - (T i : Int) - 1)]))
    (hgrow : (wx.alloc o).grownBy w' (uu i).ownBlock) (hor : (v'.ownBlock = (uu i).ownBlock ∧ (uu i).ownBlock ≠ none) ∨ ((wx.alloc o).grownBy w' none ∧ ∀ k, v'.ownBlock = some k → wx.heap.size + 1 ≤ k)) :
    Ap2 w base n L G vv (updF uu i v') (updN T i (T i + 1)) (w'.setCell ⟨G, i, none⟩ v') := by
  have hal : wx.grownBy (wx.alloc o) none := grown_below (below_alloc wx o) none
  have hsz := size_alloc wx o
  have hri : IRow w' base v' (mkM i n ++ mkN i (T i + 1)) := by
    unfold IRow
    rw [mkN_succ, ← List.append_assoc, List.length_append, List.map_append]
    exact hown
  have hG1 : Two2 w' G (uu 0) (uu 1) := (h.gb.grown hal (by simp)).grown hgrow ((h.rows i hi).ne2 h.gb)
  have hL1 : Two2 w' L (vv 0) (vv 1) := (h.lb.grown hal (by simp)).grown hgrow ((h.rows i hi).ne2 h.lb)
  have hset := grown_set w' G i v'
  have hint : ∀ j, j < 2 → Ints w' (vv j) (mkM j n) := by
    intro j hj
    have h1 : Ints (wx.alloc o) (vv j) (mkM j n) := (h.ints j hj).grown hal (.inl rfl)
    by_cases e : j = i
    · subst e
      by_cases e2 : (vv j).ownBlock = (uu j).ownBlock
      · rcases hor with ⟨hs, hnn⟩ | ⟨hg, _⟩
        · obtain ⟨a, cap, e3, h3⟩ := h1
          refine ⟨a, cap, e3, fun h0 => ?_⟩
          obtain ⟨b, off, rfl, hb, hc⟩ := h3 h0
          have hvb : v'.ownBlock = some b := by rw [hs, ← e2, e3]; rfl
          have hof : off = 0 := by
            exact h.voff j hj b off _ _ e3
          subst hof
          refine ⟨b, 0, rfl, Nat.lt_of_lt_of_le hb hgrow.size, fun t ht => ?_⟩
          have := World.ownsRow.cells hri hvb t (.int .i64 ((mkM j n).getD t 0)) (by
            rw [List.getElem?_map, List.getElem?_append_left ht, List.getElem?_eq_getElem ht, List.getD, List.getElem?_eq_getElem ht]; rfl)
          rw [add_plain'] at this
          exact this
        · exact h1.grown hg (.inl rfl)
      · exact h1.grown hgrow (.inr e2)
    · refine h1.grown hgrow ?_
      cases hu : (uu i).ownBlock with
      | none => exact .inl rfl
      | some g => exact .inr (h.ap i j hi hj (fun e3 => e e3.symm) g hu).2
  refine ⟨fun j hj => (hint j hj).grown hset (.inr (h.vne j hj)), fun j hj g e => ?_, fun j hj => ?_, fun a b ha hb hab g e => ?_, h.vne, h.voff, hL1.grown hset (by simpa using fun e => h.bl.2.2 e.symm), hG1.set i hi v', ?_, h.bl⟩
  · have h1 := h.vlt j hj g e
    have h2 := hgrow.size
    have h3 := hset.size
    omega
  · by_cases e : j = i
    · subst e
      have h1 : updF uu j v' j = v' := by simp [updF]
      have h2 : updN T j (T j + 1) j = T j + 1 := by simp [updN]
      rw [h1, h2]
      exact hri.grown hset (.inr (hri.ne2 hG1))
    · have h1 : updF uu i v' j = uu j := by simp [updF, e]
      have h2 : updN T i (T i + 1) j = T j := by simp [updN, e]
      rw [h1, h2]
      have h3 : IRow w' base (uu j) (mkM j n ++ mkN j (T j)) := by
        refine ((h.rows j hj).grown hal (.inl rfl)).grown hgrow ?_
        cases hu : (uu i).ownBlock with
        | none => exact .inl rfl
        | some g => exact .inr (h.ap i j hi hj (fun e3 => e e3.symm) g hu).1
      exact h3.grown hset (.inr (h3.ne2 hG1))
  · have hb' : ∀ j, j < 2 → ∀ q, (uu j).ownBlock = some q → q < wx.heap.size := fun j hj q e => (World.ownsRow.lt (h.rows j hj) q e).2
    by_cases ea : a = i
    · subst ea
      have eb : b ≠ a := fun e2 => hab e2.symm
      have h1 : updF uu a v' a = v' := by simp [updF]
      have h2 : updF uu a v' b = uu b := by simp [updF, eb]
      rw [h1] at e
      rw [h2]
      rcases hor with ⟨hs, _⟩ | ⟨_, hn⟩
      · rw [hs] at e
        exact h.ap a b ha hb hab g e
      · have hk := hn g e
        exact ⟨fun e2 => by have := hb' b hb g e2; omega, fun e2 => by have := h.vlt b hb g e2; omega⟩
    · have h1 : updF uu i v' a = uu a := by simp [updF, ea]
      rw [h1] at e
      by_cases eb : b = i
      · subst eb
        have h2 : updF uu b v' b = v' := by simp [updF]
        rw [h2]
        refine ⟨fun e2 => ?_, (h.ap a b ha hb hab g e).2⟩
        rcases hor with ⟨hs, _⟩ | ⟨_, hn⟩
        · rw [hs] at e2
          exact (h.ap a b ha hb hab g e).1 e2
        · have hk := hn g e2
          have := hb' a ha g e
          omega
      · omega
  · have h1 : Below base w (wx.alloc o) := h.bel.alloc (by have := (h.lb).lt; have := h.bl.1; omega) o
    have h2 : Below base w w' := h1.grown hgrow (by have := (h.lb).lt; have := h.bl.1; omega) (fun k e => (World.ownsRow.lt (h.rows i hi) k e).1)
    exact h2.setCell (p := ⟨G, i, none⟩) h.bl.2.1 _
end Go.Proofs.Ytpoodmfhcoaleaa
/- Lists that share no memory: Apart. -/
namespace Go.Proofs.Ytpoodmfhcoaleaa
open Go.RowKit Go.Great

theorem info_ints : (Try.prog.info? 34).map (fun i => (i.zero, i.size, i.bytes)) = some (some (.slice none 0 0), 1, 24) := by kernel_rfl
theorem made_two {w : World} {base g : Nat} (h : w.ownsRow base 34 1 (.slice (some ⟨g, 0, none⟩) 2 2) 2 (madeCells #[.slice none 0 0] 2).toList) : Two2 w g (.slice none 0 0) (.slice none 0 0) := by
  rcases h.2 with ⟨e, _⟩ | ⟨g2, cap, cur, e, _, hh, _, _, hs, ht⟩
  · cases e
  · injection e with e1 _ e3
    injection e1 with e4
    injection e4 with e5
    subst e5 e3
    rw [toList_madeCells_one] at ht
    have hl : cur.toList.length = 2 := by simpa using hs
    rw [List.take_of_length_le (by omega)] at ht
    have : cur = #[.slice none 0 0, .slice none 0 0] := by
      apply Array.ext'
      rw [ht]; rfl
    rw [this] at hh
    exact hh
theorem upd_next (j n : Nat) : updN (fun q => if q < j then n else 0) j n = (fun q => if q < j + 1 then n else 0) := by
  funext q
  unfold updN
  by_cases e : q = j
  · rw [if_pos e, if_pos (by omega)]
  · rw [if_neg e]
    show (if q < j then n else 0) = _
    by_cases e2 : q < j
    · rw [if_pos e2, if_pos (by omega)]
    · rw [if_neg e2, if_neg (by omega)]
theorem upd_zero (j n : Nat) : updN (fun q => if q < j then n else 0) j 0 = (fun q => if q < j then n else 0) := by
  funext q
  unfold updN
  split
  · rename_i e; rw [e]; simp
  · rfl
theorem upd_upd (f : Nat → Nat) (j a b : Nat) : updN (updN f j a) j b = updN f j b := by
  funext q; unfold updN; split <;> rfl
theorem owns_form {w : World} {base n size : Nat} {e : TypeId} {v : Value} {xs : List Value} (h : w.ownsRow base e size v n xs) : ∃ a cap, v = .slice a n cap := by
  rcases h.2 with ⟨h1, h2⟩ | ⟨g, cap, cur, h1, _⟩
  · exact ⟨none, 0, by rw [h1, h2]⟩
  · exact ⟨_, cap, h1⟩
def pairF (x y : Value) : Nat → Value := fun j => if j = 0 then x else y
set_option maxHeartbeats 2000000 in
set_option maxRecDepth 100000 in
theorem apart_true (n : Nat) (hn : n ≤ 24) (v0 v1 : Value) (l0 l1 : List Int) (e0 : l0.length = n) (e1 : l1.length = n) (w : World) (base : Nat) (r0 : IRow w base v0 l0) (r1 : IRow w base v1 l1) (hap : ∀ g, v0.ownBlock = some g → v1.ownBlock ≠ some g) (L : Nat) (hL : Two2 w L v0 v1) (hb : base ≤ L) : Calls Try.prog 15 #[.slice (some ⟨L, 0, none⟩) 2 2] w fun e w' => e = .returned (.bool true) ∧ Below base w w' := by
  obtain ⟨i0, hi, hz0, hz1, hz2⟩ := info_parts info_int
  have hLs := hL.lt
  obtain ⟨j0, gi, gz0, gz1, gz2⟩ := info_parts info_ints
  have HS1 : Hid (∀ w1, w1.ownsRow w.heap.size 34 1 (.slice (some ⟨w.heap.size, 0, none⟩) 2 2) 2 (madeCells #[.slice none 0 0] 2).toList → w.grownBy w1 none → Ap1 w base n L w.heap.size (pairF v0 v1) (pairF (.slice none 0 0) (.slice none 0 0)) (fun _ => 0) w1) := by
    intro w1 ho hg
    refine ⟨fun j hj => ?_, hap, hL.grown hg (by simp), made_two ho, (Below.refl _ _).grown hg (by omega) (fun k e => by cases e), hb, by omega, by omega⟩
    have : j = 0 ∨ j = 1 := by omega
    rcases this with rfl | rfl
    · exact ⟨l0, r0.grown hg (.inl rfl), e0, fun t ht => by omega⟩
    · exact ⟨l1, r1.grown hg (.inl rfl), e1, fun t ht => by omega⟩
  have HBL : Hid (base ≤ L ∧ L < w.heap.size) := ⟨hb, hLs⟩
  generalize pairF v0 v1 = vv at HS1
  generalize pairF (.slice none 0 0) (.slice none 0 0) = uu0 at HS1
  clear hap hL hb r0 r1 e0 e1
  go_enter Try.func15, Try.ntmps15
  go_wp2_with (at_make; refine wpList_make_full _ rfl (.tmp 12) (.tmp 12) 41 rfl w.heap.size 34 j0 _ 1 Try.underlying41 gi gz0 gz1 .i64 .i64 _ _ 2 rfl rfl rfl rfl ?b1 ?b2 ?b3 ?_)
  case b1 => rw [gz2]; omega
  case b2 => unfold maxLen; omega
  case b3 => exact Nat.le_refl _
  intro w1 hown1 hgrow1
  have HA1 := hide (HS1.out w1 hown1 hgrow1)
  clear hown1 hgrow1 HS1 gi gz0 gz1 gz2
  go_wp2_with fail
  go_loopw [4] (fun i wx => ∃ (j : Nat) (uu : Nat → Value), j ≤ 2 ∧ i = .int .i64 j ∧ (∀ q, q < j → uu q = vv q) ∧ Ap1 w base n L w.heap.size vv uu (fun q => if q < j then n else 0) wx) (fun i _ => 2 - (intOf i).toNat)
  case atStart => exact ⟨0, uu0, by omega, rfl, fun q hq => by omega, HA1.out⟩
  case round =>
    obtain ⟨j, uu, hj, rfl, hu, hA⟩ := hrel
    have HA := hide hA
    have HU := hide hu
    clear hA hu
    by_cases hlt : j < 2
    · have hj2 : (j : Int) < 2 := by omega
      go_wp2_with fail
      clear HA1
      go_loopw [5] (fun i wx => ∃ t : Nat, t ≤ n ∧ i = .int .i64 t ∧ Ap1 w base n L w.heap.size vv uu (updN (fun q => if q < j then n else 0) j t) wx) (fun i _ => n - (intOf i).toNat)
      case atStart =>
        refine ⟨0, by omega, rfl, ?_⟩
        rw [upd_zero]; exact HA.out
      case round =>
        obtain ⟨t, ht, rfl, hA2⟩ := hrel
        have HA2 := hide hA2
        have d0 := hA2.lb.at j hlt
        obtain ⟨l, hRl, hll, _⟩ := hA2.rows j hlt
        obtain ⟨va, vc, hva⟩ := hRl.shape
        rw [hll] at hva
        rw [hva] at d0
        have HVA := hide hva
        clear hA2 hRl hll hva
        by_cases hlt2 : t < n
        · have hKj : updN (fun q => if q < j then n else 0) j t j = t := by simp [updN]
          obtain ⟨g, c, hv, ⟨x, hc⟩, hf, hnx⟩ := HA2.out.mark j hlt (by rw [hKj]; exact hlt2)
          rw [hKj] at hc hf hnx
          rw [HVA.out] at hv
          injection hv with hv1 _ hv2
          subst hv1 hv2
          rw [upd_upd] at hnx
          have HNX := hide hnx
          clear hnx hKj HVA HA2
          go_wp2_with fail
          go_roundw
          case rel => exact ⟨t + 1, by omega, by go_num, HNX.out⟩
          case measure => simp [intOf]; omega
        · obtain rfl : t = n := by omega
          have b0 := HA2.out.gb.at j hlt
          have bz := HA2.out.gb.fz j
          have hnx := HA2.out.keep j hlt
          rw [HVA.out] at hnx
          have hK := upd_next j t
          rw [hK] at hnx
          have HNX := hide hnx
          have HU2 : Hid (∀ q, q < j + 1 → updF uu j (.slice va t vc) q = vv q) := by
            intro q hq
            unfold updF
            by_cases e : q = j
            · rw [if_pos e, e, HVA.out]
            · rw [if_neg e]; exact HU.out q (by omega)
          generalize uu j = ub at b0
          clear hnx hK HA2 HA HU
          go_wp2_with fail
          go_roundw
          case rel => exact ⟨j + 1, _, by omega, by go_num, HU2.out, HNX.out⟩
          case measure => simp [intOf]; omega
    · have HD := hide (HA.out.done (fun q hq => by rw [if_pos (by omega)]; exact Nat.le_refl _) (fun q hq => HU.out q (by omega)))
      have hd2 : decide ((j : Int) < 2) = false := by simp only [decide_eq_false_iff_not]; omega
      obtain ⟨jj, rfl⟩ : ∃ jj, jj = j := ⟨_, rfl⟩
      clear HA HU HA1 hj hlt
      go_wp2_with fail
      go_loopw [6] (fun i wx => ∃ (j : Nat) (uu : Nat → Value), j ≤ 2 ∧ i = .int .i64 j ∧ Ap2 w base n L w.heap.size vv uu (fun q => if q < j then 16 else 0) wx) (fun i _ => 2 - (intOf i).toNat)
      case atStart => exact ⟨0, uu, by omega, rfl, HD.out⟩
      case round =>
        obtain ⟨j, uu, hj, rfl, hA⟩ := hrel
        have HA := hide hA
        clear hA HD
        by_cases hlt : j < 2
        · have hj2 : (j : Int) < 2 := by omega
          go_wp2_with fail
          go_loopw [7] (fun i wx => ∃ (t : Nat) (uu : Nat → Value), t ≤ 16 ∧ i = .int .i64 t ∧ Ap2 w base n L w.heap.size vv uu (updN (fun q => if q < j then 16 else 0) j t) wx) (fun i _ => 16 - (intOf i).toNat)
          case atStart =>
            refine ⟨0, uu, by omega, rfl, ?_⟩
            rw [upd_zero]; exact HA.out
          case round =>
            obtain ⟨t, uu, ht, rfl, hA2⟩ := hrel
            have HA2 := hide hA2
            clear hA2
            by_cases hlt2 : t < 16
            · have hKj : updN (fun q => if q < j then 16 else 0) j t j = t := by simp [updN]
              have hR := HA2.out.rows j hlt
              rw [hKj] at hR
              have d0 := HA2.out.gb.at j hlt
              obtain ⟨ua, uc, hua⟩ := hR.shape
              have hLn : (mkM j n ++ mkN j t).length = n + t := by rw [List.length_append, mkM_len, mkN_len]
              have HST := fun o v' w' a b c => hide (HA2.out.step (w' := w') j hlt o v' a b c)
              have HGB : Hid (∀ (o : Obj) (w' : World), (wr.alloc o).grownBy w' (uu j).ownBlock → Two2 w' w.heap.size (uu 0) (uu 1)) := fun o w' hg => (HA2.out.gb.grown (grown_below (below_alloc wr o) none) (by simp)).grown hg ((HA2.out.rows j hlt).ne2 HA2.out.gb)
              rw [hKj] at HST
              have hbs : base ≤ wr.heap.size := by have := HA2.out.lb.lt; have := HBL.out.1; omega
              rw [hua] at d0 HST hR HGB
              rw [hLn] at d0 HST hR HGB
              have HO : ∀ o, Hid ((wr.alloc o).ownsRow base 3 1 (.slice ua (n + t) uc) (n + t) ((mkM j n ++ mkN j t).map (Value.int .i64))) := by
                intro o
                have := hR.alloc o
                unfold IRow at this
                rw [hLn] at this
                exact this
              rw [upd_upd] at HST
              obtain ⟨xs, HXS⟩ : ∃ xs, Hid ((mkM j n ++ mkN j t).map (Value.int .i64) = xs) := ⟨_, rfl⟩
              simp only [HXS.out] at HST HO
              clear hR hua hLn hKj HA HA2
              go_wp2_with (at_builtin; refine wpList_append_two rfl (.tmp 61) (.tmp 68) 34 rfl base 3 i0 _ 1 8 Try.underlying34 hi hz0 hz1 hz2 rfl (by decide) _ _ _ rfl (HO _).out ⟨wr.heap.size, 0, none⟩ 1 1 [.int .i64 (-(j : Int) * 1000003 - (t : Int) - 1)] rfl rfl ?c1 ?c2 ?c3 ?c4 ?c5 ?_)
              case c1 => exact new_cell1 _ _ rfl _ _
              case c2 => intro u hu; simp at hu; subst hu; rfl
              case c3 => unfold maxLen; omega
              case c4 => omega
              case c5 => rw [size_alloc]; omega
              intro v' w5 hown5 hgrow5 hor5
              have HNX := HST _ v' w5 hown5 hgrow5 hor5
              have hG5 := HGB.out _ w5 hgrow5
              have b0 := hG5.at j hlt
              have bz := hG5.fz j
              obtain ⟨va, vc, rfl⟩ := owns_form hown5
              generalize uu j = ub at b0
              clear hown5 hgrow5 hor5 hG5 HGB HST HO d0
              go_wp2_with fail
              go_roundw
              case rel => exact ⟨t + 1, _, by omega, by go_num, HNX.out⟩
              case measure => simp [intOf]; omega
            · have HNX := HA2
              have ht16 : t = 16 := by omega
              rw [ht16, upd_next] at HNX
              clear HA HA2 ht16
              go_wp2_with fail
              go_roundw
              case rel => exact ⟨j + 1, _, by omega, by go_num, HNX.out⟩
              case measure => simp [intOf]; omega
        · have hd3 : decide ((j : Int) < 2) = false := by simp only [decide_eq_false_iff_not]; omega
          have HV : Hid (∀ q, q < 2 → ∃ va vc, vv q = .slice va n vc ∧ wr.cell? ⟨L, q, none⟩ = some (.slice va n vc) ∧ (0 < n → ∃ g o, va = some ⟨g, o, none⟩ ∧ ∀ k, k < n → wr.cell? ⟨g, o + k, none⟩ = some (.int .i64 ((q : Int) * 1000003 + (k : Int))))) := by
            intro q hq
            obtain ⟨va, vc, e, hc⟩ := HA.out.ints q hq
            rw [mkM_len] at e hc
            refine ⟨va, vc, e, by rw [HA.out.lb.at q hq, e], fun h0 => ?_⟩
            obtain ⟨g, o, e2, _, hcc⟩ := hc h0
            exact ⟨g, o, e2, fun k hk => by rw [hcc k hk, mkM_at q n k hk]⟩
          have HU : Hid (∀ q, q < 2 → ∃ g uc, wr.cell? ⟨w.heap.size, q, none⟩ = some (.slice (some ⟨g, 0, none⟩) (n + 16) uc) ∧ (∀ k, k < n → wr.cell? ⟨g, k, none⟩ = some (.int .i64 ((q : Int) * 1000003 + (k : Int)))) ∧ ∀ k, k < 16 → wr.cell? ⟨g, n + k, none⟩ = some (.int .i64 (-(q : Int) * 1000003 - (k : Int) - 1))) := by
            intro q hq
            have hR := HA.out.rows q hq
            have hg := HA.out.gb.at q hq
            simp only [show q < j by omega, if_true] at hR
            have hLn : (mkM q n ++ mkN q 16).length = n + 16 := by rw [List.length_append, mkM_len, mkN_len]
            rcases hR.2 with ⟨_, h0⟩ | ⟨g, uc, cur, e, _⟩
            · omega
            · rw [hLn] at e
              rw [e] at hR hg
              refine ⟨g, uc, hg, fun k hk => ?_, fun k hk => ?_⟩
              · rw [hR.cell k (by omega), (mkMN_at q n 16 k).1 hk]
              · rw [hR.cell (n + k) (by omega), (mkMN_at q n 16 k).2 hk]
          have HB := hide HA.out.bel
          obtain ⟨w3, rfl⟩ : ∃ w3, w3 = wr := ⟨_, rfl⟩
          obtain ⟨jk, rfl⟩ : ∃ jk, jk = j := ⟨_, rfl⟩
          clear HA hi hz0 hz1 hz2 hj hlt
          go_wp2_with fail
          go_loopw [8] (fun i wx => ∃ j q : Nat, j ≤ 2 ∧ i = .int .i64 j ∧ wx = w3.drewN q) (fun i _ => 2 - (intOf i).toNat)
          case atStart => exact ⟨0, 0, by omega, rfl, rfl⟩
          case round =>
            obtain ⟨j, q, hj, rfl, hwr⟩ := hrel
            have HWR := hide hwr
            clear hwr
            by_cases hlt : j < 2
            · have hj2 : (j : Int) < 2 := by omega
              obtain ⟨va, vc, _, hvc, hva⟩ := HV.out j hlt
              obtain ⟨g2, uc, huc, hua, hub⟩ := HU.out j hlt
              obtain ⟨w4, rfl⟩ : ∃ w4, w4 = wr := ⟨_, rfl⟩
              have d0 : w4.cell? ⟨L, j, none⟩ = some (.slice va n vc) := by rw [HWR.out, drewN_cell]; exact hvc
              have d1 : w4.cell? ⟨w.heap.size, j, none⟩ = some (.slice (some ⟨g2, 0, none⟩) (n + 16) uc) := by rw [HWR.out, drewN_cell]; exact huc
              have HVA : Hid (0 < n → ∃ g o, va = some ⟨g, o, none⟩ ∧ ∀ k, k < n → w4.cell? ⟨g, o + k, none⟩ = some (.int .i64 ((j : Int) * 1000003 + (k : Int)))) := by
                intro h0
                obtain ⟨g, o, e, hc⟩ := hva h0
                exact ⟨g, o, e, fun k hk => by rw [HWR.out, drewN_cell]; exact hc k hk⟩
              have HUA : Hid (∀ k, k < n → w4.cell? ⟨g2, k, none⟩ = some (.int .i64 ((j : Int) * 1000003 + (k : Int)))) := fun k hk => by rw [HWR.out, drewN_cell]; exact hua k hk
              have HUB : Hid (∀ k, k < 16 → w4.cell? ⟨g2, n + k, none⟩ = some (.int .i64 (-(j : Int) * 1000003 - (k : Int) - 1))) := fun k hk => by rw [HWR.out, drewN_cell]; exact hub k hk
              clear hvc hva huc hua hub
              go_wp2_with fail
              go_loopw [9] (fun i wx => ∃ k : Nat, k ≤ n ∧ i = .int .i64 k ∧ wx = w4) (fun i _ => n - (intOf i).toNat)
              case atStart => exact ⟨0, by omega, rfl, rfl⟩
              case round =>
                obtain ⟨k, hk, rfl, hwx⟩ := hrel
                obtain rfl : w4 = wr := hwx.symm
                by_cases hlt2 : k < n
                · obtain ⟨g, o, rfl, hc⟩ := HVA.out (by omega)
                  have c1 := hc k hlt2
                  have c2 := HUA.out k hlt2
                  clear hc HVA
                  go_wp2_with fail
                  go_roundw
                  case rel => exact ⟨k + 1, by omega, by go_num, trivial⟩
                  case measure => simp [intOf]; omega
                · obtain rfl : k = n := by omega
                  go_wp2_with fail
                  go_loopw [10] (fun i wx => ∃ t q2 : Nat, t ≤ 16 ∧ i = .int .i64 t ∧ wx = w4.drewN q2) (fun i _ => 16 - (intOf i).toNat)
                  case atStart => exact ⟨0, 0, by omega, rfl, rfl⟩
                  case round =>
                    obtain ⟨t, q2, ht, rfl, hwr⟩ := hrel
                    have HWR2 := hide hwr
                    have f0 : wr.cell? ⟨L, j, none⟩ = some (.slice va k vc) := by rw [hwr, drewN_cell]; exact d0
                    have f1 : wr.cell? ⟨w.heap.size, j, none⟩ = some (.slice (some ⟨g2, 0, none⟩) (k + 16) uc) := by rw [hwr, drewN_cell]; exact d1
                    by_cases hlt3 : t < 16
                    · have c3 : wr.cell? ⟨g2, k + t, none⟩ = some (.int .i64 (-(j : Int) * 1000003 - (t : Int) - 1)) := by rw [hwr, drewN_cell]; exact HUB.out t hlt3
                      have hx1 : (0 : Int) ≤ (k : Int) + (t : Int) := by omega
                      have hx2 : (k : Int) + (t : Int) < ((k + 16 : Nat) : Int) := by omega
                      clear hwr d0 d1
                      go_wp2_with fail
                      go_quiet (fail)
                      go_wp2_with fail
                      go_roundw
                      case rel => exact ⟨t + 1, q2 + nq, by omega, by go_num, by rw [HWR2.out, drewN_drewN]⟩
                      case measure => simp [intOf]; omega
                    · clear hwr d0 d1
                      go_wp2_with fail
                      go_roundw
                      case rel => exact ⟨j + 1, q + q2, by omega, by go_num, by rw [HWR2.out, HWR.out, drewN_drewN]⟩
                      case measure => simp [intOf]; omega
            · go_wp2_with fail
              go_ret
              exact ⟨rfl, by rw [HWR.out]; exact below_drewN HB.out q⟩
end Go.Proofs.Ytpoodmfhcoaleaa
