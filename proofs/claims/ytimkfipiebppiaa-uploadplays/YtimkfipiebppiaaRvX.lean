/- RvX: Rv6, Rv7, Rv8, Rv9, Rva, Rvb, Rvc, Rvd, Rve, Rvf, Rvg, Rvh, Rvi, Rvj in one text. -/
import Derived.Test.YtimkfipiebppiaaRvW
import Derived.Laws.MakeOwn
import Derived.Test.YtimkfipiebppiaaRvV
import Derived.Laws.AppendOwnNone
import Derived.Test.YtimkfipiebppiaaUl6
/- Rows that share no memory: what windhoverkeep.Apart holds of n rows. -/
namespace Go.Proofs.Ytimkfipiebppiaa
open Go.RowKit Go.Great

/-- n rows of ints, each in a block of its own -/
structure ApU (w : World) (base n : Nat) (U : Nat → Value) (F : Nat → List Int) : Prop where
  row : ∀ i, i < n → IRow w base (U i) (F i)
  pos : ∀ i, i < n → 0 < (F i).length
  two : ∀ i j, i < n → j < n → i ≠ j → (U i).ownBlock ≠ (U j).ownBlock
theorem ApU.after {w w' : World} {base n : Nat} {U : Nat → Value} {F : Nat → List Int} (h : ApU w base n U F) (hb : Below w.heap.size w w') : ApU w' base n U F := ⟨fun i hi => (h.row i hi).below hb, h.pos, h.two⟩
/-- where a row lies -/
theorem ApU.at {w : World} {base n : Nat} {U : Nat → Value} {F : Nat → List Int} (h : ApU w base n U F) {i : Nat} (hi : i < n) : ∃ g c cur, U i = .slice (some ⟨g, 0, none⟩) (F i).length c ∧ base ≤ g ∧ Blk w g cur 3 ∧ (F i).length ≤ c ∧ c ≤ 9223372036854775807 := by
  rcases (h.row i hi).2 with ⟨_, e⟩ | ⟨g, cap, cur, e, hb, hh, h1, h2, _⟩
  · have := h.pos i hi; omega
  · exact ⟨g, cap, cur, e, hb, hh, h1, h2⟩
theorem irow_cellG {w : World} {base g n c : Nat} {l : List Int} (h : IRow w base (.slice (some ⟨g, 0, none⟩) n c) l) (i : Nat) (hi : i < l.length) : w.cell? ⟨g, i, none⟩ = some (.int .i64 (l.getD i 0)) := by
  have e : n = l.length := by
    rcases h.2 with ⟨q, _⟩ | ⟨_, _, _, q, _⟩
    · cases q
    · injection q
  subst e
  rw [World.ownsRow.cellAt h i (by omega)]
  simp [hi]
theorem irow_setG {w : World} {base g n c : Nat} {l : List Int} (h : IRow w base (.slice (some ⟨g, 0, none⟩) n c) l) (i : Nat) (x : Int) : IRow (w.setCell ⟨g, i, none⟩ (.int .i64 x)) base (.slice (some ⟨g, 0, none⟩) n c) (l.set i x) := by
  rcases h.2 with ⟨q, _⟩ | ⟨g', cap, cur, q, hb, hh, h1, h2, h3, h4⟩
  · cases q
  · injection q with e1 e2 e3
    injection e1 with e1
    injection e1 with e1
    subst e1 e3
    unfold IRow
    rw [List.length_set]
    refine ⟨by simp, .inr ⟨g, c, _, by rw [e2], hb, heap_set hh i _, h1, h2, by simp [h3], ?_⟩⟩
    rw [Array.toList_setIfInBounds, List.take_set, List.map_set]
    rw [← h4]
/-- a place of a row is written -/
theorem ApU.set {w : World} {base n : Nat} {U : Nat → Value} {F : Nat → List Int} (h : ApU w base n U F) {i g m c : Nat} (hi : i < n) (hU : U i = .slice (some ⟨g, 0, none⟩) m c) (k : Nat) (x : Int) : ApU (w.setCell ⟨g, k, none⟩ (.int .i64 x)) base n U (fun j => if j = i then (F j).set k x else F j) := by
  refine ⟨fun j hj => ?_, fun j hj => ?_, h.two⟩
  · by_cases e : j = i
    · subst e
      rw [if_pos rfl]
      have h1 := h.row j hj
      rw [hU] at h1 ⊢
      exact irow_setG h1 k x
    · rw [if_neg e]
      refine World.ownsRow.kept (h.row j hj) (grown_set w g k _) (.inr (fun e2 => h.two j i hj hi e ?_))
      rw [e2, hU]
      rfl
  · by_cases e : j = i
    · rw [if_pos e, List.length_set]; exact h.pos j hj
    · rw [if_neg e]; exact h.pos j hj
/-- the rows' slices, in block L -/
def ArU (w : World) (L n : Nat) (U : Nat → Value) : Prop := ∃ cs, Blk w L cs 36 ∧ n ≤ cs.size ∧ ∀ k, k < n → cs[k]? = some (U k)
theorem ArU.cell {w : World} {L n : Nat} {U : Nat → Value} (h : ArU w L n U) {k : Nat} (hk : k < n) : w.cell? ⟨L, k, none⟩ = some (U k) := by
  obtain ⟨cs, h1, _, h3⟩ := h
  exact h1.cell k (h3 k hk)
theorem ArU.frozen {w : World} {L n : Nat} {U : Nat → Value} (h : ArU w L n U) (k : Nat) : w.frozen? ⟨L, k, none⟩ = false := by
  obtain ⟨cs, h1, _⟩ := h
  exact h1.frozen k
theorem ArU.after {w w' : World} {L n : Nat} {U : Nat → Value} (h : ArU w L n U) (hb : Below w.heap.size w w') : ArU w' L n U := by
  obtain ⟨cs, h1, h2⟩ := h
  exact ⟨cs, h1.after hb, h2⟩
theorem ArU.grown {w w' : World} {L n base : Nat} {U : Nat → Value} {v : Value} {l : List Int} (h : ArU w L n U) (hR : IRow w base v l) (hG : w.grownBy w' v.ownBlock) : ArU w' L n U := by
  obtain ⟨cs, h1, h2⟩ := h
  exact ⟨cs, blk_grown hR h1 (by decide) hG, h2⟩
theorem ArU.set {w : World} {L n : Nat} {U : Nat → Value} (h : ArU w L n U) (k : Nat) (x : Value) : ArU (w.setCell ⟨L, k, none⟩ x) L n (fun j => if j = k then x else U j) := by
  obtain ⟨cs, h1, h2, h3⟩ := h
  refine ⟨_, h1.set k x, by simpa using h2, fun j hj => ?_⟩
  show _ = some (if j = k then x else U j)
  by_cases e : k = j
  · subst e
    rw [if_pos rfl, Array.getElem?_setIfInBounds_self_of_lt (by omega)]
  · rw [if_neg (fun h => e h.symm), Array.getElem?_setIfInBounds_ne e]
    exact h3 j hj
theorem ArU.other {w : World} {L M n : Nat} {U : Nat → Value} (h : ArU w L n U) (hne : L ≠ M) (k : Nat) (x : Value) : ArU (w.setCell ⟨M, k, none⟩ x) L n U := by
  obtain ⟨cs, h1, h2⟩ := h
  exact ⟨cs, h1.setOther hne k x, h2⟩
theorem ApU.other {w : World} {base n M m : Nat} {U V : Nat → Value} {F : Nat → List Int} (h : ApU w base n U F) (hM : ArU w M m V) (k : Nat) (x : Value) : ApU (w.setCell ⟨M, k, none⟩ x) base n U F := by
  obtain ⟨cs, h1, _⟩ := hM
  exact ⟨fun i hi => World.ownsRow.kept (h.row i hi) (grown_set w M k x) (.inr (blk_apart (h.row i hi) h1 (by decide))), h.pos, h.two⟩
/-- new rows that are nothing yet -/
theorem ArU.new (w : World) (n : Nat) : ArU (w.alloc (.cells (madeCells #[.slice none 0 0] n) 36)) w.heap.size n (fun _ => .slice none 0 0) := by
  refine ⟨_, Blk.new _ _ _, by rw [size_madeCells]; exact Nat.le_refl _, fun k hk => ?_⟩
  unfold madeCells
  rw [Array.getElem?_map, Array.getElem?_range, if_pos hk, Option.map_some]
  have : k % 1 = 0 := Nat.mod_one k
  simp [this]
/-- the marks -/
def mkA (i k : Nat) : Int := (i : Int) * 1000003 + k
def mkB (i k : Nat) : Int := -(i : Int) * 1000003 - k - 1
def rwA (i k : Nat) (r : List Int) : List Int := (List.range k).map (mkA i) ++ r.drop k
def rwB (i k : Nat) : List Int := (List.range k).map (mkB i)
theorem rwA_zero (i : Nat) (r : List Int) : rwA i 0 r = r := by simp [rwA]
theorem rwA_len (i k : Nat) (r : List Int) (h : k ≤ r.length) : (rwA i k r).length = r.length := by simp [rwA]; omega
theorem rwA_step (i k : Nat) (r : List Int) (h : k < r.length) : (rwA i k r).set k (mkA i k) = rwA i (k + 1) r := by
  unfold rwA
  rw [List.set_append_right _ _ (by simp), List.length_map, List.length_range, Nat.sub_self, List.drop_eq_getElem_cons h, List.set_cons_zero, List.range_succ, List.map_append, List.append_assoc]
  rfl
theorem rwA_all (i : Nat) (r : List Int) : rwA i r.length r = (List.range r.length).map (mkA i) := by simp [rwA]
end Go.Proofs.Ytimkfipiebppiaa
/- windhoverkeep.Apart of n rows of five, each in a block of its own. -/
namespace Go.Proofs.Ytimkfipiebppiaa
open Go.RowKit Go.Great

theorem info_rows : (Try.prog.info? 36).map (fun i => (i.zero, i.size, i.bytes)) = some (some (.slice none 0 0), 1, 24) := by kernel_rfl
theorem make_rows (n : Nat) (hn : n ≤ 131070) (w : World) : (Instr.makeSlice 27 (.int .i64 n) (.int .i64 n)).run Try.prog w = .ok (.slice (some ⟨w.heap.size, 0, none⟩) n n) (w.alloc (.cells (madeCells #[.slice none 0 0] n) 36)) := by
  obtain ⟨i, hi, hz0, hz1, hz2⟩ := info_parts info_rows
  have h := run_make (P := Try.prog) w 27 36 i _ Try.underlying27 hi hz0 .i64 .i64 n n (by omega) (Int.le_refl _) (by rw [hz2]; omega) (by omega)
  simp only [Int.toNat_natCast] at h
  rw [hz1, Nat.mul_one] at h
  exact h
def FB (F : Nat → List Int) (i k : Nat) : Nat → List Int := fun j => if j < i then rwA j 5 (F j) else if j = i then rwA j k (F j) else F j
theorem FB_zero (F : Nat → List Int) : FB F 0 0 = F := by
  funext j
  unfold FB
  rw [if_neg (by omega)]
  split
  · rw [rwA_zero]
  · rfl
theorem FB_next (F : Nat → List Int) (i : Nat) : FB F i 5 = FB F (i + 1) 0 := by
  funext j
  unfold FB
  by_cases h1 : j < i
  · rw [if_pos h1, if_pos (by omega)]
  · rw [if_neg h1]
    by_cases h2 : j = i
    · rw [if_pos h2, if_pos (by omega)]
    · rw [if_neg h2, if_neg (by omega), rwA_zero]
      split <;> rfl
theorem FB_step {F : Nat → List Int} {i k : Nat} (h : (F i).length = 5) (hk : k < 5) : (fun j => if j = i then (FB F i k j).set k (mkA i k) else FB F i k j) = FB F i (k + 1) := by
  funext j
  by_cases e : j = i
  · subst e
    unfold FB
    rw [if_pos rfl, if_neg (by omega), if_pos rfl, if_neg (by omega), if_pos rfl]
    exact rwA_step j k (F j) (by omega)
  · rw [if_neg e]
    unfold FB
    rw [if_neg e, if_neg e]
theorem FB_len {F : Nat → List Int} {i k n : Nat} (h : ∀ j, j < n → (F j).length = 5) (hk : k ≤ 5) : ∀ j, j < n → (FB F i k j).length = 5 := by
  intro j hj
  have h5 := h j hj
  unfold FB
  split
  · rw [rwA_len _ _ _ (by omega)]; exact h5
  · split
    · rw [rwA_len _ _ _ (by omega)]; exact h5
    · exact h5
def lgA (U : Nat → Value) (i : Nat) : Nat → Value := fun j => if j < i then U j else .slice none 0 0
theorem lgA_step (U : Nat → Value) (i : Nat) : (fun j => if j = i then U i else lgA U i j) = lgA U (i + 1) := by
  funext j
  unfold lgA
  by_cases e : j = i
  · rw [if_pos e, if_pos (by omega), e]
  · rw [if_neg e]
    by_cases h : j < i
    · rw [if_pos h, if_pos (by omega)]
    · rw [if_neg h, if_neg (by omega)]
def rw5 (j : Nat) : List Int := (List.range 5).map (mkA j)
/-- what the grown rows hold behind k appends of row i -/
def GB (i k : Nat) : Nat → List Int := fun j => rw5 j ++ (if j < i then rwB j 16 else if j = i then rwB j k else [])
theorem GB_len (i k j : Nat) : 5 ≤ (GB i k j).length := by unfold GB rw5; simp
theorem GB_other {i k j : Nat} (h : j ≠ i) : GB i (k + 1) j = GB i k j := by unfold GB; rw [if_neg h, if_neg h]
theorem GB_step (i k : Nat) : GB i (k + 1) i = GB i k i ++ [mkB i k] := by
  unfold GB
  rw [if_neg (by omega), if_pos rfl, if_neg (by omega), if_pos rfl, List.append_assoc]
  unfold rwB
  rw [List.range_succ, List.map_append]
  rfl
theorem GB_next (i : Nat) : GB i 16 = GB (i + 1) 0 := by
  funext j
  unfold GB
  by_cases h1 : j < i
  · rw [if_pos h1, if_pos (by omega)]
  · rw [if_neg h1]
    by_cases h2 : j = i
    · rw [if_pos h2, if_pos (by omega)]
    · rw [if_neg h2, if_neg (by omega)]
      split
      · rfl
      · rfl
theorem GB_mark (i k j q : Nat) (h : q < 5) : (GB i k j).getD q 0 = mkA j q := by
  unfold GB
  rw [List.getD, List.getElem?_append_left (by unfold rw5; simpa using h)]
  unfold rw5
  rw [List.getElem?_map, List.getElem?_range h]
  rfl
theorem rw5_get (j q : Nat) (h : q < 5) : (rw5 j).getD q 0 = mkA j q := by
  unfold rw5
  rw [List.getD, List.getElem?_map, List.getElem?_range h]
  rfl
theorem GB_len2 (i k : Nat) : (GB i k i).length = 5 + k := by
  unfold GB rw5 rwB
  rw [if_neg (by omega), if_pos rfl]
  simp
theorem GB_tail {n i k : Nat} (hi : i < n) (hk : k < 16) : (GB n 0 i).getD (5 + k) 0 = mkB i k := by
  unfold GB
  rw [if_pos hi, List.getD, List.getElem?_append_right (by unfold rw5; simp)]
  have : 5 + k - (rw5 i).length = k := by unfold rw5; simp
  rw [this]
  unfold rwB
  rw [List.getElem?_map, List.getElem?_range hk]
  rfl
theorem GB_len3 {n i : Nat} (hi : i < n) : (GB n 0 i).length = 21 := by
  unfold GB rw5 rwB
  rw [if_pos hi]
  simp
theorem ApU.congr {w : World} {base n : Nat} {U : Nat → Value} {F G : Nat → List Int} (h : ApU w base n U F) (e : ∀ i, i < n → F i = G i) : ApU w base n U G := ⟨fun i hi => by rw [← e i hi]; exact h.row i hi, fun i hi => by rw [← e i hi]; exact h.pos i hi, h.two⟩
/-- the rows U, and what they have grown to: V -/
structure BSt (w : World) (base n : Nat) (U V : Nat → Value) (i k : Nat) : Prop where
  v : ApU w base n V (GB i k)
  sep : ∀ j l, j < n → l < n → j ≠ l → (V j).ownBlock ≠ (U l).ownBlock
  ls : ∀ j, j < n → ∃ g c, U j = .slice (some ⟨g, 0, none⟩) 5 c ∧ g < w.heap.size ∧ ∀ q, q < 5 → w.cell? ⟨g, q, none⟩ = some (.int .i64 (mkA j q))
theorem BSt.after {w w' : World} {base n i k : Nat} {U V : Nat → Value} (h : BSt w base n U V i k) (hb : Below w.heap.size w w') : BSt w' base n U V i k :=
  ⟨h.v.after hb, h.sep, fun j hj => by
    obtain ⟨g, c, e, hg, hc⟩ := h.ls j hj
    exact ⟨g, c, e, Nat.lt_of_lt_of_le hg hb.size, fun q hq => (hb.cell (p := ⟨g, q, none⟩) hg).trans (hc q hq)⟩⟩
theorem irow_some {w : World} {base : Nat} {v : Value} {l : List Int} (h : IRow w base v l) (h0 : 0 < l.length) : ∃ g c, v = .slice (some ⟨g, 0, none⟩) l.length c ∧ g < w.heap.size := by
  rcases h.2 with ⟨_, e⟩ | ⟨g, cap, cur, e, _, hh, _⟩
  · omega
  · exact ⟨g, cap, e, lt_of_block hh⟩
/-- one row has grown by one -/
theorem BSt.step {w w' : World} {base n i k : Nat} {U V : Nat → Value} (h : BSt w base n U V i k) (hi : i < n) {v' : Value} (hR : IRow w' base v' (GB i (k + 1) i)) (hG : w.grownBy w' (V i).ownBlock) (hc : (v'.ownBlock = (V i).ownBlock ∧ (V i).ownBlock ≠ none) ∨ (w.grownBy w' none ∧ ∀ q, v'.ownBlock = some q → w.heap.size ≤ q)) : BSt w' base n U (fun j => if j = i then v' else V j) i (k + 1) := by
  obtain ⟨g', c', ev, _⟩ := irow_some hR (by have := GB_len i (k + 1) i; omega)
  have hown : v'.ownBlock = some g' := by rw [ev]; rfl
  have hVs : ∀ j, j < n → ∃ g, (V j).ownBlock = some g ∧ g < w.heap.size := fun j hj => by
    obtain ⟨g, c, e, hg⟩ := irow_some (h.v.row j hj) (h.v.pos j hj)
    exact ⟨g, by rw [e]; rfl, hg⟩
  have hne : ∀ l, l < n → l ≠ i → v'.ownBlock ≠ (V l).ownBlock := fun l hl hli => by
    rcases hc with ⟨e, _⟩ | ⟨_, e⟩
    · rw [e]; exact h.v.two i l hi hl (fun e => hli e.symm)
    · obtain ⟨g, e1, hg⟩ := hVs l hl
      intro e2
      have := e g' hown
      rw [hown, e1] at e2
      injection e2 with e2
      omega
  refine ⟨⟨fun j hj => ?_, fun j hj => by have := GB_len i (k + 1) j; omega, fun j l hj hl hjl => ?_⟩, fun j l hj hl hjl => ?_, fun j hj => ?_⟩
  · by_cases e : j = i
    · subst e
      rw [if_pos rfl]
      exact hR
    · rw [if_neg e, GB_other e]
      exact World.ownsRow.kept (h.v.row j hj) hG (.inr (h.v.two j i hj hi e))
  · show (if j = i then v' else V j).ownBlock ≠ (if l = i then v' else V l).ownBlock
    by_cases e : j = i
    · rw [if_pos e, if_neg (by omega)]
      exact hne l hl (by omega)
    · rw [if_neg e]
      by_cases e2 : l = i
      · rw [if_pos e2]
        exact fun h3 => hne j hj e h3.symm
      · rw [if_neg e2]
        exact h.v.two j l hj hl hjl
  · show (if j = i then v' else V j).ownBlock ≠ _
    by_cases e : j = i
    · rw [if_pos e]
      rcases hc with ⟨e1, _⟩ | ⟨_, e1⟩
      · rw [e1, ← e]; exact h.sep j l hj hl hjl
      · obtain ⟨g, c, e2, hg, _⟩ := h.ls l hl
        intro e3
        have := e1 g' hown
        rw [hown, e2] at e3
        have e3 : some g' = some g := e3
        injection e3 with e3
        omega
    · rw [if_neg e]
      exact h.sep j l hj hl hjl
  · obtain ⟨g, c, e, hg, hcl⟩ := h.ls j hj
    refine ⟨g, c, e, Nat.lt_of_lt_of_le hg hG.size, fun q hq => ?_⟩
    have same : w'.heap[g]? = w.heap[g]? → w'.cell? ⟨g, q, none⟩ = some (.int .i64 (mkA j q)) := fun hs => by
      rw [← hcl q hq]
      unfold World.cell?
      simp only [hs]
    by_cases eb : (V i).ownBlock = some g
    · have hji : j = i := by
        refine Decidable.byContradiction fun hne2 => ?_
        have := h.sep i j hi hj (fun e => hne2 e.symm)
        rw [eb, e] at this
        exact this rfl
      subst hji
      rcases hc with ⟨e1, _⟩ | ⟨hn, _⟩
      · have eg : g' = g := by
          rw [hown, eb] at e1
          injection e1
        subst eg
        rw [ev] at hR
        have := irow_cellG hR q (by have := GB_len j (k + 1) j; omega)
        rw [GB_mark _ _ _ _ hq] at this
        exact this
      · exact same (hn.block g hg (fun e => by cases e))
    · exact same (hG.block g hg (fun e => eb e.symm))
theorem BSt.other {w : World} {base n i k M m : Nat} {U V X : Nat → Value} (h : BSt w base n U V i k) (hM : ArU w M m X) (q : Nat) (x : Value) (hU : ∀ j, j < n → ∃ cur g c, U j = .slice (some ⟨g, 0, none⟩) 5 c ∧ Blk w g cur 3) : BSt (w.setCell ⟨M, q, none⟩ x) base n U V i k := by
  refine ⟨h.v.other hM q x, h.sep, fun j hj => ?_⟩
  obtain ⟨g, c, e, hg, hc⟩ := h.ls j hj
  obtain ⟨cur, g2, c2, e2, hB⟩ := hU j hj
  rw [e] at e2
  injection e2 with e2
  injection e2 with e2
  injection e2 with e2
  subst e2
  obtain ⟨cs, hMB, _⟩ := hM
  have hne : g ≠ M := by
    intro e3
    subst e3
    have h4 : w.heap[g]? = some (.cells cs 36 (0, 0)) := hMB
    have h5 : w.heap[g]? = some (.cells cur 3 (0, 0)) := hB
    rw [h4] at h5
    injection h5 with h5
    injection h5 with _ h5
    exact absurd h5 (by decide)
  refine ⟨g, c, e, by rw [setCell_size]; exact hg, fun p hp => ?_⟩
  rw [← hc p hp]
  exact cell_same (Below.heap_setCell _ _ _ _ (fun e3 => hne e3)) p
/-- the blocks of rows stay blocks of ints -/
def UBk (w : World) (n : Nat) (U : Nat → Value) : Prop := ∀ j, j < n → ∃ cur g c, U j = .slice (some ⟨g, 0, none⟩) 5 c ∧ Blk w g cur 3
theorem UBk.after {w w' : World} {n : Nat} {U : Nat → Value} (h : UBk w n U) (hb : Below w.heap.size w w') : UBk w' n U := fun j hj => by
  obtain ⟨cur, g, c, e, hB⟩ := h j hj
  exact ⟨cur, g, c, e, hB.after hb⟩
theorem UBk.set {w : World} {n M q : Nat} {U : Nat → Value} {x : Value} (h : UBk w n U) : UBk (w.setCell ⟨M, q, none⟩ x) n U := fun j hj => by
  obtain ⟨cur, g, c, e, hB⟩ := h j hj
  by_cases e2 : g = M
  · subst e2; exact ⟨_, g, c, e, hB.set q x⟩
  · exact ⟨cur, g, c, e, hB.setOther e2 q x⟩
/-- where a row of ints grows, a block of ints stays one -/
theorem UBk.grown {w w' : World} {n base : Nat} {U : Nat → Value} {v v' : Value} {l l' : List Int} (h : UBk w n U) (_hR : IRow w base v l) (hG : w.grownBy w' v.ownBlock) (hR' : IRow w' base v' l') (hc : v'.ownBlock = v.ownBlock ∨ w.grownBy w' none) : UBk w' n U := fun j hj => by
  obtain ⟨cur, g, c, e, hB⟩ := h j hj
  by_cases e2 : v.ownBlock = some g
  · rcases hc with hc | hc
    · rcases hR'.2 with ⟨q, _⟩ | ⟨g2, cap2, cur2, q, _, hh, _⟩
      · rw [q] at hc
        rw [← hc] at e2
        cases e2
      · rw [← hc, q] at e2
        have e2 : some g2 = some g := e2
        injection e2 with e2
        subst e2
        exact ⟨cur2, g2, c, e, hh⟩
    · exact ⟨cur, g, c, e, hB.grown hc (fun e => by cases e)⟩
  · exact ⟨cur, g, c, e, hB.grown hG e2⟩
set_option maxRecDepth 100000 in
set_option maxHeartbeats 4000000 in
theorem apartN_any (n : Nat) (hn : n ≤ 131070) (w : World) (base L cap : Nat) (U : Nat → Value) (F : Nat → List Int) (hU : ApU w base n U F) (h5 : ∀ i, i < n → (F i).length = 5) (hL : ArU w L n U) (hb : base ≤ w.heap.size) (hc : n ≤ cap) (_hcm : cap ≤ 9223372036854775807) : Calls Try.prog 34 #[.slice (some ⟨L, 0, none⟩) n cap] w fun e w' => e = .returned (.bool true) ∧ Below base w w' := by
  have MK := make_rows n hn w
  have HU : Hid (ApU (w.alloc (.cells (madeCells #[.slice none 0 0] n) 36)) base n U (FB F 0 0)) := hide (by rw [FB_zero]; exact hU.after (below_alloc _ _))
  have HLr := hide (hL.after (below_alloc w (.cells (madeCells #[.slice none 0 0] n) 36)))
  have HMr : Hid (ArU (w.alloc (.cells (madeCells #[.slice none 0 0] n) 36)) w.heap.size n (lgA U 0)) := hide (by
    have h1 := ArU.new w n
    have e : lgA U 0 = fun _ => .slice none 0 0 := by funext j; unfold lgA; rw [if_neg (by omega)]
    rw [e]
    exact h1)
  have HLM : Hid (L ≠ w.heap.size) := hide (by obtain ⟨cs, h1, _⟩ := hL; have := h1.lt; omega)
  have HB0 : Hid (Below base w (w.alloc (.cells (madeCells #[.slice none 0 0] n) 36))) := hide ((Below.refl base w).alloc hb _)
  have H5 := hide h5
  have Hbs := hide hb
  clear hU hL h5 hb
  go_enter Try.func34, Try.ntmps34
  go_upto_region 2 with fail
  generalize w.alloc (.cells (madeCells #[.slice none 0 0] n) 36) = w1 at *
  obtain ⟨M, hM⟩ : ∃ M, w.heap.size = M := ⟨_, rfl⟩
  rw [hM] at HMr HLM Hbs ⊢
  clear hM MK
  go_wp2_with fail
  go_loopw [4] (fun v4 wr => ∃ i : Nat, v4 = .int .i64 (i : Int) ∧ i ≤ n ∧ Hid (ApU wr base n U (FB F i 0)) ∧ Hid (ArU wr L n U) ∧ Hid (ArU wr M n (lgA U i)) ∧ Hid (Below base w wr)) (fun v4 _ => n - (intOf v4).toNat)
  case atStart => exact ⟨0, rfl, by omega, HU, HLr, HMr, HB0⟩
  case round =>
    clear HU HLr HMr HB0
    obtain ⟨i, rfl, hi, HU, HL, HM, HB⟩ := hrel
    by_cases hin : i < n
    · obtain ⟨g, c, _, eU, hbg, _, _, hcU⟩ := HU.out.at hin
      have hl5 := FB_len (i := i) (k := 0) H5.out (by omega) i hin
      rw [hl5] at eU
      have HEU := hide eU
      have hi2 : (i : Int) ≤ 131070 := by omega
      have hin2 : (i : Int) < n := by omega
      have hic : (i : Int) < cap := by omega
      clear hl5 eU
      go_upto_region 6 with fail
      go_loopw [5] (fun v5 wx => ∃ k : Nat, v5 = .int .i64 (k : Int) ∧ k ≤ 5 ∧ Hid (ApU wx base n U (FB F i k)) ∧ Hid (ArU wx L n U) ∧ Hid (ArU wx M n (lgA U i)) ∧ Hid (Below base w wx)) (fun v5 _ => 5 - (intOf v5).toNat)
      case atStart => exact ⟨0, rfl, by omega, HU, HL, HM, HB⟩
      case round =>
        clear HU HL HM HB
        obtain ⟨k, rfl, hk, HU, HL, HM, HB⟩ := hrel
        have hl5 := FB_len (i := i) (k := k) H5.out hk i hin
        have d0 := HL.out.cell hin
        rw [HEU.out] at d0
        by_cases hk5 : k < 5
        · have hr := HU.out.row i hin
          rw [HEU.out] at hr
          have c0 := irow_cellG hr k (by rw [hl5]; exact hk5)
          have f0 : wr.frozen? ⟨g, k, none⟩ = false := by
            obtain ⟨g', c', cur, e1, _, hB, _⟩ := HU.out.at hin
            rw [HEU.out] at e1
            injection e1 with e1
            injection e1 with e1
            injection e1 with e1
            subst e1
            exact hB.frozen k
          generalize (FB F i k i).getD k 0 = y at c0
          have HUn : Hid (ApU (wr.setCell ⟨g, k, none⟩ (.int .i64 (mkA i k))) base n U (FB F i (k + 1))) := hide (by
            have := HU.out.set hin HEU.out k (mkA i k)
            rw [FB_step (H5.out i hin) hk5] at this
            exact this)
          have hgr := grown_set wr g k (.int .i64 (mkA i k))
          have HLn : Hid (ArU (wr.setCell ⟨g, k, none⟩ (.int .i64 (mkA i k))) L n U) := hide (HL.out.grown hr hgr)
          have HMn : Hid (ArU (wr.setCell ⟨g, k, none⟩ (.int .i64 (mkA i k))) M n (lgA U i)) := hide (HM.out.grown hr hgr)
          have HBn : Hid (Below base w (wr.setCell ⟨g, k, none⟩ (.int .i64 (mkA i k)))) := hide (below_set HB.out g k _ hbg (Nat.le_trans Hbs.out (by have := HB.out.size; have := HM.out; obtain ⟨_, h1, _⟩ := this; have := h1.lt; omega)))
          have hk2 : (k : Int) < 5 := by omega
          unfold mkA at HUn HLn HMn HBn
          clear hr hgr HU HL HM HB hl5
          go_wp2_with fail
          go_roundw
          case rel => exact ⟨k + 1, by simp, by omega, HUn, HLn, HMn, HBn⟩
          case measure => simp [intOf]; omega
        · have hke : k = 5 := by omega
          have dM := HM.out.cell hin
          have fM := HM.out.frozen i
          have eL : lgA U i i = .slice none 0 0 := by unfold lgA; rw [if_neg (by omega)]
          rw [eL] at dM
          have HUn : Hid (ApU (wr.setCell ⟨M, i, none⟩ (.slice (some ⟨g, 0, none⟩) 5 c)) base n U (FB F (i + 1) 0)) := hide (by
            have := HU.out.other HM.out i (.slice (some ⟨g, 0, none⟩) 5 c)
            rw [hke, FB_next] at this
            exact this)
          have HLn : Hid (ArU (wr.setCell ⟨M, i, none⟩ (.slice (some ⟨g, 0, none⟩) 5 c)) L n U) := hide (HL.out.other HLM.out i _)
          have HMn : Hid (ArU (wr.setCell ⟨M, i, none⟩ (.slice (some ⟨g, 0, none⟩) 5 c)) M n (lgA U (i + 1))) := hide (by
            have := HM.out.set i (U i)
            rw [lgA_step] at this
            rw [← HEU.out]
            exact this)
          have HBn : Hid (Below base w (wr.setCell ⟨M, i, none⟩ (.slice (some ⟨g, 0, none⟩) 5 c))) := hide (below_set HB.out M i _ Hbs.out (Nat.le_trans Hbs.out (by obtain ⟨_, h1, _⟩ := HM.out; exact Nat.le_of_lt h1.lt)))
          have hk2 : ¬ (k : Int) < 5 := by omega
          clear HU HL HM HB hl5 hke eL
          go_wp2_with fail
          go_roundw
          case rel => exact ⟨i + 1, by simp, by omega, HUn, HLn, HMn, HBn⟩
          case measure => simp [intOf]; omega
    · have hie : i = n := by omega
      have HU2 : Hid (ApU wr base n U (FB F n 0)) := hide (by have h1 := HU.out; rw [hie] at h1; exact h1)
      have HM2 : Hid (ArU wr M n U) := hide (by
        obtain ⟨cs, h1, h2, h3⟩ := HM.out
        refine ⟨cs, h1, h2, fun k hk => ?_⟩
        rw [h3 k hk]
        unfold lgA
        rw [if_pos (by omega)])
      clear HU HM
      have hie2 : ¬ i < n := hin
      have HUB : Hid (UBk wr n U) := hide (fun j hj => by
        obtain ⟨g, c, cur, e, _, hB, _⟩ := HU2.out.at hj
        rw [FB_len (i := n) (k := 0) H5.out (by omega) j hj] at e
        exact ⟨cur, g, c, e, hB⟩)
      have HBS : Hid (BSt wr base n U U 0 0) := hide (by
        have hF : ∀ j, j < n → FB F n 0 j = rw5 j := fun j hj => by
          unfold FB
          rw [if_pos hj]
          have := rwA_all j (F j)
          rw [H5.out j hj] at this
          exact this
        refine ⟨HU2.out.congr (fun j hj => ?_), fun j l hj hl h => HU2.out.two j l hj hl h, fun j hj => ?_⟩
        · rw [hF j hj]
          unfold GB
          rw [if_neg (by omega)]
          split
          · show rw5 j = rw5 j ++ rwB j 0
            rw [show rwB j 0 = [] from rfl, List.append_nil]
          · rw [List.append_nil]
        · obtain ⟨g, c, cur, e, _, hB, _⟩ := HU2.out.at hj
          rw [FB_len (i := n) (k := 0) H5.out (by omega) j hj] at e
          refine ⟨g, c, e, hB.lt, fun q hq => ?_⟩
          have hr := HU2.out.row j hj
          rw [e] at hr
          have h1 := irow_cellG hr q (by rw [FB_len (i := n) (k := 0) H5.out (by omega) j hj]; exact hq)
          rw [h1, hF j hj]
          rw [rw5_get j q hq])
      clear HU2
      go_upto_region 11 with fail
      have hi16 : ∀ i : Nat, i < n → (i : Int) ≤ 131070 := fun i h => by omega
      have Hi16 := hide hi16
      clear hi16 hie hie2
      obtain ⟨b1, hb1⟩ : ∃ b1, b1 = base := ⟨_, rfl⟩
      go_loopw [6] (fun v6 wx => ∃ (i : Nat) (V : Nat → Value), v6 = .int .i64 (i : Int) ∧ i ≤ n ∧ Hid (BSt wx base n U V i 0) ∧ Hid (ArU wx L n U) ∧ Hid (ArU wx M n V) ∧ Hid (UBk wx n U) ∧ Hid (Below base w wx)) (fun v6 _ => n - (intOf v6).toNat)
      case atStart => exact ⟨0, U, rfl, by omega, HBS, HL, HM2, HUB, HB⟩
      case round =>
        clear HBS HL HM2 HUB HB
        obtain ⟨i, V, rfl, hi, HBS, HL, HM, HUB, HB⟩ := hrel
        by_cases hin : i < n
        · have hi2 := Hi16.out i hin
          have hin2 : (i : Int) < n := by omega
          go_upto_region 14 with fail
          go_loopw [7] (fun v7 wx => ∃ (k : Nat) (V : Nat → Value), v7 = .int .i64 (k : Int) ∧ k ≤ 16 ∧ Hid (BSt wx base n U V i k) ∧ Hid (ArU wx L n U) ∧ Hid (ArU wx M n V) ∧ Hid (UBk wx n U) ∧ Hid (Below base w wx)) (fun v7 _ => 16 - (intOf v7).toNat)
          case atStart => exact ⟨0, V, rfl, by omega, HBS, HL, HM, HUB, HB⟩
          case round =>
            clear HBS HL HM HUB HB
            obtain ⟨k, V, rfl, hk, HBS, HL, HM, HUB, HB⟩ := hrel
            by_cases hk16 : k < 16
            · have hk2 : (k : Int) < 16 := by omega
              obtain ⟨gv, cv, _, eV, hbg, _, hcv, hcvm⟩ := HBS.out.v.at hin
              rw [GB_len2] at eV hcv
              have HEV := hide eV
              have dV := HM.out.cell hin
              rw [eV] at dV
              have HrA : Hid (IRow (wr.alloc (.cells #[.int .i64 (mkB i k)] 3)) base (.slice (some ⟨gv, 0, none⟩) (5 + k) cv) (GB i k i)) := hide (by rw [← eV]; exact (HBS.out.v.row i hin).alloc _)
              have HO : Hid ((wr.alloc (.cells #[.int .i64 (mkB i k)] 3)).ownsRow base 3 1 (.slice (some ⟨gv, 0, none⟩) (5 + k) cv) (5 + k) ((GB i k i).map (Value.int .i64))) := hide (by have h1 := HrA.out; unfold IRow at h1; rw [GB_len2] at h1; exact h1)
              have HN : Hid (∀ j u, [Value.int .i64 (mkB i k)][j]? = some u → (wr.alloc (.cells #[.int .i64 (mkB i k)] 3)).cell? ((⟨wr.heap.size, 0, none⟩ : Addr).add j) = some u) := hide (new_cell1 wr _ rfl (.int .i64 (mkB i k)) 3)
              have HA := hide (HBS.out.after (below_alloc wr (.cells #[.int .i64 (mkB i k)] 3)))
              have HLa := hide (HL.out.after (below_alloc wr (.cells #[.int .i64 (mkB i k)] 3)))
              have HMa := hide (HM.out.after (below_alloc wr (.cells #[.int .i64 (mkB i k)] 3)))
              have HUa := hide (HUB.out.after (below_alloc wr (.cells #[.int .i64 (mkB i k)] 3)))
              have hbw : base ≤ wr.heap.size := Nat.le_trans Hbs.out (by obtain ⟨_, h1, _⟩ := HM.out; exact Nat.le_of_lt h1.lt)
              have HBa := hide (HB.out.alloc hbw (.cells #[.int .i64 (mkB i k)] 3))
              obtain ⟨i0, hi0, hz0, hz1, hz2⟩ := info_parts info_int
              clear HBS HL HM HUB HB eV
              have hmk : -(i : Int) * 1000003 - (k : Int) - 1 = mkB i k := rfl
              have hgood : -9223372036854775808 ≤ mkB i k ∧ mkB i k ≤ 9223372036854775807 := by unfold mkB; omega
              generalize hx : mkB i k = x at *
              have HX := hide hx
              clear hx
              go_wp2_with (at_builtin; refine wpList_append_two rfl (.tmp 61) (.tmp 68) 36 rfl base 3 i0 _ 1 8 Try.underlying36 hi0 hz0 hz1 hz2 rfl (by decide) _ _ _ rfl HO.out ⟨wr.heap.size, 0, none⟩ 1 1 [.int .i64 x] rfl rfl ?c1 ?c2 ?c3 ?c4 ?c5 ?_)
              case c1 => exact HN.out
              case c2 => simp [Value.oneCell']
              case c3 => unfold maxLen; omega
              case c4 => omega
              case c5 => rw [size_alloc]; omega
              intro v' w5 hown5 hgrow5 hcase5
              have hR : IRow w5 base v' (GB i (k + 1) i) := by
                unfold IRow
                rw [GB_step, List.length_append, GB_len2, List.map_append, HX.out]
                exact hown5
              have HBS5 := hide (HA.out.step hin hR (by rw [HEV.out]; exact hgrow5) (by
                rw [HEV.out]
                rcases hcase5 with h1 | ⟨h1, h2⟩
                · exact .inl h1
                · exact .inr ⟨h1, fun q hq => by rw [size_alloc]; exact h2 q hq⟩))
              have HL5 := hide (HLa.out.grown HrA.out hgrow5)
              have HM5 := hide (HMa.out.grown HrA.out hgrow5)
              have HU5 := hide (HUa.out.grown HrA.out hgrow5 hR (by rcases hcase5 with ⟨h1, _⟩ | ⟨h1, _⟩; exact .inl h1; exact .inr h1))
              have HB5 := hide (HBa.out.grown hgrow5 (by rw [size_alloc]; omega) (fun j e => (HO.out.lt j e).1))
              obtain ⟨a5, c5, hv5⟩ : ∃ a5 c5, v' = .slice a5 (5 + k + 1) c5 := by
                rcases hown5.2 with ⟨_, e2⟩ | ⟨g5, cp, cur, e1, _⟩
                · cases e2
                · exact ⟨some ⟨g5, 0, none⟩, cp, e1⟩
              subst hv5
              have dM := HM5.out.cell hin
              rw [HEV.out] at dM
              have fM := HM5.out.frozen i
              have HBS6 := hide (HBS5.out.other HM5.out i (.slice a5 (5 + k + 1) c5) HU5.out)
              have HL6 := hide (HL5.out.other HLM.out i (.slice a5 (5 + k + 1) c5))
              have HM6 := hide (HM5.out.set i (.slice a5 (5 + k + 1) c5))
              have HU6 : Hid (UBk (w5.setCell ⟨M, i, none⟩ (.slice a5 (5 + k + 1) c5)) n U) := hide HU5.out.set
              have HB6 := hide (below_set HB5.out M i (.slice a5 (5 + k + 1) c5) Hbs.out (Nat.le_trans Hbs.out (by obtain ⟨_, h1, _⟩ := HM5.out; exact Nat.le_of_lt h1.lt)))
              clear hown5 hgrow5 hcase5 hR HBS5 HL5 HM5 HU5 HB5 HA HLa HMa HUa HBa HO HN HrA hi0 hz0 hz1 hz2 dV
              go_wp2_with fail
              go_roundw
              case rel => exact ⟨k + 1, _, by simp, by omega, HBS6, HL6, HM6, HU6, HB6⟩
              case measure => simp [intOf]; omega
            · have hke : k = 16 := by omega
              have hk2 : ¬ (k : Int) < 16 := by omega
              have HBS2 : Hid (BSt wr base n U V (i + 1) 0) := hide (by
                have h1 := HBS.out
                rw [hke] at h1
                exact ⟨by rw [← GB_next]; exact h1.v, h1.sep, h1.ls⟩)
              clear HBS hke
              go_wp2_with fail
              go_roundw
              case rel => exact ⟨i + 1, V, by simp, by omega, HBS2, HL, HM, HUB, HB⟩
              case measure => simp [intOf]; omega
        · have HBS2 : Hid (BSt wr base n U V n 0) := hide (by
            have h1 := HBS.out
            rw [show i = n by omega] at h1
            exact h1)
          have hin3 : ¬ (i : Int) < n := by omega
          clear HBS HUB
          go_upto_region 18 with fail
          go_loopw [8] (fun v8 wx => ∃ i : Nat, v8 = .int .i64 (i : Int) ∧ i ≤ n ∧ Hid (BSt wx base n U V n 0) ∧ Hid (ArU wx L n U) ∧ Hid (ArU wx M n V) ∧ Hid (Below base w wx)) (fun v8 _ => n - (intOf v8).toNat)
          case atStart => exact ⟨0, rfl, by omega, HBS2, HL, HM, HB⟩
          case round =>
            clear HBS2 HL HM HB
            obtain ⟨i, rfl, hi, HBS, HL, HM, HB⟩ := hrel
            by_cases hin : i < n
            · have hi2 := Hi16.out i hin
              have hin2 : (i : Int) < n := by omega
              go_upto_region 21 with fail
              go_loopw [9] (fun v9 wx => ∃ k : Nat, v9 = .int .i64 (k : Int) ∧ k ≤ 5 ∧ Hid (BSt wx base n U V n 0) ∧ Hid (ArU wx L n U) ∧ Hid (ArU wx M n V) ∧ Hid (Below base w wx)) (fun v9 _ => 5 - (intOf v9).toNat)
              case atStart => exact ⟨0, rfl, by omega, HBS, HL, HM, HB⟩
              case round =>
                clear HBS HL HM HB
                obtain ⟨k, rfl, hk, HBS, HL, HM, HB⟩ := hrel
                obtain ⟨gu, cu, eU, hgu, hcu⟩ := HBS.out.ls i hin
                have dL := HL.out.cell hin
                rw [eU] at dL
                by_cases hk5 : k < 5
                · obtain ⟨gv, cv, _, eV, hbg, _, hcv, hcvm⟩ := HBS.out.v.at hin
                  rw [GB_len3 hin] at eV hcv
                  have dM := HM.out.cell hin
                  rw [eV] at dM
                  have hr := HBS.out.v.row i hin
                  rw [eV] at hr
                  have c1 := hcu k hk5
                  have c2 := irow_cellG hr k (by rw [GB_len3 hin]; omega)
                  rw [GB_mark _ _ _ _ hk5] at c2
                  obtain ⟨x, hx, hxm⟩ : ∃ x, (i : Int) * 1000003 + (k : Int) = x ∧ mkA i k = x := ⟨_, rfl, rfl⟩
                  rw [hxm] at c1 c2
                  have hne : (x != x) = false := by simp
                  have hk2 : (k : Int) < 5 := by omega
                  clear hr hxm hcu eU eV
                  go_wp2_with fail
                  go_roundw
                  case rel => exact ⟨k + 1, by simp, by omega, HBS, HL, HM, HB⟩
                  case measure => simp [intOf]; omega
                · have hk2 : ¬ (k : Int) < 5 := by omega
                  clear hcu
                  go_upto_region 26 with fail
                  clear dL
                  go_loopw [10] (fun v10 wx => ∃ q : Nat, v10 = .int .i64 (q : Int) ∧ q ≤ 16 ∧ Hid (BSt wx base n U V n 0) ∧ Hid (ArU wx L n U) ∧ Hid (ArU wx M n V) ∧ Hid (Below base w wx)) (fun v10 _ => 16 - (intOf v10).toNat)
                  case atStart => exact ⟨0, rfl, by omega, HBS, HL, HM, HB⟩
                  case round =>
                    clear HBS HL HM HB
                    obtain ⟨q, rfl, hq, HBS, HL, HM, HB⟩ := hrel
                    by_cases hq16 : q < 16
                    · have dL := HL.out.cell hin
                      rw [eU] at dL
                      obtain ⟨gv, cv, _, eV, hbg, _, hcv, hcvm⟩ := HBS.out.v.at hin
                      rw [GB_len3 hin] at eV hcv
                      have dM := HM.out.cell hin
                      rw [eV] at dM
                      have hr := HBS.out.v.row i hin
                      rw [eV] at hr
                      have c2 := irow_cellG hr (5 + q) (by rw [GB_len3 hin]; omega)
                      rw [GB_tail hin hq16] at c2
                      obtain ⟨x, hx, hxm⟩ : ∃ x, -(i : Int) * 1000003 - (q : Int) - 1 = x ∧ mkB i q = x := ⟨_, rfl, rfl⟩
                      rw [hxm] at c2
                      obtain ⟨p, hp⟩ : ∃ p : Nat, 5 + q = p := ⟨_, rfl⟩
                      have hp2 : (5 : Int) + (q : Int) = (p : Int) := by omega
                      rw [hp] at c2
                      have hp21 : (p : Int) < 21 := by omega
                      have hne : (x != x) = false := by simp
                      have hq2 : (q : Int) < 16 := by omega
                      have HA : Hid (∀ z, BSt (wr.drewN z) base n U V n 0 ∧ ArU (wr.drewN z) L n U ∧ ArU (wr.drewN z) M n V ∧ Below base w (wr.drewN z)) := hide (fun z => ⟨HBS.out.after (below_drewN (Below.refl _ _) z), HL.out.after (below_drewN (Below.refl _ _) z), HM.out.after (below_drewN (Below.refl _ _) z), below_drewN HB.out z⟩)
                      clear hr hxm hp eV HBS HL HM HB
                      go_upto_region 28 with fail
                      go_quiet (fail)
                      go_wp2_with fail
                      go_roundw
                      case rel => exact ⟨q + 1, by simp, by omega, hide (HA.out nq).1, hide (HA.out nq).2.1, hide (HA.out nq).2.2.1, hide (HA.out nq).2.2.2⟩
                      case measure => simp [intOf]; omega
                    · have hq2 : ¬ (q : Int) < 16 := by omega
                      go_wp2_with fail
                      go_roundw
                      case rel => exact ⟨i + 1, by simp, by omega, HBS, HL, HM, HB⟩
                      case measure => simp [intOf]; omega
            · have hin2 : ¬ (i : Int) < n := by omega
              clear HBS HL HM
              go_wp2_with fail
              go_ret
              exact ⟨rfl, HB.out⟩
end Go.Proofs.Ytimkfipiebppiaa
/- Apart of no row; two lists of rows, one behind the other, share no memory. -/
namespace Go.Proofs.Ytimkfipiebppiaa
open Go.RowKit Go.Great

set_option maxRecDepth 100000 in
theorem apartN_nil (w : World) : Calls Try.prog 34 #[.slice none 0 0] w fun e w' => e = .returned (.bool true) ∧ Below w.heap.size w w' := by
  have MK : (Instr.makeSlice 27 (.int .i64 0) (.int .i64 0)).run Try.prog w = .ok (.slice (some ⟨w.heap.size, 0, none⟩) 0 0) (w.alloc (.cells (madeCells #[.slice none 0 0] 0) 36)) := make_rows 0 (by omega) w
  have HB : Hid (Below w.heap.size w (w.alloc (.cells (madeCells #[.slice none 0 0] 0) 36))) := hide ((Below.refl _ w).alloc (Nat.le_refl _) _)
  go_enter Try.func34, Try.ntmps34
  go_upto_region 2 with fail
  generalize w.alloc (.cells (madeCells #[.slice none 0 0] 0) 36) = w1 at *
  clear MK
  go_wp2_with fail
  go_loopw [4] (fun v4 wr => v4 = .int .i64 0 ∧ Hid (Below w.heap.size w wr)) (fun _ _ => 0)
  case atStart => exact ⟨rfl, HB⟩
  case round =>
    clear HB
    obtain ⟨rfl, HB⟩ := hrel
    go_upto_region 11 with fail
    go_loopw [6] (fun v6 wx => v6 = .int .i64 0 ∧ Hid (Below w.heap.size w wx)) (fun _ _ => 0)
    case atStart => exact ⟨rfl, HB⟩
    case round =>
      clear HB
      obtain ⟨rfl, HB⟩ := hrel
      go_upto_region 18 with fail
      go_loopw [8] (fun v8 wx => v8 = .int .i64 0 ∧ Hid (Below w.heap.size w wx)) (fun _ _ => 0)
      case atStart => exact ⟨rfl, HB⟩
      case round =>
        clear HB
        obtain ⟨rfl, HB⟩ := hrel
        go_wp2_with fail
        go_ret
        exact ⟨rfl, HB.out⟩
/-- two lists of rows, the first one's blocks below n, the second one's from n on -/
theorem Urs.pair {w : World} {base n : Nat} {us us' : List Value} {L L' : List (List Int)} (h : Urs w base us L) (h' : Urs w n us' L') (hn : base ≤ n) (hlt : ∀ (i : Nat) (x : Value), us[i]? = some x → ∀ k, x.ownBlock = some k → k < n) (h5 : ∀ x ∈ L, x.length = 5) (h5' : ∀ x ∈ L', x.length = 5) : ApU w base (us.length + us'.length) (fun i => (us ++ us').getD i (.slice none 0 0)) (fun i => (L ++ L').getD i []) := by
  have hl := h.len
  have hl' := h'.len
  have low : ∀ (u : Value) (r : List Int), IRow w n u r → IRow w base u r := fun u r hr => by
    rcases hr.2 with ⟨e, e2⟩ | ⟨g, cap, cur, e, hb, hh⟩
    · exact ⟨hr.1, .inl ⟨e, e2⟩⟩
    · exact ⟨hr.1, .inr ⟨g, cap, cur, e, Nat.le_trans hn hb, hh⟩⟩
  have blk : ∀ (b : Nat) (u : Value) (r : List Int), r.length = 5 → IRow w b u r → ∃ k, u.ownBlock = some k ∧ b ≤ k := fun b u r e5 hr => by
    rcases hr.2 with ⟨_, e2⟩ | ⟨g, cap, cur, e, hb, hh⟩
    · rw [e5] at e2; cases e2
    · exact ⟨g, by rw [e]; rfl, hb⟩
  have atL : ∀ i, i < us.length → (us ++ us').getD i (.slice none 0 0) = us.getD i (.slice none 0 0) ∧ (L ++ L').getD i [] = L.getD i [] ∧ us[i]? = some (us.getD i (.slice none 0 0)) ∧ (L.getD i []).length = 5 := fun i hi => by
    have h2 : i < L.length := by omega
    refine ⟨by simp [List.getD, List.getElem?_append_left hi], by simp [List.getD, List.getElem?_append_left h2], by simp [List.getD, List.getElem?_eq_getElem hi], ?_⟩
    rw [List.getD, List.getElem?_eq_getElem h2]
    exact h5 _ (List.getElem_mem h2)
  have atR : ∀ i, us.length ≤ i → i < us.length + us'.length → (us ++ us').getD i (.slice none 0 0) = us'.getD (i - us.length) (.slice none 0 0) ∧ (L ++ L').getD i [] = L'.getD (i - us.length) [] ∧ us'[i - us.length]? = some (us'.getD (i - us.length) (.slice none 0 0)) ∧ (L'.getD (i - us.length) []).length = 5 := fun i hi hi2 => by
    have h1 : i - us.length < us'.length := by omega
    have h2 : i - us.length < L'.length := by omega
    refine ⟨by simp [List.getD, List.getElem?_append_right hi], by simp [List.getD, List.getElem?_append_right (show L.length ≤ i by omega), hl], by simp [List.getD, List.getElem?_eq_getElem h1], ?_⟩
    rw [List.getD, List.getElem?_eq_getElem h2]
    exact h5' _ (List.getElem_mem h2)
  refine ⟨fun i hi => ?_, fun i hi => ?_, fun i j hi hj hne => ?_⟩
  · by_cases c : i < us.length
    · obtain ⟨e1, e2, e3, _⟩ := atL i c
      show IRow w base ((us ++ us').getD i _) ((L ++ L').getD i [])
      rw [e1, e2]; exact h.row i _ e3
    · obtain ⟨e1, e2, e3, _⟩ := atR i (by omega) hi
      show IRow w base ((us ++ us').getD i _) ((L ++ L').getD i [])
      rw [e1, e2]; exact low _ _ (h'.row _ _ e3)
  · show 0 < ((L ++ L').getD i []).length
    by_cases c : i < us.length
    · obtain ⟨_, e2, _, e4⟩ := atL i c
      rw [e2]; omega
    · obtain ⟨_, e2, _, e4⟩ := atR i (by omega) hi
      rw [e2]; omega
  · show ((us ++ us').getD i _).ownBlock ≠ ((us ++ us').getD j _).ownBlock
    by_cases c : i < us.length
    · obtain ⟨e1, _, e3, e4⟩ := atL i c
      by_cases d : j < us.length
      · obtain ⟨f1, _, f3, _⟩ := atL j d
        rw [e1, f1]; exact h.two i j _ _ e3 f3 hne
      · obtain ⟨f1, _, f3, f4⟩ := atR j (by omega) hj
        rw [e1, f1]
        obtain ⟨k, ek, _⟩ := blk _ _ _ e4 (h.row i _ e3)
        obtain ⟨q, eq, hq⟩ := blk _ _ _ f4 (h'.row _ _ f3)
        have := hlt i _ e3 k ek
        rw [ek, eq]; intro x; injection x; omega
    · obtain ⟨e1, _, e3, e4⟩ := atR i (by omega) hi
      by_cases d : j < us.length
      · obtain ⟨f1, _, f3, f4⟩ := atL j d
        rw [e1, f1]
        obtain ⟨k, ek, _⟩ := blk _ _ _ f4 (h.row j _ f3)
        obtain ⟨q, eq, hq⟩ := blk _ _ _ e4 (h'.row _ _ e3)
        have := hlt j _ f3 k ek
        rw [ek, eq]; intro x; injection x; omega
      · obtain ⟨f1, _, f3, _⟩ := atR j (by omega) hj
        rw [e1, f1]; exact h'.two _ _ _ _ e3 f3 (by omega)
end Go.Proofs.Ytimkfipiebppiaa
/- The law's 'ready': what the program hands out is the document's, twice, and shares no memory. -/
namespace Go.Proofs.Ytimkfipiebppiaa
open Go.RowKit Go.Great

theorem readyD_no (w : World) (D : Nat) (wh ms : Int) (l : Ls) (ks : List Nat) (h : Dsk w D wh ms l ks) (hy : rdB l = false) : Calls Try.prog 20 #[dP D] w fun e w' => e = .returned (.tuple #[.slice none 0 0, .bool false]) ∧ Below w.heap.size w w' := by
  obtain ⟨p, hB, hC, h3⟩ := h
  obtain ⟨q, rfl⟩ := chn_ptr hC
  have LR := hide (listready_any l.cn l.hd l.he l.ag (.pointer q) w)
  have HT : Hid ((decide (0 < l.cn) && (l.hd == l.cn)) = rdB l) := hide rfl
  rw [HT.out, hy] at LR
  have c2 : w.cell? ⟨D, 2, none⟩ = some (.int .i64 l.cn) := hB.cell 2 rfl
  have c3 : w.cell? ⟨D, 3, none⟩ = some (.int .i64 l.hd) := hB.cell 3 rfl
  have c4 : w.cell? ⟨D, 4, none⟩ = some (.pointer q) := hB.cell 4 rfl
  have c5 : w.cell? ⟨D, 5, none⟩ = some (.int .i64 l.he) := hB.cell 5 rfl
  have c6 : w.cell? ⟨D, 6, none⟩ = some (.int .i64 l.ag) := hB.cell 6 rfl
  clear hB hC h3 HT hy
  go_enter Try.func20, Try.ntmps20
  go_wp2_with fail
  refine LR.out.mono ?_
  rintro e w1 ⟨rfl, hb⟩
  have Hb := hide hb
  clear hb
  go_wp2_with fail
  go_ret2
  exact ⟨rfl, Hb.out⟩
theorem lsts_nil (w : World) : Lsts w (.slice none 0 0) [] := ⟨none, 0, rfl, fun h => absurd h (by simp)⟩
set_option maxHeartbeats 2000000 in
theorem lready_no (w : World) (b D X : Nat) (wh ms : Int) (l : Ls) (ks : List Nat) (v : Value) (us : List Value) (hd : Dsk w D wh ms l ks) (hr : RDv w b X wh ms l v us) (hy : rdB l = false) : Calls Try.prog 12 #[dP D, dP X] w fun e w' => e = .returned (.bool true) ∧ Below w.heap.size w w' := by
  obtain ⟨i0, hi, hz0, hz1, hz2⟩ := info_parts info_sl
  have RA := hide (fun W (hb : Below w.heap.size w W) => readyD_no W D wh ms l ks (hd.after hb) hy)
  have RX := hide (fun W (hb : Below w.heap.size w W) => readyR_any W b X wh ms l v us (hr.after hb))
  rw [hy] at RX
  simp only [Bool.false_eq_true, if_false] at RX
  have SL := hide (fun W => sameLists_true [] (.slice none 0 0) (.slice none 0 0) W (lsts_nil W) (lsts_nil W) (by simp) (fun i h => by cases h))
  clear hd hr hy
  go_enter Try.func12, Try.ntmps12
  go_wp2_with fail
  refine (RA.out _ (Below.refl _ _)).mono ?_
  rintro e w1 ⟨rfl, hb⟩
  have H1 := hide hb
  clear hb
  go_wp2_with fail
  refine (RA.out _ H1.out).mono ?_
  rintro e w2 ⟨rfl, hb⟩
  have H2 := hide (below_next H1.out (Nat.le_refl _) hb)
  clear hb H1
  go_wp2_with fail
  refine (RX.out _ H2.out).mono ?_
  rintro e w3 ⟨rfl, hw⟩
  subst hw
  go_wp2_with fail
  refine (SL.out _).mono ?_
  rintro e w4 ⟨rfl, hb⟩
  have H4 := hide (below_next H2.out (Nat.le_refl _) hb)
  clear hb H2
  go_wp2_with fail
  refine (SL.out _).mono ?_
  rintro e w5 ⟨rfl, hb⟩
  have H5 := hide (below_next H4.out (Nat.le_refl _) hb)
  clear hb H4
  go_wp2_with (at_builtin; first | refine wpList_append_own_none rfl (.tmp 47) (.tmp 48) 27 rfl 0 36 i0 1 Try.underlying27 hi _ 0 [] rfl (World.ownsRow_nil _ _ _ _) rfl ?_ | refine wpList_append_own_none rfl (.tmp 50) (.tmp 51) 27 rfl 0 36 i0 1 Try.underlying27 hi _ 0 [] rfl (World.ownsRow_nil _ _ _ _) rfl ?_)
  clear hi hz0 hz1 hz2
  go_wp2_with fail
  refine (apartN_nil _).mono ?_
  rintro e w6 ⟨rfl, hb⟩
  have H6 := hide (below_next H5.out (Nat.le_refl _) hb)
  clear hb H5
  go_wp2_with fail
  go_ret
  exact ⟨rfl, H6.out⟩
/-- the cells of a row of slices -/
theorem rows_at {w : World} {b g n c : Nat} {us : List Value} (h : w.ownsRow b 36 1 (.slice (some ⟨g, 0, none⟩) n c) us.length us) : ∀ j u, us[j]? = some u → w.cell? ((⟨g, 0, none⟩ : Addr).add j) = some u := fun j u hu => by
  have hj : j < us.length := (List.getElem?_eq_some_iff.1 hu).1
  have e : n = us.length := by
    rcases h.2 with ⟨q, _⟩ | ⟨_, _, _, q, _⟩
    · cases q
    · injection q
  subst e
  have := World.ownsRow.cellAt h j (by omega)
  have e2 : (⟨g, 0, none⟩ : Addr).add j = ⟨g, j, none⟩ := by simp [Addr.add]; omega
  rw [e2, this, hu]
theorem rows_ar {w : World} {b g n c : Nat} {us : List Value} (h : w.ownsRow b 36 1 (.slice (some ⟨g, 0, none⟩) n c) us.length us) : ArU w g us.length (fun i => us.getD i (.slice none 0 0)) ∧ n = us.length ∧ us.length ≤ c ∧ c ≤ 9223372036854775807 ∧ b ≤ g := by
  rcases h.2 with ⟨q, _⟩ | ⟨g', cap, cur, q, hb, hh, h1, h2, h3, h4⟩
  · cases q
  · injection q with e1 e2 e3
    injection e1 with e1
    injection e1 with e1
    subst e1 e3
    refine ⟨⟨cur, hh, by omega, fun k hk => ?_⟩, e2, h1, h2, hb⟩
    have e5 : (cur.toList.take us.length)[k]? = us[k]? := by rw [Nat.mul_one] at h4; rw [h4]
    rw [List.getElem?_take_of_lt hk] at e5
    show cur[k]? = some (us.getD k (.slice none 0 0))
    rw [← Array.getElem?_toList, e5, List.getD, List.getElem?_eq_getElem hk]
    rfl
end Go.Proofs.Ytimkfipiebppiaa
/- The law's 'ready', where all is there; and in one. -/
namespace Go.Proofs.Ytimkfipiebppiaa
open Go.RowKit Go.Great

theorem pair_len {L : List (List Int)} (i : Nat) (hi : i < L.length + L.length) (h : ∀ x ∈ L, x.length = 5) : ((L ++ L).getD i []).length = 5 := by
  have h2 : i < (L ++ L).length := by rw [List.length_append]; omega
  rw [List.getD, List.getElem?_eq_getElem h2]
  have := List.getElem_mem h2
  rcases List.mem_append.1 this with q | q
  · exact h _ q
  · exact h _ q
theorem sl_one {w : World} {base : Nat} {us : List Value} {L : List (List Int)} (h : Urs w base us L) : ∀ u ∈ us, u.oneCell' = true := fun u hu => by
  obtain ⟨a, m, c, rfl⟩ := h.slices u hu
  simp [Value.oneCell']
theorem RDv.lsts {w : World} {b X : Nat} {wh ms : Int} {l : Ls} {v : Value} {us : List Value} (h : RDv w b X wh ms l v us) : Lsts w v l.rw := OwnL.lsts (base := b) ⟨us, h.o, h.u⟩
/-- where a list of rows lies that has some -/
theorem OwnL.where {w : World} {base : Nat} {v : Value} {L : List (List Int)} {n : Nat} (h : OwnL w base v L) (hn : L.length = n) (h0 : 0 < n) : ∃ (us : List Value) (g c : Nat), v = .slice (some ⟨g, 0, none⟩) n c ∧ us.length = n ∧ w.ownsRow base 36 1 v us.length us ∧ Urs w base us L := by
  obtain ⟨us, h1, h2⟩ := h
  have hl := h2.len
  rcases h1.2 with ⟨_, e⟩ | ⟨g, cap, cur, e, _⟩
  · omega
  · exact ⟨us, g, cap, by rw [e]; congr 1; omega, by omega, h1, h2⟩
set_option maxHeartbeats 1000000 in
theorem lready_yes (w : World) (b D X : Nat) (wh ms : Int) (l : Ls) (ks : List Nat) (v : Value) (us : List Value) (hd : Dsk w D wh ms l ks) (hr : RDv w b X wh ms l v us) (hl : LOk ms l) (hms : ms ≤ 65535) (hy : rdB l = true) : Calls Try.prog 12 #[dP D, dP X] w fun e w' => e = .returned (.bool true) ∧ Below w.heap.size w w' := by
  have hlen : (l.rw.length : Int) ≤ 65535 := by
    have h1 := hl.h; have h2 := hl.m
    unfold Ls.hd at h1; omega
  have h0 : 0 < l.rw.length := by
    unfold rdB Ls.hd at hy
    simp at hy
    omega
  have h5 := hl.r
  have eL : rdL l = l.rw := by unfold rdL; rw [if_pos hy]
  obtain ⟨i0, hi, hz0, hz1, hz2⟩ := info_parts info_sl
  have RA := hide (fun W (hb : Below w.heap.size w W) => ready_is W D wh ms l ks (hd.after hb) hl hms hy eL)
  have RX := hide (fun W (hb : Below w.heap.size w W) => readyR_any W b X wh ms l v us (hr.after hb))
  rw [hy] at RX
  simp only [if_true] at RX
  have LX := hide hr.lsts
  obtain ⟨xa, xc, rfl⟩ := hr.shape
  have SL := hide (fun W v u hv hu => sameLists_true l.rw v u W hv hu (by omega) (fun i h => by
    have : (l.rw.getD i []).length = 5 := by rw [List.getD, List.getElem?_eq_getElem h]; exact h5 _ (List.getElem_mem h)
    omega))
  have H5 := hide h5
  clear hd hr hl hms hy eL h5
  generalize l.rw = R at *
  obtain ⟨n, hn⟩ : ∃ n, Hid (R.length = n) := ⟨_, hide rfl⟩
  rw [hn.out] at RX h0 hlen LX
  go_enter Try.func12, Try.ntmps12
  go_wp2_with fail
  refine (RA.out _ (Below.refl _ _)).mono ?_
  rintro e w1 ⟨va, rfl, oa, hb⟩
  have H1 := hide hb
  have HLa := hide oa.lsts
  obtain ⟨usa, ga, ac, rfl, hla, oa, ua⟩ := oa.where hn.out h0
  have Hlt : Hid (∀ (i : Nat) (x : Value), usa[i]? = some x → ∀ k, x.ownBlock = some k → k < w1.heap.size) := hide (fun i x hx k hk => (World.ownsRow.lt (ua.row i x hx) k hk).2)
  have OA := hide oa
  have UA := hide ua
  clear hb oa ua
  go_wp2_with fail
  refine (RA.out _ H1.out).mono ?_
  rintro e w2 ⟨vb, rfl, ob, hb⟩
  have H2 := hide (below_next H1.out (Nat.le_refl _) hb)
  have HLa2 := hide (HLa.out.below hb)
  have OA2 := hide (owns_below OA.out hb)
  have UA2 := hide (UA.out.below hb)
  have HLb := hide ob.lsts
  have HS := hide H1.out.size
  have HS2 := hide hb.size
  obtain ⟨usb, gb, bc, rfl, hlb, ob, ub⟩ := ob.where hn.out h0
  have OB := hide ob
  have UB := hide ub
  clear hb ob ub H1 HLa OA UA
  obtain ⟨m, hm⟩ : ∃ m, w1.heap.size = m := ⟨_, rfl⟩
  rw [hm] at Hlt HS HS2 OB UB
  clear hm
  go_wp2_with fail
  refine (RX.out _ H2.out).mono ?_
  rintro e w3 ⟨rfl, hw⟩
  subst hw
  have HX := hide (LX.out.below H2.out)
  clear RA RX LX
  go_wp2_with fail
  refine (SL.out _ _ _ HLa2.out HX.out).mono ?_
  rintro e w4 ⟨rfl, hb⟩
  have H4 := hide (below_next H2.out (Nat.le_refl _) hb)
  have OA4 := hide (owns_below OA2.out hb)
  have UA4 := hide (UA2.out.below hb)
  have OB4 := hide (owns_below OB.out hb)
  have UB4 := hide (UB.out.below hb)
  have HLb4 := hide (HLb.out.below hb)
  have HX4 := hide (HX.out.below hb)
  have HS4 := hide (Nat.le_trans HS2.out hb.size)
  clear hb H2 OA2 UA2 OB UB HLa2 HLb HX HS2
  go_wp2_with fail
  refine (SL.out _ _ _ HLb4.out HX4.out).mono ?_
  rintro e w5 ⟨rfl, hb⟩
  have H5w := hide (below_next H4.out (Nat.le_refl _) hb)
  have OA5 := hide (owns_below OA4.out hb)
  have UA5 := hide (UA4.out.below hb)
  have OB5 := hide (owns_below OB4.out hb)
  have UB5 := hide (UB4.out.below hb)
  have HS5 := hide (Nat.le_trans HS4.out hb.size)
  clear hb H4 OA4 UA4 OB4 UB4 HLb4 HX4 HS4 SL
  have na := hide (rows_at OA5.out)
  have oa1 := hide (sl_one UA5.out)
  have HO0 : Hid (w5.ownsRow w.heap.size 36 1 (.slice none 0 0) 0 []) := hide (World.ownsRow_nil _ _ _ _)
  have hsz : w.heap.size ≤ w5.heap.size := H5w.out.size
  go_wp2_with (at_builtin; refine wpList_append_two rfl (.tmp 47) (.tmp 48) 27 rfl w.heap.size 36 i0 _ 1 24 Try.underlying27 hi hz0 hz1 hz2 rfl (by decide) _ 0 [] rfl HO0.out ⟨ga, 0, none⟩ n ac usa rfl (by omega) na.out oa1.out (by unfold maxLen; omega) (by omega) hsz ?_)
  intro v6 w6 o6 g6 k6
  clear k6
  have g6 : w5.grownBy w6 none := g6
  rw [← hla] at o6
  have B6 := hide (H5w.out.grown g6 hsz (fun _ e => by cases e))
  have UA6 := hide (UA5.out.grown HO0.out g6)
  have UB6 := hide (UB5.out.grown HO0.out g6)
  have OB6 : Hid (w6.ownsRow m 36 1 (.slice (some ⟨gb, 0, none⟩) n bc) usb.length usb) := hide (World.ownsRow.kept OB5.out g6 (.inr (fun e => by cases e)))
  have nb := hide (rows_at OB6.out)
  have ob1 := hide (sl_one UB6.out)
  have O6 : Hid (w6.ownsRow w.heap.size 36 1 v6 n usa) := hide (by rw [hla] at o6; exact o6)
  obtain ⟨a6, c6, rfl⟩ := rows_shape o6
  rw [hla] at O6 ⊢
  have hsz6 : w.heap.size ≤ w6.heap.size := B6.out.size
  clear o6 g6 HO0 na oa1 hsz H5w OA5 UA5 OB5 UB5 OB6
  go_wp2_with (at_builtin; refine wpList_append_two rfl (.tmp 50) (.tmp 51) 27 rfl w.heap.size 36 i0 _ 1 24 Try.underlying27 hi hz0 hz1 hz2 rfl (by decide) _ n usa rfl O6.out ⟨gb, 0, none⟩ n bc usb rfl (by omega) nb.out ob1.out (by unfold maxLen; omega) (by omega) hsz6 ?_)
  intro v7 w7 o7 g7 k7
  clear k7
  have B7 := hide (B6.out.grown g7 hsz6 (fun k e => (World.ownsRow.lt O6.out k e).1))
  have UA7 := hide (UA6.out.grown O6.out g7)
  have UB7 := hide (UB6.out.grown O6.out g7)
  have PU := hide (UA7.out.pair UB7.out HS.out Hlt.out H5.out H5.out)
  have hl2 : (usa ++ usb).length = n + n := by rw [List.length_append]; omega
  rw [← hl2] at o7
  obtain ⟨g8, c8, rfl⟩ : ∃ g8 c8, v7 = .slice (some ⟨g8, 0, none⟩) (n + n) c8 := by
    rcases o7.2 with ⟨_, e⟩ | ⟨g, cap, cur, e, _⟩
    · omega
    · exact ⟨g, cap, by rw [e, hl2]⟩
  obtain ⟨hL, hne8, hc8, hcm, hbg8⟩ := rows_ar o7
  have hsz7 : w.heap.size ≤ w7.heap.size := B7.out.size
  have AP := hide (apartN_any (n + n) (by omega) w7 w.heap.size g8 c8 _ _ (by have := PU.out; rw [hla, hlb] at this; exact this) (fun i h => pair_len i (by rw [hn.out]; exact h) H5.out) (by rw [hl2] at hL; exact hL) hsz7 (by omega) hcm)
  clear hne8 hbg8 hL hc8 hcm o7 g7 hi hz0 hz1 hz2 PU UA7 UB7 UA6 UB6 O6 nb ob1 B6 Hlt HS H5 hl2 hsz7 hsz6 hla hlb hn h0 hlen HS5
  generalize n + n = N at *
  go_wp2_with fail
  refine AP.out.mono ?_
  rintro e w8 ⟨rfl, hb⟩
  have H8 := hide (B7.out.trans hb)
  clear hb
  go_wp2_with fail
  go_ret
  exact ⟨rfl, H8.out⟩
theorem lready_any (w : World) (b D X : Nat) (wh ms : Int) (l : Ls) (ks : List Nat) (v : Value) (us : List Value) (hd : Dsk w D wh ms l ks) (hr : RDv w b X wh ms l v us) (hl : LOk ms l) (hms : ms ≤ 65535) : Calls Try.prog 12 #[dP D, dP X] w fun e w' => e = .returned (.bool true) ∧ Below w.heap.size w w' := by
  cases hy : rdB l
  · exact lready_no w b D X wh ms l ks v us hd hr hy
  · exact lready_yes w b D X wh ms l ks v us hd hr hl hms hy
end Go.Proofs.Ytimkfipiebppiaa
/- Both desks side by side: what each one's calls, and 'same', leave of the other. -/
namespace Go.Proofs.Ytimkfipiebppiaa
open Go.RowKit Go.Great

theorem own_keep {w w' : World} {b n : Nat} {e : TypeId} {v : Value} {us : List Value} (h : w.ownsRow b e 1 v n us) (hk : ∀ k, v.ownBlock = some k → w'.heap[k]? = w.heap[k]?) : w'.ownsRow b e 1 v n us := by
  rcases h.2 with q | ⟨g, cap, cur, q1, q2, q3, q4⟩
  · exact ⟨h.1, .inl q⟩
  · exact ⟨h.1, .inr ⟨g, cap, cur, q1, q2, (hk g (by rw [q1]; rfl)).trans q3, q4⟩⟩
/-- a call of the program's desk leaves the document's -/
theorem RDv.desk {w w' : World} {b X D : Nat} {wh ms : Int} {l : Ls} {v : Value} {us : List Value} (h : RDv w b X wh ms l v us) (hg : w.grownBy w' (some D)) (hD : D < b) (hX : D ≠ X) : RDv w' b X wh ms l v us :=
  ⟨h.B.grown hg (fun e => hX (by injection e)), owns_desk h.o hg hD, h.u.desk hg hD, h.x, Nat.le_trans h.z hg.size⟩
/-- a call of the document's desk leaves the program's -/
theorem Dsk.kex {w w' : World} {b D X : Nat} {wh ms wh' ms' : Int} {l l' : Ls} {ks : List Nat} {v : Value} {us : List Value} (h : Dsk w D wh ms l ks) (hr : RDv w b X wh' ms' l' v us) (hX : D ≠ X) (hk : KeX w w' X v) : ∃ ks', Dsk w' D wh ms l ks' ∧ ∀ k ∈ ks', k ∈ ks := by
  obtain ⟨p, hB, hC, h3⟩ := h
  have sort : ∀ g cs t, t ≠ 29 → Blk w g cs t → g ≠ X := fun g cs t ht hg e => by
    subst e
    have h1 := hr.B
    unfold Blk at h1 hg
    rw [h1] at hg
    injection hg with hg
    injection hg with _ hg
    exact ht hg.symm
  obtain ⟨ks', hs, hC'⟩ := hC.fit (fun k => v.ownBlock ≠ some k ∧ k ≠ X) (fun e cs he => ⟨blk_apart hr.o he (by decide), sort e cs _ (by decide) he⟩) (fun e cs he => ⟨blk_apart hr.o he (by decide), sort e cs _ (by decide) he⟩)
  have hl := hB.lt
  refine ⟨ks', ⟨p, (hk.2.2.2.2 D hl hX (blk_apart hr.o hB (by decide))).trans hB, hC'.keep hk.2.2.2.1 (fun k hk1 => hk.2.2.2.2 k (h3 k (hs k hk1).1).1 (hs k hk1).2.2 (hs k hk1).2.1) (fun _ h => h), fun k hk1 => ⟨Nat.lt_of_lt_of_le (h3 k (hs k hk1).1).1 hk.2.2.2.1, (h3 k (hs k hk1).1).2⟩⟩, fun k hk1 => (hs k hk1).1⟩
/-- what 'same' writes over is neither desk's -/
theorem Dsk.keb {w w' : World} {D f g : Nat} {wh ms : Int} {l : Ls} {ks : List Nat} (h : Dsk w D wh ms l ks) (hk : KeB w w' f g) (hD : D ≠ f ∧ D ≠ g) (hks : ∀ k ∈ ks, k ≠ f ∧ k ≠ g) : Dsk w' D wh ms l ks := by
  have hl := h.lt
  have h0 := h
  obtain ⟨p, h1, h2, h3⟩ := h
  exact h0.keep hk.2.2.2.1 (hk.2.2.2.2 D hl hD.1 hD.2) (fun k hk1 => hk.2.2.2.2 k (h3 k hk1).1 (hks k hk1).1 (hks k hk1).2)
theorem RDv.keb {w w' : World} {b X f g : Nat} {wh ms : Int} {l : Ls} {v : Value} {us : List Value} {x y k z : Value} (h : RDv w b X wh ms l v us) (h5 : ∀ r ∈ l.rw, r.length = 5) (hf : Blk w f #[x, y] 3) (hg : Blk w g #[k, z] 38) (hk : KeB w w' f g) : RDv w' b X wh ms l v us := by
  have ne : ∀ (i j : Nat) (cs cs' : Array Value) (t t' : TypeId), t ≠ t' → Blk w i cs t → Blk w j cs' t' → i ≠ j := fun i j cs cs' t t' ht hi hj e => by
    subst e
    unfold Blk at hi hj
    rw [hi] at hj
    injection hj with hj
    injection hj with _ hj
    exact ht hj
  have hl := h.B.lt
  refine ⟨(hk.2.2.2.2 X hl (ne _ _ _ _ _ _ (by decide) h.B hf) (ne _ _ _ _ _ _ (by decide) h.B hg)).trans h.B, own_keep h.o (fun q hq => ?_), ⟨h.u.len, fun i u hu => own_keep (h.u.row i u hu) (fun q hq => ?_), h.u.two⟩, h.x, Nat.le_trans h.z hk.2.2.2.1⟩
  · refine hk.2.2.2.2 q (World.ownsRow.lt h.o q hq).2 (fun e => ?_) (fun e => ?_)
    · subst e; exact blk_apart h.o hf (by decide) hq
    · subst e; exact blk_apart h.o hg (by decide) hq
  · refine hk.2.2.2.2 q (World.ownsRow.lt (h.u.row i u hu) q hq).2 (fun e => ?_) (fun e => ?_)
    · subst e
      have hi : i < l.rw.length := by have := h.u.len; have := (List.getElem?_eq_some_iff.1 hu).1; omega
      have e5 : (l.rw.getD i []).length = 5 := by rw [List.getD, List.getElem?_eq_getElem hi]; exact h5 _ (List.getElem_mem hi)
      rcases (h.u.row i u hu).2 with ⟨q1, _⟩ | ⟨g2, cap, cur, q1, _, hh, h1, _, h3, _⟩
      · rw [q1] at hq; cases hq
      · rw [q1] at hq
        have hq : some g2 = some q := hq
        injection hq with hq
        subst hq
        unfold Blk at hf
        rw [hf] at hh
        injection hh with hh
        injection hh with hh _
        subst hh
        have h3 : 2 = cap * 1 := h3
        omega
    · subst e; exact blk_apart (h.u.row i u hu) hg (by decide) hq
end Go.Proofs.Ytimkfipiebppiaa
/- Both desks take the same call: the state, and 'same' of their answers. -/
namespace Go.Proofs.Ytimkfipiebppiaa
open Go.RowKit Go.Great

/-- both desks, in the same state; nothing of theirs lies below B0 -/
def St2 (w : World) (B0 B D X : Nat) (wh ms : Int) (l : Ls) : Prop := ∃ ks v us, Dsk w D wh ms l ks ∧ RDv w B X wh ms l v us ∧ D < B ∧ D ≠ X ∧ B0 ≤ D ∧ B0 ≤ X
theorem St2.after {w w' : World} {B0 B D X : Nat} {wh ms : Int} {l : Ls} (h : St2 w B0 B D X wh ms l) (hb : Below w.heap.size w w') : St2 w' B0 B D X wh ms l := by
  obtain ⟨ks, v, us, h1, h2, h3⟩ := h
  exact ⟨ks, v, us, h1.after hb, h2.after hb, h3⟩
/-- the program's desk has taken the call: its answer and its chain, and the document's desk as it was -/
structure Mid (w : World) (B0 B D X : Nat) (wh ms : Int) (l l' : Ls) (a : An) (z : Value) : Prop where
  is : ∃ ks v us b, Dsk w D wh ms l' ks ∧ RDv w B X wh ms l v us ∧ Ans w b z a ∧ (∀ k ∈ ks, k < b) ∧ B ≤ b
  d : D < B
  x : D ≠ X
  lo : B0 ≤ D ∧ B0 ≤ X
theorem St2.mid {w w' : World} {B0 B D X : Nat} {wh ms : Int} {l l' : Ls} {a : An} {e : Ending} (h : St2 w B0 B D X wh ms l) (hd : ∀ ks, Dsk w D wh ms l ks → DEnd w D wh ms ks (l', a) e w') : ∃ z, e = .returned z ∧ Mid w' B0 B D X wh ms l l' a z ∧ Below B0 w w' := by
  obtain ⟨ks, v, us, h1, h2, h3, h4, h5, h6⟩ := h
  obtain ⟨z, ks', b, e1, e2, e3, e4, e5, e6, e7⟩ := hd ks h1
  have hl := h1.lt
  refine ⟨z, e1, ⟨⟨ks', v, us, b, e2, h2.desk e7 h3 h4, e6, e4, Nat.le_trans h2.z e5⟩, h3, h4, h5, h6⟩, ?_⟩
  exact (Below.refl B0 w).grown e7 (by omega) (fun k e => by injection e with e; omega)
/-- and then the document's -/
structure End2 (w : World) (B0 B D X : Nat) (wh ms : Int) (l : Ls) (a : An) (z z' : Value) : Prop where
  is : ∃ ks v us b, Dsk w D wh ms l ks ∧ RDv w B X wh ms l v us ∧ Ans w b z a ∧ (∀ k ∈ ks, k < b) ∧ B ≤ b ∧ ∃ m, Ans w m z' a
  d : D < B
  x : D ≠ X
  lo : B0 ≤ D ∧ B0 ≤ X
theorem Ans.kex {w w' : World} {b n X : Nat} {wh ms : Int} {l : Ls} {v : Value} {us : List Value} {z : Value} {a : An} (h : Ans w n z a) (hr : RDv w b X wh ms l v us) (hn : b ≤ n) (hk : KeX w w' X v) : Ans w' n z a := by
  cases a with
  | none => exact h
  | some x =>
    obtain ⟨k, a, c⟩ := x
    obtain ⟨f, g, h1, h2, h3, h4, h5, h6⟩ := h
    have hx := hr.x
    exact ⟨f, g, h1, h2, h3, h4, (hk.2.2.2.2 g h5.lt (by omega) (blk_apart hr.o h5 (by decide))).trans h5, (hk.2.2.2.2 f h6.lt (by omega) (blk_apart hr.o h6 (by decide))).trans h6⟩
theorem KeX.low {w w' : World} {b X B0 : Nat} {wh ms : Int} {l : Ls} {v : Value} {us : List Value} (hr : RDv w b X wh ms l v us) (hX : B0 ≤ X) (hk : KeX w w' X v) : Below B0 w w' := by
  have hx := hr.x
  exact ⟨hk.1, hk.2.1, hk.2.2.1, hk.2.2.2.1, fun k hk1 => hk.2.2.2.2 k (by have := hr.z; omega) (by omega) (fun e => by have := (World.ownsRow.lt hr.o k e).1; omega)⟩
theorem Mid.end2 {w w' : World} {B0 B D X : Nat} {wh ms : Int} {l l' : Ls} {a : An} {z : Value} {e : Ending} (h : Mid w B0 B D X wh ms l l' a z) (hx : ∀ v us, RDv w B X wh ms l v us → XEnd w B X wh ms v (l', a) e w') : ∃ z', e = .returned z' ∧ End2 w' B0 B D X wh ms l' a z z' ∧ Below B0 w w' := by
  obtain ⟨⟨ks, v, us, b, h1, h2, h3, h4, h5⟩, hd, hxx, hlo⟩ := h
  obtain ⟨z', v', us', e1, e2, e3, e4⟩ := hx v us h2
  obtain ⟨ks', f1, f2⟩ := h1.kex h2 hxx e4
  exact ⟨z', e1, ⟨⟨ks', v', us', b, f1, e2, h3.kex h2 h5 e4, fun k hk => h4 k (f2 k hk), h5, _, e3⟩, hd, hxx, hlo⟩, e4.low h2 hlo.2⟩
theorem same_two (w : World) (B0 B D X : Nat) (wh ms : Int) (l : Ls) (a : An) (z z' : Value) (h : End2 w B0 B D X wh ms l a z z') (h5 : ∀ r ∈ l.rw, r.length = 5) : Calls Try.prog 29 #[z, z'] w fun e w' => e = .returned (.bool true) ∧ St2 w' B0 B D X wh ms l ∧ Below B0 w w' := by
  obtain ⟨⟨ks, v, us, b, h1, h2, h3, h4, hb, m, h6⟩, hd, hxx, hlo⟩ := h
  have hl := h1.lt
  cases a with
  | none =>
    obtain rfl := h3.zero
    refine (same_none w m z' h6).mono fun e w' hq => ⟨hq.1, ⟨ks, v, us, h1.after hq.2, h2.after hq.2, hd, hxx, hlo⟩, hq.2.mono (by omega)⟩
  | some t =>
    obtain ⟨k, x, y⟩ := t
    obtain ⟨f, g, g1, g2, g3, rfl, g5, g6⟩ := h3
    refine (same_some w m f g k x y z' g3 g5 g6 h6).mono fun e w' hq => ⟨hq.1, ⟨ks, v, us, h1.keb hq.2 (by omega) (fun k hk => by have := h4 k hk; omega), h2.keb h5 g6 g5 hq.2, hd, hxx, hlo⟩, ?_⟩
    exact ⟨hq.2.1, hq.2.2.1, hq.2.2.2.1, hq.2.2.2.2.1, fun k hk => hq.2.2.2.2.2 k (by omega) (by omega) (by omega)⟩
end Go.Proofs.Ytimkfipiebppiaa
/- The law's 'does': where it asks Ready, where it asks Busy. -/
namespace Go.Proofs.Ytimkfipiebppiaa
open Go.RowKit Go.Great

theorem St2.lt {w : World} {B0 B D X : Nat} {wh ms : Int} {l : Ls} (h : St2 w B0 B D X wh ms l) : B0 ≤ w.heap.size := by
  obtain ⟨ks, v, us, h1, _, _, _, h5, _⟩ := h
  have := h1.lt
  omega
theorem lready_two (w : World) (B0 B D X : Nat) (wh ms : Int) (l : Ls) (h : St2 w B0 B D X wh ms l) (hl : LOk ms l) (hms : ms ≤ 65535) : Calls Try.prog 12 #[dP D, dP X] w fun e w' => e = .returned (.bool true) ∧ Below w.heap.size w w' := by
  obtain ⟨ks, v, us, h1, h2, _⟩ := h
  exact lready_any w B D X wh ms l ks v us h1 h2 hl hms
set_option maxHeartbeats 1000000 in
theorem does_two (w : World) (B0 B D X : Nat) (wh ms : Int) (l : Ls) (h : St2 w B0 B D X wh ms l) (hl : LOk ms l) (hms : ms ≤ 65535) (x k now res : Int) (a : Option Addr) (n c : Nat) (hx : whB x = 2) : Calls Try.prog 11 #[dP D, dP X, .agg #[.int .i64 x, .int .u8 k, .slice a n c, .int .i64 now, .int .i64 res]] w fun e w' => e = .returned (.bool true) ∧ St2 w' B0 B D X wh ms l ∧ Below B0 w w' := by
  have HC := hide (Blk.new w #[.int .i64 x, .int .u8 k, .slice a n c, .int .i64 now, .int .i64 res] 40)
  have Hb := hide (below_alloc w (.cells #[.int .i64 x, .int .u8 k, .slice a n c, .int .i64 now, .int .i64 res] 40))
  have WA := hide (fun W => which_any x k now res a n c W)
  rw [hx] at WA
  have HS := hide (fun W (hb : Below w.heap.size w W) => h.after hb)
  have HR := hide (fun W (hb : Below w.heap.size w W) => lready_two W B0 B D X wh ms l (h.after hb) hl hms)
  have HL := hide h.lt
  clear h hl hms hx
  go_enter Try.func11, Try.ntmps11
  go_wp2_with fail
  refine (WA.out _).mono ?_
  rintro e w1 ⟨rfl, hb⟩
  have H1 := hide (below_next Hb.out (Nat.le_refl _) hb)
  clear hb Hb HC
  go_wp2_with fail
  refine (HR.out _ H1.out).mono ?_
  rintro e w2 ⟨rfl, hb⟩
  have H2 := hide (below_next H1.out (Nat.le_refl _) hb)
  clear hb H1
  go_wp2_with fail
  go_ret
  exact ⟨rfl, HS.out _ H2.out, H2.out.mono HL.out⟩
end Go.Proofs.Ytimkfipiebppiaa
/- The law's 'does': where it asks Busy. -/
namespace Go.Proofs.Ytimkfipiebppiaa
open Go.RowKit Go.Great

theorem busy_stI {l : Ls} {ms : Int} (h : LOk ms l) : (decide (0 < l.cn) == (stI l != 0)) = true := by
  have h1 := h.m
  unfold stI
  by_cases h0 : l.cn = 0
  · simp [h0]
  · have : 0 < l.cn := by omega
    rw [if_neg h0]
    split <;> simp [this]
set_option maxHeartbeats 1000000 in
theorem does_four (w : World) (B0 B D X : Nat) (wh ms : Int) (l : Ls) (h : St2 w B0 B D X wh ms l) (hl : LOk ms l) (x k now res : Int) (a : Option Addr) (n c : Nat) (hx : whB x = 4) : Calls Try.prog 11 #[dP D, dP X, .agg #[.int .i64 x, .int .u8 k, .slice a n c, .int .i64 now, .int .i64 res]] w fun e w' => e = .returned (.bool true) ∧ St2 w' B0 B D X wh ms l ∧ Below B0 w w' := by
  have Hb := hide (below_alloc w (.cells #[.int .i64 x, .int .u8 k, .slice a n c, .int .i64 now, .int .i64 res] 40))
  have HC := hide (Blk.new w #[.int .i64 x, .int .u8 k, .slice a n c, .int .i64 now, .int .i64 res] 40)
  have WA := hide (fun W => which_any x k now res a n c W)
  rw [hx] at WA
  have HS := hide (fun W (hb : Below w.heap.size w W) => h.after hb)
  have HBU := hide (busy_stI hl)
  have HL := hide h.lt
  clear h hl hx
  go_enter Try.func11, Try.ntmps11
  go_wp2_with fail
  refine (WA.out _).mono ?_
  rintro e w1 ⟨rfl, hb⟩
  have H1 := hide (below_next Hb.out (Nat.le_refl _) hb)
  obtain ⟨ks, v, us, hd, hr, _⟩ := HS.out _ H1.out
  have BU := hide (fun n => busy_any (w1.drewN n) D wh ms l ks (hd.after (below_drewN (Below.refl _ _) n)))
  have c2 : w1.cell? ⟨X, 2, none⟩ = some (.int .i64 (stI l)) := hr.B.cell 2 rfl
  clear hb Hb HC hd hr
  obtain ⟨p, hp⟩ : ∃ p, decide (0 < l.cn) = p := ⟨_, rfl⟩
  obtain ⟨q, hq⟩ : ∃ q, stI l = q := ⟨_, rfl⟩
  have hpq : (p == (q != 0)) = true := by rw [← hp, ← hq]; exact HBU.out
  rw [hp] at BU
  rw [hq] at c2
  clear hp hq HBU
  go_upto_region 17 with fail
  go_quiet ((go_at_call 13; exact Calls.quiet_of_same (BU.out _)))
  go_wp2_with fail
  go_ret
  rename_i nq
  exact ⟨by first | rfl | (simp [hpq]), HS.out _ (below_drewN H1.out nq), (below_drewN H1.out nq).mono HL.out⟩
end Go.Proofs.Ytimkfipiebppiaa
/- The law's 'does': where it keeps. -/
namespace Go.Proofs.Ytimkfipiebppiaa
open Go.RowKit Go.Great

/-- what the program's desk's call leaves -/
def MEnd (w : World) (B0 B D X : Nat) (wh ms : Int) (l : Ls) (r : Ls × An) (e : Ending) (w' : World) : Prop := ∃ p m c, e = .returned (.slice p m c) ∧ Mid w' B0 B D X wh ms l r.1 r.2 (.slice p m c) ∧ Below B0 w w' ∧ w.grownBy w' (some D)
theorem mend_of {w w' : World} {B0 B D X : Nat} {wh ms : Int} {l : Ls} {ks : List Nat} {v : Value} {us : List Value} {r : Ls × An} {e : Ending} (h1 : Dsk w D wh ms l ks) (h2 : RDv w B X wh ms l v us) (h3 : D < B) (h4 : D ≠ X) (h5 : B0 ≤ D) (h6 : B0 ≤ X) (hq : DEnd w D wh ms ks r e w') : MEnd w B0 B D X wh ms l r e w' := by
  obtain ⟨z, ks', b, e1, e2, e3, e4, e5, e6, e7⟩ := hq
  have hl := h1.lt
  obtain ⟨p, m, c, rfl⟩ := e6.any
  exact ⟨p, m, c, e1, ⟨⟨ks', v, us, b, e2, h2.desk e7 h3 h4, e6, e4, Nat.le_trans h2.z e5⟩, h3, h4, h5, h6⟩, (Below.refl B0 w).grown e7 (by omega) (fun k e => by injection e with e; omega), e7⟩
def NEnd (w : World) (B0 B D X : Nat) (wh ms : Int) (r : Ls × An) (z : Value) (e : Ending) (w' : World) : Prop := ∃ p m c, e = .returned (.slice p m c) ∧ End2 w' B0 B D X wh ms r.1 r.2 z (.slice p m c) ∧ Below B0 w w'
theorem nend_of {w w' : World} {B0 B D X b : Nat} {wh ms : Int} {l : Ls} {ks : List Nat} {v : Value} {us : List Value} {r : Ls × An} {z : Value} {e : Ending} (h1 : Dsk w D wh ms r.1 ks) (h2 : RDv w B X wh ms l v us) (h3 : Ans w b z r.2) (h4 : ∀ k ∈ ks, k < b) (h5 : B ≤ b) (hd : D < B) (hxx : D ≠ X) (hlo : B0 ≤ D ∧ B0 ≤ X) (hq : XEnd w B X wh ms v r e w') : NEnd w B0 B D X wh ms r z e w' := by
  obtain ⟨z', v', us', e1, e2, e3, e4⟩ := hq
  obtain ⟨ks', f1, f2⟩ := h1.kex h2 hxx e4
  obtain ⟨p, m, c, rfl⟩ := e3.any
  exact ⟨p, m, c, e1, ⟨⟨ks', v', us', b, f1, e2, h3.kex h2 h5 e4, fun k hk => h4 k (f2 k hk), h5, _, e3⟩, hd, hxx, hlo⟩, e4.low h2 hlo.2⟩
theorem keep_mid (w : World) (B0 B D X : Nat) (wh ms : Int) (l : Ls) (h : St2 w B0 B D X wh ms l) (r : Int) : Calls Try.prog 26 #[dP D, .int .i64 r] w (MEnd w B0 B D X wh ms l (keepS wh l r)) := by
  obtain ⟨ks, v, us, h1, h2, h3, h4, h5, h6⟩ := h
  exact (keep_any w D wh ms l ks h1 r).mono fun e w' hq => mend_of h1 h2 h3 h4 h5 h6 hq
theorem tick_mid (w : World) (B0 B D X : Nat) (wh ms : Int) (l : Ls) (h : St2 w B0 B D X wh ms l) (hl : LOk ms l) (now : Int) (hn : I64 now) : Calls Try.prog 17 #[dP D, .int .i64 now] w (MEnd w B0 B D X wh ms l (tickS wh l now)) := by
  obtain ⟨ks, v, us, h1, h2, h3, h4, h5, h6⟩ := h
  exact (tick_any w D wh ms l ks h1 hl now hn).mono fun e w' hq => mend_of h1 h2 h3 h4 h5 h6 hq
theorem keep_nend (w : World) (B0 B D X : Nat) (wh ms : Int) (l : Ls) (r : Int) (z : Value) (h : Mid w B0 B D X wh ms l (keepS wh l r).1 (keepS wh l r).2 z) : Calls Try.prog 32 #[dP X, .int .i64 r] w (NEnd w B0 B D X wh ms (keepS wh l r) z) := by
  obtain ⟨⟨ks, v, us, b, h1, h2, h3, h4, h5⟩, hd, hxx, hlo⟩ := h
  exact (keepR_any w B X wh ms l v us h2 r).mono fun e w' hq => nend_of h1 h2 h3 h4 h5 hd hxx hlo hq
theorem tick_nend (w : World) (B0 B D X : Nat) (wh ms : Int) (l : Ls) (hl : LOk ms l) (now : Int) (hn : I64 now) (z : Value) (h : Mid w B0 B D X wh ms l (tickS wh l now).1 (tickS wh l now).2 z) : Calls Try.prog 31 #[dP X, .int .i64 now] w (NEnd w B0 B D X wh ms (tickS wh l now) z) := by
  obtain ⟨⟨ks, v, us, b, h1, h2, h3, h4, h5⟩, hd, hxx, hlo⟩ := h
  exact (tickR_any w B X wh ms l v us h2 hl now hn).mono fun e w' hq => nend_of h1 h2 h3 h4 h5 hd hxx hlo hq
end Go.Proofs.Ytimkfipiebppiaa
/- The law's 'does': where it keeps. -/
namespace Go.Proofs.Ytimkfipiebppiaa
open Go.RowKit Go.Great

theorem mid_drew {w : World} {B0 B D X : Nat} {wh ms : Int} {l l' : Ls} {a : An} {z : Value} (h : Mid w B0 B D X wh ms l l' a z) {w' : World} (hb : Below w.heap.size w w') : Mid w' B0 B D X wh ms l l' a z := by
  obtain ⟨⟨ks, v, us, b, h1, h2, h3, h4, h5⟩, hd, hxx, hlo⟩ := h
  exact ⟨⟨ks, v, us, b, h1.after hb, h2.after hb, h3.below hb, h4, h5⟩, hd, hxx, hlo⟩
theorem end2_drew {w : World} {B0 B D X : Nat} {wh ms : Int} {l : Ls} {a : An} {z z' : Value} (h : End2 w B0 B D X wh ms l a z z') {w' : World} (hb : Below w.heap.size w w') : End2 w' B0 B D X wh ms l a z z' := by
  obtain ⟨⟨ks, v, us, b, h1, h2, h3, h4, h5, m, h6⟩, hd, hxx, hlo⟩ := h
  exact ⟨⟨ks, v, us, b, h1.after hb, h2.after hb, h3.below hb, h4, h5, m, h6.below hb⟩, hd, hxx, hlo⟩
set_option maxHeartbeats 2000000 in
theorem does_three (w : World) (B0 B D X : Nat) (wh ms : Int) (l : Ls) (h : St2 w B0 B D X wh ms l) (x k now res : Int) (a : Option Addr) (n c : Nat) (hx : whB x = 3) (h5 : ∀ r ∈ (keepS wh l res).1.rw, r.length = 5) : Calls Try.prog 11 #[dP D, dP X, .agg #[.int .i64 x, .int .u8 k, .slice a n c, .int .i64 now, .int .i64 res]] w fun e w' => e = .returned (.bool true) ∧ St2 w' B0 B D X wh ms (keepS wh l res).1 ∧ Below B0 w w' := by
  have Hb := hide (below_alloc w (.cells #[.int .i64 x, .int .u8 k, .slice a n c, .int .i64 now, .int .i64 res] 40))
  have HC := hide (Blk.new w #[.int .i64 x, .int .u8 k, .slice a n c, .int .i64 now, .int .i64 res] 40)
  have WA := hide (fun W => which_any x k now res a n c W)
  rw [hx] at WA
  have HS := hide (fun W (hb : Below w.heap.size w W) => h.after hb)
  have HL := hide h.lt
  have HDl : Hid (D < w.heap.size) := hide (by obtain ⟨_, _, _, h1, _⟩ := h; exact h1.lt)
  have H5 := hide h5
  clear h hx h5
  go_enter Try.func11, Try.ntmps11
  go_wp2_with fail
  refine (WA.out _).mono ?_
  rintro e w1 ⟨rfl, hb⟩
  have H1 := hide (below_next Hb.out (Nat.le_refl _) hb)
  have C1 := hide (HC.out.after hb)
  have c4 : w1.cell? ⟨w.heap.size, 4, none⟩ = some (.int .i64 res) := C1.out.cell 4 rfl
  clear hb Hb HC
  go_upto_region 16 with fail
  go_region_with (first
    | (go_at_call 26; refine (keep_mid _ B0 B D X wh ms l (HS.out _ (by first | exact H1.out | exact H1.out.drew)) res).mono ?_; rintro e w2 ⟨p, m, cc, rfl, hM, hB, hg⟩; have HM := hide hM; have HB := hide (Below.trans (by first | exact H1.out.mono HL.out | exact (H1.out.mono HL.out).drew) hB); have C2 := hide (Blk.grown (by first | exact C1.out | exact C1.out.after (Below.refl _ _).drew) hg (fun e => by have := HDl.out; injection e with e; omega)); have d4 : w2.cell? ⟨w.heap.size, 4, none⟩ = some (.int .i64 res) := C2.out.cell 4 rfl; clear hM hB hg)
    | (go_at_call 32; refine (keep_nend _ B0 B D X wh ms l res (.slice p m cc) (by first | exact HM.out | exact mid_drew HM.out (Below.refl _ _).drew)).mono ?_; rintro e w3 ⟨p3, m3, c3, rfl, hE, hB3⟩; have HE := hide hE; have HB3 := hide (Below.trans (by first | exact HB.out | exact HB.out.drew) hB3); clear hE hB3)
    | (go_at_call 29; refine (same_two _ B0 B D X wh ms (keepS wh l res).1 (keepS wh l res).2 (.slice p m cc) (.slice p3 m3 c3) (by first | exact HE.out | exact end2_drew HE.out (Below.refl _ _).drew) H5.out).mono ?_; rintro e w4 ⟨rfl, hS4, hB4⟩; have HS4 := hide hS4; have HB4 := hide (Below.trans (by first | exact HB3.out | exact HB3.out.drew) hB4); clear hS4 hB4))
  all_goals
    go_wp2_with fail
    go_ret
    exact ⟨rfl, by first | exact HS4.out | exact HS4.out.after (Below.refl _ _).drew, by first | exact HB4.out | exact HB4.out.drew⟩
end Go.Proofs.Ytimkfipiebppiaa
/- The law's 'does': where a tick comes. -/
namespace Go.Proofs.Ytimkfipiebppiaa
open Go.RowKit Go.Great

set_option maxHeartbeats 2000000 in
theorem does_one (w : World) (B0 B D X : Nat) (wh ms : Int) (l : Ls) (h : St2 w B0 B D X wh ms l) (x k now res : Int) (a : Option Addr) (n c : Nat) (hx : whB x = 1) (hl : LOk ms l) (hn : I64 now) (h5 : ∀ r ∈ (tickS wh l now).1.rw, r.length = 5) : Calls Try.prog 11 #[dP D, dP X, .agg #[.int .i64 x, .int .u8 k, .slice a n c, .int .i64 now, .int .i64 res]] w fun e w' => e = .returned (.bool true) ∧ St2 w' B0 B D X wh ms (tickS wh l now).1 ∧ Below B0 w w' := by
  have Hb := hide (below_alloc w (.cells #[.int .i64 x, .int .u8 k, .slice a n c, .int .i64 now, .int .i64 res] 40))
  have HC := hide (Blk.new w #[.int .i64 x, .int .u8 k, .slice a n c, .int .i64 now, .int .i64 res] 40)
  have WA := hide (fun W => which_any x k now res a n c W)
  rw [hx] at WA
  have HS := hide (fun W (hb : Below w.heap.size w W) => h.after hb)
  have HL := hide h.lt
  have HDl : Hid (D < w.heap.size) := hide (by obtain ⟨_, _, _, h1, _⟩ := h; exact h1.lt)
  have H5 := hide h5
  have HLO := hide hl
  have HNO := hide hn
  clear h hx h5 hl hn
  go_enter Try.func11, Try.ntmps11
  go_wp2_with fail
  refine (WA.out _).mono ?_
  rintro e w1 ⟨rfl, hb⟩
  have H1 := hide (below_next Hb.out (Nat.le_refl _) hb)
  have C1 := hide (HC.out.after hb)
  have c4 : w1.cell? ⟨w.heap.size, 3, none⟩ = some (.int .i64 now) := C1.out.cell 3 rfl
  clear hb Hb HC
  go_upto_region 12 with fail
  go_region_with (first
    | (go_at_call 17; refine (tick_mid _ B0 B D X wh ms l (HS.out _ (by first | exact H1.out | exact H1.out.drew)) HLO.out now HNO.out).mono ?_; rintro e w2 ⟨p, m, cc, rfl, hM, hB, hg⟩; have HM := hide hM; have HB := hide (Below.trans (by first | exact H1.out.mono HL.out | exact (H1.out.mono HL.out).drew) hB); have C2 := hide (Blk.grown (by first | exact C1.out | exact C1.out.after (Below.refl _ _).drew) hg (fun e => by have := HDl.out; injection e with e; omega)); have d4 : w2.cell? ⟨w.heap.size, 3, none⟩ = some (.int .i64 now) := C2.out.cell 3 rfl; clear hM hB hg)
    | (go_at_call 31; refine (tick_nend _ B0 B D X wh ms l HLO.out now HNO.out (.slice p m cc) (by first | exact HM.out | exact mid_drew HM.out (Below.refl _ _).drew)).mono ?_; rintro e w3 ⟨p3, m3, c3, rfl, hE, hB3⟩; have HE := hide hE; have HB3 := hide (Below.trans (by first | exact HB.out | exact HB.out.drew) hB3); clear hE hB3)
    | (go_at_call 29; refine (same_two _ B0 B D X wh ms (tickS wh l now).1 (tickS wh l now).2 (.slice p m cc) (.slice p3 m3 c3) (by first | exact HE.out | exact end2_drew HE.out (Below.refl _ _).drew) H5.out).mono ?_; rintro e w4 ⟨rfl, hS4, hB4⟩; have HS4 := hide hS4; have HB4 := hide (Below.trans (by first | exact HB3.out | exact HB3.out.drew) hB4); clear hS4 hB4))
  all_goals
    go_wp2_with fail
    go_ret
    exact ⟨rfl, by first | exact HS4.out | exact HS4.out.after (Below.refl _ _).drew, by first | exact HB4.out | exact HB4.out.drew⟩
end Go.Proofs.Ytimkfipiebppiaa
/- Both desks beside one row of ints more, that is written into: the program's desk hears a message, then the document's. -/
namespace Go.Proofs.Ytimkfipiebppiaa
open Go.RowKit Go.Great

/-- both desks, in the same state; all that is theirs lies below block g -/
def St2G (w : World) (B0 B D X : Nat) (wh ms : Int) (l : Ls) (g : Nat) : Prop := ∃ ks v us, Dsk w D wh ms l ks ∧ RDv w B X wh ms l v us ∧ (∀ k ∈ ks, k < g) ∧ (∀ k, v.ownBlock = some k → k < g) ∧ (∀ (i : Nat) u, us[i]? = some u → ∀ k, u.ownBlock = some k → k < g) ∧ D < B ∧ D ≠ X ∧ (B0 ≤ D ∧ B0 ≤ X) ∧ D < g ∧ X < g
theorem St2G.of {w w' : World} {B0 B D X : Nat} {wh ms : Int} {l : Ls} (h : St2 w B0 B D X wh ms l) (hb : Below w.heap.size w w') : St2G w' B0 B D X wh ms l w.heap.size := by
  obtain ⟨ks, v, us, h1, h2, h3, h4, h5, h6⟩ := h
  have hl := h1.lt
  have hx := h2.B.lt
  have hk : ∀ k ∈ ks, k < w.heap.size := by
    obtain ⟨_, _, _, q⟩ := h1
    exact fun k hk => (q k hk).1
  exact ⟨ks, v, us, h1.after hb, h2.after hb, hk, fun k hk => (World.ownsRow.lt h2.o k hk).2, fun i u hu k hk => (World.ownsRow.lt (h2.u.row i u hu) k hk).2, h3, h4, ⟨h5, h6⟩, hl, hx⟩
/-- the program's desk has taken the call, and block g is nobody's -/
def MidG (w : World) (B0 B D X : Nat) (wh ms : Int) (l l' : Ls) (a : An) (z : Value) (g : Nat) : Prop := (∃ ks v us b, Dsk w D wh ms l' ks ∧ RDv w B X wh ms l v us ∧ Ans w b z a ∧ (∀ k ∈ ks, k < b) ∧ B ≤ b ∧ (∀ k ∈ ks, k ≠ g) ∧ (∀ k, v.ownBlock = some k → k ≠ g) ∧ (∀ (i : Nat) u, us[i]? = some u → ∀ k, u.ownBlock = some k → k ≠ g) ∧ g < b) ∧ D < B ∧ D ≠ X ∧ (B0 ≤ D ∧ B0 ≤ X) ∧ D ≠ g ∧ X ≠ g
theorem MidG.mid {w : World} {B0 B D X g : Nat} {wh ms : Int} {l l' : Ls} {a : An} {z : Value} (h : MidG w B0 B D X wh ms l l' a z g) : Mid w B0 B D X wh ms l l' a z := by
  obtain ⟨⟨ks, v, us, b, h1, h2, h3, h4, h5, _⟩, hd, hx, hlo, _⟩ := h
  exact ⟨⟨ks, v, us, b, h1, h2, h3, h4, h5⟩, hd, hx, hlo⟩
/-- block g is written into -/
theorem MidG.put {w w' : World} {B0 B D X g : Nat} {wh ms : Int} {l l' : Ls} {a : An} {z : Value} (h : MidG w B0 B D X wh ms l l' a z g) (hg : w.grownBy w' (some g)) : MidG w' B0 B D X wh ms l l' a z g := by
  obtain ⟨⟨ks, v, us, b, h1, h2, h3, h4, h5, h6, h7, h8, h9⟩, hd, hx, hlo, hD, hX⟩ := h
  have blk : ∀ k, k < w.heap.size → k ≠ g → w'.heap[k]? = w.heap[k]? := fun k hk hne => hg.block k hk (fun e => hne (by injection e))
  have hl := h1.lt
  have hks : ∀ k ∈ ks, k < w.heap.size := by
    obtain ⟨_, _, _, q⟩ := h1
    exact fun k hk => (q k hk).1
  refine ⟨⟨ks, v, us, b, h1.keep hg.size (blk D hl hD) (fun k hk => blk k (hks k hk) (h6 k hk)), ⟨(blk X h2.B.lt hX).trans h2.B, own_keep h2.o (fun k hk => blk k (World.ownsRow.lt h2.o k hk).2 (h7 k hk)), ⟨h2.u.len, fun i u hu => own_keep (h2.u.row i u hu) (fun k hk => blk k (World.ownsRow.lt (h2.u.row i u hu) k hk).2 (h8 i u hu k hk)), h2.u.two⟩, h2.x, Nat.le_trans h2.z hg.size⟩, ?_, h4, h5, h6, h7, h8, h9⟩, hd, hx, hlo, hD, hX⟩
  cases a with
  | none => exact h3
  | some t =>
    obtain ⟨k, x, y⟩ := t
    obtain ⟨f, q, q1, q2, q3, q4, q5, q6⟩ := h3
    exact ⟨f, q, q1, q2, q3, q4, (blk q q5.lt (by omega)).trans q5, (blk f q6.lt (by omega)).trans q6⟩
def MEndG (w : World) (B0 B D X : Nat) (wh ms : Int) (l : Ls) (r : Ls × An) (g : Nat) (e : Ending) (w' : World) : Prop := ∃ p m c, e = .returned (.slice p m c) ∧ MidG w' B0 B D X wh ms l r.1 r.2 (.slice p m c) g ∧ Below B0 w w' ∧ w.grownBy w' (some D)
theorem on_midG (w : World) (B0 B D X g : Nat) (wh ms : Int) (l : Ls) (h : St2G w B0 B D X wh ms l g) (hgz : g < w.heap.size) (hl : LOk ms l) (hms : ms ≤ 65535) (k : Int) (hk : 0 ≤ k ∧ k ≤ 255) (fs : List Int) (u : Value) (hu : Ints w u fs) (hcap : ∀ a n c, u = .slice a n c → n ≤ c) (hlen : fs.length ≤ 9223372036854775807) (now : Int) : Calls Try.prog 18 #[dP D, .agg #[.int .u8 k, u], .int .i64 now] w (MEndG w B0 B D X wh ms l (onS wh ms l k fs now) g) := by
  obtain ⟨ks, v, us, h1, h2, a1, a2, a3, h3, h4, h5, hD, hX⟩ := h
  refine (on_any w D wh ms l ks h1 hl hms k hk fs u hu hcap hlen now).mono fun e w' hq => ?_
  obtain ⟨z, ks', b, e1, e2, e3, e4, e5, e6, e7⟩ := hq
  have hl := h1.lt
  obtain ⟨p, m, c, rfl⟩ := e6.any
  refine ⟨p, m, c, e1, ⟨⟨ks', v, us, b, e2, h2.desk e7 h3 h4, e6, e4, Nat.le_trans h2.z e5, fun k hk => ?_, fun k hk => ?_, fun i u hu k hk => ?_, by omega⟩, h3, h4, h5, by omega, by omega⟩, (Below.refl B0 w).grown e7 (by omega) (fun k e => by injection e with e; omega), e7⟩
  · rcases e3 k hk with q | q
    · have := a1 k q; omega
    · omega
  · have := a2 k hk; omega
  · have := a3 i u hu k hk; omega
theorem on_nend (w : World) (B0 B D X : Nat) (wh ms : Int) (l : Ls) (hl : LOk ms l) (hms : ms ≤ 65535) (k : Int) (hk : 0 ≤ k ∧ k ≤ 255) (fs : List Int) (u : Value) (hu : Ints w u fs) (hcap : ∀ a n c, u = .slice a n c → n ≤ c) (hlen : fs.length ≤ 9223372036854775807) (now : Int) (z : Value) (h : Mid w B0 B D X wh ms l (onS wh ms l k fs now).1 (onS wh ms l k fs now).2 z) : Calls Try.prog 30 #[dP X, .agg #[.int .u8 k, u], .int .i64 now] w (NEnd w B0 B D X wh ms (onS wh ms l k fs now) z) := by
  obtain ⟨⟨ks, v, us, b, h1, h2, h3, h4, h5⟩, hd, hxx, hlo⟩ := h
  exact (onR_any w B X wh ms l v us h2 hl hms k hk fs u hu hcap hlen now).mono fun e w' hq => nend_of h1 h2 h3 h4 h5 hd hxx hlo hq
end Go.Proofs.Ytimkfipiebppiaa
/- The law's 'does': where a message comes. -/
namespace Go.Proofs.Ytimkfipiebppiaa
open Go.RowKit Go.Great

theorem row_blk {w : World} {base g n c : Nat} {l : List Int} (h : IRow w base (.slice (some ⟨g, 0, none⟩) n c) l) : ∃ cs : Array Value, Blk w g cs 3 ∧ cs.size = c ∧ n ≤ c ∧ g < w.heap.size := by
  have hl := h.lt0
  rcases h.2 with ⟨q, _⟩ | ⟨g', cap, cur, q, _, hh, h1, h2, h3, _⟩
  · cases q
  · injection q with e1 e2 e3
    injection e1 with e1
    injection e1 with e1 _
    subst e1 e3
    exact ⟨cur, hh, by omega, by omega, hl⟩
set_option maxHeartbeats 4000000 in
set_option maxRecDepth 100000 in
theorem does_zero (w : World) (B0 B D X : Nat) (wh ms : Int) (l : Ls) (h : St2 w B0 B D X wh ms l) (hl : LOk ms l) (hms : ms ≤ 65535) (x k now res : Int) (fs : List Int) (a : Option Addr) (n c : Nat) (hk : 0 ≤ k ∧ k ≤ 255) (hu : ∀ W, Below B0 w W → Ints W (.slice a n c) fs) (hcap : n ≤ c) (hnil : ∀ n' c', Value.slice a n c = .slice none n' c' → c' = 0) (hlen : n * 8 + 32 ≤ 140737488355328) (hx : whB x = 0) (h5 : ∀ r ∈ (onS wh ms l k fs now).1.rw, r.length = 5) : Calls Try.prog 11 #[dP D, dP X, .agg #[.int .i64 x, .int .u8 k, .slice a n c, .int .i64 now, .int .i64 res]] w fun e w' => e = .returned (.bool true) ∧ St2 w' B0 B D X wh ms (onS wh ms l k fs now).1 ∧ Below B0 w w' := by
  have hn : fs.length = n := by
    obtain ⟨_, _, e, _⟩ := hu w (Below.refl _ _)
    injection e with _ e _
    exact e.symm
  have LN := fun W hI => lent_any fs (.slice a n c) W hI hnil (by rw [hn]; exact hlen)
  have KT := fun W b g hR hI => kept_true fs (.slice a n c) W b g hR hI (by omega)
  have LI := fun W b g cc hR => lent_ints (w := W) (base := b) (g := g) (c := cc) (l := fs) hR
  rw [hn] at LN KT LI
  replace LN := hide LN
  replace KT := hide KT
  replace LI := hide LI
  have HF : Hid (fs.length ≤ 9223372036854775807) := hide (by omega)
  have Hb := hide (below_alloc w (.cells #[.int .i64 x, .int .u8 k, .slice a n c, .int .i64 now, .int .i64 res] 40))
  have HC := hide (Blk.new w #[.int .i64 x, .int .u8 k, .slice a n c, .int .i64 now, .int .i64 res] 40)
  have WA := hide (fun W => which_any x k now res a n c W)
  rw [hx] at WA
  have HS := hide (fun W (hb : Below w.heap.size w W) => h.after hb)
  have HL := hide h.lt
  have HDl : Hid (D < w.heap.size) := hide (by obtain ⟨_, _, _, h1, _⟩ := h; exact h1.lt)
  have H5 := hide h5
  have HU := hide hu
  have HLO := hide hl
  have HMS := hide hms
  have HK := hide hk
  have HCP : Hid (∀ a' n' c', (Value.slice a n c) = .slice a' n' c' → n' ≤ c') := hide (fun a' n' c' e => by injection e with _ e1 e2; omega)
  have HNL := hide hlen
  clear h hx h5 hu hl hms hk hnil hcap hn hlen
  go_enter Try.func11, Try.ntmps11
  go_wp2_with fail
  refine (WA.out _).mono ?_
  rintro e w1 ⟨rfl, hb⟩
  have H1 := hide (below_next Hb.out (Nat.le_refl _) hb)
  have C1 := hide (HC.out.after hb)
  have c1 : w1.cell? ⟨w.heap.size, 1, none⟩ = some (.int .u8 k) := C1.out.cell 1 rfl
  have c2 : w1.cell? ⟨w.heap.size, 2, none⟩ = some (.slice a n c) := C1.out.cell 2 rfl
  clear hb Hb HC WA
  go_wp2_with fail
  refine (LN.out w1 (HU.out w1 (H1.out.mono HL.out))).mono ?_
  rintro e w2 ⟨rfl, hR2, hb2⟩
  have HR2 := hide hR2
  have HG := hide (St2G.of (HS.out w1 H1.out) hb2)
  have H2 := hide (below_next H1.out (Nat.le_refl _) hb2)
  have C2 := hide (C1.out.after hb2)
  have Hgw : Hid (w.heap.size < w1.heap.size ∧ w1.heap.size < w2.heap.size) := hide ⟨C1.out.lt, hR2.lt0⟩
  clear c1 c2 hR2 hb2 HS LN H1 C1
  generalize w1.heap.size = g at *
  have c1 : w2.cell? ⟨w.heap.size, 1, none⟩ = some (.int .u8 k) := C2.out.cell 1 rfl
  have c3 : w2.cell? ⟨w.heap.size, 3, none⟩ = some (.int .i64 now) := C2.out.cell 3 rfl
  go_wp2_with fail
  refine (on_midG w2 B0 B D X g wh ms l HG.out Hgw.out.2 HLO.out HMS.out k HK.out fs (.slice (some ⟨g, 0, none⟩) n (n + 4)) (LI.out w2 _ g _ HR2.out) (fun a' n' c' e => by injection e with _ e1 e2; omega) HF.out now).mono ?_
  rintro e w3 ⟨p, m, cc, rfl, hM, hB3, hg3⟩
  have HM := hide hM
  have HB3 := hide (Below.trans (H2.out.mono HL.out) hB3)
  have C3 := hide (Blk.grown C2.out hg3 (fun e => by have := HDl.out; injection e with e; omega))
  have HR3 := hide (World.ownsRow.kept HR2.out hg3 (.inr (fun e => by have := HDl.out; have := Hgw.out; have e : some g = some D := e; injection e with e; omega)))
  have Hgw3 : Hid (w.heap.size < g ∧ g < w3.heap.size ∧ B0 ≤ g) := hide (by have := Hgw.out; have := hg3.size; have := HL.out; omega)
  clear c1 c3 hM hB3 hg3 HR2 H2 C2 HG Hgw LI
  have c2 : w3.cell? ⟨w.heap.size, 2, none⟩ = some (.slice a n c) := C3.out.cell 2 rfl
  go_wp2_with fail
  refine (KT.out w3 _ g HR3.out (HU.out w3 HB3.out)).mono ?_
  rintro e w4 ⟨rfl, n4, hw4⟩
  have hb4 : Below w3.heap.size w3 w4 := by rw [hw4]; exact below_drewN (Below.refl _ _) n4
  replace HM := hide (HM.out.put (grown_below hb4 _))
  have HB4 := hide (HB3.out.trans (hb4.mono HB3.out.size |>.mono (by have := HB3.out.size; have := HL.out; omega)))
  have C4 := hide (C3.out.after hb4)
  have HR4 := hide (IRow.below HR3.out hb4)
  have Hgw4 : Hid (w.heap.size < g ∧ g < w4.heap.size ∧ B0 ≤ g) := hide (by have := Hgw3.out; have := hb4.size; omega)
  clear c2 hw4 hb4 HR3 HB3 C3 Hgw3 KT
  obtain ⟨cs0, hcs0, hz0, _, _⟩ := row_blk HR4.out
  have HCS := hide hcs0
  have HZ := hide hz0
  clear hcs0 hz0 HR4
  go_wp2_with fail
  go_loopw [10] (fun v wr => ∃ (i : Nat) (cs : Array Value), v = .int .i64 (i : Int) ∧ i ≤ n ∧ Blk wr g cs 3 ∧ cs.size = n + 4 ∧ w4.grownBy wr (some g)) (fun v _ => n - (intOf v).toNat)
  case atStart => exact ⟨0, cs0, rfl, by omega, HCS.out, HZ.out, grown_below (Below.refl _ _) _⟩
  case round =>
    obtain ⟨i, cs, rfl, hi, hcs, hz, hgr⟩ := hrel
    have HCS2 := hide hcs
    have HGR := hide hgr
    have HZ2 := hide hz
    clear hcs hgr hz HCS HZ
    by_cases hin : i < n
    · have hd : decide ((i : Int) < (n : Int)) = true := decide_eq_true (by omega)
      have hlt : i < cs.size := by rw [HZ2.out]; omega
      obtain ⟨y, hy⟩ : ∃ y, cs[i]? = some y := ⟨cs[i], by simp [hlt]⟩
      have ci := HCS2.out.cell i hy
      have fi := HCS2.out.frozen i
      have hnl : n ≤ 17592186044416 := by have := HNL.out; omega
      go_wp2_with fail
      go_roundw
      case rel => exact ⟨i + 1, cs.setIfInBounds i (.int .i64 (-7)), by go_num, by omega, HCS2.out.set i _, by rw [Array.size_setIfInBounds]; exact HZ2.out, grown_more HGR.out (grown_set _ _ _ _)⟩
      case measure => simp [intOf]; omega
    · have hd : decide ((i : Int) < (n : Int)) = false := decide_eq_false (by omega)
      have HMr := hide (HM.out.put HGR.out)
      have HBr := hide (HB4.out.grown HGR.out (by have := HB4.out.size; have := HL.out; omega) (fun k e => by have := Hgw4.out; injection e with e; omega))
      have Cr := hide (Blk.grown C4.out HGR.out (fun e => by have := Hgw4.out; injection e with e; omega))
      have c1 : wr.cell? ⟨w.heap.size, 1, none⟩ = some (.int .u8 k) := Cr.out.cell 1 rfl
      have c2 : wr.cell? ⟨w.heap.size, 2, none⟩ = some (.slice a n c) := Cr.out.cell 2 rfl
      have c3 : wr.cell? ⟨w.heap.size, 3, none⟩ = some (.int .i64 now) := Cr.out.cell 3 rfl
      clear HM HB4 C4 HCS2 HGR HZ2
      go_wp2_with fail
      refine (on_nend wr B0 B D X wh ms l HLO.out HMS.out k HK.out fs (.slice a n c) (HU.out wr HBr.out) HCP.out HF.out now (.slice p m cc) HMr.out.mid).mono ?_
      rintro e w5 ⟨p5, m5, c5, rfl, hE, hB5⟩
      have HE := hide hE
      have HB5 := hide (HBr.out.trans hB5)
      clear hE hB5 c1 c2 c3 HMr HBr Cr
      go_wp2_with fail
      refine (same_two w5 B0 B D X wh ms _ _ (.slice p m cc) (.slice p5 m5 c5) HE.out H5.out).mono ?_
      rintro e w6 ⟨rfl, hS6, hB6⟩
      have HS6 := hide hS6
      have HB6 := hide (HB5.out.trans hB6)
      clear hS6 hB6
      go_wp2_with fail
      go_ret
      exact ⟨rfl, HS6.out, HB6.out⟩
end Go.Proofs.Ytimkfipiebppiaa
