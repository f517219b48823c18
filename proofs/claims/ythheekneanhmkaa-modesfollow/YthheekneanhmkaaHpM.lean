/- A heap of numbers in a list (package container/heap): pure. -/
import Derived.Test.YthheekneanhmkaaIn0
namespace Go.Proofs.Ythheekneanhmkaa
open Go.RowKit Go.Great

def hg (l : List Int) (i : Nat) : Int := l.getD i 0
/-- two of a list change places -/
def sw (l : List Int) (i j : Nat) : List Int := (l.set i (hg l j)).set j (hg l i)
theorem sw_len (l : List Int) (i j : Nat) : (sw l i j).length = l.length := by simp [sw]
theorem hg_set (l : List Int) (i k : Nat) (v : Int) (hi : i < l.length) : hg (l.set i v) k = if k = i then v else hg l k := by
  unfold hg
  rw [List.getD, List.getD, List.getElem?_set]
  by_cases e : i = k
  · subst e; simp [hi]
  · rw [if_neg e, if_neg (fun h => e h.symm)]
theorem hg_sw (l : List Int) (i j k : Nat) (hi : i < l.length) (hj : j < l.length) : hg (sw l i j) k = if k = j then hg l i else if k = i then hg l j else hg l k := by
  unfold sw
  rw [hg_set _ _ _ _ (by simpa using hj), hg_set _ _ _ _ hi]
/-- the first n are a heap -/
def Hp (l : List Int) (n : Nat) : Prop := ∀ k, 0 < k → k < n → hg l ((k - 1) / 2) ≤ hg l k
/-- .. but for the one at j, which may be too small -/
def UpI (l : List Int) (j n : Nat) : Prop := (∀ k, 0 < k → k < n → k ≠ j → hg l ((k - 1) / 2) ≤ hg l k) ∧ (∀ k, 0 < k → k < n → (k - 1) / 2 = j → 0 < j → hg l ((j - 1) / 2) ≤ hg l k)
/-- .. but for the one at i, which may be too great -/
def DnI (l : List Int) (i n : Nat) : Prop := (∀ k, 0 < k → k < n → (k - 1) / 2 ≠ i → hg l ((k - 1) / 2) ≤ hg l k) ∧ (∀ k, 0 < k → k < n → (k - 1) / 2 = i → 0 < i → hg l ((i - 1) / 2) ≤ hg l k)
theorem UpI.done {l : List Int} {j n : Nat} (h : UpI l j n) (hj : j = 0 ∨ hg l ((j - 1) / 2) ≤ hg l j) : Hp l n := by
  intro k h0 hk
  by_cases e : k = j
  · subst e
    rcases hj with hj | hj
    · omega
    · exact hj
  · exact h.1 k h0 hk e
theorem UpI.swap {l : List Int} {j n : Nat} (h : UpI l j n) (hn : n ≤ l.length) (hj : 0 < j) (hjn : j < n) (hlt : hg l j < hg l ((j - 1) / 2)) : UpI (sw l ((j - 1) / 2) j) ((j - 1) / 2) n := by
  have hi : (j - 1) / 2 < j := by omega
  refine ⟨fun k h0 hk hne => ?_, fun k h0 hk hp hi0 => ?_⟩
  · rw [hg_sw _ _ _ _ (by omega) (by omega), hg_sw _ _ _ _ (by omega) (by omega)]
    by_cases e : k = j
    · subst e
      rw [if_neg (by omega), if_pos rfl, if_pos rfl]
      omega
    · rw [if_neg e, if_neg hne]
      by_cases e2 : (k - 1) / 2 = j
      · rw [if_pos e2]
        exact h.2 k h0 hk e2 hj
      · rw [if_neg e2]
        by_cases e3 : (k - 1) / 2 = (j - 1) / 2
        · rw [if_pos e3]
          have := h.1 k h0 hk e
          rw [e3] at this
          omega
        · rw [if_neg e3]
          exact h.1 k h0 hk e
  · rw [hg_sw _ _ _ _ (by omega) (by omega), hg_sw _ _ _ _ (by omega) (by omega)]
    rw [if_neg (by omega), if_neg (by omega)]
    have hup := h.1 ((j - 1) / 2) hi0 (by omega) (by omega)
    by_cases e : k = j
    · rw [if_pos e]
      exact hup
    · rw [if_neg e, if_neg (by omega)]
      have := h.1 k h0 hk e
      rw [hp] at this
      omega
theorem DnI.done {l : List Int} {i n : Nat} (h : DnI l i n) (hj : ∀ k, 0 < k → k < n → (k - 1) / 2 = i → hg l i ≤ hg l k) : Hp l n := by
  intro k h0 hk
  by_cases e : (k - 1) / 2 = i
  · rw [e]; exact hj k h0 hk e
  · exact h.1 k h0 hk e
theorem DnI.swap {l : List Int} {i j n : Nat} (h : DnI l i n) (hn : n ≤ l.length) (hj0 : 0 < j) (hjn : j < n) (hp : (j - 1) / 2 = i) (hlt : hg l j < hg l i) (hmin : ∀ k, 0 < k → k < n → (k - 1) / 2 = i → hg l j ≤ hg l k) : DnI (sw l i j) j n := by
  have hij : i < j := by omega
  refine ⟨fun k h0 hk hne => ?_, fun k h0 hk hpk hj => ?_⟩
  · rw [hg_sw _ _ _ _ (by omega) (by omega), hg_sw _ _ _ _ (by omega) (by omega), if_neg hne]
    by_cases e : k = j
    · subst e
      rw [if_pos hp, if_pos rfl]
      omega
    · rw [if_neg e]
      by_cases e2 : (k - 1) / 2 = i
      · rw [if_pos e2, if_neg (by omega)]
        exact hmin k h0 hk e2
      · rw [if_neg e2]
        by_cases e3 : k = i
        · subst e3
          rw [if_pos rfl]
          exact h.2 j hj0 hjn hp h0
        · rw [if_neg e3]
          exact h.1 k h0 hk e2
  · rw [hg_sw _ _ _ _ (by omega) (by omega), hg_sw _ _ _ _ (by omega) (by omega), hp, if_neg (by omega), if_pos rfl, if_neg (by omega), if_neg (by omega)]
    have := h.1 k h0 hk (by omega)
    rw [hpk] at this
    exact this
/-- the least one lies ahead -/
theorem Hp.least {l : List Int} {n : Nat} (h : Hp l n) : ∀ k, k < n → hg l 0 ≤ hg l k := by
  intro k
  induction k using Nat.strongRecOn with
  | _ k ih =>
    intro hk
    by_cases e : k = 0
    · subst e; exact Int.le_refl _
    · have h1 := h k (by omega) hk
      have h2 := ih ((k - 1) / 2) (by omega) (by omega)
      omega
theorem sw_perm (l : List Int) (i j : Nat) (hi : i < l.length) (hj : j < l.length) : (sw l i j).Perm l := by
  rw [List.perm_iff_count]
  intro a
  unfold sw
  have ei : hg l i = l[i] := by simp [hg, hi]
  have ej : hg l j = l[j] := by simp [hg, hj]
  rw [ei, ej]
  by_cases e : i = j
  · subst e
    simp
  · rw [List.count_set (by simpa using hj), List.getElem_set_ne e, List.count_set hi]
    have c1 : (if l[i] = a then 1 else 0) ≤ l.count a := by
      split
      · next h => rw [← h]; exact List.count_pos_iff.2 (List.getElem_mem hi)
      · omega
    have c2 : (if l[j] = a then 1 else 0) ≤ l.count a := by
      split
      · next h => rw [← h]; exact List.count_pos_iff.2 (List.getElem_mem hj)
      · omega
    simp only [beq_iff_eq]
    split <;> split <;> simp_all <;> omega
theorem hg_app (l m : List Int) (k : Nat) (h : k < l.length) : hg (l ++ m) k = hg l k := by
  unfold hg
  rw [List.getD, List.getD, List.getElem?_append_left h]
/-- one more at the end -/
theorem Hp.push {l : List Int} (h : Hp l l.length) (x : Int) : UpI (l ++ [x]) l.length (l.length + 1) := by
  refine ⟨fun k h0 hk hne => ?_, fun k h0 hk hp h1 => by omega⟩
  rw [hg_app _ _ _ (by omega), hg_app _ _ _ (by omega)]
  exact h k h0 (by omega)
/-- the first and the last one have changed places -/
theorem Hp.pop {l : List Int} {n : Nat} (h : Hp l (n + 1)) (hn : l.length = n + 1) : DnI (sw l 0 n) 0 n := by
  refine ⟨fun k h0 hk hne => ?_, fun k h0 hk hp h1 => by omega⟩
  rw [hg_sw _ _ _ _ (by omega) (by omega), hg_sw _ _ _ _ (by omega) (by omega), if_neg (by omega), if_neg hne, if_neg (by omega), if_neg (by omega)]
  exact h k h0 (by omega)
theorem hg_take (l : List Int) (n k : Nat) (h : k < n) : hg (l.take n) k = hg l k := by
  unfold hg
  rw [List.getD, List.getD, List.getElem?_take, if_pos h]
/-- what is left when the last one is taken off -/
theorem pop_end {l m : List Int} {n : Nat} (hn : l.length = n + 1) (hm : m.Perm l) (hl : hg m n = hg l 0) (hp : Hp m n) : Hp (m.take n) n ∧ l.Perm (hg l 0 :: m.take n) ∧ (m.take n).length = n := by
  have hml : m.length = n + 1 := by rw [hm.length_eq, hn]
  refine ⟨fun k h0 hk => ?_, ?_, by rw [List.length_take]; omega⟩
  · rw [hg_take _ _ _ (by omega), hg_take _ _ _ hk]
    exact hp k h0 hk
  · refine hm.symm.trans ?_
    have e : m = m.take n ++ [hg l 0] := by
      have h1 : n < m.length := by omega
      rw [← hl]
      have h2 := List.take_append_drop n m
      rw [List.drop_eq_getElem_cons h1, List.drop_eq_nil_of_le (by omega)] at h2
      have h3 : m[n] = hg m n := by simp [hg, h1]
      rw [h3] at h2
      exact h2.symm
    exact (List.Perm.of_eq e).trans List.perm_append_comm
/-- the one that is taken off is the least -/
theorem Hp.first {l s : List Int} (h : Hp l l.length) (hs : l.Perm s) (h0 : 0 < l.length) : hg l 0 ∈ s ∧ ∀ x ∈ s, hg l 0 ≤ x := by
  refine ⟨hs.subset ?_, fun x hx => ?_⟩
  · have : hg l 0 = l[0] := by simp [hg, h0]
    rw [this]
    exact List.getElem_mem h0
  · obtain ⟨i, hi, e⟩ := List.getElem_of_mem (hs.symm.subset hx)
    have := h.least i hi
    have e2 : hg l i = l[i] := by simp [hg, hi]
    rw [e2, e] at this
    exact this
end Go.Proofs.Ythheekneanhmkaa
