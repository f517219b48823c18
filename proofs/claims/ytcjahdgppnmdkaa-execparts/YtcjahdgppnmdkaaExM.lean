/- Package exec: turns, and a heap of turns in a list (package container/heap): pure. -/
import Derived.Test.YtcjahdgppnmdkaaGnO
set_option maxRecDepth 100000
namespace Go.Proofs.Ytcjahdgppnmdkaa
open Go.RowKit Go.Great

/-- a turn: its tick, its job's rank, number and period -/
structure Tu where
  tk : Int
  rk : Int
  nu : Int
  pe : Int
def z0 : Tu := ⟨0, 0, 0, 0⟩
/-- what is lesser goes ahead: by tick, rank and number -/
def ky (t : Tu) : Int := t.tk * 1361129467683753853853498429727072845824 + t.rk * 36893488147419103232 + t.nu
structure TOk (t : Tu) : Prop where
  t0 : 0 ≤ t.tk
  t1 : t.tk ≤ 9223372036854775807
  r0 : -9223372036854775808 ≤ t.rk
  r1 : t.rk ≤ 9223372036854775807
  n0 : 0 ≤ t.nu
  n1 : t.nu < 64
  p0 : 1 ≤ t.pe
  p1 : t.pe ≤ 9223372036854775807
/-- what 'against' answers -/
def cm (x y : Int) : Int := if x < y then -1 else if y < x then 1 else 0
def ag (a b : Tu) : Int := if cm a.tk b.tk ≠ 0 then cm a.tk b.tk else if cm a.rk b.rk ≠ 0 then cm a.rk b.rk else cm a.nu b.nu
theorem cm_cases (x y : Int) : (x < y ∧ cm x y = -1) ∨ (y < x ∧ cm x y = 1) ∨ (x = y ∧ cm x y = 0) := by
  unfold cm
  by_cases h : x < y
  · exact .inl ⟨h, by rw [if_pos h]⟩
  · by_cases h2 : y < x
    · exact .inr (.inl ⟨h2, by rw [if_neg h, if_pos h2]⟩)
    · exact .inr (.inr ⟨by omega, by rw [if_neg h, if_neg h2]⟩)
theorem ag_lt {a b : Tu} (ha : TOk a) (hb : TOk b) : decide (ag a b < 0) = decide (ky a < ky b) := by
  obtain ⟨_, _, a3, a4, a5, a6, _, _⟩ := ha
  obtain ⟨_, _, b3, b4, b5, b6, _, _⟩ := hb
  rw [decide_eq_decide]
  unfold ag ky
  rcases cm_cases a.tk b.tk with ⟨h1, e1⟩ | ⟨h1, e1⟩ | ⟨h1, e1⟩ <;> rw [e1]
  · rw [if_pos (by decide)]; omega
  · rw [if_pos (by decide)]; omega
  · rw [if_neg (by decide)]
    rcases cm_cases a.rk b.rk with ⟨h2, e2⟩ | ⟨h2, e2⟩ | ⟨h2, e2⟩ <;> rw [e2]
    · rw [if_pos (by decide)]; omega
    · rw [if_pos (by decide)]; omega
    · rw [if_neg (by decide)]
      rcases cm_cases a.nu b.nu with ⟨h3, e3⟩ | ⟨h3, e3⟩ | ⟨h3, e3⟩ <;> rw [e3] <;> omega
def te (l : List Tu) (i : Nat) : Tu := l.getD i z0
def hg (l : List Tu) (i : Nat) : Int := ky (te l i)
/-- two of a list change places -/
def sw (l : List Tu) (i j : Nat) : List Tu := (l.set i (te l j)).set j (te l i)
theorem sw_len (l : List Tu) (i j : Nat) : (sw l i j).length = l.length := by simp [sw]
theorem te_get {l : List Tu} {i : Nat} (h : i < l.length) : te l i = l[i] := by simp [te, h]
theorem te_mem {l : List Tu} {i : Nat} (h : i < l.length) : te l i ∈ l := by rw [te_get h]; exact List.getElem_mem h
theorem te_set (l : List Tu) (i k : Nat) (v : Tu) (hi : i < l.length) : te (l.set i v) k = if k = i then v else te l k := by
  unfold te
  rw [List.getD, List.getD, List.getElem?_set]
  by_cases e : i = k
  · subst e; simp [hi]
  · rw [if_neg e, if_neg (fun h => e h.symm)]
theorem te_sw (l : List Tu) (i j k : Nat) (hi : i < l.length) (hj : j < l.length) : te (sw l i j) k = if k = j then te l i else if k = i then te l j else te l k := by
  unfold sw
  rw [te_set _ _ _ _ (by simpa using hj), te_set _ _ _ _ hi]
theorem hg_sw (l : List Tu) (i j k : Nat) (hi : i < l.length) (hj : j < l.length) : hg (sw l i j) k = if k = j then hg l i else if k = i then hg l j else hg l k := by
  unfold hg
  rw [te_sw l i j k hi hj]
  split
  · rfl
  · split <;> rfl
/-- the first n are a heap -/
def Hp (l : List Tu) (n : Nat) : Prop := ∀ k, 0 < k → k < n → hg l ((k - 1) / 2) ≤ hg l k
/-- .. but for the one at j, which may be too small -/
def UpI (l : List Tu) (j n : Nat) : Prop := (∀ k, 0 < k → k < n → k ≠ j → hg l ((k - 1) / 2) ≤ hg l k) ∧ (∀ k, 0 < k → k < n → (k - 1) / 2 = j → 0 < j → hg l ((j - 1) / 2) ≤ hg l k)
/-- .. but for the one at i, which may be too great -/
def DnI (l : List Tu) (i n : Nat) : Prop := (∀ k, 0 < k → k < n → (k - 1) / 2 ≠ i → hg l ((k - 1) / 2) ≤ hg l k) ∧ (∀ k, 0 < k → k < n → (k - 1) / 2 = i → 0 < i → hg l ((i - 1) / 2) ≤ hg l k)
theorem UpI.done {l : List Tu} {j n : Nat} (h : UpI l j n) (hj : j = 0 ∨ hg l ((j - 1) / 2) ≤ hg l j) : Hp l n := by
  intro k h0 hk
  by_cases e : k = j
  · subst e
    rcases hj with hj | hj
    · omega
    · exact hj
  · exact h.1 k h0 hk e
theorem UpI.swap {l : List Tu} {j n : Nat} (h : UpI l j n) (hn : n ≤ l.length) (hj : 0 < j) (hjn : j < n) (hlt : hg l j < hg l ((j - 1) / 2)) : UpI (sw l ((j - 1) / 2) j) ((j - 1) / 2) n := by
  have hi : (j - 1) / 2 < j := by omega
  refine ⟨fun k h0 hk hne => ?_, fun k h0 hk hp hi0 => ?_⟩
  · rw [hg_sw _ _ _ _ (by omega) (by omega), hg_sw _ _ _ _ (by omega) (by omega)]
    by_cases e : k = j
    · subst e
      rw [if_neg (by omega), if_pos rfl, if_pos rfl]
      omega
    · rw [if_neg e, if_neg hne]
      by_cases e2 : (k - 1) / 2 = j
      · rw [if_pos e2]
        exact h.2 k h0 hk e2 hj
      · rw [if_neg e2]
        by_cases e3 : (k - 1) / 2 = (j - 1) / 2
        · rw [if_pos e3]
          have := h.1 k h0 hk e
          rw [e3] at this
          omega
        · rw [if_neg e3]
          exact h.1 k h0 hk e
  · rw [hg_sw _ _ _ _ (by omega) (by omega), hg_sw _ _ _ _ (by omega) (by omega)]
    rw [if_neg (by omega), if_neg (by omega)]
    have hup := h.1 ((j - 1) / 2) hi0 (by omega) (by omega)
    by_cases e : k = j
    · rw [if_pos e]
      exact hup
    · rw [if_neg e, if_neg (by omega)]
      have := h.1 k h0 hk e
      rw [hp] at this
      omega
theorem DnI.done {l : List Tu} {i n : Nat} (h : DnI l i n) (hj : ∀ k, 0 < k → k < n → (k - 1) / 2 = i → hg l i ≤ hg l k) : Hp l n := by
  intro k h0 hk
  by_cases e : (k - 1) / 2 = i
  · rw [e]; exact hj k h0 hk e
  · exact h.1 k h0 hk e
theorem DnI.swap {l : List Tu} {i j n : Nat} (h : DnI l i n) (hn : n ≤ l.length) (hj0 : 0 < j) (hjn : j < n) (hp : (j - 1) / 2 = i) (hlt : hg l j < hg l i) (hmin : ∀ k, 0 < k → k < n → (k - 1) / 2 = i → hg l j ≤ hg l k) : DnI (sw l i j) j n := by
  have hij : i < j := by omega
  refine ⟨fun k h0 hk hne => ?_, fun k h0 hk hpk hj => ?_⟩
  · rw [hg_sw _ _ _ _ (by omega) (by omega), hg_sw _ _ _ _ (by omega) (by omega), if_neg hne]
    by_cases e : k = j
    · subst e
      rw [if_pos hp, if_pos rfl]
      omega
    · rw [if_neg e]
      by_cases e2 : (k - 1) / 2 = i
      · rw [if_pos e2, if_neg (by omega)]
        exact hmin k h0 hk e2
      · rw [if_neg e2]
        by_cases e3 : k = i
        · subst e3
          rw [if_pos rfl]
          exact h.2 j hj0 hjn hp h0
        · rw [if_neg e3]
          exact h.1 k h0 hk e2
  · rw [hg_sw _ _ _ _ (by omega) (by omega), hg_sw _ _ _ _ (by omega) (by omega), hp, if_neg (by omega), if_pos rfl, if_neg (by omega), if_neg (by omega)]
    have := h.1 k h0 hk (by omega)
    rw [hpk] at this
    exact this
/-- the least one lies ahead -/
theorem Hp.least {l : List Tu} {n : Nat} (h : Hp l n) : ∀ k, k < n → hg l 0 ≤ hg l k := by
  intro k
  induction k using Nat.strongRecOn with
  | _ k ih =>
    intro hk
    by_cases e : k = 0
    · subst e; exact Int.le_refl _
    · have h1 := h k (by omega) hk
      have h2 := ih ((k - 1) / 2) (by omega) (by omega)
      omega
theorem sw_perm (l : List Tu) (i j : Nat) (hi : i < l.length) (hj : j < l.length) : (sw l i j).Perm l := by
  classical
  rw [List.perm_iff_count]
  intro a
  unfold sw
  have ei : te l i = l[i] := te_get hi
  have ej : te l j = l[j] := te_get hj
  rw [ei, ej]
  by_cases e : i = j
  · subst e
    simp
  · rw [List.count_set (by simpa using hj), List.getElem_set_ne e, List.count_set hi]
    have c1 : (if l[i] = a then 1 else 0) ≤ l.count a := by
      split
      · next h => rw [← h]; exact List.count_pos_iff.2 (List.getElem_mem hi)
      · omega
    have c2 : (if l[j] = a then 1 else 0) ≤ l.count a := by
      split
      · next h => rw [← h]; exact List.count_pos_iff.2 (List.getElem_mem hj)
      · omega
    simp only [beq_iff_eq]
    split <;> split <;> simp_all <;> omega
theorem hg_app (l m : List Tu) (k : Nat) (h : k < l.length) : hg (l ++ m) k = hg l k := by
  unfold hg te
  rw [List.getD, List.getD, List.getElem?_append_left h]
/-- one more at the end -/
theorem Hp.push {l : List Tu} (h : Hp l l.length) (x : Tu) : UpI (l ++ [x]) l.length (l.length + 1) := by
  refine ⟨fun k h0 hk hne => ?_, fun k h0 hk hp h1 => by omega⟩
  rw [hg_app _ _ _ (by omega), hg_app _ _ _ (by omega)]
  exact h k h0 (by omega)
/-- the first and the last one have changed places -/
theorem Hp.pop {l : List Tu} {n : Nat} (h : Hp l (n + 1)) (hn : l.length = n + 1) : DnI (sw l 0 n) 0 n := by
  refine ⟨fun k h0 hk hne => ?_, fun k h0 hk hp h1 => by omega⟩
  rw [hg_sw _ _ _ _ (by omega) (by omega), hg_sw _ _ _ _ (by omega) (by omega), if_neg (by omega), if_neg hne, if_neg (by omega), if_neg (by omega)]
  exact h k h0 (by omega)
theorem hg_take (l : List Tu) (n k : Nat) (h : k < n) : hg (l.take n) k = hg l k := by
  unfold hg te
  rw [List.getD, List.getD, List.getElem?_take, if_pos h]
/-- what is left when the last one is taken off -/
theorem pop_end {l m : List Tu} {n : Nat} (hn : l.length = n + 1) (hm : m.Perm l) (hl : te m n = te l 0) (hp : Hp m n) : Hp (m.take n) n ∧ l.Perm (te l 0 :: m.take n) ∧ (m.take n).length = n := by
  have hml : m.length = n + 1 := by rw [hm.length_eq, hn]
  refine ⟨fun k h0 hk => ?_, ?_, by rw [List.length_take]; omega⟩
  · rw [hg_take _ _ _ (by omega), hg_take _ _ _ hk]
    exact hp k h0 hk
  · refine hm.symm.trans ?_
    have e : m = m.take n ++ [te l 0] := by
      have h1 : n < m.length := by omega
      rw [← hl]
      have h2 := List.take_append_drop n m
      rw [List.drop_eq_getElem_cons h1, List.drop_eq_nil_of_le (by omega)] at h2
      have h3 : m[n] = te m n := (te_get h1).symm
      rw [h3] at h2
      exact h2.symm
    exact (List.Perm.of_eq e).trans List.perm_append_comm
/-- the one that is taken off is the least -/
theorem Hp.first {l s : List Tu} (h : Hp l l.length) (hs : l.Perm s) (h0 : 0 < l.length) : te l 0 ∈ s ∧ ∀ x ∈ s, hg l 0 ≤ ky x := by
  refine ⟨hs.subset (te_mem h0), fun x hx => ?_⟩
  obtain ⟨i, hi, e⟩ := List.getElem_of_mem (hs.symm.subset hx)
  have := h.least i hi
  unfold hg at this ⊢
  rw [te_get hi, e] at this
  exact this
end Go.Proofs.Ytcjahdgppnmdkaa
