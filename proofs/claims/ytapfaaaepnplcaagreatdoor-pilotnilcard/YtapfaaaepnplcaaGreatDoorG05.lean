/- FrM, HpM, Pa1, Pa2, Pa3, Pr1, Pr2, Kq1, Kq2. -/
import Derived.Test.YtapfaaaepnplcaaGreatDoorG03
import Derived.Test.YtapfaaaepnplcaaGreatDoorG02
import Derived.OwnWalk
set_option maxRecDepth 100000
namespace Go.Proofs.YtapfaaaepnplcaaGreatDoor
/-- a frame: its Seq, its ID, its payload -/
abbrev Fr := Int × Int × ByteArray
/-- a frame's check: of its length, Seq, ID and payload, and the ID besides -/
def chk_FrM (l : List UInt8) (i : UInt8) : BitVec 16 := cadd (cadds 65535#16 l) (7 * i + 31)
/-- a frame's bytes -/
def encL (n s i : UInt8) (p : List UInt8) : List UInt8 := 253 :: n :: s :: i :: (p ++ [lowB (chk_FrM (n :: s :: i :: p) i), highB (chk_FrM (n :: s :: i :: p) i)])
def encF (f : Fr) : List UInt8 := encL (UInt8.ofNat f.2.2.size) (UInt8.ofNat f.1.toNat) (UInt8.ofNat f.2.1.toNat) f.2.2.data.toList
/-- a frame that Encode writes -/
def Right (f : Fr) : Prop := 0 ≤ f.1 ∧ f.1 ≤ 255 ∧ 0 ≤ f.2.1 ∧ f.2.1 ≤ 255 ∧ f.2.2.size ≤ 64
theorem encL_length (n s i : UInt8) (p : List UInt8) : (encL n s i p).length = 6 + p.length := by
  simp [encL]; omega
theorem encF_length (f : Fr) : (encF f).length = 6 + f.2.2.size := by
  rw [encF, encL_length]; simp
def word (a b : UInt8) : BitVec 16 := BitVec.ofNat 16 (a.toNat + 256 * b.toNat)
theorem word_nat (a b : UInt8) : (word a b).toNat = a.toNat + 256 * b.toNat := by
  have := a.toNat_lt
  have := b.toNat_lt
  rw [word, BitVec.toNat_ofNat]; omega
theorem word_both (c : BitVec 16) : word (lowB c) (highB c) = c := by
  apply BitVec.eq_of_toNat_eq
  rw [word_nat, lowB_nat, highB_nat]; omega
theorem word_low (a b : UInt8) : lowB (word a b) = a := by
  apply UInt8.toNat_inj.1
  have := a.toNat_lt
  rw [lowB_nat, word_nat]; omega
theorem word_high (a b : UInt8) : highB (word a b) = b := by
  apply UInt8.toNat_inj.1
  have := a.toNat_lt
  have := b.toNat_lt
  rw [highB_nat, word_nat]; omega
def lenB (l : List UInt8) : Nat := (l.getD 1 0).toNat
def goodB (l : List UInt8) : Bool := chk_FrM ((l.drop 1).take (3 + lenB l)) (l.getD 3 0) == word (l.getD (4 + lenB l) 0) (l.getD (5 + lenB l) 0)
def frB (l : List UInt8) : Fr := (((l.getD 2 0).toNat : Int), ((l.getD 3 0).toNat : Int), ⟨((l.drop 4).take (lenB l)).toArray⟩)
/-- one step of the reading -/
def step : List UInt8 → Option (Option Fr × Nat × List UInt8)
  | [] => none
  | x :: t =>
    if x = 253 then
      if t.length = 0 then none
      else if 64 < lenB (x :: t) then some (none, 1, t)
      else if (x :: t).length < 6 + lenB (x :: t) then none
      else if goodB (x :: t) = true then some (some (frB (x :: t)), 0, (x :: t).drop (6 + lenB (x :: t)))
      else some (none, 1, t)
    else some (none, 0, t)
theorem step_cons (x : UInt8) (t : List UInt8) : step (x :: t) =
    if x = 253 then
      if t.length = 0 then none
      else if 64 < lenB (x :: t) then some (none, 1, t)
      else if (x :: t).length < 6 + lenB (x :: t) then none
      else if goodB (x :: t) = true then some (some (frB (x :: t)), 0, (x :: t).drop (6 + lenB (x :: t)))
      else some (none, 1, t)
    else some (none, 0, t) := rfl
def rdF : Nat → List UInt8 → List Fr × Nat × List UInt8
  | 0, l => ([], 0, l)
  | k + 1, l =>
    match step l with
    | none => ([], 0, l)
    | some (f, b, l') => (f.toList ++ (rdF k l').1, b + (rdF k l').2.1, (rdF k l').2.2)
/-- what is read of a row: the good frames, how many are bad, what is held -/
def rd_FrM (l : List UInt8) : List Fr × Nat × List UInt8 := rdF l.length l
theorem step_shorter {l : List UInt8} {f : Option Fr} {b : Nat} {m : List UInt8} (h : step l = some (f, b, m)) : m.length < l.length := by
  cases l with
  | nil => simp [step] at h
  | cons x t =>
    rw [step_cons] at h
    split at h
    · split at h
      · cases h
      · split at h
        · cases h; simp
        · split at h
          · cases h
          · split at h
            · cases h; simp at *; omega
            · cases h; simp
    · cases h; simp
theorem rdF_more : ∀ (n k : Nat) (l : List UInt8), l.length ≤ n → l.length ≤ k → rdF k l = rdF l.length l := by
  intro n
  induction n with
  | zero =>
    intro k l h _
    have : l = [] := List.eq_nil_of_length_eq_zero (by omega)
    subst this
    cases k <;> simp [rdF, step]
  | succ n ih =>
    intro k l h hk
    cases k with
    | zero =>
      have : l.length = 0 := by omega
      rw [this]
    | succ k =>
      cases hl : l.length with
      | zero =>
        have : l = [] := List.eq_nil_of_length_eq_zero hl
        subst this
        simp [rdF, step]
      | succ j =>
        simp only [rdF]
        cases hs : step l with
        | none => rfl
        | some v =>
          obtain ⟨f, b, m⟩ := v
          have := step_shorter hs
          simp only []
          rw [ih k m (by omega) (by omega), ih j m (by omega) (by omega)]
theorem rd_stop {l : List UInt8} (h : step l = none) : rd_FrM l = ([], 0, l) := by
  unfold rd_FrM
  cases hl : l.length with
  | zero => rfl
  | succ k => simp only [rdF, h]
theorem rd_step {l m : List UInt8} {f : Option Fr} {b : Nat} (h : step l = some (f, b, m)) : rd_FrM l = (f.toList ++ (rd_FrM m).1, b + (rd_FrM m).2.1, (rd_FrM m).2.2) := by
  have hs := step_shorter h
  unfold rd_FrM
  cases hl : l.length with
  | zero => omega
  | succ k =>
    simp only [rdF, h]
    rw [rdF_more m.length k m (Nat.le_refl _) (by omega)]
theorem getD_app (l m : List UInt8) (i : Nat) (h : i < l.length) : (l ++ m).getD i 0 = l.getD i 0 := by
  simp [List.getD, List.getElem?_append_left h]
theorem step_app {l m k : List UInt8} {f : Option Fr} {b : Nat} (h : step l = some (f, b, k)) : step (l ++ m) = some (f, b, k ++ m) := by
  cases l with
  | nil => simp [step] at h
  | cons x t =>
    rw [step_cons] at h
    split at h
    · rename_i hx
      split at h
      · cases h
      · rename_i ht
        have hlen : lenB (x :: (t ++ m)) = lenB (x :: t) := by
          unfold lenB
          rw [← List.cons_append, getD_app _ _ _ (by simp; omega)]
        have ht' : ¬ (t ++ m).length = 0 := by rw [List.length_append]; omega
        rw [List.cons_append]
        rw [step_cons]
        rw [if_pos hx, if_neg ht', hlen]
        split at h
        · rename_i g
          cases h
          rw [if_pos g]
        · rename_i g
          rw [if_neg g]
          split at h
          · cases h
          · rename_i g2
            have g2' : ¬ (x :: (t ++ m)).length < 6 + lenB (x :: t) := by simp at g2 ⊢; omega
            rw [if_neg g2']
            have hgood : goodB (x :: (t ++ m)) = goodB (x :: t) := by
              unfold goodB
              rw [hlen, ← List.cons_append, getD_app _ _ _ (by simp at g2 ⊢; omega), getD_app _ _ _ (by simp at g2 ⊢; omega), getD_app _ _ _ (by simp at g2 ⊢; omega)]
              rw [List.cons_append, List.drop_succ_cons, List.drop_zero, List.drop_succ_cons, List.drop_zero, List.take_append_of_le_length (by simp at g2; omega)]
            rw [hgood]
            split at h
            · rename_i g3
              cases h
              rw [if_pos g3]
              congr 1
              refine Prod.ext ?_ (Prod.ext rfl ?_)
              · show some (frB (x :: (t ++ m))) = some (frB (x :: t))
                unfold frB
                rw [hlen, ← List.cons_append, getD_app _ _ _ (by simp at g2 ⊢; omega), getD_app _ _ _ (by simp at g2 ⊢; omega)]
                rw [List.drop_append_of_le_length (by simp at g2 ⊢; omega), List.take_append_of_le_length (by simp at g2 ⊢; omega)]
              · show (x :: (t ++ m)).drop _ = (x :: t).drop _ ++ m
                rw [← List.cons_append, List.drop_append_of_le_length (by simp at g2 ⊢; omega)]
            · rename_i g3
              cases h
              rw [if_neg g3]
    · rename_i hx
      cases h
      rw [List.cons_append]
      rw [step_cons]
      rw [if_neg hx]
/-- in what pieces bytes come does not matter -/
theorem rd_app : ∀ (n : Nat) (l m : List UInt8), l.length ≤ n → rd_FrM (l ++ m) = ((rd_FrM l).1 ++ (rd_FrM ((rd_FrM l).2.2 ++ m)).1, (rd_FrM l).2.1 + (rd_FrM ((rd_FrM l).2.2 ++ m)).2.1, (rd_FrM ((rd_FrM l).2.2 ++ m)).2.2) := by
  intro n
  induction n with
  | zero =>
    intro l m h
    have : l = [] := List.eq_nil_of_length_eq_zero (by omega)
    subst this
    rw [rd_stop (l := []) rfl]
    simp
  | succ n ih =>
    intro l m h
    cases hs : step l with
    | none => rw [rd_stop hs]; simp
    | some v =>
      obtain ⟨f, b, k⟩ := v
      have := step_shorter hs
      rw [rd_step hs, rd_step (step_app hs), ih k m (by omega)]
      simp [List.append_assoc, Nat.add_assoc]
theorem rd_more (l m : List UInt8) : rd_FrM (l ++ m) = ((rd_FrM l).1 ++ (rd_FrM ((rd_FrM l).2.2 ++ m)).1, (rd_FrM l).2.1 + (rd_FrM ((rd_FrM l).2.2 ++ m)).2.1, (rd_FrM ((rd_FrM l).2.2 ++ m)).2.2) := rd_app l.length l m (Nat.le_refl _)
theorem step_held {l : List UInt8} (h : step l = none) : l.length ≤ 69 := by
  cases l with
  | nil => simp
  | cons x t =>
    rw [step_cons] at h
    split at h
    · split at h
      · rename_i ht
        rw [List.length_cons]; omega
      · split at h
        · cases h
        · split at h
          · omega
          · split at h <;> cases h
    · cases h
/-- an induction along the reading -/
theorem rd_ind {p : List UInt8 → Prop} (h0 : ∀ l, step l = none → p l) (h1 : ∀ l f b m, step l = some (f, b, m) → p m → p l) (l : List UInt8) : p l := by
  have : ∀ (n : Nat) (l : List UInt8), l.length ≤ n → p l := by
    intro n
    induction n with
    | zero =>
      intro l h
      have : l = [] := List.eq_nil_of_length_eq_zero (by omega)
      subst this
      exact h0 _ rfl
    | succ n ih =>
      intro l h
      cases hs : step l with
      | none => exact h0 _ hs
      | some v =>
        obtain ⟨f, b, k⟩ := v
        have := step_shorter hs
        exact h1 _ _ _ _ hs (ih k (by omega))
  exact this l.length l (Nat.le_refl _)
theorem rd_held (l : List UInt8) : (rd_FrM l).2.2.length ≤ 69 := by
  refine rd_ind (p := fun l => (rd_FrM l).2.2.length ≤ 69) ?_ ?_ l
  · intro l h
    rw [rd_stop h]; exact step_held h
  · intro l f b m h ih
    rw [rd_step h]; exact ih
theorem rd_again (l : List UInt8) : step (rd_FrM l).2.2 = none := by
  refine rd_ind (p := fun l => step (rd_FrM l).2.2 = none) ?_ ?_ l
  · intro l h
    rw [rd_stop h]; exact h
  · intro l f b m h ih
    rw [rd_step h]; exact ih
theorem step_good {l m : List UInt8} {f : Fr} {b : Nat} (h : step l = some (some f, b, m)) : b = 0 ∧ l.length = 6 + f.2.2.size + m.length ∧ f = frB l ∧ goodB l = true ∧ lenB l ≤ 64 ∧ 6 + lenB l ≤ l.length ∧ m = l.drop (6 + lenB l) ∧ l.getD 0 0 = 253 := by
  cases l with
  | nil => simp [step] at h
  | cons x t =>
    rw [step_cons] at h
    split at h
    · split at h
      · cases h
      · split at h
        · cases h
        · split at h
          · cases h
          · split at h
            · rename_i hx _ h64 hlen hg
              injection h with h
              injection h with h1 h2
              injection h2 with h2 h3
              injection h1 with h1
              subst h1 h2 h3
              have e : (frB (x :: t)).2.2.size = lenB (x :: t) := by
                show (((x :: t).drop 4).take (lenB (x :: t))).toArray.size = _
                rw [List.size_toArray, List.length_take, List.length_drop]; omega
              refine ⟨rfl, ?_, rfl, hg, by omega, by omega, rfl, by simpa using hx⟩
              rw [e, List.length_drop]; omega
            · cases h
    · cases h
theorem rd_count (l : List UInt8) : 6 * (rd_FrM l).1.length + (rd_FrM l).2.1 + (rd_FrM l).2.2.length ≤ l.length := by
  refine rd_ind (p := fun l => 6 * (rd_FrM l).1.length + (rd_FrM l).2.1 + (rd_FrM l).2.2.length ≤ l.length) ?_ ?_ l
  · intro l h
    rw [rd_stop h]; simp
  · intro l f b m h ih
    have hs := step_shorter h
    rw [rd_step h]
    cases f with
    | none =>
      have : b ≤ 1 := by
        cases l with
        | nil => simp [step] at h
        | cons x t =>
          rw [step_cons] at h
          split at h
          · split at h
            · cases h
            · split at h
              · cases h; omega
              · split at h
                · cases h
                · split at h
                  · cases h
                  · cases h; omega
          · cases h; omega
      simp; omega
    | some f =>
      have := step_good h
      simp; omega
/-- what stands ahead of the next mark is passed over -/
theorem rd_drop (l : List UInt8) : rd_FrM (l.dropWhile (fun x => x != 253)) = rd_FrM l := by
  induction l with
  | nil => rfl
  | cons x t ih =>
    by_cases h : x = 253
    · subst h; simp
    · rw [List.dropWhile_cons_of_pos (by simpa using h), ih]
      have : step (x :: t) = some (none, 0, t) := by rw [step_cons]; rw [if_neg h]
      rw [rd_step this]; simp
end Go.Proofs.YtapfaaaepnplcaaGreatDoor
set_option maxRecDepth 100000
namespace Go.Proofs.YtapfaaaepnplcaaGreatDoor
open Go.RowKit Go.Great
def hg_HpM (l : List Int) (i : Nat) : Int := l.getD i 0
/-- two of a list change places -/
def sw_HpM (l : List Int) (i j : Nat) : List Int := (l.set i (hg_HpM l j)).set j (hg_HpM l i)
theorem sw_len_HpM (l : List Int) (i j : Nat) : (sw_HpM l i j).length = l.length := by simp [sw_HpM]
theorem hg_set (l : List Int) (i k : Nat) (v : Int) (hi : i < l.length) : hg_HpM (l.set i v) k = if k = i then v else hg_HpM l k := by
  unfold hg_HpM
  rw [List.getD, List.getD, List.getElem?_set]
  by_cases e : i = k
  · subst e; simp [hi]
  · rw [if_neg e, if_neg (fun h => e h.symm)]
theorem hg_sw_HpM (l : List Int) (i j k : Nat) (hi : i < l.length) (hj : j < l.length) : hg_HpM (sw_HpM l i j) k = if k = j then hg_HpM l i else if k = i then hg_HpM l j else hg_HpM l k := by
  unfold sw_HpM
  rw [hg_set _ _ _ _ (by simpa using hj), hg_set _ _ _ _ hi]
/-- the first n are a heap -/
def Hp_HpM (l : List Int) (n : Nat) : Prop := ∀ k, 0 < k → k < n → hg_HpM l ((k - 1) / 2) ≤ hg_HpM l k
/-- .. but for the one at j, which may be too small -/
def UpI_HpM (l : List Int) (j n : Nat) : Prop := (∀ k, 0 < k → k < n → k ≠ j → hg_HpM l ((k - 1) / 2) ≤ hg_HpM l k) ∧ (∀ k, 0 < k → k < n → (k - 1) / 2 = j → 0 < j → hg_HpM l ((j - 1) / 2) ≤ hg_HpM l k)
/-- .. but for the one at i, which may be too great -/
def DnI_HpM (l : List Int) (i n : Nat) : Prop := (∀ k, 0 < k → k < n → (k - 1) / 2 ≠ i → hg_HpM l ((k - 1) / 2) ≤ hg_HpM l k) ∧ (∀ k, 0 < k → k < n → (k - 1) / 2 = i → 0 < i → hg_HpM l ((i - 1) / 2) ≤ hg_HpM l k)
theorem UpI_HpM.done {l : List Int} {j n : Nat} (h : UpI_HpM l j n) (hj : j = 0 ∨ hg_HpM l ((j - 1) / 2) ≤ hg_HpM l j) : Hp_HpM l n := by
  intro k h0 hk
  by_cases e : k = j
  · subst e
    rcases hj with hj | hj
    · omega
    · exact hj
  · exact h.1 k h0 hk e
theorem UpI_HpM.swap {l : List Int} {j n : Nat} (h : UpI_HpM l j n) (hn : n ≤ l.length) (hj : 0 < j) (hjn : j < n) (hlt : hg_HpM l j < hg_HpM l ((j - 1) / 2)) : UpI_HpM (sw_HpM l ((j - 1) / 2) j) ((j - 1) / 2) n := by
  have hi : (j - 1) / 2 < j := by omega
  refine ⟨fun k h0 hk hne => ?_, fun k h0 hk hp hi0 => ?_⟩
  · rw [hg_sw_HpM _ _ _ _ (by omega) (by omega), hg_sw_HpM _ _ _ _ (by omega) (by omega)]
    by_cases e : k = j
    · subst e
      rw [if_neg (by omega), if_pos rfl, if_pos rfl]
      omega
    · rw [if_neg e, if_neg hne]
      by_cases e2 : (k - 1) / 2 = j
      · rw [if_pos e2]
        exact h.2 k h0 hk e2 hj
      · rw [if_neg e2]
        by_cases e3 : (k - 1) / 2 = (j - 1) / 2
        · rw [if_pos e3]
          have := h.1 k h0 hk e
          rw [e3] at this
          omega
        · rw [if_neg e3]
          exact h.1 k h0 hk e
  · rw [hg_sw_HpM _ _ _ _ (by omega) (by omega), hg_sw_HpM _ _ _ _ (by omega) (by omega)]
    rw [if_neg (by omega), if_neg (by omega)]
    have hup := h.1 ((j - 1) / 2) hi0 (by omega) (by omega)
    by_cases e : k = j
    · rw [if_pos e]
      exact hup
    · rw [if_neg e, if_neg (by omega)]
      have := h.1 k h0 hk e
      rw [hp] at this
      omega
theorem DnI_HpM.done {l : List Int} {i n : Nat} (h : DnI_HpM l i n) (hj : ∀ k, 0 < k → k < n → (k - 1) / 2 = i → hg_HpM l i ≤ hg_HpM l k) : Hp_HpM l n := by
  intro k h0 hk
  by_cases e : (k - 1) / 2 = i
  · rw [e]; exact hj k h0 hk e
  · exact h.1 k h0 hk e
theorem DnI_HpM.swap {l : List Int} {i j n : Nat} (h : DnI_HpM l i n) (hn : n ≤ l.length) (hj0 : 0 < j) (hjn : j < n) (hp : (j - 1) / 2 = i) (hlt : hg_HpM l j < hg_HpM l i) (hmin : ∀ k, 0 < k → k < n → (k - 1) / 2 = i → hg_HpM l j ≤ hg_HpM l k) : DnI_HpM (sw_HpM l i j) j n := by
  have hij : i < j := by omega
  refine ⟨fun k h0 hk hne => ?_, fun k h0 hk hpk hj => ?_⟩
  · rw [hg_sw_HpM _ _ _ _ (by omega) (by omega), hg_sw_HpM _ _ _ _ (by omega) (by omega), if_neg hne]
    by_cases e : k = j
    · subst e
      rw [if_pos hp, if_pos rfl]
      omega
    · rw [if_neg e]
      by_cases e2 : (k - 1) / 2 = i
      · rw [if_pos e2, if_neg (by omega)]
        exact hmin k h0 hk e2
      · rw [if_neg e2]
        by_cases e3 : k = i
        · subst e3
          rw [if_pos rfl]
          exact h.2 j hj0 hjn hp h0
        · rw [if_neg e3]
          exact h.1 k h0 hk e2
  · rw [hg_sw_HpM _ _ _ _ (by omega) (by omega), hg_sw_HpM _ _ _ _ (by omega) (by omega), hp, if_neg (by omega), if_pos rfl, if_neg (by omega), if_neg (by omega)]
    have := h.1 k h0 hk (by omega)
    rw [hpk] at this
    exact this
/-- the least one lies ahead -/
theorem Hp_HpM.least {l : List Int} {n : Nat} (h : Hp_HpM l n) : ∀ k, k < n → hg_HpM l 0 ≤ hg_HpM l k := by
  intro k
  induction k using Nat.strongRecOn with
  | _ k ih =>
    intro hk
    by_cases e : k = 0
    · subst e; exact Int.le_refl _
    · have h1 := h k (by omega) hk
      have h2 := ih ((k - 1) / 2) (by omega) (by omega)
      omega
theorem sw_perm_HpM (l : List Int) (i j : Nat) (hi : i < l.length) (hj : j < l.length) : (sw_HpM l i j).Perm l := by
  rw [List.perm_iff_count]
  intro a
  unfold sw_HpM
  have ei : hg_HpM l i = l[i] := by simp [hg_HpM, hi]
  have ej : hg_HpM l j = l[j] := by simp [hg_HpM, hj]
  rw [ei, ej]
  by_cases e : i = j
  · subst e
    simp
  · rw [List.count_set (by simpa using hj), List.getElem_set_ne e, List.count_set hi]
    have c1 : (if l[i] = a then 1 else 0) ≤ l.count a := by
      split
      · next h => rw [← h]; exact List.count_pos_iff.2 (List.getElem_mem hi)
      · omega
    have c2 : (if l[j] = a then 1 else 0) ≤ l.count a := by
      split
      · next h => rw [← h]; exact List.count_pos_iff.2 (List.getElem_mem hj)
      · omega
    simp only [beq_iff_eq]
    split <;> split <;> simp_all <;> omega
theorem hg_app_HpM (l m : List Int) (k : Nat) (h : k < l.length) : hg_HpM (l ++ m) k = hg_HpM l k := by
  unfold hg_HpM
  rw [List.getD, List.getD, List.getElem?_append_left h]
/-- one more at the end -/
theorem Hp_HpM.push {l : List Int} (h : Hp_HpM l l.length) (x : Int) : UpI_HpM (l ++ [x]) l.length (l.length + 1) := by
  refine ⟨fun k h0 hk hne => ?_, fun k h0 hk hp h1 => by omega⟩
  rw [hg_app_HpM _ _ _ (by omega), hg_app_HpM _ _ _ (by omega)]
  exact h k h0 (by omega)
/-- the first and the last one have changed places -/
theorem Hp_HpM.pop {l : List Int} {n : Nat} (h : Hp_HpM l (n + 1)) (hn : l.length = n + 1) : DnI_HpM (sw_HpM l 0 n) 0 n := by
  refine ⟨fun k h0 hk hne => ?_, fun k h0 hk hp h1 => by omega⟩
  rw [hg_sw_HpM _ _ _ _ (by omega) (by omega), hg_sw_HpM _ _ _ _ (by omega) (by omega), if_neg (by omega), if_neg hne, if_neg (by omega), if_neg (by omega)]
  exact h k h0 (by omega)
theorem hg_take_HpM (l : List Int) (n k : Nat) (h : k < n) : hg_HpM (l.take n) k = hg_HpM l k := by
  unfold hg_HpM
  rw [List.getD, List.getD, List.getElem?_take, if_pos h]
/-- what is left when the last one is taken off -/
theorem pop_end_HpM {l m : List Int} {n : Nat} (hn : l.length = n + 1) (hm : m.Perm l) (hl : hg_HpM m n = hg_HpM l 0) (hp : Hp_HpM m n) : Hp_HpM (m.take n) n ∧ l.Perm (hg_HpM l 0 :: m.take n) ∧ (m.take n).length = n := by
  have hml : m.length = n + 1 := by rw [hm.length_eq, hn]
  refine ⟨fun k h0 hk => ?_, ?_, by rw [List.length_take]; omega⟩
  · rw [hg_take_HpM _ _ _ (by omega), hg_take_HpM _ _ _ hk]
    exact hp k h0 hk
  · refine hm.symm.trans ?_
    have e : m = m.take n ++ [hg_HpM l 0] := by
      have h1 : n < m.length := by omega
      rw [← hl]
      have h2 := List.take_append_drop n m
      rw [List.drop_eq_getElem_cons h1, List.drop_eq_nil_of_le (by omega)] at h2
      have h3 : m[n] = hg_HpM m n := by simp [hg_HpM, h1]
      rw [h3] at h2
      exact h2.symm
    exact (List.Perm.of_eq e).trans List.perm_append_comm
/-- the one that is taken off is the least -/
theorem Hp_HpM.first {l s : List Int} (h : Hp_HpM l l.length) (hs : l.Perm s) (h0 : 0 < l.length) : hg_HpM l 0 ∈ s ∧ ∀ x ∈ s, hg_HpM l 0 ≤ x := by
  refine ⟨hs.subset ?_, fun x hx => ?_⟩
  · have : hg_HpM l 0 = l[0] := by simp [hg_HpM, h0]
    rw [this]
    exact List.getElem_mem h0
  · obtain ⟨i, hi, e⟩ := List.getElem_of_mem (hs.symm.subset hx)
    have := h.least i hi
    have e2 : hg_HpM l i = l[i] := by simp [hg_HpM, hi]
    rw [e2, e] at this
    exact this
end Go.Proofs.YtapfaaaepnplcaaGreatDoor
set_option maxRecDepth 100000
set_option maxHeartbeats 2000000
namespace Go.Proofs.YtapfaaaepnplcaaGreatDoor
open Go.RowKit Go.Great
theorem within_any (x a b : Int) (w : World) : Calls Tryz.prog 247 #[.int .i64 x, .int .i64 a, .int .i64 b] w fun e w' => e = .returned (.bool (decide (a ≤ x) && decide (x ≤ b))) ∧ w' = w := by
  go_enter Tryz.func247, Tryz.ntmps247
  go_wp2
  all_goals (go_ret; refine ⟨ret_bool ?_, rfl⟩)
  all_goals (simp; try omega)
theorem isParam_any (i : Int) (w : World) : Calls Tryz.prog 380 #[.int .i64 i] w fun e w' => e = .returned (.bool (decide (0 ≤ i) && decide (i ≤ 23))) ∧ w' = w := by
  have h := within_any i 0 23 w
  go_enter Tryz.func380, Tryz.ntmps380
  go_wp2_with fail
  refine h.mono ?_
  rintro e w1 ⟨rfl, rfl⟩
  go_wp2_with fail
  go_ret
  exact ⟨rfl, rfl⟩
theorem speE_any (l : List Int) (hl : 4 < l.length) (v : Value) (w : World) (hv : Ints w v l) : Calls Tryz.prog 164 #[v] w fun e w' => e = .returned (.int .i64 (speE l)) ∧ ∃ n, w' = w.drewN n := by
  obtain ⟨a, cap, rfl, hc⟩ := hv
  obtain ⟨g, o, rfl, hg, hcc⟩ := hc (by omega)
  have c2 := hcc 2 (by omega)
  have c4 := hcc 4 (by omega)
  have HN : (2 : Int) < l.length ∧ (4 : Int) < l.length := by omega
  unfold speE
  generalize l.getD 2 0 = x at c2 ⊢
  generalize l.getD 4 0 = y at c4 ⊢
  generalize l.length = n at HN ⊢
  clear hc hcc
  go_enter Tryz.func164, Tryz.ntmps164
  go_wp2_with fail
  go_quiet (fail)
  go_wp2_with fail
  all_goals (go_ret; exact ⟨ret_int (by omega), _, rfl⟩)
theorem plaE_any (l : List Int) (hl : 3 < l.length) (v : Value) (w : World) (hv : Ints w v l) : Calls Tryz.prog 167 #[v] w fun e w' => e = .returned (.int .i64 (plaE l)) ∧ ∃ n, w' = w.drewN n := by
  obtain ⟨a, cap, rfl, hc⟩ := hv
  obtain ⟨g, o, rfl, hg, hcc⟩ := hc (by omega)
  have c1 := hcc 1 (by omega)
  have c3 := hcc 3 (by omega)
  have HN : (1 : Int) < l.length ∧ (3 : Int) < l.length := by omega
  unfold plaE
  generalize l.getD 1 0 = x at c1 ⊢
  generalize l.getD 3 0 = y at c3 ⊢
  generalize l.length = n at HN ⊢
  clear hc hcc
  go_enter Tryz.func167, Tryz.ntmps167
  go_wp2_with fail
  go_quiet (fail)
  go_wp2_with fail
  all_goals (go_ret; exact ⟨ret_int (by omega), _, rfl⟩)
/-- the table's cells -/
def tabC : Array Value := ((List.range 24).flatMap fun i => [Value.int .i64 (loL.getD i 0), .int .i64 (hiL.getD i 0), .int .i64 (deL.getD i 0)]).toArray
def zTab : Array Value := Array.replicate 72 (.int .i64 0)
theorem info_tab : (Tryz.prog.info? 201).map (fun i => (i.zero, i.size)) = some (some (.agg zTab), 72) := by kernel_rfl
def rowC (i : Nat) : Array Value := #[.int .i64 (loL.getD i 0), .int .i64 (hiL.getD i 0), .int .i64 (deL.getD i 0)]
theorem tab_ix0 (w : World) : (Instr.index 201 (.agg tabC) (.int .i64 ((0 : Nat) : Int))).run Tryz.prog w = .ok (.agg (rowC 0)) w := by kernel_rfl
theorem tab_ix1 (w : World) : (Instr.index 201 (.agg tabC) (.int .i64 ((1 : Nat) : Int))).run Tryz.prog w = .ok (.agg (rowC 1)) w := by kernel_rfl
theorem tab_ix2 (w : World) : (Instr.index 201 (.agg tabC) (.int .i64 ((2 : Nat) : Int))).run Tryz.prog w = .ok (.agg (rowC 2)) w := by kernel_rfl
theorem tab_ix3 (w : World) : (Instr.index 201 (.agg tabC) (.int .i64 ((3 : Nat) : Int))).run Tryz.prog w = .ok (.agg (rowC 3)) w := by kernel_rfl
theorem tab_ix4 (w : World) : (Instr.index 201 (.agg tabC) (.int .i64 ((4 : Nat) : Int))).run Tryz.prog w = .ok (.agg (rowC 4)) w := by kernel_rfl
theorem tab_ix5 (w : World) : (Instr.index 201 (.agg tabC) (.int .i64 ((5 : Nat) : Int))).run Tryz.prog w = .ok (.agg (rowC 5)) w := by kernel_rfl
theorem tab_ix6 (w : World) : (Instr.index 201 (.agg tabC) (.int .i64 ((6 : Nat) : Int))).run Tryz.prog w = .ok (.agg (rowC 6)) w := by kernel_rfl
theorem tab_ix7 (w : World) : (Instr.index 201 (.agg tabC) (.int .i64 ((7 : Nat) : Int))).run Tryz.prog w = .ok (.agg (rowC 7)) w := by kernel_rfl
theorem tab_ix8 (w : World) : (Instr.index 201 (.agg tabC) (.int .i64 ((8 : Nat) : Int))).run Tryz.prog w = .ok (.agg (rowC 8)) w := by kernel_rfl
theorem tab_ix9 (w : World) : (Instr.index 201 (.agg tabC) (.int .i64 ((9 : Nat) : Int))).run Tryz.prog w = .ok (.agg (rowC 9)) w := by kernel_rfl
theorem tab_ix10 (w : World) : (Instr.index 201 (.agg tabC) (.int .i64 ((10 : Nat) : Int))).run Tryz.prog w = .ok (.agg (rowC 10)) w := by kernel_rfl
theorem tab_ix11 (w : World) : (Instr.index 201 (.agg tabC) (.int .i64 ((11 : Nat) : Int))).run Tryz.prog w = .ok (.agg (rowC 11)) w := by kernel_rfl
theorem tab_ix12 (w : World) : (Instr.index 201 (.agg tabC) (.int .i64 ((12 : Nat) : Int))).run Tryz.prog w = .ok (.agg (rowC 12)) w := by kernel_rfl
theorem tab_ix13 (w : World) : (Instr.index 201 (.agg tabC) (.int .i64 ((13 : Nat) : Int))).run Tryz.prog w = .ok (.agg (rowC 13)) w := by kernel_rfl
theorem tab_ix14 (w : World) : (Instr.index 201 (.agg tabC) (.int .i64 ((14 : Nat) : Int))).run Tryz.prog w = .ok (.agg (rowC 14)) w := by kernel_rfl
theorem tab_ix15 (w : World) : (Instr.index 201 (.agg tabC) (.int .i64 ((15 : Nat) : Int))).run Tryz.prog w = .ok (.agg (rowC 15)) w := by kernel_rfl
theorem tab_ix16 (w : World) : (Instr.index 201 (.agg tabC) (.int .i64 ((16 : Nat) : Int))).run Tryz.prog w = .ok (.agg (rowC 16)) w := by kernel_rfl
theorem tab_ix17 (w : World) : (Instr.index 201 (.agg tabC) (.int .i64 ((17 : Nat) : Int))).run Tryz.prog w = .ok (.agg (rowC 17)) w := by kernel_rfl
theorem tab_ix18 (w : World) : (Instr.index 201 (.agg tabC) (.int .i64 ((18 : Nat) : Int))).run Tryz.prog w = .ok (.agg (rowC 18)) w := by kernel_rfl
theorem tab_ix19 (w : World) : (Instr.index 201 (.agg tabC) (.int .i64 ((19 : Nat) : Int))).run Tryz.prog w = .ok (.agg (rowC 19)) w := by kernel_rfl
theorem tab_ix20 (w : World) : (Instr.index 201 (.agg tabC) (.int .i64 ((20 : Nat) : Int))).run Tryz.prog w = .ok (.agg (rowC 20)) w := by kernel_rfl
theorem tab_ix21 (w : World) : (Instr.index 201 (.agg tabC) (.int .i64 ((21 : Nat) : Int))).run Tryz.prog w = .ok (.agg (rowC 21)) w := by kernel_rfl
theorem tab_ix22 (w : World) : (Instr.index 201 (.agg tabC) (.int .i64 ((22 : Nat) : Int))).run Tryz.prog w = .ok (.agg (rowC 22)) w := by kernel_rfl
theorem tab_ix23 (w : World) : (Instr.index 201 (.agg tabC) (.int .i64 ((23 : Nat) : Int))).run Tryz.prog w = .ok (.agg (rowC 23)) w := by kernel_rfl
theorem tab_ix (i : Nat) (h : i < 24) (w : World) : (Instr.index 201 (.agg tabC) (.int .i64 (i : Int))).run Tryz.prog w = .ok (.agg (rowC i)) w := by
  have hh : i = 0 ∨ i = 1 ∨ i = 2 ∨ i = 3 ∨ i = 4 ∨ i = 5 ∨ i = 6 ∨ i = 7 ∨ i = 8 ∨ i = 9 ∨ i = 10 ∨ i = 11 ∨ i = 12 ∨ i = 13 ∨ i = 14 ∨ i = 15 ∨ i = 16 ∨ i = 17 ∨ i = 18 ∨ i = 19 ∨ i = 20 ∨ i = 21 ∨ i = 22 ∨ i = 23 := by omega
  rcases hh with rfl | rfl | rfl | rfl | rfl | rfl | rfl | rfl | rfl | rfl | rfl | rfl | rfl | rfl | rfl | rfl | rfl | rfl | rfl | rfl | rfl | rfl | rfl | rfl
  · exact tab_ix0 w
  · exact tab_ix1 w
  · exact tab_ix2 w
  · exact tab_ix3 w
  · exact tab_ix4 w
  · exact tab_ix5 w
  · exact tab_ix6 w
  · exact tab_ix7 w
  · exact tab_ix8 w
  · exact tab_ix9 w
  · exact tab_ix10 w
  · exact tab_ix11 w
  · exact tab_ix12 w
  · exact tab_ix13 w
  · exact tab_ix14 w
  · exact tab_ix15 w
  · exact tab_ix16 w
  · exact tab_ix17 w
  · exact tab_ix18 w
  · exact tab_ix19 w
  · exact tab_ix20 w
  · exact tab_ix21 w
  · exact tab_ix22 w
  · exact tab_ix23 w
theorem wpList_run {P : Program} {ops : Array Oper} {rest : List Oper} {o : Oper} {a : Act} {w : World} {Q : Exit → Act → World → Prop} (hg : o.guard = none) (dst : Option Tmp) (hdst : o.dst = dst)
    (v : Value) (w' : World) (hrun : (execOp a.eval o).run P w = .ok (.value v) w')
    (h : wpList P ops Q rest (a.put dst v) w') : wpList P ops Q (o :: rest) a w := by
  subst hdst
  refine wpList_plain hg fun K hK => ?_
  unfold Oper.wp
  rw [hrun, Oper.upon_value]
  exact hK _ _ h
theorem alloc_tab (w : World) (ρ : Operand → Value) (o : Oper) (ho : o.op = .alloc 201) : (execOp ρ o).run Tryz.prog w = .ok (.value (.pointer (some ⟨w.heap.size, 0, none⟩))) (w.alloc (.cells zTab 201)) := by
  have hz := (zero_of_info info_tab).1
  simp [execOp, ho, go_sem, hz, Value.cells]
theorem results_one {fn : Func} {p : Tmp} {ty : TypeId} (h : fn.results = #[.cell p ty]) (tmps : Array Value) (P : Program) (w : World) :
    (results fn tmps).run P w = ((asAddr (tmps.getD p undef)).run P w).andThen fun a w₁ => (loadVar ty a).run P w₁ := by
  simp only [results, h]
  simp [Sem.run_bind, Result.andThen]
def rowV (i : Nat) : Value := .agg (rowC i)
theorem rows_any (w : World) : Calls Tryz.prog 88 #[] w fun e w' => e = .returned (.agg tabC) ∧ w' = (w.alloc (.cells tabC 201)) := by
  go_enter Tryz.func88, Tryz.ntmps88
  apply wp_seq_k; intro K0 hK0
  apply wp_region_lit
  refine wpList_run rfl (some 0) rfl _ _ (alloc_tab _ _ _ rfl) ?_
  refine wpList_frame (a' := { tmps := #[.pointer (some ⟨w.heap.size, 0, none⟩), undef, undef, undef, undef, undef, undef, undef, undef, undef, undef, undef, undef, undef, undef, undef, undef, undef, undef, undef, undef, undef, undef, undef, undef, undef], defers := [] }) (by kernel_rfl) ?_
  apply wpList_nil
  refine hK0 _ _ ?_
  clear hK0 K0
  apply wp_seq_k; intro K0 hK0
  apply wp_region_lit
  refine wpList_run rfl (some 1) rfl (rowV 0) (w.alloc (.cells zTab 201)) (by kernel_rfl) ?_
  refine wpList_run rfl (some 2) rfl (rowV 1) (w.alloc (.cells zTab 201)) (by kernel_rfl) ?_
  refine wpList_run rfl (some 3) rfl (rowV 2) (w.alloc (.cells zTab 201)) (by kernel_rfl) ?_
  refine wpList_run rfl (some 4) rfl (rowV 3) (w.alloc (.cells zTab 201)) (by kernel_rfl) ?_
  refine wpList_run rfl (some 5) rfl (rowV 4) (w.alloc (.cells zTab 201)) (by kernel_rfl) ?_
  refine wpList_run rfl (some 6) rfl (rowV 5) (w.alloc (.cells zTab 201)) (by kernel_rfl) ?_
  refine wpList_run rfl (some 7) rfl (rowV 6) (w.alloc (.cells zTab 201)) (by kernel_rfl) ?_
  refine wpList_run rfl (some 8) rfl (rowV 7) (w.alloc (.cells zTab 201)) (by kernel_rfl) ?_
  refine wpList_run rfl (some 9) rfl (rowV 8) (w.alloc (.cells zTab 201)) (by kernel_rfl) ?_
  refine wpList_run rfl (some 10) rfl (rowV 9) (w.alloc (.cells zTab 201)) (by kernel_rfl) ?_
  refine wpList_run rfl (some 11) rfl (rowV 10) (w.alloc (.cells zTab 201)) (by kernel_rfl) ?_
  refine wpList_run rfl (some 12) rfl (rowV 11) (w.alloc (.cells zTab 201)) (by kernel_rfl) ?_
  refine wpList_run rfl (some 13) rfl (rowV 12) (w.alloc (.cells zTab 201)) (by kernel_rfl) ?_
  refine wpList_run rfl (some 14) rfl (rowV 13) (w.alloc (.cells zTab 201)) (by kernel_rfl) ?_
  refine wpList_run rfl (some 15) rfl (rowV 14) (w.alloc (.cells zTab 201)) (by kernel_rfl) ?_
  refine wpList_run rfl (some 16) rfl (rowV 15) (w.alloc (.cells zTab 201)) (by kernel_rfl) ?_
  refine wpList_run rfl (some 17) rfl (rowV 16) (w.alloc (.cells zTab 201)) (by kernel_rfl) ?_
  refine wpList_run rfl (some 18) rfl (rowV 17) (w.alloc (.cells zTab 201)) (by kernel_rfl) ?_
  refine wpList_run rfl (some 19) rfl (rowV 18) (w.alloc (.cells zTab 201)) (by kernel_rfl) ?_
  refine wpList_run rfl (some 20) rfl (rowV 19) (w.alloc (.cells zTab 201)) (by kernel_rfl) ?_
  refine wpList_run rfl (some 21) rfl (rowV 20) (w.alloc (.cells zTab 201)) (by kernel_rfl) ?_
  refine wpList_run rfl (some 22) rfl (rowV 21) (w.alloc (.cells zTab 201)) (by kernel_rfl) ?_
  refine wpList_run rfl (some 23) rfl (rowV 22) (w.alloc (.cells zTab 201)) (by kernel_rfl) ?_
  refine wpList_run rfl (some 24) rfl (rowV 23) (w.alloc (.cells zTab 201)) (by kernel_rfl) ?_
  refine wpList_run rfl (some 25) rfl (.agg tabC) (w.alloc (.cells zTab 201)) (by kernel_rfl) ?_
  refine wpList_frame (a' := { tmps := #[.pointer (some ⟨w.heap.size, 0, none⟩), rowV 0, rowV 1, rowV 2, rowV 3, rowV 4, rowV 5, rowV 6, rowV 7, rowV 8, rowV 9, rowV 10, rowV 11, rowV 12, rowV 13, rowV 14, rowV 15, rowV 16, rowV 17, rowV 18, rowV 19, rowV 20, rowV 21, rowV 22, rowV 23, .agg tabC], defers := [] }) (by kernel_rfl) ?_
  refine wpList_store_rowTo rfl 201 _ _ rfl rfl w.heap.size tabC (by kernel_rfl) (by kernel_rfl) 201 zTab (heap_alloc_last _ _) (by kernel_rfl) (by kernel_rfl) (by kernel_rfl) ?_
  rw [World.setRow_alloc_new]
  apply wpList_nil
  refine hK0 _ _ ?_
  clear hK0 K0
  refine wp_ret (bodyPost_ret (v := .agg tabC) ?_ rfl ⟨rfl, rfl⟩)
  rw [results_one (by kernel_rfl : Tryz.f88.results = #[.cell 0 201])]
  simp only [Array.getD_eq_getD_getElem?, asAddr, Result.andThen]
  exact run_loadVar_new w 201 tabC 24 63 (by kernel_rfl) (by kernel_rfl)
end Go.Proofs.YtapfaaaepnplcaaGreatDoor
set_option maxRecDepth 100000
set_option maxHeartbeats 2000000
namespace Go.Proofs.YtapfaaaepnplcaaGreatDoor
open Go.RowKit Go.Great
theorem pdown_any (a b : Int) (w : World) (ha : I64 a) (h : 1 ≤ b) : Calls Tryz.prog 168 #[.int .i64 a, .int .i64 b] w fun e w' => e = .returned (.int .i64 (a / b)) ∧ w' = w := by
  have hd := down_any a b w ha h
  clear ha h
  go_enter Tryz.func168, Tryz.ntmps168
  go_wp2_with fail
  refine hd.mono ?_
  rintro e w1 ⟨rfl, hw⟩
  obtain rfl := hw.symm
  go_wp2_with fail
  go_ret
  exact ⟨rfl, rfl⟩
theorem pup_any (a b : Int) (w : World) (ha : I64 a) (h : 1 ≤ b) : Calls Tryz.prog 165 #[.int .i64 a, .int .i64 b] w fun e w' => e = .returned (.int .i64 (upI a b)) ∧ w' = w := by
  have hd := up_any a b w ha h
  unfold upI
  clear ha h
  go_enter Tryz.func165, Tryz.ntmps165
  go_wp2_with fail
  refine hd.mono ?_
  rintro e w1 ⟨rfl, hw⟩
  obtain rfl := hw.symm
  go_wp2_with fail
  go_ret
  exact ⟨rfl, rfl⟩
theorem way_bounds (v b : Int) (h0 : 0 ≤ v) (h1 : v ≤ 100000) (b0 : 1 ≤ b) (b1 : b ≤ 64) : 0 ≤ v / b ∧ v / b ≤ 100000 ∧ 0 ≤ v / b * v ∧ v / b * v ≤ 10000000000 ∧ 0 ≤ b * (v / b) ∧ b * (v / b) ≤ v ∧ 0 ≤ b * (v / b) * (v / b + 1) ∧ b * (v / b) * (v / b + 1) ≤ 10000100000 := by
  have n0 : 0 ≤ v / b := Int.ediv_nonneg h0 (by omega)
  have n1 : v / b ≤ v := Int.ediv_le_self _ h0
  have m0 : 0 ≤ v / b * v := Int.mul_nonneg n0 h0
  have m1 : v / b * v ≤ 100000 * 100000 := Int.mul_le_mul (by omega) h1 h0 (by omega)
  have k0 : 0 ≤ b * (v / b) := Int.mul_nonneg (by omega) n0
  have k1 : b * (v / b) ≤ v := Int.mul_ediv_self_le (by omega)
  have q0 : 0 ≤ b * (v / b) * (v / b + 1) := Int.mul_nonneg k0 (by omega)
  have q1 : b * (v / b) * (v / b + 1) ≤ 100000 * 100001 := Int.mul_le_mul (by omega) (by omega) (by omega) (by omega)
  omega
theorem pway_any (v b : Int) (w : World) (h0 : 0 ≤ v) (h1 : v ≤ 100000) (b0 : 1 ≤ b) (b1 : b ≤ 64) : Calls Tryz.prog 166 #[.int .i64 v, .int .i64 b] w fun e w' => e = .returned (.int .i64 (wayI v b)) ∧ w' = w := by
  have hd := pdown_any v b w (by unfold I64; omega) b0
  have hb := way_bounds v b h0 h1 b0 b1
  unfold wayI
  generalize v / b = n at hd hb ⊢
  obtain ⟨n0, n1, m0, m1, k0, k1, q0, q1⟩ := hb
  have ht : (b * n * (n + 1)).tdiv 2 = b * n * (n + 1) / 2 := Int.tdiv_eq_ediv_of_nonneg q0
  obtain ⟨x, hx⟩ : ∃ x, n * v = x := ⟨_, rfl⟩
  obtain ⟨y, hy⟩ : ∃ y, b * n = y := ⟨_, rfl⟩
  rw [hx] at m0 m1 ⊢
  rw [hy] at k0 k1 q0 q1 ht ⊢
  obtain ⟨z, hz⟩ : ∃ z, y * (n + 1) = z := ⟨_, rfl⟩
  rw [hz] at q0 q1 ht ⊢
  have hz2 : (n + 1) * y = z := by rw [Int.mul_comm]; exact hz
  go_enter Tryz.func166, Tryz.ntmps166
  go_wp2_with fail
  refine hd.mono ?_
  rintro e w1 ⟨rfl, hw⟩
  obtain rfl := hw.symm
  clear hd
  go_wp2_with fail
  go_ret
  exact ⟨ret_int (by omega), rfl⟩
/-- a list of 24 numbers, its cells -/
theorem Ints.open24 {w : World} {v : Value} {l : List Int} (h : Ints w v l) (hl : l.length = 24) : ∃ g o cap, v = .slice (some ⟨g, o, none⟩) 24 cap ∧ g < w.heap.size ∧ ∀ i, i < 24 → w.cell? ⟨g, o + i, none⟩ = some (.int .i64 (l.getD i 0)) := by
  obtain ⟨a, cap, rfl, hc⟩ := h
  rw [hl] at hc
  obtain ⟨g, o, rfl, hg, hcc⟩ := hc (by omega)
  exact ⟨g, o, cap, by rw [hl], hg, hcc⟩
theorem InR.bounds {l : List Int} (hr : InR l 24) : (0 ≤ l.getD 0 0 ∧ l.getD 0 0 ≤ 16) ∧ (1 ≤ l.getD 1 0 ∧ l.getD 1 0 ≤ 200) ∧ (0 ≤ l.getD 2 0 ∧ l.getD 2 0 ≤ 16) ∧ (1 ≤ l.getD 3 0 ∧ l.getD 3 0 ≤ 200) ∧ (0 ≤ l.getD 4 0 ∧ l.getD 4 0 ≤ 16) ∧ (0 ≤ l.getD 5 0 ∧ l.getD 5 0 ≤ 4) ∧ (4 ≤ l.getD 6 0 ∧ l.getD 6 0 ≤ 32) ∧ (1600 ≤ l.getD 7 0 ∧ l.getD 7 0 ≤ 64000) ∧ (1600 ≤ l.getD 8 0 ∧ l.getD 8 0 ≤ 32000) ∧ (2000 ≤ l.getD 9 0 ∧ l.getD 9 0 ≤ 16000) ∧ (1000 ≤ l.getD 10 0 ∧ l.getD 10 0 ≤ 120000) ∧ (500 ≤ l.getD 11 0 ∧ l.getD 11 0 ≤ 120000) ∧ (200 ≤ l.getD 12 0 ∧ l.getD 12 0 ≤ 10000) ∧ (0 ≤ l.getD 19 0 ∧ l.getD 19 0 ≤ 1000) ∧ (0 ≤ l.getD 20 0 ∧ l.getD 20 0 ≤ 1000) :=
  ⟨hr 0 (by omega), hr 1 (by omega), hr 2 (by omega), hr 3 (by omega), hr 4 (by omega), hr 5 (by omega), hr 6 (by omega), hr 7 (by omega), hr 8 (by omega), hr 9 (by omega), hr 10 (by omega), hr 11 (by omega), hr 12 (by omega), hr 19 (by omega), hr 20 (by omega)⟩
theorem InR.errs {l : List Int} (hr : InR l 24) : (0 ≤ speE l ∧ speE l ≤ 16) ∧ (1 ≤ plaE l ∧ plaE l ≤ 200) := by
  have b := hr.bounds
  unfold speE plaE
  omega
theorem together_any (l : List Int) (hl : l.length = 24) (hr : InR l 24) (v : Value) (w : World) (hv : Ints w v l) : Calls Tryz.prog 248 #[v] w fun e w' => e = .returned (.bool (rulB l)) ∧ ∃ n, w' = w.drewN n := by
  have HSp := hide (fun W hW => speE_any l (by omega) v W hW)
  have HPl := hide (fun W hW => plaE_any l (by omega) v W hW)
  have HV := hide (fun q => hv.drewN (w := w) q)
  obtain ⟨g, o, cap, rfl, hg, hcc⟩ := hv.open24 hl
  obtain ⟨b0, b1, b2, b3, b4, b5, b6, b7, b8, b9, b10, b11, b12, _⟩ := hr.bounds
  obtain ⟨e0, e1⟩ := hr.errs
  unfold rulB
  have d0 : w.cell? ⟨g, o, none⟩ = some (.int .i64 (l.getD 0 0)) := hcc 0 (by omega)
  have d6 := hcc 6 (by omega)
  have D10 : Hid (∀ q, (w.drewN q).cell? ⟨g, o + 10, none⟩ = some (.int .i64 (l.getD 10 0))) := fun q => by rw [drewN_cell]; exact hcc 10 (by omega)
  have D11 : Hid (∀ q, (w.drewN q).cell? ⟨g, o + 11, none⟩ = some (.int .i64 (l.getD 11 0))) := fun q => by rw [drewN_cell]; exact hcc 11 (by omega)
  have D12 : Hid (∀ q, (w.drewN q).cell? ⟨g, o + 12, none⟩ = some (.int .i64 (l.getD 12 0))) := fun q => by rw [drewN_cell]; exact hcc 12 (by omega)
  generalize speE l = x at HSp e0 ⊢
  generalize plaE l = y at HPl e1 ⊢
  generalize l.getD 0 0 = p0 at b0 d0 ⊢
  generalize l.getD 6 0 = p6 at b6 d6 ⊢
  generalize l.getD 10 0 = p10 at b10 D10 ⊢
  generalize l.getD 11 0 = p11 at b11 D11 ⊢
  generalize l.getD 12 0 = p12 at b12 D12 ⊢
  clear hr hcc b1 b2 b3 b4 b5 b7 b8 b9 hl hg hv
  by_cases c1 : p0 + p6 + 2 * x + 4 ≤ 64
  · by_cases c2 : 8 * y + 100 ≤ p12
    · rw [decide_eq_true c1, decide_eq_true c2, Bool.true_and, Bool.true_and]
      have f1 := decide_eq_true c1
      have f2 := decide_eq_true c2
      clear c1 c2
      go_enter Tryz.func248, Tryz.ntmps248
      go_wp2_with fail
      go_quiet (first | (go_at_call 164; exact Calls.quiet_of (HSp.out _ (HV.out _))))
      have d10 := D10.out nq
      have d11 := D11.out nq
      have d12 := D12.out nq
      have HV1 := hide (fun q => (HV.out nq).drewN q)
      obtain ⟨w1, HW⟩ : ∃ w1, Hid (w.drewN nq = w1) := ⟨_, rfl⟩
      rw [HW.out] at d10 d11 d12 HV1 ⊢
      clear d0 d6 HV D10 D11 D12
      go_wp2_with fail
      go_quiet (first | (go_at_call 167; exact Calls.quiet_of (HPl.out _ (HV1.out _))))
      rw [← HW.out, drewN_drewN]
      go_wp2_with fail
      go_ret
      exact ⟨rfl, _, rfl⟩
    · rw [decide_eq_true c1, decide_eq_false c2, Bool.false_and, Bool.and_false]
      have f1 := decide_eq_true c1
      have f2 := decide_eq_false c2
      clear c1 c2
      go_enter Tryz.func248, Tryz.ntmps248
      go_wp2_with fail
      go_quiet (first | (go_at_call 164; exact Calls.quiet_of (HSp.out _ (HV.out _))))
      have d12 := D12.out nq
      have HV1 := hide (fun q => (HV.out nq).drewN q)
      obtain ⟨w1, HW⟩ : ∃ w1, Hid (w.drewN nq = w1) := ⟨_, rfl⟩
      rw [HW.out] at d12 HV1 ⊢
      clear d0 d6 HV D10 D11 D12
      go_wp2_with fail
      go_quiet (first | (go_at_call 167; exact Calls.quiet_of (HPl.out _ (HV1.out _))))
      rw [← HW.out, drewN_drewN]
      go_wp2_with fail
      go_ret
      exact ⟨rfl, _, rfl⟩
  · rw [decide_eq_false c1, Bool.false_and]
    have f1 := decide_eq_false c1
    clear c1
    go_enter Tryz.func248, Tryz.ntmps248
    go_wp2_with fail
    go_quiet (first | (go_at_call 164; exact Calls.quiet_of (HSp.out _ (HV.out _))))
    obtain ⟨w1, HW⟩ : ∃ w1, Hid (w.drewN nq = w1) := ⟨_, rfl⟩
    rw [HW.out]
    clear d0 d6 HV D10 D11 D12
    go_wp2_with fail
    go_quiet (fail)
    rw [← HW.out, drewN_drewN]
    go_wp2_with fail
    go_ret
    exact ⟨rfl, _, rfl⟩
end Go.Proofs.YtapfaaaepnplcaaGreatDoor
set_option maxRecDepth 100000
set_option maxHeartbeats 2000000
namespace Go.Proofs.YtapfaaaepnplcaaGreatDoor
open Go.RowKit Go.Great
theorem InR.succ {l : List Int} {k : Nat} (h : InR l k) (h1 : loL.getD k 0 ≤ l.getD k 0) (h2 : l.getD k 0 ≤ hiL.getD k 0) : InR l (k + 1) := by
  intro i hi
  by_cases e : i = k
  · subst e; exact ⟨h1, h2⟩
  · exact h i (by omega)
theorem check_any (l : List Int) (v : Value) (w : World) (hv : Ints w v l) : Calls Tryz.prog 163 #[v] w fun e w' => e = .returned (.int .i64 (chk l)) ∧ Below w.heap.size w w' := by
  by_cases hl : l.length = 24
  · have HV := hide hv
    have HT := hide (fun hr W hW => together_any l hl hr v W hW)
    have hR := rows_any w
    have HX := hide tab_ix
    obtain ⟨g, o, cap, rfl, hg, hcc⟩ := hv.open24 hl
    have HC := hide hcc
    have HL := hide hl
    clear hcc hl hv
    go_enter Tryz.func163, Tryz.ntmps163
    go_wp2_with fail
    refine hR.mono ?_
    rintro e w1 ⟨rfl, hw1⟩
    have HB1 : Hid (Below w.heap.size w w1) := by rw [hw1]; exact below_alloc _ _
    clear hw1 hR
    obtain ⟨T, HTab⟩ : ∃ T, Hid (tabC = T) := ⟨_, rfl⟩
    rw [HTab.out] at HX ⊢
    go_wp2_with fail
    go_loopw [9] (fun i wx => ∃ k : Nat, k ≤ 24 ∧ i = .int .i64 k ∧ InR l k ∧ Below w.heap.size w wx) (fun i _ => 24 - (intOf i).toNat)
    case atStart => exact ⟨0, by omega, rfl, fun i h => absurd h (by omega), HB1.out⟩
    case round =>
      obtain ⟨k, hk, rfl, hR, hB⟩ := hrel
      have HB := hide hB
      have HR := hide hR
      clear hR hB HB1
      by_cases hlt : k < 24
      · have hx := HX.out k hlt
        have hvk := (HB.out.cell (p := ⟨g, o + k, none⟩) hg).trans (HC.out k hlt)
        have hs := HB.out.size
        have hgr : g < wr.heap.size := by omega
        have HW := fun W => hide (within_any (l.getD k 0) (loL.getD k 0) (hiL.getD k 0) W)
        unfold rowC at hx
        obtain ⟨x, HX1⟩ : ∃ x, Hid (l.getD k 0 = x) := ⟨_, rfl⟩
        obtain ⟨a, HA⟩ : ∃ a, Hid (loL.getD k 0 = a) := ⟨_, rfl⟩
        obtain ⟨b, HBB⟩ : ∃ b, Hid (hiL.getD k 0 = b) := ⟨_, rfl⟩
        rw [HX1.out] at hvk HW
        rw [HA.out] at hx HW
        rw [HBB.out] at hx HW
        generalize deL.getD k 0 = d at hx
        have HB2 : Hid (Below w.heap.size w (wr.alloc (.cells #[.int .i64 a, .int .i64 b, .int .i64 d] 63))) := HB.out.alloc hs _
        by_cases hin : a ≤ x ∧ x ≤ b
        · rw [decide_eq_true hin.1, decide_eq_true hin.2] at HW
          have HR2 : Hid (InR l (k + 1)) := HR.out.succ (by rw [HX1.out, HA.out]; exact hin.1) (by rw [HX1.out, HBB.out]; exact hin.2)
          clear hin HC HV
          go_wp2_with fail
          go_quiet (first | (go_at_call 247; exact Calls.quiet_of_same (HW _).out))
          have HB3 := hide (below_drewN HB2.out nq)
          go_wp2_with fail
          go_roundw
          case rel => exact ⟨k + 1, by omega, by go_num, HR2.out, HB3.out⟩
          case measure => simp [intOf]; omega
        · have hf : (decide (a ≤ x) && decide (x ≤ b)) = false := by
            by_cases h1 : a ≤ x
            · simp; omega
            · simp; omega
          rw [hf] at HW
          have HE : Hid (chk l = 5) := by
            show _ = _
            unfold chk
            rw [if_pos HL.out, if_neg]
            intro h
            have := (inRB_iff l).1 h k hlt
            rw [HX1.out, HA.out, HBB.out] at this
            exact hin this
          clear hin hf HC HV
          go_wp2_with fail
          go_quiet (first | (go_at_call 247; exact Calls.quiet_of_same (HW _).out))
          have HB3 := hide (below_drewN HB2.out nq)
          go_wp2_with fail
          go_ret
          exact ⟨ret_int HE.out.symm, HB3.out⟩
      · obtain rfl : k = 24 := by omega
        have HTT := fun W hW => hide (HT.out HR.out W hW)
        have HVr := hide (HV.out.below HB.out)
        have HE : Hid (∀ r, rulB l = r → chk l = if r = true then 0 else 80) := by
          intro r hr
          unfold chk
          rw [if_pos HL.out, if_pos ((inRB_iff l).2 HR.out), hr]
        generalize rulB l = r at HTT HE
        have HE2 := hide (HE.out r rfl)
        clear HE HT HX HC
        go_wp2_with fail
        refine (HTT _ HVr.out).out.mono ?_
        rintro e w2 ⟨rfl, q, rfl⟩
        have HB3 := hide (below_drewN HB.out q)
        cases r
        · go_wp2_with fail
          go_ret
          exact ⟨ret_int HE2.out.symm, HB3.out⟩
        · go_wp2_with fail
          go_ret
          exact ⟨ret_int HE2.out.symm, HB3.out⟩
  · have e : chk l = 3 := by unfold chk; rw [if_neg hl]
    rw [e]
    obtain ⟨a, cap, rfl, _⟩ := hv
    have hne : ((l.length : Int) != 24) = true := by simp; omega
    generalize l.length = n at hne ⊢
    clear hl e
    go_enter Tryz.func163, Tryz.ntmps163
    go_wp2_with fail
    go_ret
    exact ⟨rfl, Below.refl _ _⟩
end Go.Proofs.YtapfaaaepnplcaaGreatDoor
set_option maxRecDepth 100000
set_option maxHeartbeats 1000000
namespace Go.Proofs.YtapfaaaepnplcaaGreatDoor
open Go.RowKit Go.Great
theorem starts_any (w : World) : Calls Tryz.prog 68 #[] w fun e w' => e = .returned (.slice (some ⟨w.heap.size, 0, none⟩) 24 24) ∧ w' = w.alloc (.cells (rowI deL) 3) := by
  go_enter Tryz.func68, Tryz.ntmps68
  go_wp2
  go_ret
  exact ⟨rfl, rfl⟩
theorem rowI_at {w : World} {l : List Int} {t : TypeId} (i : Nat) (h : i < l.length) : (w.alloc (.cells (rowI l) t)).cell? ⟨w.heap.size, i, none⟩ = some (.int .i64 (l.getD i 0)) := by
  rw [cell_of_row _ _ i (rowI l) t (0, 0) (heap_alloc_new _ _)]
  unfold rowI
  rw [List.getElem?_toArray, List.getElem?_map, List.getElem?_eq_getElem h, List.getD, List.getElem?_eq_getElem h]
  rfl
/-- one braking: the loop's sum -/
theorem way_step (v b : Int) (b0 : 1 ≤ b) : wayI v b = wayI (v - b) b + (v - b) := by
  unfold wayI
  have e : (v - b) / b = v / b - 1 := by
    have := Int.add_mul_ediv_right v (-1) (show b ≠ 0 by omega)
    rw [show v + -1 * b = v - b by omega] at this
    rw [this]; rfl
  rw [e]
  generalize v / b = n
  have e2 : b * n * (n + 1) = b * (n - 1) * (n - 1 + 1) + 2 * (b * n) := by
    rw [show n - 1 + 1 = n by omega, Int.mul_add, Int.mul_one, Int.mul_sub, Int.mul_one, Int.sub_mul]; omega
  rw [e2, Int.add_mul_ediv_left _ _ (by omega : (2 : Int) ≠ 0)]
  have e3 : (n - 1) * (v - b) = n * v - n * b - v + b := by rw [Int.sub_mul, Int.mul_sub, Int.one_mul]; omega
  rw [e3, Int.mul_comm b n]
  omega
theorem way_end (v b : Int) (h0 : v ≤ b) (v0 : 0 ≤ v) (b0 : 1 ≤ b) : wayI v b = 0 := by
  unfold wayI
  by_cases e : v = b
  · subst e; rw [Int.ediv_self (by omega)]; omega
  · rw [Int.ediv_eq_zero_of_lt v0 (by omega)]; omega
theorem way_in (v b : Int) (h0 : 0 ≤ v) (h1 : v ≤ 100000) (b0 : 1 ≤ b) (b1 : b ≤ 64) : 0 ≤ wayI v b ∧ wayI v b ≤ 10000000000 := by
  have h := way_bounds v b h0 h1 b0 b1
  have h2 : b * (v / b) * (v / b + 1) ≤ 2 * (v / b * v) := by
    have e1 : b * (v / b) ≤ v := h.2.2.2.2.2.1
    by_cases z : v / b = 0
    · rw [z]; omega
    · have := Int.mul_le_mul (a := b * (v / b)) (b := v / b + 1) (c := v) (d := 2 * (v / b)) e1 (by omega) (by omega) h0
      rw [show v * (2 * (v / b)) = 2 * (v / b * v) by rw [Int.mul_left_comm, Int.mul_comm v]] at this
      exact this
  unfold wayI
  omega
end Go.Proofs.YtapfaaaepnplcaaGreatDoor
set_option maxRecDepth 100000
set_option maxHeartbeats 4000000
namespace Go.Proofs.YtapfaaaepnplcaaGreatDoor
open Go.RowKit Go.Great
end Go.Proofs.YtapfaaaepnplcaaGreatDoor
set_option maxRecDepth 100000
set_option maxHeartbeats 1000000
namespace Go.Proofs.YtapfaaaepnplcaaGreatDoor
open Go.RowKit Go.Great
def mk4 (l : List Int) (t : Nat) : List Int := l ++ List.replicate t (-7770777)
theorem mk4_succ (l : List Int) (t : Nat) : mk4 l (t + 1) = mk4 l t ++ [-7770777] := by unfold mk4; rw [List.replicate_succ', List.append_assoc]
theorem mk4_len (l : List Int) (t : Nat) : (mk4 l t).length = l.length + t := by unfold mk4; simp
theorem ints_news {w : World} {ao : Option Addr} {l : List Int} {cap : Nat} (h : Ints w (.slice ao l.length cap) l) : ∀ ad, ao = some ad → ∀ j u, (l.map (Value.int .i64))[j]? = some u → w.cell? (ad.add j) = some u := by
  intro ad had j u hu
  obtain ⟨a, c, e, hc⟩ := h
  have hj : j < l.length := by
    have := (List.getElem?_eq_some_iff.1 hu).1
    simpa using this
  obtain ⟨g, o, e2, hg, hcc⟩ := hc (by omega)
  injection e with e3 _ _
  rw [had, e2] at e3
  injection e3 with e4
  subst e4
  rw [add_plain', hcc j hj]
  rw [List.getElem?_map, List.getElem?_eq_getElem hj] at hu
  rw [List.getD, List.getElem?_eq_getElem hj]
  exact hu
theorem map_one (l : List Int) : ∀ u ∈ l.map (Value.int .i64), u.oneCell' = true := by
  intro u hu
  rw [List.mem_map] at hu
  obtain ⟨x, _, rfl⟩ := hu
  rfl
end Go.Proofs.YtapfaaaepnplcaaGreatDoor
set_option maxRecDepth 100000
set_option maxHeartbeats 1000000
namespace Go.Proofs.YtapfaaaepnplcaaGreatDoor
open Go.RowKit Go.Great
theorem sameInts_true (l : List Int) (v u : Value) (w : World) (hv : Ints w v l) (hu : Ints w u l) (hl : l.length ≤ 4611686018427387904) : Calls Tryz.prog 33 #[v, u] w fun e w' => e = .returned (.bool true) ∧ ∃ n, w' = w.drewN n := by
  obtain ⟨a, ca, rfl, ha⟩ := hv
  obtain ⟨b, cb, rfl, hb⟩ := hu
  obtain ⟨n, hn⟩ : ∃ n, l.length = n := ⟨_, rfl⟩
  rw [hn] at hl ha hb ⊢
  have HA := hide ha
  have HB := hide hb
  clear ha hb hn
  go_enter Tryz.func33, Tryz.ntmps33
  go_wp2_with fail
  go_loopw [5] (fun i wx => ∃ k q : Nat, k ≤ n ∧ i = .int .i64 k ∧ wx = w.drewN q) (fun i _ => n - (intOf i).toNat)
  case atStart => exact ⟨0, 0, by omega, rfl, rfl⟩
  case round =>
    obtain ⟨k, q, hk, rfl, hwr⟩ := hrel
    have HWR := hide hwr
    by_cases hlt : k < n
    · obtain ⟨ga, oa, rfl, _, hca⟩ := HA.out (by omega)
      obtain ⟨gb, ob, rfl, _, hcb⟩ := HB.out (by omega)
      have d1 : wr.cell? ⟨ga, oa + k, none⟩ = some (.int .i64 (l.getD k 0)) := by rw [hwr, drewN_cell]; exact hca k hlt
      have d2 : wr.cell? ⟨gb, ob + k, none⟩ = some (.int .i64 (l.getD k 0)) := by rw [hwr, drewN_cell]; exact hcb k hlt
      generalize l.getD k 0 = x at d1 d2
      have hx : (x != x) = false := by simp
      clear hca hcb HA HB hwr
      go_wp2_with fail
      go_quiet (fail)
      go_wp2_with fail
      go_roundw
      case rel => exact ⟨k + 1, q + nq, by omega, by go_num, by rw [HWR.out, drewN_drewN]⟩
      case measure => simp [intOf]; omega
    · clear hwr
      go_wp2_with fail
      go_ret
      exact ⟨rfl, q, HWR.out⟩
theorem mk4_at (l : List Int) (i : Nat) : (i < l.length → (mk4 l 4).getD i 0 = l.getD i 0) ∧ (l.length ≤ i → i < l.length + 4 → (mk4 l 4).getD i 0 = -7770777) := by
  unfold mk4
  simp only [List.getD]
  refine ⟨fun h => by rw [List.getElem?_append_left h], fun h1 h2 => ?_⟩
  rw [List.getElem?_append_right h1, List.getElem?_replicate, if_pos (by omega)]
  rfl
theorem IRow.cell {w : World} {base g n c : Nat} {l : List Int} (h : IRow w base (.slice (some ⟨g, 0, none⟩) n c) l) (i : Nat) (hi : i < l.length) : w.cell? ⟨g, i, none⟩ = some (.int .i64 (l.getD i 0)) := by
  have := World.ownsRow.cells h (g := g) rfl i (.int .i64 (l.getD i 0)) (by rw [List.getElem?_map, List.getElem?_eq_getElem hi, List.getD, List.getElem?_eq_getElem hi]; rfl)
  rw [add_plain', Nat.zero_add] at this
  exact this
theorem IRow.lt0 {w : World} {base g n c : Nat} {l : List Int} (h : IRow w base (.slice (some ⟨g, 0, none⟩) n c) l) : g < w.heap.size := (World.ownsRow.lt h g rfl).2
/-- a list that was lent reads as it did -/
theorem lent_ints {w : World} {base g c : Nat} {l : List Int} (h : IRow w base (.slice (some ⟨g, 0, none⟩) (l.length + 4) c) (mk4 l 4)) : Ints w (.slice (some ⟨g, 0, none⟩) l.length c) l := by
  refine ⟨_, c, rfl, fun _ => ⟨g, 0, rfl, h.lt0, fun i hi => ?_⟩⟩
  rw [Nat.zero_add, h.cell i (by rw [mk4_len]; omega), (mk4_at l i).1 hi]
theorem IRow.drewN {w : World} {base : Nat} {v : Value} {l : List Int} (h : IRow w base v l) (n : Nat) : IRow (w.drewN n) base v l := by
  induction n with
  | zero => exact h
  | succ n ih => exact ih
end Go.Proofs.YtapfaaaepnplcaaGreatDoor
