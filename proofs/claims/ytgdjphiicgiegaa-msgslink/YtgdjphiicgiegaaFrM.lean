/- Frames in a row of bytes, and how they are read: plain lists. -/
import Derived.Test.YtgdjphiicgiegaaCrcB
namespace Go.Proofs.Ytgdjphiicgiegaa

/-- a frame: its Seq, its ID, its payload -/
abbrev Fr := Int × Int × ByteArray
/-- a frame's check: of its length, Seq, ID and payload, and the ID besides -/
def chk (l : List UInt8) (i : UInt8) : BitVec 16 := cadd (cadds 65535#16 l) (7 * i + 31)
/-- a frame's bytes -/
def encL (n s i : UInt8) (p : List UInt8) : List UInt8 := 253 :: n :: s :: i :: (p ++ [lowB (chk (n :: s :: i :: p) i), highB (chk (n :: s :: i :: p) i)])
def encF (f : Fr) : List UInt8 := encL (UInt8.ofNat f.2.2.size) (UInt8.ofNat f.1.toNat) (UInt8.ofNat f.2.1.toNat) f.2.2.data.toList
/-- a frame that Encode writes -/
def Right (f : Fr) : Prop := 0 ≤ f.1 ∧ f.1 ≤ 255 ∧ 0 ≤ f.2.1 ∧ f.2.1 ≤ 255 ∧ f.2.2.size ≤ 64
theorem encL_length (n s i : UInt8) (p : List UInt8) : (encL n s i p).length = 6 + p.length := by
  simp [encL]; omega
theorem encF_length (f : Fr) : (encF f).length = 6 + f.2.2.size := by
  rw [encF, encL_length]; simp
def word (a b : UInt8) : BitVec 16 := BitVec.ofNat 16 (a.toNat + 256 * b.toNat)
theorem word_nat (a b : UInt8) : (word a b).toNat = a.toNat + 256 * b.toNat := by
  have := a.toNat_lt
  have := b.toNat_lt
  rw [word, BitVec.toNat_ofNat]; omega
theorem word_both (c : BitVec 16) : word (lowB c) (highB c) = c := by
  apply BitVec.eq_of_toNat_eq
  rw [word_nat, lowB_nat, highB_nat]; omega
theorem word_low (a b : UInt8) : lowB (word a b) = a := by
  apply UInt8.toNat_inj.1
  have := a.toNat_lt
  rw [lowB_nat, word_nat]; omega
theorem word_high (a b : UInt8) : highB (word a b) = b := by
  apply UInt8.toNat_inj.1
  have := a.toNat_lt
  have := b.toNat_lt
  rw [highB_nat, word_nat]; omega
def lenB (l : List UInt8) : Nat := (l.getD 1 0).toNat
def goodB (l : List UInt8) : Bool := chk ((l.drop 1).take (3 + lenB l)) (l.getD 3 0) == word (l.getD (4 + lenB l) 0) (l.getD (5 + lenB l) 0)
def frB (l : List UInt8) : Fr := (((l.getD 2 0).toNat : Int), ((l.getD 3 0).toNat : Int), ⟨((l.drop 4).take (lenB l)).toArray⟩)
/-- one step of the reading -/
def step : List UInt8 → Option (Option Fr × Nat × List UInt8)
  | [] => none
  | x :: t =>
    if x = 253 then
      if t.length = 0 then none
      else if 64 < lenB (x :: t) then some (none, 1, t)
      else if (x :: t).length < 6 + lenB (x :: t) then none
      else if goodB (x :: t) = true then some (some (frB (x :: t)), 0, (x :: t).drop (6 + lenB (x :: t)))
      else some (none, 1, t)
    else some (none, 0, t)
theorem step_cons (x : UInt8) (t : List UInt8) : step (x :: t) =
    if x = 253 then
      if t.length = 0 then none
      else if 64 < lenB (x :: t) then some (none, 1, t)
      else if (x :: t).length < 6 + lenB (x :: t) then none
      else if goodB (x :: t) = true then some (some (frB (x :: t)), 0, (x :: t).drop (6 + lenB (x :: t)))
      else some (none, 1, t)
    else some (none, 0, t) := rfl
def rdF : Nat → List UInt8 → List Fr × Nat × List UInt8
  | 0, l => ([], 0, l)
  | k + 1, l =>
    match step l with
    | none => ([], 0, l)
    | some (f, b, l') => (f.toList ++ (rdF k l').1, b + (rdF k l').2.1, (rdF k l').2.2)
/-- what is read of a row: the good frames, how many are bad, what is held -/
def rd (l : List UInt8) : List Fr × Nat × List UInt8 := rdF l.length l
theorem step_shorter {l : List UInt8} {f : Option Fr} {b : Nat} {m : List UInt8} (h : step l = some (f, b, m)) : m.length < l.length := by
  cases l with
  | nil => simp [step] at h
  | cons x t =>
    rw [step_cons] at h
    split at h
    · split at h
      · cases h
      · split at h
        · cases h; simp
        · split at h
          · cases h
          · split at h
            · cases h; simp at *; omega
            · cases h; simp
    · cases h; simp
theorem rdF_more : ∀ (n k : Nat) (l : List UInt8), l.length ≤ n → l.length ≤ k → rdF k l = rdF l.length l := by
  intro n
  induction n with
  | zero =>
    intro k l h _
    have : l = [] := List.eq_nil_of_length_eq_zero (by omega)
    subst this
    cases k <;> simp [rdF, step]
  | succ n ih =>
    intro k l h hk
    cases k with
    | zero =>
      have : l.length = 0 := by omega
      rw [this]
    | succ k =>
      cases hl : l.length with
      | zero =>
        have : l = [] := List.eq_nil_of_length_eq_zero hl
        subst this
        simp [rdF, step]
      | succ j =>
        simp only [rdF]
        cases hs : step l with
        | none => rfl
        | some v =>
          obtain ⟨f, b, m⟩ := v
          have := step_shorter hs
          simp only []
          rw [ih k m (by omega) (by omega), ih j m (by omega) (by omega)]
theorem rd_stop {l : List UInt8} (h : step l = none) : rd l = ([], 0, l) := by
  unfold rd
  cases hl : l.length with
  | zero => rfl
  | succ k => simp only [rdF, h]
theorem rd_step {l m : List UInt8} {f : Option Fr} {b : Nat} (h : step l = some (f, b, m)) : rd l = (f.toList ++ (rd m).1, b + (rd m).2.1, (rd m).2.2) := by
  have hs := step_shorter h
  unfold rd
  cases hl : l.length with
  | zero => omega
  | succ k =>
    simp only [rdF, h]
    rw [rdF_more m.length k m (Nat.le_refl _) (by omega)]
theorem getD_app (l m : List UInt8) (i : Nat) (h : i < l.length) : (l ++ m).getD i 0 = l.getD i 0 := by
  simp [List.getD, List.getElem?_append_left h]
theorem step_app {l m k : List UInt8} {f : Option Fr} {b : Nat} (h : step l = some (f, b, k)) : step (l ++ m) = some (f, b, k ++ m) := by
  cases l with
  | nil => simp [step] at h
  | cons x t =>
    rw [step_cons] at h
    split at h
    · rename_i hx
      split at h
      · cases h
      · rename_i ht
        have hlen : lenB (x :: (t ++ m)) = lenB (x :: t) := by
          unfold lenB
          rw [← List.cons_append, getD_app _ _ _ (by simp; omega)]
        have ht' : ¬ (t ++ m).length = 0 := by rw [List.length_append]; omega
        rw [List.cons_append]
        rw [step_cons]
        rw [if_pos hx, if_neg ht', hlen]
        split at h
        · rename_i g
          cases h
          rw [if_pos g]
        · rename_i g
          rw [if_neg g]
          split at h
          · cases h
          · rename_i g2
            have g2' : ¬ (x :: (t ++ m)).length < 6 + lenB (x :: t) := by simp at g2 ⊢; omega
            rw [if_neg g2']
            have hgood : goodB (x :: (t ++ m)) = goodB (x :: t) := by
              unfold goodB
              rw [hlen, ← List.cons_append, getD_app _ _ _ (by simp at g2 ⊢; omega), getD_app _ _ _ (by simp at g2 ⊢; omega), getD_app _ _ _ (by simp at g2 ⊢; omega)]
              rw [List.cons_append, List.drop_succ_cons, List.drop_zero, List.drop_succ_cons, List.drop_zero, List.take_append_of_le_length (by simp at g2; omega)]
            rw [hgood]
            split at h
            · rename_i g3
              cases h
              rw [if_pos g3]
              congr 1
              refine Prod.ext ?_ (Prod.ext rfl ?_)
              · show some (frB (x :: (t ++ m))) = some (frB (x :: t))
                unfold frB
                rw [hlen, ← List.cons_append, getD_app _ _ _ (by simp at g2 ⊢; omega), getD_app _ _ _ (by simp at g2 ⊢; omega)]
                rw [List.drop_append_of_le_length (by simp at g2 ⊢; omega), List.take_append_of_le_length (by simp at g2 ⊢; omega)]
              · show (x :: (t ++ m)).drop _ = (x :: t).drop _ ++ m
                rw [← List.cons_append, List.drop_append_of_le_length (by simp at g2 ⊢; omega)]
            · rename_i g3
              cases h
              rw [if_neg g3]
    · rename_i hx
      cases h
      rw [List.cons_append]
      rw [step_cons]
      rw [if_neg hx]
/-- in what pieces bytes come does not matter -/
theorem rd_app : ∀ (n : Nat) (l m : List UInt8), l.length ≤ n → rd (l ++ m) = ((rd l).1 ++ (rd ((rd l).2.2 ++ m)).1, (rd l).2.1 + (rd ((rd l).2.2 ++ m)).2.1, (rd ((rd l).2.2 ++ m)).2.2) := by
  intro n
  induction n with
  | zero =>
    intro l m h
    have : l = [] := List.eq_nil_of_length_eq_zero (by omega)
    subst this
    rw [rd_stop (l := []) rfl]
    simp
  | succ n ih =>
    intro l m h
    cases hs : step l with
    | none => rw [rd_stop hs]; simp
    | some v =>
      obtain ⟨f, b, k⟩ := v
      have := step_shorter hs
      rw [rd_step hs, rd_step (step_app hs), ih k m (by omega)]
      simp [List.append_assoc, Nat.add_assoc]
theorem rd_more (l m : List UInt8) : rd (l ++ m) = ((rd l).1 ++ (rd ((rd l).2.2 ++ m)).1, (rd l).2.1 + (rd ((rd l).2.2 ++ m)).2.1, (rd ((rd l).2.2 ++ m)).2.2) := rd_app l.length l m (Nat.le_refl _)
theorem step_held {l : List UInt8} (h : step l = none) : l.length ≤ 69 := by
  cases l with
  | nil => simp
  | cons x t =>
    rw [step_cons] at h
    split at h
    · split at h
      · rename_i ht
        rw [List.length_cons]; omega
      · split at h
        · cases h
        · split at h
          · omega
          · split at h <;> cases h
    · cases h
/-- an induction along the reading -/
theorem rd_ind {p : List UInt8 → Prop} (h0 : ∀ l, step l = none → p l) (h1 : ∀ l f b m, step l = some (f, b, m) → p m → p l) (l : List UInt8) : p l := by
  have : ∀ (n : Nat) (l : List UInt8), l.length ≤ n → p l := by
    intro n
    induction n with
    | zero =>
      intro l h
      have : l = [] := List.eq_nil_of_length_eq_zero (by omega)
      subst this
      exact h0 _ rfl
    | succ n ih =>
      intro l h
      cases hs : step l with
      | none => exact h0 _ hs
      | some v =>
        obtain ⟨f, b, k⟩ := v
        have := step_shorter hs
        exact h1 _ _ _ _ hs (ih k (by omega))
  exact this l.length l (Nat.le_refl _)
theorem rd_held (l : List UInt8) : (rd l).2.2.length ≤ 69 := by
  refine rd_ind (p := fun l => (rd l).2.2.length ≤ 69) ?_ ?_ l
  · intro l h
    rw [rd_stop h]; exact step_held h
  · intro l f b m h ih
    rw [rd_step h]; exact ih
theorem rd_again (l : List UInt8) : step (rd l).2.2 = none := by
  refine rd_ind (p := fun l => step (rd l).2.2 = none) ?_ ?_ l
  · intro l h
    rw [rd_stop h]; exact h
  · intro l f b m h ih
    rw [rd_step h]; exact ih
theorem step_good {l m : List UInt8} {f : Fr} {b : Nat} (h : step l = some (some f, b, m)) : b = 0 ∧ l.length = 6 + f.2.2.size + m.length ∧ f = frB l ∧ goodB l = true ∧ lenB l ≤ 64 ∧ 6 + lenB l ≤ l.length ∧ m = l.drop (6 + lenB l) ∧ l.getD 0 0 = 253 := by
  cases l with
  | nil => simp [step] at h
  | cons x t =>
    rw [step_cons] at h
    split at h
    · split at h
      · cases h
      · split at h
        · cases h
        · split at h
          · cases h
          · split at h
            · rename_i hx _ h64 hlen hg
              injection h with h
              injection h with h1 h2
              injection h2 with h2 h3
              injection h1 with h1
              subst h1 h2 h3
              have e : (frB (x :: t)).2.2.size = lenB (x :: t) := by
                show (((x :: t).drop 4).take (lenB (x :: t))).toArray.size = _
                rw [List.size_toArray, List.length_take, List.length_drop]; omega
              refine ⟨rfl, ?_, rfl, hg, by omega, by omega, rfl, by simpa using hx⟩
              rw [e, List.length_drop]; omega
            · cases h
    · cases h
theorem rd_count (l : List UInt8) : 6 * (rd l).1.length + (rd l).2.1 + (rd l).2.2.length ≤ l.length := by
  refine rd_ind (p := fun l => 6 * (rd l).1.length + (rd l).2.1 + (rd l).2.2.length ≤ l.length) ?_ ?_ l
  · intro l h
    rw [rd_stop h]; simp
  · intro l f b m h ih
    have hs := step_shorter h
    rw [rd_step h]
    cases f with
    | none =>
      have : b ≤ 1 := by
        cases l with
        | nil => simp [step] at h
        | cons x t =>
          rw [step_cons] at h
          split at h
          · split at h
            · cases h
            · split at h
              · cases h; omega
              · split at h
                · cases h
                · split at h
                  · cases h
                  · cases h; omega
          · cases h; omega
      simp; omega
    | some f =>
      have := step_good h
      simp; omega
/-- what stands ahead of the next mark is passed over -/
theorem rd_drop (l : List UInt8) : rd (l.dropWhile (fun x => x != 253)) = rd l := by
  induction l with
  | nil => rfl
  | cons x t ih =>
    by_cases h : x = 253
    · subst h; simp
    · rw [List.dropWhile_cons_of_pos (by simpa using h), ih]
      have : step (x :: t) = some (none, 0, t) := by rw [step_cons]; rw [if_neg h]
      rw [rd_step this]; simp
end Go.Proofs.Ytgdjphiicgiegaa
