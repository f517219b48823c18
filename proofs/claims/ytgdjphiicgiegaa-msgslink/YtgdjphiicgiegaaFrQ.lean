/- What is written is read; a turned byte is told. -/
import Derived.Test.YtgdjphiicgiegaaFrP
namespace Go.Proofs.Ytgdjphiicgiegaa

theorem enc_len {f : Fr} (h : Right f) : lenB (encF f) = f.2.2.size := by
  show (UInt8.ofNat f.2.2.size).toNat = _
  have := h.2.2.2.2
  rw [UInt8.toNat_ofNat']; omega
theorem enc_mark (f : Fr) : (encF f).getD 0 0 = 253 := rfl
theorem enc_body (f : Fr) : ((encF f).drop 1).take (3 + f.2.2.size) = UInt8.ofNat f.2.2.size :: UInt8.ofNat f.1.toNat :: UInt8.ofNat f.2.1.toNat :: f.2.2.data.toList := by
  unfold encF encL
  rw [show 3 + f.2.2.size = f.2.2.size + 1 + 1 + 1 by omega]
  simp only [List.drop_succ_cons, List.drop_zero, List.take_succ_cons]
  rw [List.take_append_of_le_length (by simp), List.take_of_length_le (by simp)]
theorem enc_low (f : Fr) : (encF f).getD (4 + f.2.2.size) 0 = lowB (chk (UInt8.ofNat f.2.2.size :: UInt8.ofNat f.1.toNat :: UInt8.ofNat f.2.1.toNat :: f.2.2.data.toList) (UInt8.ofNat f.2.1.toNat)) := by
  unfold encF encL
  rw [show 4 + f.2.2.size = f.2.2.size + 1 + 1 + 1 + 1 by omega]
  simp only [List.getD_cons_succ]
  simp only [List.getD]
  rw [List.getElem?_append_right (by simp)]
  simp
theorem enc_high (f : Fr) : (encF f).getD (5 + f.2.2.size) 0 = highB (chk (UInt8.ofNat f.2.2.size :: UInt8.ofNat f.1.toNat :: UInt8.ofNat f.2.1.toNat :: f.2.2.data.toList) (UInt8.ofNat f.2.1.toNat)) := by
  unfold encF encL
  rw [show 5 + f.2.2.size = f.2.2.size + 1 + 1 + 1 + 1 + 1 by omega]
  simp only [List.getD_cons_succ]
  simp only [List.getD]
  rw [List.getElem?_append_right (by simp)]
  simp
theorem enc_ok {f : Fr} (h : Right f) : goodB (encF f) = true := by
  unfold goodB
  rw [enc_len h, enc_body, enc_low, enc_high, word_both]
  show (chk _ (UInt8.ofNat f.2.1.toNat) == _) = true
  simp
theorem frB_app {f : Fr} (h : Right f) (m : List UInt8) : frB (encF f ++ m) = f ∧ lenB (encF f ++ m) = f.2.2.size ∧ goodB (encF f ++ m) = true := by
  have hl := encF_length f
  have e1 : lenB (encF f ++ m) = f.2.2.size := by
    rw [← enc_len h]; unfold lenB; rw [getD_app _ _ _ (by omega)]
  refine ⟨?_, e1, ?_⟩
  · obtain ⟨a, b, p⟩ := f
    obtain ⟨h1, h2, h3, h4, h5⟩ := h
    unfold frB
    rw [e1, getD_app _ _ _ (by omega), getD_app _ _ _ (by omega)]
    refine Prod.ext ?_ (Prod.ext ?_ ?_)
    · show (((UInt8.ofNat a.toNat).toNat : Nat) : Int) = a
      rw [UInt8.toNat_ofNat']
      simp only [] at h1 h2
      omega
    · show (((UInt8.ofNat b.toNat).toNat : Nat) : Int) = b
      rw [UInt8.toNat_ofNat']
      simp only [] at h3 h4
      omega
    · show (⟨(((encF (a, b, p) ++ m).drop 4).take p.size).toArray⟩ : ByteArray) = p
      apply bs_ext
      show (((encF (a, b, p) ++ m).drop 4).take p.size) = _
      unfold encF encL
      simp only [List.cons_append, List.drop_succ_cons, List.drop_zero, List.append_assoc]
      rw [List.take_append_of_le_length (by simp), List.take_of_length_le (by simp)]
  · have hg := enc_ok h
    unfold goodB at hg ⊢
    rw [e1, getD_app _ _ _ (by omega), getD_app _ _ _ (by omega), getD_app _ _ _ (by omega), List.drop_append_of_le_length (by omega), List.take_append_of_le_length (by rw [List.length_drop]; omega)]
    rw [enc_len h] at hg
    exact hg
/-- a frame's bytes are read as the frame -/
theorem rd_enc {f : Fr} (h : Right f) (m : List UInt8) : rd (encF f ++ m) = (f :: (rd m).1, (rd m).2.1, (rd m).2.2) := by
  obtain ⟨h1, h2, h3⟩ := frB_app h m
  have hl := encF_length f
  have hs : step (encF f ++ m) = some (some f, 0, m) := by
    have e : encF f ++ m = 253 :: ((encF f).drop 1 ++ m) := rfl
    have hl2 : ((encF f).drop 1 ++ m).length = 5 + f.2.2.size + m.length := by rw [List.length_append, List.length_drop]; omega
    have hd : (encF f ++ m).drop (6 + f.2.2.size) = m := by
      rw [← hl]; simp
    rw [e] at h1 h2 h3 hd ⊢
    rw [step_cons, if_pos rfl, if_neg (by omega), h2, if_neg (by have := h.2.2.2.2; omega), if_neg (by rw [List.length_cons]; omega), if_pos h3, h1, hd]
  rw [rd_step hs]
  simp
theorem rd_clean (l m : List UInt8) (h : ∀ x ∈ l, x ≠ 253) : rd (l ++ m) = rd m := by
  induction l with
  | nil => rfl
  | cons x l ih =>
    have hs : step (x :: (l ++ m)) = some (none, 0, l ++ m) := by rw [step_cons, if_neg (h x (by simp))]
    rw [List.cons_append, rd_step hs, ih (fun y hy => h y (by simp [hy]))]
    simp
theorem rd_small (l : List UInt8) : ∀ f ∈ (rd l).1, 6 + f.2.2.size ≤ l.length := by
  refine rd_ind (p := fun l => ∀ f ∈ (rd l).1, 6 + f.2.2.size ≤ l.length) ?_ ?_ l
  · intro l h f hf
    rw [rd_stop h] at hf; simp at hf
  · intro l f b m h ih g hg
    have hs := step_shorter h
    rw [rd_step h] at hg
    cases f with
    | none =>
      have := ih g (by simpa using hg)
      omega
    | some f =>
      simp at hg
      have hgd := step_good h
      rcases hg with rfl | hg
      · omega
      · have := ih g hg; omega
theorem set_getD_ne (l : List UInt8) (p i : Nat) (y : UInt8) (h : p ≠ i) : (l.set p y).getD i 0 = l.getD i 0 := by
  simp [List.getD, List.getElem?_set_ne h]
theorem set_getD_eq (l : List UInt8) (p : Nat) (y : UInt8) (h : p < l.length) : (l.set p y).getD p 0 = y := by
  simp [List.getD, List.getElem?_set_self h]
/-- a frame with a turned byte is bad -/
theorem turned_bad {f : Fr} (h : Right f) (p : Nat) (y : UInt8) (h2 : 2 ≤ p) (h3 : p ≠ 3) (hp : p < (encF f).length) (hy : (encF f).getD p 0 ≠ y) : goodB ((encF f).set p y) = false := by
  have hl := encF_length f
  have e1 : lenB ((encF f).set p y) = f.2.2.size := by
    rw [← enc_len h]; unfold lenB; rw [set_getD_ne _ _ _ _ (by omega)]
  cases hg : goodB ((encF f).set p y) with
  | false => rfl
  | true =>
    exfalso
    have hg0 := enc_ok h
    unfold goodB at hg hg0
    rw [enc_len h] at hg0
    rw [e1, set_getD_ne _ _ 3 _ h3] at hg
    have g0 := eq_of_beq hg0
    have g1 := eq_of_beq hg
    have hdr : ((encF f).set p y).drop 1 = ((encF f).drop 1).set (p - 1) y := by
      rw [List.drop_set, if_neg (by omega)]
    rw [hdr] at g1
    by_cases hc : p < 4 + f.2.2.size
    · rw [set_getD_ne _ _ _ _ (by omega), set_getD_ne _ _ _ _ (by omega), ← g0] at g1
      rw [List.take_set] at g1
      unfold chk at g1
      have g2 := one_tells _ _ (p - 1) (by rw [List.length_take, List.length_drop]; omega) y (cadd_nums _ _ _ g1)
      have g3 := congrArg (fun l => List.getD l (p - 1) 0) g2
      rw [set_getD_eq _ _ _ (by rw [List.length_take, List.length_drop]; omega)] at g3
      apply hy
      rw [g3]
      simp only [List.getD, List.getElem?_take, List.getElem?_drop]
      rw [if_pos (by omega), show 1 + (p - 1) = p by omega]
    · have ht : (((encF f).drop 1).set (p - 1) y).take (3 + f.2.2.size) = ((encF f).drop 1).take (3 + f.2.2.size) := by
        rw [List.take_set_of_le (by omega)]
      rw [ht, g0] at g1
      have g2 := congrArg lowB g1
      have g3 := congrArg highB g1
      rw [word_low, word_low] at g2
      rw [word_high, word_high] at g3
      have hpp : p = 4 + f.2.2.size ∨ p = 5 + f.2.2.size := by omega
      rcases hpp with e | e
      · rw [← e, set_getD_eq _ _ _ hp] at g2
        exact hy g2
      · rw [← e, set_getD_eq _ _ _ hp] at g3
        exact hy g3
/-- what is read of a frame with a turned byte -/
theorem rd_turned {f : Fr} (h : Right f) (p : Nat) (y : UInt8) (h2 : 2 ≤ p) (h3 : p ≠ 3) (hp : p < (encF f).length) (hy : (encF f).getD p 0 ≠ y) : 1 ≤ (rd ((encF f).set p y)).2.1 ∧ ∀ g ∈ (rd ((encF f).set p y)).1, g.2.2.size < f.2.2.size := by
  have hb := turned_bad h p y h2 h3 hp hy
  have hl := encF_length f
  have e1 : lenB ((encF f).set p y) = f.2.2.size := by
    rw [← enc_len h]; unfold lenB; rw [set_getD_ne _ _ _ _ (by omega)]
  have e0 : ∃ t, (encF f).set p y = 253 :: t ∧ t.length = 5 + f.2.2.size := by
    obtain ⟨q, rfl⟩ : ∃ q, p = q + 1 := ⟨p - 1, by omega⟩
    refine ⟨((encF f).drop 1).set q y, rfl, ?_⟩
    rw [List.length_set, List.length_drop]; omega
  obtain ⟨t, e, ht⟩ := e0
  rw [e] at hb e1 ⊢
  have hs : step (253 :: t) = some (none, 1, t) := by
    rw [step_cons, if_pos rfl, if_neg (by omega), e1, if_neg (by have := h.2.2.2.2; omega), if_neg (by rw [List.length_cons]; omega), if_neg (by simp [hb])]
  rw [rd_step hs]
  refine ⟨by simp, fun g hg => ?_⟩
  have := rd_small t g (by simpa using hg)
  omega
end Go.Proofs.Ytgdjphiicgiegaa
