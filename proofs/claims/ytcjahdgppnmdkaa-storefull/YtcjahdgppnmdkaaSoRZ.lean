/- SoR to SoZ in one: chains of records, cut writes, codes, what lives on an image. -/
import Derived.Test.YtcjahdgppnmdkaaSoP
set_option maxRecDepth 100000
namespace Go.Proofs.Ytcjahdgppnmdkaa
open Go.RowKit Go.Great

/-- n whole records from a to b -/
def RecsN (l : List UInt8) : Nat → Nat → Kp → Nat → Kp → Prop
  | 0, a, k, b, k' => a = b ∧ k = k'
  | n + 1, a, k, b, k' => wholeB l a = true ∧ RecsN l n (a + 4 + lenAt l a) (upd k (idAt l a) (sgAt l a)) b k'
/-- whole records from a to b -/
def Recs (l : List UInt8) (a : Nat) (k : Kp) (b : Nat) (k' : Kp) : Prop := ∃ n, RecsN l n a k b k'
theorem Recs.nil {l : List UInt8} (a : Nat) (k : Kp) : Recs l a k a k := ⟨0, rfl, rfl⟩
theorem Recs.cons {l : List UInt8} {a : Nat} {k : Kp} {b : Nat} {k' : Kp} (h : wholeB l a = true) (t : Recs l (a + 4 + lenAt l a) (upd k (idAt l a) (sgAt l a)) b k') : Recs l a k b k' := t.elim fun n t => ⟨n + 1, h, t⟩
theorem Recs.ind {l : List UInt8} {motive : (a : Nat) → (k : Kp) → (b : Nat) → (k' : Kp) → Recs l a k b k' → Prop} (nil : ∀ a k, motive a k a k (Recs.nil a k)) (cons : ∀ {a : Nat} {k : Kp} {b : Nat} {k' : Kp} (h : wholeB l a = true) (t : Recs l (a + 4 + lenAt l a) (upd k (idAt l a) (sgAt l a)) b k'), motive _ _ _ _ t → motive a k b k' (Recs.cons h t)) {a : Nat} {k : Kp} {b : Nat} {k' : Kp} (h : Recs l a k b k') : motive a k b k' h := by
  obtain ⟨n, hn⟩ := h
  induction n generalizing a k with
  | zero => obtain ⟨rfl, rfl⟩ := hn; exact nil a k
  | succ n ih => exact cons hn.1 ⟨n, hn.2⟩ (ih hn.2)
theorem Recs.le {l : List UInt8} {a b : Nat} {k k' : Kp} (h : Recs l a k b k') : a ≤ b := by
  induction h using Recs.ind with
  | nil => exact Nat.le_refl _
  | cons _ _ ih => omega
theorem Recs.trans {l : List UInt8} {a b c : Nat} {k k1 k2 : Kp} (h : Recs l a k b k1) (g : Recs l b k1 c k2) : Recs l a k c k2 := by
  induction h using Recs.ind with
  | nil => exact g
  | cons h _ ih => exact .cons h (ih g)
theorem Recs.len {l : List UInt8} {a b : Nat} {k k' : Kp} (h : Recs l a k b k') (ha : a ≤ l.length) : b ≤ l.length := by
  induction h using Recs.ind with
  | nil => exact ha
  | cons h _ ih => exact ih (wholeB_true h).2.2.2.1
theorem wholeB_of {l : List UInt8} {a : Nat} (h1 : idAt l a < 3) (h2 : lenAt l a ≤ 2000) (h3 : a + 4 + lenAt l a ≤ l.length) (h4 : l.getD (a + 3 + lenAt l a) 0 = 0) : wholeB l a = true := by
  unfold wholeB
  simp only [Bool.and_eq_true, decide_eq_true_eq, beq_iff_eq]
  exact ⟨⟨⟨⟨by omega, h1⟩, h2⟩, h3⟩, h4⟩
/-- a record hangs on its own bytes alone -/
theorem whole_same {l m : List UInt8} {a b : Nat} (hl : l.length = m.length) (hs : ∀ j, j < b → l.getD j 0 = m.getD j 0) (h : wholeB l a = true) (hb : a + 4 + lenAt l a ≤ b) : wholeB m a = true ∧ lenAt m a = lenAt l a ∧ idAt m a = idAt l a := by
  obtain ⟨c1, c2, c3, c4, c5⟩ := wholeB_true h
  have e1 : lenAt m a = lenAt l a := by unfold lenAt; rw [hs (a + 1) (by omega), hs (a + 2) (by omega)]
  have e2 : idAt m a = idAt l a := by unfold idAt; rw [hs a (by omega)]
  refine ⟨wholeB_of (by rw [e2]; exact c2) (by rw [e1]; exact c3) (by rw [e1, ← hl]; exact c4) ?_, e1, e2⟩
  rw [e1, ← hs _ (by omega)]
  exact c5
theorem Recs.same {l m : List UInt8} {a b : Nat} {k k' : Kp} (h : Recs l a k b k') (hl : l.length = m.length) (hs : ∀ j, j < b → l.getD j 0 = m.getD j 0) : Recs m a k b k' := by
  induction h using Recs.ind with
  | nil => exact .nil _ _
  | cons h t ih =>
    obtain ⟨g1, g2, g3⟩ := whole_same hl hs h t.le
    refine .cons g1 ?_
    rw [g2, g3, sgAt, g2]
    exact ih hs
theorem whole_open {l : List UInt8} {a : Nat} (h : wholeB l a = true) : blankB l a = false := by
  obtain ⟨c1, c2, _, _, _⟩ := wholeB_true h
  cases hb : blankB l a
  · rfl
  · have := (blankB_iff l a).1 hb a (Nat.le_refl _) (by omega)
    unfold idAt at c2
    rw [this] at c2
    exact absurd c2 (by decide)
/-- where and how reading ends -/
def Ends (l : List UInt8) (a : Nat) (k : Kp) (b : Nat) (k' : Kp) (cl : Bool) : Prop := Recs l a k b k' ∧ blankB l b = cl ∧ (cl = false → wholeB l b = false)
theorem Ends.rd {l : List UInt8} {a b : Nat} {k k' : Kp} {cl : Bool} (h : Ends l a k b k' cl) : ∀ f, l.length < a + f → a ≤ l.length → rd l f a k = (k', b, cl) := by
  obtain ⟨h1, h2, h3⟩ := h
  induction h1 using Recs.ind with
  | nil a k =>
    intro f hf ha
    obtain ⟨g, rfl⟩ : ∃ g, f = g + 1 := ⟨f - 1, by omega⟩
    rw [Go.Proofs.Ytcjahdgppnmdkaa.rd, h2]
    cases cl
    · rw [h3 rfl]; rfl
    · rfl
  | cons h _ ih =>
    intro f hf ha
    obtain ⟨g, rfl⟩ : ∃ g, f = g + 1 := ⟨f - 1, by omega⟩
    rw [Go.Proofs.Ytcjahdgppnmdkaa.rd, whole_open h, h]
    exact ih h2 h3 g (by omega) (wholeB_true h).2.2.2.1
theorem rd_ends (l : List UInt8) : ∀ (f a : Nat) (k : Kp), l.length < a + f → a ≤ l.length → Ends l a k (rd l f a k).2.1 (rd l f a k).1 (rd l f a k).2.2 := by
  intro f
  induction f with
  | zero => intro a k h1 h2; omega
  | succ f ih =>
    intro a k h1 h2
    rw [rd]
    cases hb : blankB l a
    · cases hw : wholeB l a
      · exact ⟨.nil _ _, hb, fun _ => hw⟩
      · obtain ⟨g1, g2, g3⟩ := ih (a + 4 + lenAt l a) (upd k (idAt l a) (sgAt l a)) (by omega) (wholeB_true hw).2.2.2.1
        exact ⟨.cons hw g1, g2, g3⟩
    · exact ⟨.nil _ _, hb, fun e => by cases e⟩
/-- a record that stands whole behind a chain -/
theorem Ends.add {l m : List UInt8} {b i n : Nat} {k k' : Kp} (h : Recs l 1 k b k') (hl : l.length = m.length) (hs : ∀ j, j < b → l.getD j 0 = m.getD j 0) (hw : wholeB m b = true) (hi : idAt m b = i) (hn : lenAt m b = n) (hb : blankB m (b + 4 + n) = true) : Ends m 1 k (b + 4 + n) (upd k' i ⟨true, b + 3, n⟩) true := by
  subst hi hn
  exact ⟨(h.same hl hs).trans (.cons hw (.nil _ _)), hb, fun e => by cases e⟩
/-- none that stands whole behind it -/
theorem Ends.not {l m : List UInt8} {b : Nat} {k k' : Kp} (h : Recs l 1 k b k') (hl : l.length = m.length) (hs : ∀ j, j < b → l.getD j 0 = m.getD j 0) (hw : wholeB m b = false) : ∃ cl, Ends m 1 k b k' cl :=
  ⟨blankB m b, h.same hl hs, rfl, fun _ => hw⟩
end Go.Proofs.Ytcjahdgppnmdkaa
namespace Go.Proofs.Ytcjahdgppnmdkaa
open Go.RowKit Go.Great

theorem getD_set (C : List UInt8) (a : Nat) (x : UInt8) (ha : a < C.length) (j : Nat) : (C.set a x).getD j 0 = if j = a then x else C.getD j 0 := by
  rw [List.getD_eq_getElem?_getD, List.getD_eq_getElem?_getD, List.getElem?_set]
  by_cases h : a = j
  · subst h; rw [if_pos rfl, if_pos rfl, if_pos ha]; rfl
  · rw [if_neg h, if_neg (fun e => h e.symm)]
theorem stepS_cut {σ : St} (h : (stepS σ).2.2 = false) : (stepS σ).1.off = true := by
  unfold stepS at h ⊢
  split at h
  · rename_i hc; rw [if_pos hc]
  · cases h
/-- d up to its byte L, that byte in part -/
def Part (C : List UInt8) (a : Nat) (d : List UInt8) (L : Nat) (x : UInt8) (D : List UInt8) : Prop :=
  D.length = C.length ∧ ∀ j, D.getD j 0 = if a ≤ j ∧ j < a + L then C.getD j 0 &&& d.getD (j - a) 0 else if j = a + L ∧ L < d.length then C.getD j 0 &&& (d.getD L 0 ||| x) else C.getD j 0
theorem progS_part (d : List UInt8) : ∀ (σ : St) (a : Nat), a + d.length ≤ σ.C.length → ∃ L x, L ≤ d.length ∧ ((progS σ a d).2 = true → L = d.length) ∧ ((progS σ a d).2 = false → L < d.length ∧ (progS σ a d).1.off = true) ∧ Part σ.C a d L x (progS σ a d).1.C := by
  induction d with
  | nil =>
    intro σ a _
    refine ⟨0, 0, Nat.le_refl _, fun _ => rfl, (fun e => by cases e), rfl, fun j => ?_⟩
    rw [if_neg (by omega), if_neg (by simp)]
    rfl
  | cons b t ih =>
    intro σ a hl
    rw [List.length_cons] at hl
    have ha : a < σ.C.length := by omega
    rw [progS]
    by_cases hc : (progB σ a b).2 = true
    · rw [if_pos hc]
      have hC : (progB σ a b).1.C = σ.C.set a (σ.C.getD a 0 &&& b) := by
        unfold progB at hc ⊢
        by_cases hs : (stepS σ).2.2 = true
        · rw [if_pos hs]; simp only [stepS_C]
        · rw [if_neg hs] at hc; cases hc
      obtain ⟨L, x, h1, h2, h3, h4, h5⟩ := ih (progB σ a b).1 (a + 1) (by rw [progB_len]; omega)
      refine ⟨L + 1, x, by rw [List.length_cons]; omega, fun e => by rw [h2 e, List.length_cons], fun e => ⟨by rw [List.length_cons]; have := (h3 e).1; omega, (h3 e).2⟩, by rw [h4, progB_len], fun j => ?_⟩
      rw [h5 j, hC, getD_set _ _ _ ha]
      by_cases e : j = a
      · subst e
        rw [if_neg (by omega), if_neg (by omega), if_pos rfl, if_pos (by omega), Nat.sub_self]
        rfl
      · rw [if_neg e]
        by_cases c1 : a + 1 ≤ j ∧ j < a + 1 + L
        · obtain ⟨m, hm⟩ : ∃ m, j - a = m + 1 := ⟨j - a - 1, by omega⟩
          rw [if_pos c1, if_pos (by omega), hm, show j - (a + 1) = m by omega]
          rfl
        · rw [if_neg c1, if_neg (c := a ≤ j ∧ j < a + (L + 1)) (by omega)]
          by_cases c2 : j = a + 1 + L ∧ L < t.length
          · rw [if_pos c2, if_pos (by rw [List.length_cons]; omega)]
            rfl
          · rw [if_neg c2, if_neg (by rw [List.length_cons]; omega)]
    · rw [if_neg hc]
      have hs : ¬ (stepS σ).2.2 = true := fun hs => hc (by unfold progB; rw [if_pos hs])
      refine ⟨0, arB (stepS σ).2.1 0, Nat.zero_le _, (fun e => by cases e), fun _ => ⟨by rw [List.length_cons]; omega, ?_⟩, progB_len _ _ _, fun j => ?_⟩
      · unfold progB
        rw [if_neg hs]
        exact stepS_cut (by simpa using hs)
      · unfold progB
        rw [if_neg hs]
        simp only [stepS_C]
        rw [getD_set _ _ _ ha, if_neg (c := a ≤ j ∧ j < a + 0) (by omega)]
        by_cases e : j = a
        · subst e
          rw [if_pos rfl, if_pos (by rw [List.length_cons]; omega)]
          rfl
        · rw [if_neg e, if_neg (by omega)]
/-- an erase: all of the sector, or in part -/
theorem eraseS_part (σ : St) (s : Nat) (hl : s * 4096 + 4096 ≤ σ.C.length) : ((eraseS σ s).2 = true → ∀ j, (eraseS σ s).1.C.getD j 0 = if s * 4096 ≤ j ∧ j < s * 4096 + 4096 then 255 else σ.C.getD j 0) ∧ ((eraseS σ s).2 = false → (eraseS σ s).1.off = true ∧ ∃ g : Nat → UInt8, ∀ j, (eraseS σ s).1.C.getD j 0 = if s * 4096 ≤ j ∧ j < s * 4096 + 4096 then σ.C.getD j 0 ||| g j else σ.C.getD j 0) := by
  have key : ∀ (g : Nat → UInt8 → UInt8) (j : Nat), (onL σ.C (s * 4096) 4096 g).getD j 0 = if s * 4096 ≤ j ∧ j < s * 4096 + 4096 then g (j - s * 4096) (σ.C.getD j 0) else σ.C.getD j 0 := fun g j => by
    by_cases h : j < σ.C.length
    · rw [onL_getD _ _ _ _ _ h]
    · rw [onL_else _ _ _ _ _ (by omega), if_neg (by omega)]
  unfold eraseS
  by_cases hs : (stepS σ).2.2 = true
  · rw [if_pos hs]
    refine ⟨fun _ j => ?_, fun e => by cases e⟩
    simp only [stepS_C]
    rw [key]
  · rw [if_neg hs]
    refine ⟨(fun e => by cases e), fun _ => ⟨stepS_cut (by simpa using hs), fun j => arB (stepS σ).2.1 (j - s * 4096), fun j => ?_⟩⟩
    simp only [stepS_C]
    rw [key]
/-- a cell of a sector -/
theorem sec_at (C : List UInt8) (hC : C.length = 8192) (s : Nat) (hs : s < 2) (j : Nat) (hj : j < 4096) : (secL C s).getD j 0 = C.getD (s * 4096 + j) 0 := by
  unfold secL
  rw [getD_at _ _ (by rw [List.length_take, List.length_drop]; omega), List.getElem_take, List.getElem_drop, ← getD_at _ 0]
end Go.Proofs.Ytcjahdgppnmdkaa
namespace Go.Proofs.Ytcjahdgppnmdkaa
open Go.RowKit Go.Great

theorem recB_0 (i : Nat) (t : List UInt8) : (recB i t).getD 0 0 = UInt8.ofNat i := rfl
theorem recB_1 (i : Nat) (t : List UInt8) : (recB i t).getD 1 0 = UInt8.ofNat t.length := rfl
theorem recB_2 (i : Nat) (t : List UInt8) : (recB i t).getD 2 0 = UInt8.ofNat (t.length / 256) := rfl
theorem recB_3 (i : Nat) (t : List UInt8) (j : Nat) : (recB i t).getD (3 + j) 0 = (t ++ [0]).getD j 0 := by
  rw [show 3 + j = j + 1 + 1 + 1 by omega]
  rfl
theorem recB_v (i : Nat) (t : List UInt8) (j : Nat) (hj : j < t.length) : (recB i t).getD (3 + j) 0 = t.getD j 0 := by
  rw [recB_3, List.getD_eq_getElem?_getD, List.getD_eq_getElem?_getD, List.getElem?_append_left hj]
theorem recB_c (i : Nat) (t : List UInt8) : (recB i t).getD (3 + t.length) 0 = 0 := by
  rw [recB_3, List.getD_eq_getElem?_getD, List.getElem?_append_right (Nat.le_refl _), Nat.sub_self]
  rfl
/-- the sector l, clean up to en, and what stands there then -/
structure Wrote (l m d : List UInt8) (en L : Nat) (x : UInt8) : Prop where
  ll : l.length = 4096
  ml : m.length = 4096
  lo : ∀ j, j < en → l.getD j 0 = m.getD j 0
  mid : ∀ j, j < L → m.getD (en + j) 0 = d.getD j 0
  cut : L < d.length → m.getD (en + L) 0 = d.getD L 0 ||| x
  hi : ∀ j, L ≤ j → (L < d.length → L < j) → en + j < 4096 → m.getD (en + j) 0 = 255
theorem Wrote.of {C D d : List UInt8} {ac en L : Nat} {x : UInt8} (hC : C.length = 8192) (hac : ac < 2) (hd : en + d.length ≤ 4096) (hL : L ≤ d.length) (hb : blankB (secL C ac) en = true) (h : Part C (ac * 4096 + en) d L x D) : Wrote (secL C ac) (secL D ac) d en L x := by
  have hD : D.length = 8192 := by rw [h.1, hC]
  have hbl := (blankB_iff _ _).1 hb
  have hcell : ∀ j, en + j < 4096 → C.getD (ac * 4096 + en + j) 0 = 255 := fun j hj => by
    have := hbl (en + j) (by omega) (by rw [secL_len hC hac]; exact hj)
    rw [sec_at C hC ac hac _ hj] at this
    rw [Nat.add_assoc]
    exact this
  refine ⟨secL_len hC hac, secL_len hD hac, fun j hj => ?_, fun j hj => ?_, fun hlt => ?_, fun j h1 h2 h3 => ?_⟩
  · rw [sec_at C hC ac hac _ (by omega), sec_at D hD ac hac _ (by omega), h.2, if_neg (by omega), if_neg (by omega)]
  · rw [sec_at D hD ac hac _ (by omega), h.2, if_pos (by omega), ← Nat.add_assoc, hcell j (by omega), and255]
    congr 1
    omega
  · rw [sec_at D hD ac hac _ (by omega), h.2, if_neg (by omega), if_pos (by omega), ← Nat.add_assoc, hcell L (by omega), and255]
  · rw [sec_at D hD ac hac _ h3, h.2, if_neg (by omega), if_neg (by omega), ← Nat.add_assoc, hcell j h3]
theorem toNat_of (n : Nat) : (UInt8.ofNat n).toNat = n % 256 := UInt8.toNat_ofNat' ..
/-- wholly -/
theorem Wrote.whole {l m t : List UInt8} {en i L : Nat} {x : UInt8} {k k' : Kp} (h : Wrote l m (recB i t) en L x) (hr : Recs l 1 k en k') (hi : i < 3) (ht : t.length ≤ 2000) (he : en + 4 + t.length ≤ 4096) (hL : L = 4 + t.length ∨ L = 3 + t.length ∧ x = 0) : Ends m 1 k (en + 4 + t.length) (upd k' i ⟨true, en + 3, t.length⟩) true := by
  have hd := recB_length i t
  have b : ∀ j, j < 3 → m.getD (en + j) 0 = (recB i t).getD j 0 := fun j hj => h.mid j (by omega)
  have hid : idAt m en = i := by
    unfold idAt
    have := b 0 (by omega)
    rw [Nat.add_zero] at this
    rw [this, recB_0, toNat_of]
    omega
  have hln : lenAt m en = t.length := by
    unfold lenAt
    rw [b 1 (by omega), b 2 (by omega), recB_1, recB_2, toNat_of, toNat_of]
    omega
  have hc : m.getD (en + (3 + t.length)) 0 = 0 := by
    rcases hL with hL | ⟨hL, hx⟩
    · rw [h.mid _ (by omega), recB_c]
    · have := h.cut (by omega)
      rw [hL, recB_c, hx] at this
      exact this
  refine Ends.add hr (by rw [h.ll, h.ml]) h.lo (wholeB_of (by rw [hid]; exact hi) (by rw [hln]; exact ht) (by rw [hln, h.ml]; omega) (by rw [hln, Nat.add_assoc]; exact hc)) hid hln ?_
  rw [blankB_iff]
  intro j h1 h2
  obtain ⟨q, rfl⟩ : ∃ q, j = en + q := ⟨j - en, by omega⟩
  exact h.hi q (by omega) (by omega) (by rw [h.ml] at h2; exact h2)
/-- in part: nothing of it stands there -/
theorem Wrote.part {l m t : List UInt8} {en i L : Nat} {x : UInt8} (h : Wrote l m (recB i t) en L x) (ht : t.length ≤ 2000) (he : en + 4 + t.length ≤ 4096) (hL : L < 4 + t.length) (hx : ¬ (L = 3 + t.length ∧ x = 0)) : wholeB m en = false := by
  have hd := recB_length i t
  cases hw : wholeB m en
  · rfl
  · exfalso
    obtain ⟨c1, c2, c3, c4, c5⟩ := wholeB_true hw
    rw [h.ml] at c4
    have F : ∀ j, L < j → en + j < 4096 → m.getD (en + j) 0 = 255 := fun j h1 h2 => h.hi j (by omega) (by omega) h2
    by_cases h2 : L < 2
    · have e := F 2 h2 (by omega)
      unfold lenAt at c3
      rw [e, show (255 : UInt8).toNat = 255 from rfl] at c3
      omega
    · by_cases h3 : L < 3 + lenAt m en
      · have e := F (3 + lenAt m en) h3 (by omega)
        rw [Nat.add_assoc, e] at c5
        exact absurd c5 (by decide)
      · by_cases h4 : L = 2
        · omega
        · have hln : lenAt m en = t.length := by
            unfold lenAt
            rw [h.mid 1 (by omega), h.mid 2 (by omega), recB_1, recB_2, toNat_of, toNat_of]
            omega
          have hLe : L = 3 + t.length := by omega
          have := h.cut (by omega)
          rw [hLe, recB_c] at this
          rw [hln, Nat.add_assoc, this] at c5
          exact hx ⟨hLe, by simpa using c5⟩
end Go.Proofs.Ytcjahdgppnmdkaa
namespace Go.Proofs.Ytcjahdgppnmdkaa
open Go.RowKit Go.Great

theorem or_zero {a b : UInt8} (h : a ||| b = 0) : a = 0 := by
  have h2 : a.toBitVec ||| b.toBitVec = 0#8 := congrArg UInt8.toBitVec h
  apply UInt8.toBitVec_inj.1
  show a.toBitVec = 0#8
  exact (BitVec.or_eq_zero_iff.1 h2).1
theorem or_and8 (a b c : UInt8) : (a ||| b) &&& c = (a &&& c) ||| (b &&& c) := by
  apply UInt8.toBitVec_inj.1
  show (a.toBitVec ||| b.toBitVec) &&& c.toBitVec = (a.toBitVec &&& c.toBitVec) ||| (b.toBitVec &&& c.toBitVec)
  exact BitVec.and_or_distrib_right
def nxt (c : UInt8) : UInt8 := codeN (folN (turnI c).toNat)
/-- a code -/
def Cd (c : UInt8) : Prop := c = 15 ∨ c = 51 ∨ c = 85
theorem cd_turn {c : UInt8} (h : Cd c) : ∃ t : Nat, turnI c = (t : Int) ∧ t < 3 ∧ codeN t = c := by
  rcases h with rfl | rfl | rfl
  · exact ⟨0, rfl, by omega, rfl⟩
  · exact ⟨1, rfl, by omega, rfl⟩
  · exact ⟨2, rfl, by omega, rfl⟩
theorem turn_cd {c : UInt8} (h : turnI c ≠ -1) : Cd c := by
  unfold turnI at h
  by_cases h1 : c = 15
  · exact .inl h1
  · by_cases h2 : c = 51
    · exact .inr (.inl h2)
    · by_cases h3 : c = 85
      · exact .inr (.inr h3)
      · rw [if_neg h1, if_neg h2, if_neg h3] at h; exact absurd rfl h
theorem not_cd {c : UInt8} (h : ¬ Cd c) : turnI c = -1 := by
  unfold turnI
  rw [if_neg (fun e => h (.inl e)), if_neg (fun e => h (.inr (.inl e))), if_neg (fun e => h (.inr (.inr e)))]
theorem nxt_cd {c : UInt8} (h : Cd c) : Cd (nxt c) := by
  rcases h with rfl | rfl | rfl
  · exact .inr (.inl rfl)
  · exact .inr (.inr rfl)
  · exact .inl rfl
/-- a spare's first byte that no OR turns into a code that would be the active one -/
def Safe (y : UInt8) (ac : Nat) (c : UInt8) : Prop := y &&& ~~~(nxt c) ≠ 0 ∧ (ac = 1 → y &&& ~~~c ≠ 0)
theorem Safe.or {y c : UInt8} {ac : Nat} (h : Safe y ac c) (g : UInt8) : Safe (y ||| g) ac c := by
  refine ⟨fun e => h.1 ?_, fun ha e => h.2 ha ?_⟩
  · rw [or_and8] at e; exact or_zero e
  · rw [or_and8] at e; exact or_zero e
theorem Safe.ff {c : UInt8} (h : Cd c) (ac : Nat) : Safe 255 ac c := by
  rcases h with rfl | rfl | rfl
  all_goals exact ⟨by decide, fun _ => by decide⟩
theorem Safe.act0 {a b : UInt8} (ha : Cd a) (h : Safe b 0 a) : actI a b = 0 := by
  by_cases hb : Cd b
  · rcases ha with rfl | rfl | rfl <;> rcases hb with rfl | rfl | rfl
    all_goals first
      | rfl
      | exact absurd (by decide) h.1
  · unfold actI
    rw [not_cd hb]
    rcases ha with rfl | rfl | rfl <;> rfl
theorem Safe.act1 {a b : UInt8} (hb : Cd b) (h : Safe a 1 b) : actI a b = 1 := by
  by_cases ha : Cd a
  · rcases ha with rfl | rfl | rfl <;> rcases hb with rfl | rfl | rfl
    all_goals first
      | rfl
      | exact absurd (by decide) h.1
      | exact absurd (by decide) (h.2 rfl)
  · unfold actI
    rw [not_cd ha]
    rcases hb with rfl | rfl | rfl <;> rfl
theorem act0_safe {a b : UInt8} (hb : Cd b ∨ b = 255) (h : actI a b = 0) : Cd a ∧ Safe b 0 a := by
  have ha : Cd a := by
    by_cases ha : Cd a
    · exact ha
    · exfalso
      unfold actI at h
      rw [not_cd ha] at h
      rcases hb with (rfl | rfl | rfl) | rfl <;> exact absurd h (by decide)
  refine ⟨ha, ?_⟩
  rcases hb with hb | rfl
  · rcases ha with rfl | rfl | rfl <;> rcases hb with rfl | rfl | rfl
    all_goals first
      | exact absurd h (by decide)
      | exact ⟨by decide, fun e => by cases e⟩
  · exact Safe.ff ha 0
theorem act1_safe {a b : UInt8} (ha : Cd a ∨ a = 255) (h : actI a b = 1) : Cd b ∧ Safe a 1 b := by
  have hb : Cd b := by
    by_cases hb : Cd b
    · exact hb
    · exfalso
      unfold actI at h
      rw [not_cd hb] at h
      rcases ha with (rfl | rfl | rfl) | rfl <;> exact absurd h (by decide)
  refine ⟨hb, ?_⟩
  rcases ha with ha | rfl
  · rcases ha with rfl | rfl | rfl <;> rcases hb with rfl | rfl | rfl
    all_goals first
      | exact absurd h (by decide)
      | exact ⟨by decide, fun _ => by decide⟩
  · exact Safe.ff hb 1
/-- a code that is programmed in part -/
theorem Safe.cut {c x : UInt8} (hc : Cd c) (ac : Nat) (h : nxt c ||| x ≠ nxt c) : Safe (nxt c ||| x) ac c := by
  refine ⟨fun e => h ?_, fun _ e => ?_⟩
  · rw [or_and8] at e
    have e2 : x &&& ~~~(nxt c) = 0 := by
      have : (x &&& ~~~(nxt c)) ||| (nxt c &&& ~~~(nxt c)) = 0 := by rw [UInt8.or_comm]; exact e
      exact or_zero this
    have e3 : x.toBitVec &&& ~~~(nxt c).toBitVec = 0#8 := congrArg UInt8.toBitVec e2
    apply UInt8.toBitVec_inj.1
    show (nxt c).toBitVec ||| x.toBitVec = (nxt c).toBitVec
    ext i hi
    have := congrArg (fun v => v.getLsbD i) e3
    simp at this ⊢
    intro hx
    cases hn : (nxt c).toBitVec[i]
    · simp_all
    · rfl
  · rw [or_and8] at e
    have := or_zero e
    rcases hc with rfl | rfl | rfl <;> exact absurd this (by decide)
/-- behind a move the old sector is a safe spare -/
theorem Safe.moved {c : UInt8} (hc : Cd c) (ac : Nat) : Safe c ac (nxt c) := by
  rcases hc with rfl | rfl | rfl <;> exact ⟨by decide, fun _ => by decide⟩
end Go.Proofs.Ytcjahdgppnmdkaa
namespace Go.Proofs.Ytcjahdgppnmdkaa
open Go.RowKit Go.Great

abbrev Vl := Nat → Option (List UInt8)
/-- what a sector keeps of object i -/
def cont (C : List UInt8) (ac : Nat) (k : Kp) (i : Nat) : Option (List UInt8) := if (k i).th then some (txt C ac (k i)) else none
theorem Ends.kok {l : List UInt8} (hl : l.length = 4096) {b : Nat} {k : Kp} {cl : Bool} (h : Ends l 1 kz b k cl) : b ≤ 4096 ∧ 1 ≤ b ∧ KOk k b := by
  have e := h.rd 4096 (by omega) (by omega)
  have := rd_ok l 4096 1 kz (by omega) KOk.kz
  rw [e] at this
  exact ⟨by have := this.2.1; simp only at this; omega, this.1, this.2.2⟩
theorem txt_same {C D : List UInt8} {ac e : Nat} {s : Sg} (hC : C.length = 8192) (hD : D.length = 8192) (hac : ac < 2) (hs : ∀ j, j < e → C.getD (ac * 4096 + j) 0 = D.getD (ac * 4096 + j) 0) (he : e ≤ 4096) (h : s.lo + s.n ≤ e) : txt C ac s = txt D ac s := by
  unfold txt
  refine txt_ext (fun j hj => ?_) (by omega) (by omega)
  have := hs (s.lo + j) (by omega)
  rw [← Nat.add_assoc] at this
  exact this
theorem cont_same {C D : List UInt8} {ac e : Nat} {k : Kp} (hC : C.length = 8192) (hD : D.length = 8192) (hac : ac < 2) (hs : ∀ j, j < e → C.getD (ac * 4096 + j) 0 = D.getD (ac * 4096 + j) 0) (he : e ≤ 4096) (hk : KOk k e) (i : Nat) : cont C ac k i = cont D ac k i := by
  unfold cont
  by_cases h : (k i).th = true
  · rw [if_pos h, if_pos h, txt_same hC hD hac hs he (by have := (hk.1 i h).1; omega)]
  · rw [if_neg h, if_neg h]
theorem sec_same {C D : List UInt8} {ac : Nat} (hC : C.length = 8192) (hD : D.length = 8192) (hac : ac < 2) (hs : ∀ j, j < 4096 → C.getD (ac * 4096 + j) 0 = D.getD (ac * 4096 + j) 0) : secL C ac = secL D ac := by
  unfold secL
  exact txt_ext (fun j hj => hs j hj) (by omega) (by omega)
/-- sector ac is the active one, stays it whatever becomes of the spare by OR, and keeps V -/
structure Up (C : List UInt8) (ac : Nat) (V : Vl) : Prop where
  len : C.length = 8192
  a2 : ac < 2
  cd : Cd (C.getD (ac * 4096) 0)
  sf : Safe (C.getD ((1 - ac) * 4096) 0) ac (C.getD (ac * 4096) 0)
  rd : ∃ en k cl, Ends (secL C ac) 1 kz en k cl ∧ ∀ i, i < 3 → V i = cont C ac k i
theorem Up.spare {C D : List UInt8} {ac : Nat} {V : Vl} (h : Up C ac V) (hD : D.length = 8192) (hs : ∀ j, j < 4096 → C.getD (ac * 4096 + j) 0 = D.getD (ac * 4096 + j) 0) (hf : Safe (D.getD ((1 - ac) * 4096) 0) ac (C.getD (ac * 4096) 0)) : Up D ac V := by
  have e0 := hs 0 (by omega)
  rw [Nat.add_zero] at e0
  obtain ⟨en, k, cl, h1, h2⟩ := h.rd
  obtain ⟨g1, g2, g3⟩ := h1.kok (secL_len h.len h.a2)
  refine ⟨hD, h.a2, by rw [← e0]; exact h.cd, by rw [← e0]; exact hf, en, k, cl, by rw [← sec_same h.len hD h.a2 hs]; exact h1, fun i hi => ?_⟩
  rw [h2 i hi]
  exact cont_same h.len hD h.a2 hs (Nat.le_refl _) (g3.mono g1) i
theorem Up.act {C : List UInt8} {ac : Nat} {V : Vl} (h : Up C ac V) : actI ((secL C 0).getD 0 0) ((secL C 1).getD 0 0) = (ac : Int) := by
  rw [sec_at C h.len 0 (by omega) 0 (by omega), sec_at C h.len 1 (by omega) 0 (by omega)]
  have hc := h.cd
  have hf := h.sf
  obtain rfl | rfl : ac = 0 ∨ ac = 1 := by have := h.a2; omega
  · exact Safe.act0 hc hf
  · exact Safe.act1 hc hf
/-- an erase of the spare -/
theorem Up.erase {σ : St} {ac : Nat} {V : Vl} (h : Up σ.C ac V) : Up (eraseS σ (1 - ac)).1.C ac V ∧ ((eraseS σ (1 - ac)).2 = true → ∀ j, j < 4096 → (eraseS σ (1 - ac)).1.C.getD ((1 - ac) * 4096 + j) 0 = 255) := by
  have hac := h.a2
  have hl := h.len
  have hD : (eraseS σ (1 - ac)).1.C.length = 8192 := by rw [eraseS_len, hl]
  obtain ⟨p1, p2⟩ := eraseS_part σ (1 - ac) (by omega)
  cases hb : (eraseS σ (1 - ac)).2
  · obtain ⟨_, g, hg⟩ := p2 hb
    refine ⟨h.spare hD (fun j hj => by rw [hg, if_neg (by omega)]) ?_, fun e => by cases e⟩
    rw [hg, if_pos (by omega)]
    exact h.sf.or _
  · have hg := p1 hb
    refine ⟨h.spare hD (fun j hj => by rw [hg, if_neg (by omega)]) ?_, fun _ j hj => by rw [hg, if_pos (by omega)]⟩
    rw [hg, if_pos (by omega)]
    exact Safe.ff h.cd ac
end Go.Proofs.Ytcjahdgppnmdkaa
namespace Go.Proofs.Ytcjahdgppnmdkaa
open Go.RowKit Go.Great

/-- the active sector is as it was; the spare has no code and keeps V below i -/
structure Mid (C0 : List UInt8) (ac : Nat) (m : Mv) (V : Vl) (i : Nat) : Prop where
  len : m.σ.C.length = 8192
  act : ∀ j, j < 4096 → C0.getD (ac * 4096 + j) 0 = m.σ.C.getD (ac * 4096 + j) 0
  ff : m.σ.C.getD ((1 - ac) * 4096) 0 = 255
  en : Ends (secL m.σ.C (1 - ac)) 1 kz m.en m.k true
  val : ∀ j, j < 3 → cont m.σ.C (1 - ac) m.k j = if j < i then V j else none
theorem addS_σ (s i : Nat) (t : List UInt8) (m : Mv) : (addS s i t m).1.σ = (progS m.σ (s * 4096 + m.en) (recB i t)).1 := by
  unfold addS; split <;> rfl
theorem addS_2 (s i : Nat) (t : List UInt8) (m : Mv) : (addS s i t m).2 = (progS m.σ (s * 4096 + m.en) (recB i t)).2 := by
  unfold addS
  cases h : (progS m.σ (s * 4096 + m.en) (recB i t)).2 <;> rfl
theorem addS_k {s i : Nat} {t : List UInt8} {m : Mv} (h : (addS s i t m).2 = true) : (addS s i t m).1.k = upd m.k i ⟨true, m.en + 3, t.length⟩ ∧ (addS s i t m).1.en = m.en + 4 + t.length := by
  rw [addS_2] at h
  unfold addS
  rw [if_pos h]
  exact ⟨rfl, rfl⟩
theorem Mid.add {C0 : List UInt8} {ac : Nat} {m : Mv} {V : Vl} {i : Nat} (h : Mid C0 ac m V i) (hac : ac < 2) (hi : i < 3) (t : List UInt8) (ht : t.length ≤ 2000) (he : m.en + 4 + t.length ≤ 4096) (hV : V i = some t) :
    ((addS (1 - ac) i t m).2 = true → Mid C0 ac (addS (1 - ac) i t m).1 V (i + 1)) ∧ (addS (1 - ac) i t m).1.σ.C.length = 8192 ∧ (∀ j, j < 4096 → C0.getD (ac * 4096 + j) 0 = (addS (1 - ac) i t m).1.σ.C.getD (ac * 4096 + j) 0) ∧ (addS (1 - ac) i t m).1.σ.C.getD ((1 - ac) * 4096) 0 = 255 := by
  have hs : 1 - ac < 2 := by omega
  have hrl := recB_length i t
  obtain ⟨g1, g2, g3⟩ := h.en.kok (secL_len h.len hs)
  obtain ⟨L, x, p1, p2, p3, p4⟩ := progS_part (recB i t) m.σ ((1 - ac) * 4096 + m.en) (by rw [h.len]; omega)
  rw [addS_σ, addS_2]
  obtain ⟨D, hD⟩ : ∃ D, (progS m.σ ((1 - ac) * 4096 + m.en) (recB i t)).1.C = D := ⟨_, rfl⟩
  rw [hD] at p4 ⊢
  have hDl : D.length = 8192 := by rw [p4.1, h.len]
  have hact : ∀ j, j < 4096 → C0.getD (ac * 4096 + j) 0 = D.getD (ac * 4096 + j) 0 := fun j hj => by
    rw [h.act j hj, p4.2, if_neg (by omega), if_neg (by omega)]
  have hff : D.getD ((1 - ac) * 4096) 0 = 255 := by
    rw [p4.2, if_neg (by omega), if_neg (by omega), h.ff]
  refine ⟨fun hok => ?_, hDl, hact, hff⟩
  have hL : L = 4 + t.length := by rw [p2 hok, hrl]
  have hok2 : (addS (1 - ac) i t m).2 = true := by rw [addS_2]; exact hok
  obtain ⟨k1, k2⟩ := addS_k hok2
  have hσ : (addS (1 - ac) i t m).1.σ.C = D := by rw [addS_σ]; exact hD
  have hW := Wrote.of h.len hs (by omega) p1 h.en.2.1 p4
  have hE := hW.whole h.en.1 hi ht he (.inl hL)
  refine ⟨by rw [hσ]; exact hDl, fun j hj => by rw [hσ]; exact hact j hj, by rw [hσ]; exact hff, by rw [hσ, k1, k2]; exact hE, fun j hj => ?_⟩
  rw [hσ, k1]
  by_cases e : j = i
  · subst e
    rw [if_pos (by omega), hV]
    unfold cont
    rw [upd_at, if_pos rfl]
    apply congrArg some
    show (D.drop ((1 - ac) * 4096 + (m.en + 3))).take t.length = t
    have := @txt_ext D t ((1 - ac) * 4096 + (m.en + 3)) 0 t.length (fun q hq => by
      have hm := hW.mid (3 + q) (by omega)
      rw [sec_at D hDl (1 - ac) hs _ (by omega), recB_v _ t q hq] at hm
      rw [Nat.zero_add, show (1 - ac) * 4096 + (m.en + 3) + q = (1 - ac) * 4096 + (m.en + (3 + q)) by omega]
      exact hm) (by omega) (by omega)
    rw [this, List.drop_zero, List.take_of_length_le (Nat.le_refl _)]
  · have e2 : cont D (1 - ac) (upd m.k i ⟨true, m.en + 3, t.length⟩) j = cont D (1 - ac) m.k j := by
      unfold cont
      rw [upd_ne _ _ e]
    have e3 := cont_same (k := m.k) h.len hDl hs (e := m.en) (fun q hq => by
      have := hW.lo q hq
      rw [sec_at _ h.len (1 - ac) hs q (by omega), sec_at _ hDl (1 - ac) hs q (by omega)] at this
      exact this) g1 g3 j
    rw [e2, ← e3, h.val j hj]
    by_cases c : j < i
    · rw [if_pos c, if_pos (by omega)]
    · rw [if_neg c, if_neg (by omega)]
end Go.Proofs.Ytcjahdgppnmdkaa
namespace Go.Proofs.Ytcjahdgppnmdkaa
open Go.RowKit Go.Great

theorem mvL_same {C D : List UInt8} {ac : Nat} {k : Kp} (hC : C.length = 8192) (hD : D.length = 8192) (hac : ac < 2) (hk : KOk k 4096) (hs : ∀ j, j < 4096 → C.getD (ac * 4096 + j) 0 = D.getD (ac * 4096 + j) 0) (id : Int) (v : List UInt8) (i : Nat) : mvL C ac k id v i = mvL D ac k id v i := by
  unfold mvL
  by_cases h1 : (i : Int) = id
  · rw [if_pos h1, if_pos h1]
  · rw [if_neg h1, if_neg h1]
    by_cases h2 : (k i).th = true
    · rw [if_pos h2, if_pos h2, txt_same hC hD hac hs (Nat.le_refl _) (by have := (hk.1 i h2).1; omega)]
    · rw [if_neg h2, if_neg h2]
theorem each_mid {C0 : List UInt8} {ac : Nat} {k : Kp} {id : Int} {v : List UInt8} {V : Vl} (hC0 : C0.length = 8192) (hac : ac < 2) (hk : KOk k 4096) (hv : v.length ≤ 2000) (hV : ∀ j, j < 3 → V j = mvL C0 ac k id v j) :
    ∀ (n i : Nat) (m : Mv), i + n = 3 → Mid C0 ac m V i → m.en + restM k id v.length i n ≤ 4096 →
      ((eachS ac k id v i n m).2 = true → Mid C0 ac (eachS ac k id v i n m).1 V 3) ∧ (eachS ac k id v i n m).1.σ.C.length = 8192 ∧ (∀ j, j < 4096 → C0.getD (ac * 4096 + j) 0 = (eachS ac k id v i n m).1.σ.C.getD (ac * 4096 + j) 0) ∧ (eachS ac k id v i n m).1.σ.C.getD ((1 - ac) * 4096) 0 = 255 := by
  intro n
  induction n with
  | zero =>
    intro i m hin hM _
    obtain rfl : i = 3 := by omega
    exact ⟨fun _ => hM, hM.len, hM.act, hM.ff⟩
  | succ n ih =>
    intro i m hin hM hfit
    have hi : i < 3 := by omega
    rw [restM] at hfit
    have hmv : mvL m.σ.C ac k id v i = V i := by
      rw [hV i hi]
      exact (mvL_same hC0 hM.len hac hk hM.act id v i).symm
    rw [eachS]
    cases hx : V i with
    | none =>
      have hs : step1 ac k id v i m = (m, true) := by unfold step1; rw [hmv, hx]
      rw [hs]
      simp only [if_true]
      refine ih (i + 1) m (by omega) ⟨hM.len, hM.act, hM.ff, hM.en, fun j hj => ?_⟩ (by omega)
      rw [hM.val j hj]
      by_cases c : j < i
      · rw [if_pos c, if_pos (by omega)]
      · rw [if_neg c]
        by_cases e : j = i
        · subst e; rw [if_pos (by omega), hx]
        · rw [if_neg (by omega)]
    | some t =>
      have hs : step1 ac k id v i m = addS (1 - ac) i t m := by unfold step1; rw [hmv, hx]
      have ht : t.length ≤ 2000 ∧ 4 + t.length = szM k id v.length i := by
        have h0 := hV i hi
        rw [hx] at h0
        unfold mvL at h0
        unfold szM szK
        by_cases h1 : (i : Int) = id
        · rw [if_pos h1] at h0 ⊢
          injection h0 with h0
          rw [h0]
          exact ⟨hv, rfl⟩
        · rw [if_neg h1] at h0 ⊢
          by_cases h2 : (k i).th = true
          · rw [if_pos h2] at h0 ⊢
            injection h0 with h0
            have hkk := hk.1 i h2
            rw [h0, txt_len C0 hC0 ac hac (k i) (by omega)]
            exact ⟨hkk.2, rfl⟩
          · rw [if_neg h2] at h0; cases h0
      obtain ⟨a1, a2, a3, a4⟩ := hM.add hac hi t ht.1 (by omega) hx
      rw [hs]
      cases hb : (addS (1 - ac) i t m).2
      · simp only [Bool.false_eq_true, if_false]
        exact ⟨(fun e => by cases e), a2, a3, a4⟩
      · simp only [if_true]
        exact ih (i + 1) _ (by omega) (a1 hb) (by rw [(addS_k hb).2]; omega)
/-- a blank spare -/
theorem Mid.start {C0 : List UInt8} {ac : Nat} {σ : St} {V : Vl} (hac : ac < 2) (hl : σ.C.length = 8192) (ha : ∀ j, j < 4096 → C0.getD (ac * 4096 + j) 0 = σ.C.getD (ac * 4096 + j) 0) (hb : ∀ j, j < 4096 → σ.C.getD ((1 - ac) * 4096 + j) 0 = 255) : Mid C0 ac ⟨σ, 1, kz⟩ V 0 := by
  have h0 := hb 0 (by omega)
  rw [Nat.add_zero] at h0
  refine ⟨hl, ha, h0, ⟨.nil _ _, ?_, fun e => by cases e⟩, fun j hj => ?_⟩
  · rw [blankB_iff]
    intro j _ h2
    rw [secL_len hl (by omega)] at h2
    rw [sec_at _ hl _ (by omega) _ h2]
    exact hb j h2
  · rw [if_neg (by omega)]
    rfl
end Go.Proofs.Ytcjahdgppnmdkaa
namespace Go.Proofs.Ytcjahdgppnmdkaa
open Go.RowKit Go.Great

theorem Recs.same1 {l m : List UInt8} {a b : Nat} {k k' : Kp} (h : Recs l a k b k') (hl : l.length = m.length) (ha : 1 ≤ a) (hs : ∀ j, 1 ≤ j → j < b → l.getD j 0 = m.getD j 0) : Recs m a k b k' := by
  induction h using Recs.ind with
  | nil => exact .nil _ _
  | @cons a k b k' h t ih =>
    obtain ⟨c1, c2, c3, c4, c5⟩ := wholeB_true h
    have hle := t.le
    have e1 : lenAt m a = lenAt l a := by unfold lenAt; rw [hs (a + 1) (by omega) (by omega), hs (a + 2) (by omega) (by omega)]
    have e2 : idAt m a = idAt l a := by unfold idAt; rw [hs a ha (by omega)]
    refine .cons (wholeB_of (by rw [e2]; exact c2) (by rw [e1]; exact c3) (by rw [e1, ← hl]; exact c4) (by rw [e1, ← hs _ (by omega) (by omega)]; exact c5)) ?_
    rw [e1, e2, sgAt, e1]
    exact ih (by omega) hs
theorem Recs.low {l : List UInt8} {a b : Nat} {k k' : Kp} (h : Recs l a k b k') (hk : ∀ i, (k i).th = true → 1 ≤ (k i).lo) : ∀ i, (k' i).th = true → 1 ≤ (k' i).lo := by
  induction h using Recs.ind with
  | nil => exact hk
  | @cons a k b k' h t ih =>
    refine ih fun i hi => ?_
    by_cases e : i = idAt l a
    · subst e
      rw [upd_at]
      show 1 ≤ a + 3
      omega
    · rw [upd_ne _ _ e] at hi ⊢
      exact hk i hi
theorem kz_low (i : Nat) (h : (kz i).th = true) : 1 ≤ (kz i).lo := by simp [kz, sgz] at h
/-- a store that lives on an image, and what it keeps -/
structure Live (C : List UInt8) (s : Sv) (V : Vl) : Prop where
  up : Up C s.ac V
  tu : s.tu < 3
  cd : codeN s.tu = C.getD (s.ac * 4096) 0
  en : Ends (secL C s.ac) 1 kz s.en s.k true
  val : ∀ i, i < 3 → V i = cont C s.ac s.k i
  sp : Cd (C.getD ((1 - s.ac) * 4096) 0) ∨ C.getD ((1 - s.ac) * 4096) 0 = 255
theorem nxt_of {t : Nat} (ht : t < 3) : codeN (folN t) = nxt (codeN t) ∧ Cd (codeN t) := by
  obtain rfl | rfl | rfl : t = 0 ∨ t = 1 ∨ t = 2 := by omega
  · exact ⟨rfl, .inl rfl⟩
  · exact ⟨rfl, .inr (.inl rfl)⟩
  · exact ⟨rfl, .inr (.inr rfl)⟩
/-- the code is there: the spare is the active one -/
theorem Mid.signed {C0 D : List UInt8} {ac tu : Nat} {m : Mv} {V : Vl} (h : Mid C0 ac m V 3) (hac : ac < 2) (htu : tu < 3) (hcd : codeN tu = C0.getD (ac * 4096) 0) (hD : D.length = 8192) (hb : D.getD ((1 - ac) * 4096) 0 = codeN (folN tu)) (hs : ∀ j, j ≠ (1 - ac) * 4096 → D.getD j 0 = m.σ.C.getD j 0) : Live D ⟨1 - ac, folN tu, m.en, m.k⟩ V := by
  have hsp : 1 - ac < 2 := by omega
  have h11 : 1 - (1 - ac) = ac := by omega
  obtain ⟨n1, n2⟩ := nxt_of htu
  obtain ⟨g1, g2, g3⟩ := h.en.kok (secL_len h.len hsp)
  have hsec : ∀ j, 1 ≤ j → j < 4096 → (secL m.σ.C (1 - ac)).getD j 0 = (secL D (1 - ac)).getD j 0 := fun j h1 h2 => by
    rw [sec_at _ h.len _ hsp _ h2, sec_at _ hD _ hsp _ h2, hs _ (by omega)]
  have hE : Ends (secL D (1 - ac)) 1 kz m.en m.k true := by
    refine ⟨h.en.1.same1 (by rw [secL_len h.len hsp, secL_len hD hsp]) (Nat.le_refl _) (fun j h1 h2 => hsec j h1 (by omega)), ?_, fun e => by cases e⟩
    rw [blankB_iff]
    intro j h1 h2
    rw [secL_len hD hsp] at h2
    rw [← hsec j (by omega) h2]
    exact (blankB_iff _ _).1 h.en.2.1 j h1 (by rw [secL_len h.len hsp]; exact h2)
  have hold : D.getD (ac * 4096) 0 = codeN tu := by
    have := h.act 0 (by omega)
    rw [Nat.add_zero] at this
    rw [hs _ (by omega), ← this, hcd]
  have hval : ∀ i, i < 3 → V i = cont D (1 - ac) m.k i := fun i hi => by
    have e := h.val i hi
    rw [if_pos hi] at e
    rw [← e]
    unfold cont
    by_cases ht : (m.k i).th = true
    · rw [if_pos ht, if_pos ht]
      have hkk := (g3.1 i ht).1
      apply congrArg some
      unfold txt
      refine txt_ext (fun j hj => ?_) (by rw [h.len]; omega) (by omega)
      have hlo := h.en.1.low kz_low i ht
      rw [hs _ (by omega)]
    · rw [if_neg ht, if_neg ht]
  have hup : Up D (1 - ac) V := ⟨hD, hsp, by rw [hb, n1]; exact nxt_cd n2, by rw [h11, hold, hb, n1]; exact Safe.moved n2 _, m.en, m.k, true, hE, hval⟩
  exact ⟨hup, by show (tu + 1) % 3 < 3; omega, by rw [hb], hE, hval, .inl (by show Cd (D.getD ((1 - (1 - ac)) * 4096) 0); rw [h11, hold]; exact n2)⟩
/-- a move: done, or cut -/
theorem Up.move {σ : St} {s : Sv} {V0 V : Vl} {id : Int} {v : List UInt8} (h : Up σ.C s.ac V0) (hk : KOk s.k 4096) (hv : v.length ≤ 2000) (htu : s.tu < 3) (hcd : codeN s.tu = σ.C.getD (s.ac * 4096) 0) (hV : ∀ j, j < 3 → V j = mvL σ.C s.ac s.k id v j) (hfit : 1 + restM s.k id v.length 0 3 ≤ 4096) :
    (∀ τ s', moveS σ s id v = (τ, some s') → Live τ.C s' V) ∧ (∀ τ, moveS σ s id v = (τ, none) → Up τ.C s.ac V0 ∨ Up τ.C (1 - s.ac) V) := by
  have hac := h.a2
  obtain ⟨hE1, hE2⟩ := h.erase
  unfold moveS
  have hl1 : (eraseS σ (1 - s.ac)).1.C.length = 8192 := by rw [eraseS_len, h.len]
  have hact1 : ∀ j, j < 4096 → σ.C.getD (s.ac * 4096 + j) 0 = (eraseS σ (1 - s.ac)).1.C.getD (s.ac * 4096 + j) 0 := fun j hj => by
    obtain ⟨q1, q2⟩ := eraseS_part σ (1 - s.ac) (by rw [h.len]; omega)
    cases hb : (eraseS σ (1 - s.ac)).2
    · obtain ⟨_, g, hg⟩ := q2 hb
      rw [hg, if_neg (by omega)]
    · rw [q1 hb, if_neg (by omega)]
  cases hb1 : (eraseS σ (1 - s.ac)).2
  · simp only [Bool.false_eq_true, if_false]
    refine ⟨(fun τ s' e => by injection e with _ e; cases e), fun τ e => ?_⟩
    injection e with e _
    subst e
    exact .inl hE1
  · simp only [if_true]
    obtain ⟨a1, a2, a3, a4⟩ := each_mid h.len hac hk hv hV 3 0 ⟨(eraseS σ (1 - s.ac)).1, 1, kz⟩ rfl (Mid.start hac hl1 hact1 (hE2 hb1)) hfit
    obtain ⟨⟨M, ok⟩, hx⟩ : ∃ x, eachS s.ac s.k id v 0 3 ⟨(eraseS σ (1 - s.ac)).1, 1, kz⟩ = x := ⟨_, rfl⟩
    rw [hx] at a1 a2 a3 a4 ⊢
    simp only at a1 a2 a3 a4 ⊢
    cases ok
    · simp only [Bool.false_eq_true, if_false]
      refine ⟨(fun τ s' e => by injection e with _ e; cases e), fun τ e => ?_⟩
      injection e with e _
      subst e
      exact .inl (h.spare a2 a3 (by rw [a4]; exact Safe.ff h.cd _))
    · simp only [if_true]
      have hM := a1 rfl
      obtain ⟨L, x, p1, p2, p3, p4⟩ := progS_part [codeN (folN s.tu)] M.σ ((1 - s.ac) * 4096) (by rw [a2, List.length_singleton]; omega)
      obtain ⟨⟨τ0, ok3⟩, hx3⟩ : ∃ x, progS M.σ ((1 - s.ac) * 4096) [codeN (folN s.tu)] = x := ⟨_, rfl⟩
      rw [hx3] at p2 p3 p4 ⊢
      simp only at p2 p3 p4 ⊢
      have hDl : τ0.C.length = 8192 := by rw [p4.1, a2]
      cases ok3
      · simp only [Bool.false_eq_true, if_false]
        refine ⟨(fun τ s' e => by injection e with _ e; cases e), fun τ e => ?_⟩
        injection e with e _
        subst e
        obtain rfl : L = 0 := by have := (p3 rfl).1; rw [List.length_singleton] at this; omega
        have hfirst : τ0.C.getD ((1 - s.ac) * 4096) 0 = codeN (folN s.tu) ||| x := by
          rw [p4.2, if_neg (by omega), if_pos (by rw [List.length_singleton]; omega), a4, and255]
          rfl
        have helse : ∀ j, j ≠ (1 - s.ac) * 4096 → τ0.C.getD j 0 = M.σ.C.getD j 0 := fun j hj => by
          rw [p4.2, if_neg (by omega), if_neg (by omega)]
        by_cases hc : codeN (folN s.tu) ||| x = codeN (folN s.tu)
        · exact .inr (hM.signed hac htu hcd hDl (by rw [hfirst, hc]) helse).up
        · refine .inl (h.spare hDl (fun j hj => by rw [a3 j hj, helse _ (by omega)]) ?_)
          rw [hfirst, ← hcd, (nxt_of htu).1]
          rw [(nxt_of htu).1] at hc
          exact Safe.cut (nxt_of htu).2 _ hc
      · simp only [if_true]
        refine ⟨fun τ s' e => ?_, fun τ e => by injection e with _ e; cases e⟩
        injection e with e1 e2
        injection e2 with e2
        subst e1 e2
        obtain rfl : L = 1 := p2 rfl
        exact hM.signed hac htu hcd hDl (by rw [p4.2, if_pos (by omega), a4, and255, Nat.sub_self]; rfl) (fun j hj => by rw [p4.2, if_neg (by omega), if_neg (by rw [List.length_singleton]; omega)])
end Go.Proofs.Ytcjahdgppnmdkaa
namespace Go.Proofs.Ytcjahdgppnmdkaa
open Go.RowKit Go.Great

def updV (V : Vl) (i : Nat) (v : List UInt8) : Vl := fun j => if j = i then some v else V j
/-- a record behind the others, cut or not -/
theorem Live.addP {C D : List UInt8} {s : Sv} {V : Vl} (h : Live C s V) (i : Nat) (hi : i < 3) (v : List UInt8) (hv : v.length ≤ 2000) (he : s.en + 4 + v.length ≤ 4096) {L : Nat} {x : UInt8} (hL : L ≤ 4 + v.length) (hP : Part C (s.ac * 4096 + s.en) (recB i v) L x D) :
    ((L = 4 + v.length ∨ L = 3 + v.length ∧ x = 0) → Live D ⟨s.ac, s.tu, s.en + 4 + v.length, upd s.k i ⟨true, s.en + 3, v.length⟩⟩ (updV V i v)) ∧ (L < 4 + v.length → ¬ (L = 3 + v.length ∧ x = 0) → Up D s.ac V) := by
  have hac := h.up.a2
  have hC := h.up.len
  have hrl := recB_length i v
  have hD : D.length = 8192 := by rw [hP.1, hC]
  obtain ⟨g1, g2, g3⟩ := h.en.kok (secL_len hC hac)
  have hW := Wrote.of hC hac (by omega) (by omega) h.en.2.1 hP
  have hfirst : D.getD (s.ac * 4096) 0 = C.getD (s.ac * 4096) 0 := by rw [hP.2, if_neg (by omega), if_neg (by omega)]
  have hspare : D.getD ((1 - s.ac) * 4096) 0 = C.getD ((1 - s.ac) * 4096) 0 := by rw [hP.2, if_neg (by omega), if_neg (by omega)]
  have hlow : ∀ j, j < s.en → C.getD (s.ac * 4096 + j) 0 = D.getD (s.ac * 4096 + j) 0 := fun j hj => by rw [hP.2, if_neg (by omega), if_neg (by omega)]
  have hold : ∀ j, cont C s.ac s.k j = cont D s.ac s.k j := fun j => cont_same hC hD hac hlow g1 g3 j
  refine ⟨fun hc => ?_, fun hlt hn => ?_⟩
  · have hE := hW.whole h.en.1 hi hv he hc
    have hval : ∀ j, j < 3 → updV V i v j = cont D s.ac (upd s.k i ⟨true, s.en + 3, v.length⟩) j := fun j hj => by
      unfold updV
      by_cases e : j = i
      · subst e
        rw [if_pos rfl]
        unfold cont
        rw [upd_at, if_pos rfl]
        apply congrArg some
        show v = (D.drop (s.ac * 4096 + (s.en + 3))).take v.length
        have := @txt_ext D v (s.ac * 4096 + (s.en + 3)) 0 v.length (fun q hq => by
          have hm := hW.mid (3 + q) (by omega)
          rw [sec_at D hD s.ac hac _ (by omega), recB_v _ v q hq] at hm
          rw [Nat.zero_add, show s.ac * 4096 + (s.en + 3) + q = s.ac * 4096 + (s.en + (3 + q)) by omega]
          exact hm) (by omega) (by omega)
        rw [this, List.drop_zero, List.take_of_length_le (Nat.le_refl _)]
      · rw [if_neg e, h.val j hj, hold j]
        unfold cont
        rw [upd_ne _ _ e]
    exact ⟨⟨hD, hac, by rw [hfirst]; exact h.up.cd, by rw [hfirst, hspare]; exact h.up.sf, _, _, _, hE, hval⟩, h.tu, by rw [hfirst]; exact h.cd, hE, hval, by rw [hspare]; exact h.sp⟩
  · obtain ⟨cl, hE⟩ := Ends.not h.en.1 (by rw [hW.ll, hW.ml]) hW.lo (hW.part hv he hlt hn)
    exact ⟨hD, hac, by rw [hfirst]; exact h.up.cd, by rw [hfirst, hspare]; exact h.up.sf, s.en, s.k, cl, hE, fun j hj => by rw [h.val j hj, hold j]⟩
/-- write: done, or cut -/
theorem Live.write {σ : St} {s : Sv} {V : Vl} (h : Live σ.C s V) (i : Nat) (hi : i < 3) (v : List UInt8) (hv : v.length ≤ 2000) (hn : needN s.k i v.length ≤ 4096) :
    (∀ τ s', wriS σ s i v = (τ, some s') → Live τ.C s' (updV V i v)) ∧ (∀ τ, wriS σ s i v = (τ, none) → ∃ ac, Up τ.C ac V ∨ Up τ.C ac (updV V i v)) := by
  have hac := h.up.a2
  obtain ⟨g1, g2, g3⟩ := h.en.kok (secL_len h.up.len hac)
  unfold wriS
  by_cases hc : s.en + 4 + v.length ≤ 4096
  · rw [if_pos hc]
    obtain ⟨L, x, p1, p2, p3, p4⟩ := progS_part (recB i v) σ (s.ac * 4096 + s.en) (by rw [h.up.len, recB_length]; omega)
    rw [recB_length] at p1 p2 p3
    have A := h.addP i hi v hv hc p1 p4
    have e1 := addS_σ s.ac i v ⟨σ, s.en, s.k⟩
    have e2 := addS_2 s.ac i v ⟨σ, s.en, s.k⟩
    simp only at e1 e2
    rw [← e1] at p4 A
    rw [← e2] at p2 p3
    cases hb : (addS s.ac i v ⟨σ, s.en, s.k⟩).2
    · simp only [Bool.false_eq_true, if_false]
      refine ⟨(fun τ s' e => by injection e with _ e; cases e), fun τ e => ?_⟩
      injection e with e _
      subst e
      by_cases hw : L = 3 + v.length ∧ x = 0
      · exact ⟨s.ac, .inr (A.1 (.inr hw)).up⟩
      · exact ⟨s.ac, .inl (A.2 (p3 hb).1 hw)⟩
    · simp only [if_true]
      refine ⟨fun τ s' e => ?_, fun τ e => by injection e with _ e; cases e⟩
      injection e with e3 e4
      injection e4 with e4
      subst e3 e4
      obtain ⟨k1, k2⟩ := addS_k hb
      rw [k1, k2]
      exact A.1 (.inl (p2 hb))
  · rw [if_neg hc]
    have hV : ∀ j, j < 3 → updV V i v j = mvL σ.C s.ac s.k (i : Int) v j := fun j hj => by
      unfold updV mvL
      by_cases e : j = i
      · rw [if_pos e, if_pos (by omega)]
      · rw [if_neg e, if_neg (by omega), h.val j hj]
        rfl
    obtain ⟨m1, m2⟩ := h.up.move (g3.mono g1) hv h.tu h.cd hV (by rw [needN_rest _ _ _ hi]; exact hn)
    exact ⟨m1, fun τ e => by
      rcases m2 τ e with hu | hu
      · exact ⟨_, .inl hu⟩
      · exact ⟨_, .inr hu⟩⟩
end Go.Proofs.Ytcjahdgppnmdkaa
