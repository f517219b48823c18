/- What Program and Erase leave, cut or not, cell by cell: plain lists. -/
import Derived.Test.YtipljhmeafgffaaSoR
namespace Go.Proofs.Ytipljhmeafgffaa
open Go.RowKit Go.Great

theorem getD_set (C : List UInt8) (a : Nat) (x : UInt8) (ha : a < C.length) (j : Nat) : (C.set a x).getD j 0 = if j = a then x else C.getD j 0 := by
  rw [List.getD_eq_getElem?_getD, List.getD_eq_getElem?_getD, List.getElem?_set]
  by_cases h : a = j
  · subst h; rw [if_pos rfl, if_pos rfl, if_pos ha]; rfl
  · rw [if_neg h, if_neg (fun e => h e.symm)]
theorem stepS_cut {σ : St} (h : (stepS σ).2.2 = false) : (stepS σ).1.off = true := by
  unfold stepS at h ⊢
  split at h
  · rename_i hc; rw [if_pos hc]
  · cases h
/-- d up to its byte L, that byte in part -/
def Part (C : List UInt8) (a : Nat) (d : List UInt8) (L : Nat) (x : UInt8) (D : List UInt8) : Prop :=
  D.length = C.length ∧ ∀ j, D.getD j 0 = if a ≤ j ∧ j < a + L then C.getD j 0 &&& d.getD (j - a) 0 else if j = a + L ∧ L < d.length then C.getD j 0 &&& (d.getD L 0 ||| x) else C.getD j 0
theorem progS_part (d : List UInt8) : ∀ (σ : St) (a : Nat), a + d.length ≤ σ.C.length → ∃ L x, L ≤ d.length ∧ ((progS σ a d).2 = true → L = d.length) ∧ ((progS σ a d).2 = false → L < d.length ∧ (progS σ a d).1.off = true) ∧ Part σ.C a d L x (progS σ a d).1.C := by
  induction d with
  | nil =>
    intro σ a _
    refine ⟨0, 0, Nat.le_refl _, fun _ => rfl, (fun e => by cases e), rfl, fun j => ?_⟩
    rw [if_neg (by omega), if_neg (by simp)]
    rfl
  | cons b t ih =>
    intro σ a hl
    rw [List.length_cons] at hl
    have ha : a < σ.C.length := by omega
    rw [progS]
    by_cases hc : (progB σ a b).2 = true
    · rw [if_pos hc]
      have hC : (progB σ a b).1.C = σ.C.set a (σ.C.getD a 0 &&& b) := by
        unfold progB at hc ⊢
        by_cases hs : (stepS σ).2.2 = true
        · rw [if_pos hs]; simp only [stepS_C]
        · rw [if_neg hs] at hc; cases hc
      obtain ⟨L, x, h1, h2, h3, h4, h5⟩ := ih (progB σ a b).1 (a + 1) (by rw [progB_len]; omega)
      refine ⟨L + 1, x, by rw [List.length_cons]; omega, fun e => by rw [h2 e, List.length_cons], fun e => ⟨by rw [List.length_cons]; have := (h3 e).1; omega, (h3 e).2⟩, by rw [h4, progB_len], fun j => ?_⟩
      rw [h5 j, hC, getD_set _ _ _ ha]
      by_cases e : j = a
      · subst e
        rw [if_neg (by omega), if_neg (by omega), if_pos rfl, if_pos (by omega), Nat.sub_self]
        rfl
      · rw [if_neg e]
        by_cases c1 : a + 1 ≤ j ∧ j < a + 1 + L
        · obtain ⟨m, hm⟩ : ∃ m, j - a = m + 1 := ⟨j - a - 1, by omega⟩
          rw [if_pos c1, if_pos (by omega), hm, show j - (a + 1) = m by omega]
          rfl
        · rw [if_neg c1, if_neg (c := a ≤ j ∧ j < a + (L + 1)) (by omega)]
          by_cases c2 : j = a + 1 + L ∧ L < t.length
          · rw [if_pos c2, if_pos (by rw [List.length_cons]; omega)]
            rfl
          · rw [if_neg c2, if_neg (by rw [List.length_cons]; omega)]
    · rw [if_neg hc]
      have hs : ¬ (stepS σ).2.2 = true := fun hs => hc (by unfold progB; rw [if_pos hs])
      refine ⟨0, arB (stepS σ).2.1 0, Nat.zero_le _, (fun e => by cases e), fun _ => ⟨by rw [List.length_cons]; omega, ?_⟩, progB_len _ _ _, fun j => ?_⟩
      · unfold progB
        rw [if_neg hs]
        exact stepS_cut (by simpa using hs)
      · unfold progB
        rw [if_neg hs]
        simp only [stepS_C]
        rw [getD_set _ _ _ ha, if_neg (c := a ≤ j ∧ j < a + 0) (by omega)]
        by_cases e : j = a
        · subst e
          rw [if_pos rfl, if_pos (by rw [List.length_cons]; omega)]
          rfl
        · rw [if_neg e, if_neg (by omega)]
/-- an erase: all of the sector, or in part -/
theorem eraseS_part (σ : St) (s : Nat) (hl : s * 4096 + 4096 ≤ σ.C.length) : ((eraseS σ s).2 = true → ∀ j, (eraseS σ s).1.C.getD j 0 = if s * 4096 ≤ j ∧ j < s * 4096 + 4096 then 255 else σ.C.getD j 0) ∧ ((eraseS σ s).2 = false → (eraseS σ s).1.off = true ∧ ∃ g : Nat → UInt8, ∀ j, (eraseS σ s).1.C.getD j 0 = if s * 4096 ≤ j ∧ j < s * 4096 + 4096 then σ.C.getD j 0 ||| g j else σ.C.getD j 0) := by
  have key : ∀ (g : Nat → UInt8 → UInt8) (j : Nat), (onL σ.C (s * 4096) 4096 g).getD j 0 = if s * 4096 ≤ j ∧ j < s * 4096 + 4096 then g (j - s * 4096) (σ.C.getD j 0) else σ.C.getD j 0 := fun g j => by
    by_cases h : j < σ.C.length
    · rw [onL_getD _ _ _ _ _ h]
    · rw [onL_else _ _ _ _ _ (by omega), if_neg (by omega)]
  unfold eraseS
  by_cases hs : (stepS σ).2.2 = true
  · rw [if_pos hs]
    refine ⟨fun _ j => ?_, fun e => by cases e⟩
    simp only [stepS_C]
    rw [key]
  · rw [if_neg hs]
    refine ⟨(fun e => by cases e), fun _ => ⟨stepS_cut (by simpa using hs), fun j => arB (stepS σ).2.1 (j - s * 4096), fun j => ?_⟩⟩
    simp only [stepS_C]
    rw [key]
/-- a cell of a sector -/
theorem sec_at (C : List UInt8) (hC : C.length = 8192) (s : Nat) (hs : s < 2) (j : Nat) (hj : j < 4096) : (secL C s).getD j 0 = C.getD (s * 4096 + j) 0 := by
  unfold secL
  rw [getD_at _ _ (by rw [List.length_take, List.length_drop]; omega), List.getElem_take, List.getElem_drop, ← getD_at _ 0]
end Go.Proofs.Ytipljhmeafgffaa
