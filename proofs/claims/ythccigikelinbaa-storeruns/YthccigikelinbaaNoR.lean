/- The program's flash and the reference's: the same, step by step. -/
import Derived.Test.YthccigikelinbaaRf4
namespace Go.Proofs.Ythccigikelinbaa
open Go.RowKit Go.Great

structure Rel (σ ρ : St) : Prop where
  C : σ.C = ρ.C
  off : σ.off = ρ.off
  ar : σ.ar = ρ.ar
  st : σ.st = ρ.st
  lf : σ.ar = true → σ.lf = ρ.lf
  jk : σ.ar = true → σ.jk = jkS ρ.jk
  js : σ.jk.size ≤ 4096
  jr : ρ.jk.size ≤ 140737488351232
theorem rel_new (C : List UInt8) : Rel (st0 C) (st0 C) := ⟨rfl, rfl, rfl, rfl, fun h => (by cases h), fun h => (by cases h), by show (0 : Nat) ≤ _; omega, by show (0 : Nat) ≤ _; omega⟩
theorem arB_jkS (j : ByteArray) (i : Nat) (hi : i < 4096) : arB (jkS j) i = arB j i := by
  have hl : (jkS j).data.toList = j.data.toList.take (min j.size 4096) := by
    unfold jkS
    rw [ByteArray.data_extract, Array.toList_extract]; simp
  have hs : (jkS j).size = min j.size 4096 := by unfold jkS; rw [ByteArray.size_extract]; omega
  unfold arB
  rw [hs, hl]
  by_cases h0 : j.size = 0
  · rw [if_pos (by omega), if_pos h0]
  · rw [if_neg (by omega), if_neg h0]
    by_cases h1 : j.size ≤ 4096
    · rw [Nat.min_eq_left h1, List.take_of_length_le (by rw [list_size]; omega)]
    · rw [Nat.min_eq_right (by omega), Nat.mod_eq_of_lt hi, Nat.mod_eq_of_lt (by omega), List.getD_eq_getElem?_getD, List.getD_eq_getElem?_getD, List.getElem?_take_of_lt hi]
theorem Rel.step {σ ρ : St} (h : Rel σ ρ) : Rel (stepS σ).1 (stepR ρ).1 ∧ (stepS σ).2.2 = (stepR ρ).2 ∧ ((stepS σ).2.2 = false → (stepS σ).2.1 = jkS ρ.jk) := by
  unfold stepS stepR
  by_cases hc : σ.ar = true ∧ σ.lf = 0
  · have hc2 : ρ.ar = true ∧ ρ.lf = 0 := ⟨by rw [← h.ar]; exact hc.1, by rw [← h.lf hc.1]; exact hc.2⟩
    rw [if_pos hc, if_pos hc2]
    exact ⟨⟨h.C, rfl, rfl, h.st, fun e => (by cases e), fun e => (by cases e), by show (0 : Nat) ≤ _; omega, h.jr⟩, rfl, fun _ => h.jk hc.1⟩
  · have hc2 : ¬ (ρ.ar = true ∧ ρ.lf = 0) := fun e => hc ⟨by rw [h.ar]; exact e.1, by rw [h.lf (by rw [h.ar]; exact e.1)]; exact e.2⟩
    rw [if_neg hc, if_neg hc2]
    refine ⟨⟨h.C, h.off, h.ar, ?_, fun e => ?_, h.jk, h.js, h.jr⟩, rfl, fun e => (by cases e)⟩
    · show wrap64 (σ.st + 1) = wrap64 (ρ.st + 1)
      rw [h.st]
    · have e' : σ.ar = true := e
      have e2 : ρ.ar = true := by rw [← h.ar]; exact e'
      show (if σ.ar = true then wrap64 (σ.lf - 1) else σ.lf) = (if ρ.ar = true then wrap64 (ρ.lf - 1) else ρ.lf)
      rw [if_pos e', if_pos e2, h.lf e']
theorem Rel.withC {σ ρ : St} (h : Rel σ ρ) (C : List UInt8) : Rel { σ with C := C } { ρ with C := C } := ⟨rfl, h.off, h.ar, h.st, h.lf, h.jk, h.js, h.jr⟩
theorem Rel.progB {σ ρ : St} (h : Rel σ ρ) (i : Nat) (b : UInt8) : Rel (progB σ i b).1 (progBR ρ i b).1 ∧ (progB σ i b).2 = (progBR ρ i b).2 := by
  obtain ⟨h1, h2, h3⟩ := h.step
  unfold Go.Proofs.Ythccigikelinbaa.progB progBR
  rw [← h2, h1.C]
  cases hw : (stepS σ).2.2
  · simp only [Bool.false_eq_true, if_false]
    have e : arB (stepS σ).2.1 0 = arB (stepR ρ).1.jk 0 := by rw [h3 hw, arB_jkS _ 0 (by omega), stepR_jk]
    rw [e]
    exact ⟨h1.withC _, by trivial⟩
  · simp only [if_true]
    exact ⟨h1.withC _, by trivial⟩
theorem Rel.progS (d : List UInt8) : ∀ {σ ρ : St} (_ : Rel σ ρ) (a : Nat), Rel (progS σ a d).1 (progSR ρ a d).1 ∧ (progS σ a d).2 = (progSR ρ a d).2 := by
  induction d with
  | nil => intro σ ρ h a; exact ⟨h, by trivial⟩
  | cons b t ih =>
    intro σ ρ h a
    obtain ⟨h1, h2⟩ := h.progB a b
    rw [Go.Proofs.Ythccigikelinbaa.progS, progSR, ← h2]
    cases hw : (Go.Proofs.Ythccigikelinbaa.progB σ a b).2
    · simp only [Bool.false_eq_true, if_false]
      exact ⟨h1, by trivial⟩
    · simp only [if_true]
      exact ih h1 (a + 1)
theorem Rel.prog {σ ρ : St} (h : Rel σ ρ) (a : Int) (d : ByteArray) : Rel (progR σ a d).1 (progRR ρ a d).1 ∧ (progR σ a d).2 = (progRR ρ a d).2 := by
  unfold progR progRR
  rw [← h.off]
  cases σ.off
  · simp only [Bool.false_eq_true, if_false]
    cases insideB a d.size
    · exact ⟨h, by trivial⟩
    · obtain ⟨h1, h2⟩ := Rel.progS d.data.toList h a.toNat
      simp only [if_true]
      rw [h2]
      exact ⟨h1, by trivial⟩
  · exact ⟨h, by trivial⟩
theorem Rel.erase {σ ρ : St} (h : Rel σ ρ) (s : Int) : Rel (eraseR σ s).1 (eraseRR ρ s).1 ∧ (eraseR σ s).2 = (eraseRR ρ s).2 := by
  unfold eraseR eraseRR
  rw [← h.off]
  cases σ.off
  · simp only [Bool.false_eq_true, if_false]
    by_cases hi : s = 0 ∨ s = 1
    · simp only [if_pos hi]
      obtain ⟨h1, h2, h3⟩ := h.step
      unfold eraseS eraseSR
      rw [← h2, h1.C]
      cases hw : (stepS σ).2.2
      · simp only [Bool.false_eq_true, if_false]
        rw [onL_congr (stepR ρ).1.C (s.toNat * 4096) 4096 (fun i c => c ||| arB (stepS σ).2.1 i) (fun i c => c ||| arB (stepR ρ).1.jk i) (fun i c hi => by rw [h3 hw, arB_jkS _ _ hi, stepR_jk])]
        exact ⟨h1.withC _, by trivial⟩
      · simp only [if_true]
        exact ⟨h1.withC _, by trivial⟩
    · simp only [if_neg hi]
      exact ⟨h, by trivial⟩
  · exact ⟨h, by trivial⟩
theorem Rel.cut {σ ρ : St} (h : Rel σ ρ) (n : Int) (j : ByteArray) (hj : j.size ≤ 140737488351232) : Rel (cutR σ n j).1 (cutRR ρ n j).1 ∧ (cutR σ n j).2 = (cutRR ρ n j).2 := by
  unfold cutR cutRR
  rw [← h.off]
  cases ho : σ.off
  · simp only [Bool.false_eq_true, if_false]
    by_cases hi : n < 0
    · simp only [if_pos hi]
      exact ⟨h, by trivial⟩
    · simp only [if_neg hi]
      exact ⟨⟨h.C, by first | rfl | exact h.off, rfl, h.st, fun _ => rfl, fun _ => rfl, jkS_size j, hj⟩, by trivial⟩
  · exact ⟨h, by trivial⟩
theorem Rel.on {σ ρ : St} (h : Rel σ ρ) : Rel (onS σ) (onR ρ) := ⟨h.C, rfl, rfl, h.st, fun e => (by cases e), fun e => (by cases e), by show (0 : Nat) ≤ _; omega, h.jr⟩
theorem Rel.read {σ ρ : St} (h : Rel σ ρ) (a n : Int) : readR σ a n = readR ρ a n := by
  unfold readR
  rw [h.off, h.C]
end Go.Proofs.Ythccigikelinbaa
