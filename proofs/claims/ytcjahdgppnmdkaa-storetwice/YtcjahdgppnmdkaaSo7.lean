/- Package store: add by its bytes, sign. -/
import Derived.Test.YtcjahdgppnmdkaaSo6
set_option maxRecDepth 100000
namespace Go.Proofs.Ytcjahdgppnmdkaa
open Go.RowKit Go.Great

/-- power is on -/
structure On (σ : St) : Prop where
  len : σ.C.length = 8192
  off : σ.off = false
  jk : σ.jk.size ≤ 4096
theorem stepS_off {σ : St} (h : (stepS σ).2.2 = true) : (stepS σ).1.off = σ.off := by
  unfold stepS at h ⊢
  split at h
  · cases h
  · rename_i hc; rw [if_neg hc]
theorem progB_off {σ : St} {a : Nat} {b : UInt8} (h : (progB σ a b).2 = true) : (progB σ a b).1.off = σ.off := by
  unfold progB at h ⊢
  by_cases hc : (stepS σ).2.2 = true
  · rw [if_pos hc]; exact stepS_off hc
  · rw [if_neg hc] at h; cases h
theorem progB_len (σ : St) (a : Nat) (b : UInt8) : (progB σ a b).1.C.length = σ.C.length := by
  unfold progB; split
  · show (List.set _ _ _).length = _; rw [List.length_set, stepS_C]
  · show (List.set _ _ _).length = _; rw [List.length_set, stepS_C]
theorem progS_len (d : List UInt8) : ∀ (σ : St) (a : Nat), (progS σ a d).1.C.length = σ.C.length := by
  induction d with
  | nil => intro σ a; rfl
  | cons b t ih =>
    intro σ a
    rw [progS]; split
    · rw [ih, progB_len]
    · exact progB_len _ _ _
theorem progS_jk (d : List UInt8) : ∀ (σ : St) (a : Nat), σ.jk.size ≤ 4096 → (progS σ a d).1.jk.size ≤ 4096 := by
  induction d with
  | nil => intro σ a h; exact h
  | cons b t ih =>
    intro σ a h
    rw [progS]; split
    · exact ih _ _ (progB_jk σ a b h)
    · exact progB_jk σ a b h
theorem progS_on (d : List UInt8) : ∀ (σ : St) (a : Nat), On σ → (progS σ a d).2 = true → On (progS σ a d).1 := by
  induction d with
  | nil => intro σ a h _; exact h
  | cons b t ih =>
    intro σ a h h2
    rw [progS] at h2 ⊢
    by_cases hc : (progB σ a b).2 = true
    · rw [if_pos hc] at h2 ⊢
      exact ih _ _ ⟨by rw [progB_len, h.len], by rw [progB_off hc, h.off], progB_jk σ a b h.jk⟩ h2
    · rw [if_neg hc] at h2; cases h2
theorem eraseS_len (σ : St) (s : Nat) : (eraseS σ s).1.C.length = σ.C.length := by
  unfold eraseS; split
  · simp only [onL_length, stepS_C]
  · simp only [onL_length, stepS_C]
theorem eraseS_jk (σ : St) (s : Nat) (h : σ.jk.size ≤ 4096) : (eraseS σ s).1.jk.size ≤ 4096 := by
  unfold eraseS; split
  · exact (stepS_jk σ h).2
  · exact (stepS_jk σ h).2
theorem eraseS_on {σ : St} {s : Nat} (h : On σ) (h2 : (eraseS σ s).2 = true) : On (eraseS σ s).1 := by
  refine ⟨by rw [eraseS_len, h.len], ?_, eraseS_jk σ s h.jk⟩
  unfold eraseS at h2 ⊢
  by_cases hc : (stepS σ).2.2 = true
  · rw [if_pos hc]
    show (stepS σ).1.off = false
    rw [stepS_off hc, h.off]
  · rw [if_neg hc] at h2; cases h2
end Go.Proofs.Ytcjahdgppnmdkaa
