/- A boot of a flash whose objects are known, cut or not. -/
import Derived.Test.YtcjahdgppnmdkaaSoRZ
set_option maxRecDepth 100000
namespace Go.Proofs.Ytcjahdgppnmdkaa
open Go.RowKit Go.Great

theorem turn_of {c : UInt8} (h : Cd c) : (turnI c).toNat < 3 ∧ codeN (turnI c).toNat = c := by
  rcases h with rfl | rfl | rfl
  · exact ⟨by decide, rfl⟩
  · exact ⟨by decide, rfl⟩
  · exact ⟨by decide, rfl⟩
/-- sector ac is read: clean or dirty, then done or cut -/
theorem Up.bootIn {σ : St} {ac : Nat} {V : Vl} (h : Up σ.C ac V) :
    (∀ τ s', bootIn σ ac = (τ, some s') → Live τ.C s' V) ∧ (∀ τ, bootIn σ ac = (τ, none) → ∃ a, Up τ.C a V) := by
  have hac := h.a2
  have hl := h.len
  have hc := h.cd
  obtain ⟨en, k, cl, hE, hval⟩ := h.rd
  have hrd := hE.rd 4096 (by rw [secL_len hl hac]; omega) (by rw [secL_len hl hac]; omega)
  obtain ⟨g1, g2, g3⟩ := hE.kok (secL_len hl hac)
  have hfst : (secL σ.C ac).getD 0 0 = σ.C.getD (ac * 4096) 0 := by
    have := sec_at σ.C hl ac hac 0 (by omega)
    rw [Nat.add_zero] at this
    exact this
  have hsp : (secL σ.C (1 - ac)).getD 0 0 = σ.C.getD ((1 - ac) * 4096) 0 := by
    have := sec_at σ.C hl (1 - ac) (by omega) 0 (by omega)
    rw [Nat.add_zero] at this
    exact this
  obtain ⟨t1, t2⟩ := turn_of hc
  have hsv : svOf σ.C ac = (⟨ac, (turnI (σ.C.getD (ac * 4096) 0)).toNat, en, k⟩, cl) := by
    unfold svOf
    rw [hrd, hfst]
  unfold Go.Proofs.Ytcjahdgppnmdkaa.bootIn
  rw [hsv, hsp]
  simp only
  cases cl
  · simp only [Bool.false_eq_true, if_false]
    have hV : ∀ j, j < 3 → V j = mvL σ.C ac k (-1) [] j := fun j hj => by
      unfold mvL
      rw [if_neg (by omega), hval j hj]
      rfl
    obtain ⟨m1, m2⟩ := Up.move (s := ⟨ac, (turnI (σ.C.getD (ac * 4096) 0)).toNat, en, k⟩) (id := -1) (v := []) h (g3.mono g1) (by simp) t1 t2 hV (by rw [List.length_nil, restM_none]; show 1 + sizeK k ≤ 4096; have := g3.2; omega)
    exact ⟨m1, fun τ e => by
      rcases m2 τ e with hu | hu
      · exact ⟨_, hu⟩
      · exact ⟨_, hu⟩⟩
  · simp only [if_true]
    by_cases hq : σ.C.getD ((1 - ac) * 4096) 0 ≠ 255 ∧ turnI (σ.C.getD ((1 - ac) * 4096) 0) = -1
    · rw [if_pos hq]
      obtain ⟨hE1, hE2⟩ := h.erase
      have hDl : (eraseS σ (1 - ac)).1.C.length = 8192 := by rw [eraseS_len, hl]
      cases hb : (eraseS σ (1 - ac)).2
      · simp only [Bool.false_eq_true, if_false]
        refine ⟨(fun τ s' e => by injection e with _ e; cases e), fun τ e => ?_⟩
        injection e with e _
        subst e
        exact ⟨_, hE1⟩
      · simp only [if_true]
        refine ⟨fun τ s' e => ?_, fun τ e => by injection e with _ e; cases e⟩
        injection e with e1 e2
        injection e2 with e2
        subst e1 e2
        have hact : ∀ j, j < 4096 → σ.C.getD (ac * 4096 + j) 0 = (eraseS σ (1 - ac)).1.C.getD (ac * 4096 + j) 0 := fun j hj => by
          rw [(eraseS_part σ (1 - ac) (by rw [hl]; omega)).1 hb, if_neg (by omega)]
        have e0 := hact 0 (by omega)
        rw [Nat.add_zero] at e0
        have hs0 := hE2 hb 0 (by omega)
        rw [Nat.add_zero] at hs0
        exact ⟨hE1, t1, by rw [← e0]; exact t2, by rw [← sec_same hl hDl hac hact]; exact hE, fun i hi => by rw [hval i hi]; exact cont_same hl hDl hac hact (Nat.le_refl _) (g3.mono g1) i, .inr hs0⟩
    · rw [if_neg hq]
      refine ⟨fun τ s' e => ?_, fun τ e => by injection e with _ e; cases e⟩
      injection e with e1 e2
      injection e2 with e2
      subst e1 e2
      refine ⟨h, t1, t2, hE, hval, ?_⟩
      by_cases h5 : σ.C.getD ((1 - ac) * 4096) 0 = 255
      · exact .inr h5
      · exact .inl (turn_cd (fun e => hq ⟨h5, e⟩))
/-- Boot of what was booted before -/
theorem Up.boot {σ : St} {ac : Nat} {V : Vl} (h : Up σ.C ac V) (ho : σ.off = false) :
    (∀ τ s', bootS σ = (τ, some s') → Live τ.C s' V) ∧ (∀ τ, bootS σ = (τ, none) → ∃ a, Up τ.C a V) := by
  have e : bootS σ = Go.Proofs.Ytcjahdgppnmdkaa.bootIn σ ac := by
    unfold bootS
    rw [ho, h.act]
    simp only [Bool.false_eq_true, if_false]
    rw [if_neg (by omega), show ((ac : Int)).toNat = ac by omega]
  rw [e]
  exact h.bootIn
end Go.Proofs.Ytcjahdgppnmdkaa
