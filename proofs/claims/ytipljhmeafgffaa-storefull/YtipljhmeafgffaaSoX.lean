/- All records that are moved. -/
import Derived.Test.YtipljhmeafgffaaSoW
namespace Go.Proofs.Ytipljhmeafgffaa
open Go.RowKit Go.Great

theorem mvL_same {C D : List UInt8} {ac : Nat} {k : Kp} (hC : C.length = 8192) (hD : D.length = 8192) (hac : ac < 2) (hk : KOk k 4096) (hs : ∀ j, j < 4096 → C.getD (ac * 4096 + j) 0 = D.getD (ac * 4096 + j) 0) (id : Int) (v : List UInt8) (i : Nat) : mvL C ac k id v i = mvL D ac k id v i := by
  unfold mvL
  by_cases h1 : (i : Int) = id
  · rw [if_pos h1, if_pos h1]
  · rw [if_neg h1, if_neg h1]
    by_cases h2 : (k i).th = true
    · rw [if_pos h2, if_pos h2, txt_same hC hD hac hs (Nat.le_refl _) (by have := (hk.1 i h2).1; omega)]
    · rw [if_neg h2, if_neg h2]
theorem each_mid {C0 : List UInt8} {ac : Nat} {k : Kp} {id : Int} {v : List UInt8} {V : Vl} (hC0 : C0.length = 8192) (hac : ac < 2) (hk : KOk k 4096) (hv : v.length ≤ 2000) (hV : ∀ j, j < 3 → V j = mvL C0 ac k id v j) :
    ∀ (n i : Nat) (m : Mv), i + n = 3 → Mid C0 ac m V i → m.en + restM k id v.length i n ≤ 4096 →
      ((eachS ac k id v i n m).2 = true → Mid C0 ac (eachS ac k id v i n m).1 V 3) ∧ (eachS ac k id v i n m).1.σ.C.length = 8192 ∧ (∀ j, j < 4096 → C0.getD (ac * 4096 + j) 0 = (eachS ac k id v i n m).1.σ.C.getD (ac * 4096 + j) 0) ∧ (eachS ac k id v i n m).1.σ.C.getD ((1 - ac) * 4096) 0 = 255 := by
  intro n
  induction n with
  | zero =>
    intro i m hin hM _
    obtain rfl : i = 3 := by omega
    exact ⟨fun _ => hM, hM.len, hM.act, hM.ff⟩
  | succ n ih =>
    intro i m hin hM hfit
    have hi : i < 3 := by omega
    rw [restM] at hfit
    have hmv : mvL m.σ.C ac k id v i = V i := by
      rw [hV i hi]
      exact (mvL_same hC0 hM.len hac hk hM.act id v i).symm
    rw [eachS]
    cases hx : V i with
    | none =>
      have hs : step1 ac k id v i m = (m, true) := by unfold step1; rw [hmv, hx]
      rw [hs]
      simp only [if_true]
      refine ih (i + 1) m (by omega) ⟨hM.len, hM.act, hM.ff, hM.en, fun j hj => ?_⟩ (by omega)
      rw [hM.val j hj]
      by_cases c : j < i
      · rw [if_pos c, if_pos (by omega)]
      · rw [if_neg c]
        by_cases e : j = i
        · subst e; rw [if_pos (by omega), hx]
        · rw [if_neg (by omega)]
    | some t =>
      have hs : step1 ac k id v i m = addS (1 - ac) i t m := by unfold step1; rw [hmv, hx]
      have ht : t.length ≤ 2000 ∧ 4 + t.length = szM k id v.length i := by
        have h0 := hV i hi
        rw [hx] at h0
        unfold mvL at h0
        unfold szM szK
        by_cases h1 : (i : Int) = id
        · rw [if_pos h1] at h0 ⊢
          injection h0 with h0
          rw [h0]
          exact ⟨hv, rfl⟩
        · rw [if_neg h1] at h0 ⊢
          by_cases h2 : (k i).th = true
          · rw [if_pos h2] at h0 ⊢
            injection h0 with h0
            have hkk := hk.1 i h2
            rw [h0, txt_len C0 hC0 ac hac (k i) (by omega)]
            exact ⟨hkk.2, rfl⟩
          · rw [if_neg h2] at h0; cases h0
      obtain ⟨a1, a2, a3, a4⟩ := hM.add hac hi t ht.1 (by omega) hx
      rw [hs]
      cases hb : (addS (1 - ac) i t m).2
      · simp only [Bool.false_eq_true, if_false]
        exact ⟨(fun e => by cases e), a2, a3, a4⟩
      · simp only [if_true]
        exact ih (i + 1) _ (by omega) (a1 hb) (by rw [(addS_k hb).2]; omega)
/-- a blank spare -/
theorem Mid.start {C0 : List UInt8} {ac : Nat} {σ : St} {V : Vl} (hac : ac < 2) (hl : σ.C.length = 8192) (ha : ∀ j, j < 4096 → C0.getD (ac * 4096 + j) 0 = σ.C.getD (ac * 4096 + j) 0) (hb : ∀ j, j < 4096 → σ.C.getD ((1 - ac) * 4096 + j) 0 = 255) : Mid C0 ac ⟨σ, 1, kz⟩ V 0 := by
  have h0 := hb 0 (by omega)
  rw [Nat.add_zero] at h0
  refine ⟨hl, ha, h0, ⟨.nil _ _, ?_, fun e => by cases e⟩, fun j hj => ?_⟩
  · rw [blankB_iff]
    intro j _ h2
    rw [secL_len hl (by omega)] at h2
    rw [sec_at _ hl _ (by omega) _ h2]
    exact hb j h2
  · rw [if_neg (by omega)]
    rfl
end Go.Proofs.Ytipljhmeafgffaa
