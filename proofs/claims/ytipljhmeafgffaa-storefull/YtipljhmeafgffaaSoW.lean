/- Records that are moved into a blank spare. -/
import Derived.Test.YtipljhmeafgffaaSoV
namespace Go.Proofs.Ytipljhmeafgffaa
open Go.RowKit Go.Great

/-- the active sector is as it was; the spare has no code and keeps V below i -/
structure Mid (C0 : List UInt8) (ac : Nat) (m : Mv) (V : Vl) (i : Nat) : Prop where
  len : m.σ.C.length = 8192
  act : ∀ j, j < 4096 → C0.getD (ac * 4096 + j) 0 = m.σ.C.getD (ac * 4096 + j) 0
  ff : m.σ.C.getD ((1 - ac) * 4096) 0 = 255
  en : Ends (secL m.σ.C (1 - ac)) 1 kz m.en m.k true
  val : ∀ j, j < 3 → cont m.σ.C (1 - ac) m.k j = if j < i then V j else none
theorem addS_σ (s i : Nat) (t : List UInt8) (m : Mv) : (addS s i t m).1.σ = (progS m.σ (s * 4096 + m.en) (recB i t)).1 := by
  unfold addS; split <;> rfl
theorem addS_2 (s i : Nat) (t : List UInt8) (m : Mv) : (addS s i t m).2 = (progS m.σ (s * 4096 + m.en) (recB i t)).2 := by
  unfold addS
  cases h : (progS m.σ (s * 4096 + m.en) (recB i t)).2 <;> rfl
theorem addS_k {s i : Nat} {t : List UInt8} {m : Mv} (h : (addS s i t m).2 = true) : (addS s i t m).1.k = upd m.k i ⟨true, m.en + 3, t.length⟩ ∧ (addS s i t m).1.en = m.en + 4 + t.length := by
  rw [addS_2] at h
  unfold addS
  rw [if_pos h]
  exact ⟨rfl, rfl⟩
theorem Mid.add {C0 : List UInt8} {ac : Nat} {m : Mv} {V : Vl} {i : Nat} (h : Mid C0 ac m V i) (hac : ac < 2) (hi : i < 3) (t : List UInt8) (ht : t.length ≤ 2000) (he : m.en + 4 + t.length ≤ 4096) (hV : V i = some t) :
    ((addS (1 - ac) i t m).2 = true → Mid C0 ac (addS (1 - ac) i t m).1 V (i + 1)) ∧ (addS (1 - ac) i t m).1.σ.C.length = 8192 ∧ (∀ j, j < 4096 → C0.getD (ac * 4096 + j) 0 = (addS (1 - ac) i t m).1.σ.C.getD (ac * 4096 + j) 0) ∧ (addS (1 - ac) i t m).1.σ.C.getD ((1 - ac) * 4096) 0 = 255 := by
  have hs : 1 - ac < 2 := by omega
  have hrl := recB_length i t
  obtain ⟨g1, g2, g3⟩ := h.en.kok (secL_len h.len hs)
  obtain ⟨L, x, p1, p2, p3, p4⟩ := progS_part (recB i t) m.σ ((1 - ac) * 4096 + m.en) (by rw [h.len]; omega)
  rw [addS_σ, addS_2]
  obtain ⟨D, hD⟩ : ∃ D, (progS m.σ ((1 - ac) * 4096 + m.en) (recB i t)).1.C = D := ⟨_, rfl⟩
  rw [hD] at p4 ⊢
  have hDl : D.length = 8192 := by rw [p4.1, h.len]
  have hact : ∀ j, j < 4096 → C0.getD (ac * 4096 + j) 0 = D.getD (ac * 4096 + j) 0 := fun j hj => by
    rw [h.act j hj, p4.2, if_neg (by omega), if_neg (by omega)]
  have hff : D.getD ((1 - ac) * 4096) 0 = 255 := by
    rw [p4.2, if_neg (by omega), if_neg (by omega), h.ff]
  refine ⟨fun hok => ?_, hDl, hact, hff⟩
  have hL : L = 4 + t.length := by rw [p2 hok, hrl]
  have hok2 : (addS (1 - ac) i t m).2 = true := by rw [addS_2]; exact hok
  obtain ⟨k1, k2⟩ := addS_k hok2
  have hσ : (addS (1 - ac) i t m).1.σ.C = D := by rw [addS_σ]; exact hD
  have hW := Wrote.of h.len hs (by omega) p1 h.en.2.1 p4
  have hE := hW.whole h.en.1 hi ht he (.inl hL)
  refine ⟨by rw [hσ]; exact hDl, fun j hj => by rw [hσ]; exact hact j hj, by rw [hσ]; exact hff, by rw [hσ, k1, k2]; exact hE, fun j hj => ?_⟩
  rw [hσ, k1]
  by_cases e : j = i
  · subst e
    rw [if_pos (by omega), hV]
    unfold cont
    rw [upd_at, if_pos rfl]
    apply congrArg some
    show (D.drop ((1 - ac) * 4096 + (m.en + 3))).take t.length = t
    have := @txt_ext D t ((1 - ac) * 4096 + (m.en + 3)) 0 t.length (fun q hq => by
      have hm := hW.mid (3 + q) (by omega)
      rw [sec_at D hDl (1 - ac) hs _ (by omega), recB_v _ t q hq] at hm
      rw [Nat.zero_add, show (1 - ac) * 4096 + (m.en + 3) + q = (1 - ac) * 4096 + (m.en + (3 + q)) by omega]
      exact hm) (by omega) (by omega)
    rw [this, List.drop_zero, List.take_of_length_le (Nat.le_refl _)]
  · have e2 : cont D (1 - ac) (upd m.k i ⟨true, m.en + 3, t.length⟩) j = cont D (1 - ac) m.k j := by
      unfold cont
      rw [upd_ne _ _ e]
    have e3 := cont_same (k := m.k) h.len hDl hs (e := m.en) (fun q hq => by
      have := hW.lo q hq
      rw [sec_at _ h.len (1 - ac) hs q (by omega), sec_at _ hDl (1 - ac) hs q (by omega)] at this
      exact this) g1 g3 j
    rw [e2, ← e3, h.val j hj]
    by_cases c : j < i
    · rw [if_pos c, if_pos (by omega)]
    · rw [if_neg c, if_neg (by omega)]
end Go.Proofs.Ytipljhmeafgffaa
