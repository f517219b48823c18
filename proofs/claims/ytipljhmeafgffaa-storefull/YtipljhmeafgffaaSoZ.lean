/- A put, cut or not: what is kept then. -/
import Derived.Test.YtipljhmeafgffaaSoY
namespace Go.Proofs.Ytipljhmeafgffaa
open Go.RowKit Go.Great

def updV (V : Vl) (i : Nat) (v : List UInt8) : Vl := fun j => if j = i then some v else V j
/-- a record behind the others, cut or not -/
theorem Live.addP {C D : List UInt8} {s : Sv} {V : Vl} (h : Live C s V) (i : Nat) (hi : i < 3) (v : List UInt8) (hv : v.length ≤ 2000) (he : s.en + 4 + v.length ≤ 4096) {L : Nat} {x : UInt8} (hL : L ≤ 4 + v.length) (hP : Part C (s.ac * 4096 + s.en) (recB i v) L x D) :
    ((L = 4 + v.length ∨ L = 3 + v.length ∧ x = 0) → Live D ⟨s.ac, s.tu, s.en + 4 + v.length, upd s.k i ⟨true, s.en + 3, v.length⟩⟩ (updV V i v)) ∧ (L < 4 + v.length → ¬ (L = 3 + v.length ∧ x = 0) → Up D s.ac V) := by
  have hac := h.up.a2
  have hC := h.up.len
  have hrl := recB_length i v
  have hD : D.length = 8192 := by rw [hP.1, hC]
  obtain ⟨g1, g2, g3⟩ := h.en.kok (secL_len hC hac)
  have hW := Wrote.of hC hac (by omega) (by omega) h.en.2.1 hP
  have hfirst : D.getD (s.ac * 4096) 0 = C.getD (s.ac * 4096) 0 := by rw [hP.2, if_neg (by omega), if_neg (by omega)]
  have hspare : D.getD ((1 - s.ac) * 4096) 0 = C.getD ((1 - s.ac) * 4096) 0 := by rw [hP.2, if_neg (by omega), if_neg (by omega)]
  have hlow : ∀ j, j < s.en → C.getD (s.ac * 4096 + j) 0 = D.getD (s.ac * 4096 + j) 0 := fun j hj => by rw [hP.2, if_neg (by omega), if_neg (by omega)]
  have hold : ∀ j, cont C s.ac s.k j = cont D s.ac s.k j := fun j => cont_same hC hD hac hlow g1 g3 j
  refine ⟨fun hc => ?_, fun hlt hn => ?_⟩
  · have hE := hW.whole h.en.1 hi hv he hc
    have hval : ∀ j, j < 3 → updV V i v j = cont D s.ac (upd s.k i ⟨true, s.en + 3, v.length⟩) j := fun j hj => by
      unfold updV
      by_cases e : j = i
      · subst e
        rw [if_pos rfl]
        unfold cont
        rw [upd_at, if_pos rfl]
        apply congrArg some
        show v = (D.drop (s.ac * 4096 + (s.en + 3))).take v.length
        have := @txt_ext D v (s.ac * 4096 + (s.en + 3)) 0 v.length (fun q hq => by
          have hm := hW.mid (3 + q) (by omega)
          rw [sec_at D hD s.ac hac _ (by omega), recB_v _ v q hq] at hm
          rw [Nat.zero_add, show s.ac * 4096 + (s.en + 3) + q = s.ac * 4096 + (s.en + (3 + q)) by omega]
          exact hm) (by omega) (by omega)
        rw [this, List.drop_zero, List.take_of_length_le (Nat.le_refl _)]
      · rw [if_neg e, h.val j hj, hold j]
        unfold cont
        rw [upd_ne _ _ e]
    exact ⟨⟨hD, hac, by rw [hfirst]; exact h.up.cd, by rw [hfirst, hspare]; exact h.up.sf, _, _, _, hE, hval⟩, h.tu, by rw [hfirst]; exact h.cd, hE, hval, by rw [hspare]; exact h.sp⟩
  · obtain ⟨cl, hE⟩ := Ends.not h.en.1 (by rw [hW.ll, hW.ml]) hW.lo (hW.part hv he hlt hn)
    exact ⟨hD, hac, by rw [hfirst]; exact h.up.cd, by rw [hfirst, hspare]; exact h.up.sf, s.en, s.k, cl, hE, fun j hj => by rw [h.val j hj, hold j]⟩
/-- write: done, or cut -/
theorem Live.write {σ : St} {s : Sv} {V : Vl} (h : Live σ.C s V) (i : Nat) (hi : i < 3) (v : List UInt8) (hv : v.length ≤ 2000) (hn : needN s.k i v.length ≤ 4096) :
    (∀ τ s', wriS σ s i v = (τ, some s') → Live τ.C s' (updV V i v)) ∧ (∀ τ, wriS σ s i v = (τ, none) → ∃ ac, Up τ.C ac V ∨ Up τ.C ac (updV V i v)) := by
  have hac := h.up.a2
  obtain ⟨g1, g2, g3⟩ := h.en.kok (secL_len h.up.len hac)
  unfold wriS
  by_cases hc : s.en + 4 + v.length ≤ 4096
  · rw [if_pos hc]
    obtain ⟨L, x, p1, p2, p3, p4⟩ := progS_part (recB i v) σ (s.ac * 4096 + s.en) (by rw [h.up.len, recB_length]; omega)
    rw [recB_length] at p1 p2 p3
    have A := h.addP i hi v hv hc p1 p4
    have e1 := addS_σ s.ac i v ⟨σ, s.en, s.k⟩
    have e2 := addS_2 s.ac i v ⟨σ, s.en, s.k⟩
    simp only at e1 e2
    rw [← e1] at p4 A
    rw [← e2] at p2 p3
    cases hb : (addS s.ac i v ⟨σ, s.en, s.k⟩).2
    · simp only [Bool.false_eq_true, if_false]
      refine ⟨(fun τ s' e => by injection e with _ e; cases e), fun τ e => ?_⟩
      injection e with e _
      subst e
      by_cases hw : L = 3 + v.length ∧ x = 0
      · exact ⟨s.ac, .inr (A.1 (.inr hw)).up⟩
      · exact ⟨s.ac, .inl (A.2 (p3 hb).1 hw)⟩
    · simp only [if_true]
      refine ⟨fun τ s' e => ?_, fun τ e => by injection e with _ e; cases e⟩
      injection e with e3 e4
      injection e4 with e4
      subst e3 e4
      obtain ⟨k1, k2⟩ := addS_k hb
      rw [k1, k2]
      exact A.1 (.inl (p2 hb))
  · rw [if_neg hc]
    have hV : ∀ j, j < 3 → updV V i v j = mvL σ.C s.ac s.k (i : Int) v j := fun j hj => by
      unfold updV mvL
      by_cases e : j = i
      · rw [if_pos e, if_pos (by omega)]
      · rw [if_neg e, if_neg (by omega), h.val j hj]
        rfl
    obtain ⟨m1, m2⟩ := h.up.move (g3.mono g1) hv h.tu h.cd hV (by rw [needN_rest _ _ _ hi]; exact hn)
    exact ⟨m1, fun τ e => by
      rcases m2 τ e with hu | hu
      · exact ⟨_, .inl hu⟩
      · exact ⟨_, .inr hu⟩⟩
end Go.Proofs.Ytipljhmeafgffaa
