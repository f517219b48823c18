/- A boot of any image that answers a store: it lives. -/
import Derived.Test.YtcjahdgppnmdkaaSoC
set_option maxRecDepth 100000
namespace Go.Proofs.Ytcjahdgppnmdkaa
open Go.RowKit Go.Great

/-- a move that is done, whatever the spare was -/
theorem move_done {σ : St} {s : Sv} {V : Vl} {id : Int} {v : List UInt8} (hl : σ.C.length = 8192) (hac : s.ac < 2) (hk : KOk s.k 4096) (hv : v.length ≤ 2000) (htu : s.tu < 3) (hcd : codeN s.tu = σ.C.getD (s.ac * 4096) 0) (hV : ∀ j, j < 3 → V j = mvL σ.C s.ac s.k id v j) (hfit : 1 + restM s.k id v.length 0 3 ≤ 4096) :
    ∀ τ s', moveS σ s id v = (τ, some s') → Live τ.C s' V := by
  unfold moveS
  have hl1 : (eraseS σ (1 - s.ac)).1.C.length = 8192 := by rw [eraseS_len, hl]
  obtain ⟨q1, _⟩ := eraseS_part σ (1 - s.ac) (by rw [hl]; omega)
  cases hb1 : (eraseS σ (1 - s.ac)).2
  · simp only [Bool.false_eq_true, if_false]
    intro τ s' e
    injection e with _ e; cases e
  · simp only [if_true]
    have hact1 : ∀ j, j < 4096 → σ.C.getD (s.ac * 4096 + j) 0 = (eraseS σ (1 - s.ac)).1.C.getD (s.ac * 4096 + j) 0 := fun j hj => by
      rw [q1 hb1, if_neg (by omega)]
    have hff : ∀ j, j < 4096 → (eraseS σ (1 - s.ac)).1.C.getD ((1 - s.ac) * 4096 + j) 0 = 255 := fun j hj => by
      rw [q1 hb1, if_pos (by omega)]
    obtain ⟨a1, a2, a3, a4⟩ := each_mid hl hac hk hv hV 3 0 ⟨(eraseS σ (1 - s.ac)).1, 1, kz⟩ rfl (Mid.start hac hl1 hact1 hff) hfit
    obtain ⟨⟨M, ok⟩, hx⟩ : ∃ x, eachS s.ac s.k id v 0 3 ⟨(eraseS σ (1 - s.ac)).1, 1, kz⟩ = x := ⟨_, rfl⟩
    rw [hx] at a1 a2 a3 a4 ⊢
    simp only at a1 a2 a3 a4 ⊢
    cases ok
    · simp only [Bool.false_eq_true, if_false]
      intro τ s' e
      injection e with _ e; cases e
    · simp only [if_true]
      have hM := a1 rfl
      obtain ⟨L, x, p1, p2, p3, p4⟩ := progS_part [codeN (folN s.tu)] M.σ ((1 - s.ac) * 4096) (by rw [a2, List.length_singleton]; omega)
      obtain ⟨⟨τ0, ok3⟩, hx3⟩ : ∃ x, progS M.σ ((1 - s.ac) * 4096) [codeN (folN s.tu)] = x := ⟨_, rfl⟩
      rw [hx3] at p2 p3 p4 ⊢
      simp only at p2 p3 p4 ⊢
      have hDl : τ0.C.length = 8192 := by rw [p4.1, a2]
      cases ok3
      · simp only [Bool.false_eq_true, if_false]
        intro τ s' e
        injection e with _ e; cases e
      · simp only [if_true]
        intro τ s' e
        injection e with e1 e2
        injection e2 with e2
        subst e1 e2
        obtain rfl : L = 1 := p2 rfl
        exact hM.signed hac htu hcd hDl (by rw [p4.2, if_pos (by omega), a4, and255, Nat.sub_self]; rfl) (fun j hj => by rw [p4.2, if_neg (by omega), if_neg (by rw [List.length_singleton]; omega)])
def noV : Vl := fun _ => none
/-- a sector that holds nothing -/
theorem live_new {D : List UInt8} (hl : D.length = 8192) (h0 : D.getD 0 0 = 15) (h1 : ∀ j, 1 ≤ j → j < 4096 → D.getD j 0 = 255) (h2 : D.getD 4096 0 = 255) : Live D ⟨0, 0, 1, kz⟩ noV := by
  have hE : Ends (secL D 0) 1 kz 1 kz true := by
    refine ⟨Recs.nil 1 kz, ?_, fun h => by cases h⟩
    rw [blankB_iff]
    intro j hj1 hj2
    rw [secL_len hl (by omega)] at hj2
    rw [sec_at D hl 0 (by omega) j hj2, Nat.zero_mul, Nat.zero_add]
    exact h1 j hj1 hj2
  have hval : ∀ i, i < 3 → noV i = cont D 0 kz i := fun i _ => rfl
  have e0 : D.getD (0 * 4096) 0 = 15 := h0
  have e1 : D.getD ((1 - 0) * 4096) 0 = 255 := h2
  have hU : Up D 0 noV := ⟨hl, by omega, by rw [e0]; exact .inl rfl, by rw [e0, e1]; exact Safe.ff (.inl rfl) 0, ⟨1, kz, true, hE, hval⟩⟩
  exact ⟨hU, by show 0 < 3; omega, by show codeN 0 = _; rw [e0]; rfl, hE, hval, .inr e1⟩
theorem fmt2_live {σ : St} (hl : σ.C.length = 8192) (h2 : σ.C.getD 4096 0 = 255) : ∀ τ s', fmt2 σ = (τ, some s') → Live τ.C s' noV := by
  intro τ s' e
  unfold fmt2 at e
  obtain ⟨q1, _⟩ := eraseS_part σ 0 (by rw [hl]; omega)
  have hl1 : (eraseS σ 0).1.C.length = 8192 := by rw [eraseS_len, hl]
  cases hb : (eraseS σ 0).2
  · rw [hb] at e
    simp only [Bool.false_eq_true, if_false] at e
    injection e with _ e; cases e
  · rw [hb] at e
    simp only [if_true] at e
    obtain ⟨L, x, p1, p2, p3, p4⟩ := progS_part [15] (eraseS σ 0).1 0 (by rw [hl1, List.length_singleton]; omega)
    obtain ⟨⟨τ0, ok⟩, hx⟩ : ∃ x, progS (eraseS σ 0).1 0 [15] = x := ⟨_, rfl⟩
    rw [hx] at p2 p4 e
    simp only at p2 p4 e
    cases ok
    · simp only [Bool.false_eq_true, if_false] at e
      injection e with _ e; cases e
    · simp only [if_true] at e
      injection e with e1 e2
      injection e2 with e2
      subst e1 e2
      obtain rfl : L = 1 := p2 rfl
      have q := q1 hb
      refine live_new (by rw [p4.1, hl1]) ?_ (fun j h1 h2 => ?_) ?_
      · rw [p4.2, if_pos (by omega), q, if_pos (by omega)]; rfl
      · rw [p4.2, if_neg (by omega), if_neg (by rw [List.length_singleton]; omega), q, if_pos (by omega)]
      · rw [p4.2, if_neg (by omega), if_neg (by rw [List.length_singleton]; omega), q, if_neg (by omega)]; exact h2
theorem fmt_live {σ : St} (hl : σ.C.length = 8192) : ∀ τ s', fmtS σ (σ.C.getD 4096 0) = (τ, some s') → Live τ.C s' noV := by
  intro τ s' e
  unfold fmtS at e
  by_cases h : σ.C.getD 4096 0 = 255
  · rw [if_pos h] at e
    exact fmt2_live hl h τ s' e
  · rw [if_neg h] at e
    obtain ⟨q1, _⟩ := eraseS_part σ 1 (by rw [hl]; omega)
    cases hb : (eraseS σ 1).2
    · rw [hb] at e
      simp only [Bool.false_eq_true, if_false] at e
      injection e with _ e; cases e
    · rw [hb] at e
      simp only [if_true] at e
      exact fmt2_live (by rw [eraseS_len, hl]) (by rw [q1 hb, if_pos (by omega)]) τ s' e
/-- sector ac has a code: whatever the spare is -/
theorem bootIn_live {σ : St} {ac : Nat} (hl : σ.C.length = 8192) (hac : ac < 2) (hcd : Cd (σ.C.getD (ac * 4096) 0)) (hs : (Cd (σ.C.getD ((1 - ac) * 4096) 0) ∨ σ.C.getD ((1 - ac) * 4096) 0 = 255) → Safe (σ.C.getD ((1 - ac) * 4096) 0) ac (σ.C.getD (ac * 4096) 0)) : ∀ τ s', bootIn σ ac = (τ, some s') → ∃ V, Live τ.C s' V := by
  intro τ s' e
  have hre := rd_ends (secL σ.C ac) 4096 1 kz (by rw [secL_len hl hac]; omega) (by rw [secL_len hl hac]; omega)
  obtain ⟨⟨k, en, cl⟩, hrd⟩ : ∃ x, rd (secL σ.C ac) 4096 1 kz = x := ⟨_, rfl⟩
  rw [hrd] at hre
  simp only at hre
  by_cases hsp : Cd (σ.C.getD ((1 - ac) * 4096) 0) ∨ σ.C.getD ((1 - ac) * 4096) 0 = 255
  · have hU : Up σ.C ac (cont σ.C ac k) := ⟨hl, hac, hcd, hs hsp, ⟨en, k, cl, hre, fun i _ => rfl⟩⟩
    exact ⟨_, hU.bootIn.1 τ s' e⟩
  · obtain ⟨g1, g2, g3⟩ := hre.kok (secL_len hl hac)
    have hfst : (secL σ.C ac).getD 0 0 = σ.C.getD (ac * 4096) 0 := by
      have := sec_at σ.C hl ac hac 0 (by omega)
      rw [Nat.add_zero] at this
      exact this
    have hspe : (secL σ.C (1 - ac)).getD 0 0 = σ.C.getD ((1 - ac) * 4096) 0 := by
      have := sec_at σ.C hl (1 - ac) (by omega) 0 (by omega)
      rw [Nat.add_zero] at this
      exact this
    obtain ⟨t1, t2⟩ := turn_of hcd
    have hsv : svOf σ.C ac = (⟨ac, (turnI (σ.C.getD (ac * 4096) 0)).toNat, en, k⟩, cl) := by
      unfold svOf
      rw [hrd, hfst]
    refine ⟨cont σ.C ac k, ?_⟩
    unfold bootIn at e
    rw [hsv, hspe] at e
    simp only at e
    cases cl
    · simp only [Bool.false_eq_true, if_false] at e
      refine move_done (s := ⟨ac, (turnI (σ.C.getD (ac * 4096) 0)).toNat, en, k⟩) (id := -1) (v := []) hl hac (g3.mono g1) (by simp) t1 t2 (fun j hj => ?_) (by rw [List.length_nil, restM_none]; show 1 + sizeK k ≤ 4096; have := g3.2; omega) τ s' e
      unfold mvL
      rw [if_neg (by omega)]
      rfl
    · simp only [if_true] at e
      rw [if_pos ⟨fun h => hsp (.inr h), not_cd (fun h => hsp (.inl h))⟩] at e
      obtain ⟨q1, _⟩ := eraseS_part σ (1 - ac) (by rw [hl]; omega)
      have hDl : (eraseS σ (1 - ac)).1.C.length = 8192 := by rw [eraseS_len, hl]
      cases hb : (eraseS σ (1 - ac)).2
      · rw [hb] at e
        simp only [Bool.false_eq_true, if_false] at e
        injection e with _ e; cases e
      · rw [hb] at e
        simp only [if_true] at e
        injection e with e1 e2
        injection e2 with e2
        subst e1 e2
        have hact : ∀ j, j < 4096 → σ.C.getD (ac * 4096 + j) 0 = (eraseS σ (1 - ac)).1.C.getD (ac * 4096 + j) 0 := fun j hj => by
          rw [q1 hb, if_neg (by omega)]
        have e0 := hact 0 (by omega)
        rw [Nat.add_zero] at e0
        have hs0 : (eraseS σ (1 - ac)).1.C.getD ((1 - ac) * 4096) 0 = 255 := by rw [q1 hb, if_pos (by omega)]
        have hE2 : Ends (secL (eraseS σ (1 - ac)).1.C ac) 1 kz en k true := by rw [← sec_same hl hDl hac hact]; exact hre
        have hval : ∀ i, i < 3 → cont σ.C ac k i = cont (eraseS σ (1 - ac)).1.C ac k i := fun i hi => cont_same hl hDl hac hact (Nat.le_refl _) (g3.mono g1) i
        exact ⟨⟨hDl, hac, by rw [← e0]; exact hcd, by rw [hs0, ← e0]; exact Safe.ff hcd ac, ⟨en, k, true, hE2, hval⟩⟩, t1, by rw [← e0]; exact t2, hE2, hval, .inr hs0⟩
theorem act_cases (a b : UInt8) (h : actI a b ≠ -1) : actI a b = 0 ∧ Cd a ∨ actI a b = 1 ∧ Cd b := by
  have key : ∀ c : UInt8, (Cd c ∧ (turnI c = 0 ∨ turnI c = 1 ∨ turnI c = 2)) ∨ turnI c = -1 := by
    intro c
    by_cases hc : Cd c
    · obtain ⟨t, e, ht, _⟩ := cd_turn hc
      exact .inl ⟨hc, by omega⟩
    · exact .inr (not_cd hc)
  unfold actI at h ⊢
  rcases key a with ⟨ca, ea | ea | ea⟩ | ea <;> rcases key b with ⟨cb, eb | eb | eb⟩ | eb <;> rw [ea, eb] at h ⊢ <;> first | exact .inl ⟨rfl, ca⟩ | exact .inr ⟨rfl, cb⟩ | exact absurd rfl h
/-- Boot of any image: what answers a store lives -/
theorem boot_live {σ : St} (hl : σ.C.length = 8192) (ho : σ.off = false) : ∀ τ s', bootS σ = (τ, some s') → ∃ V, Live τ.C s' V := by
  intro τ s' e
  unfold bootS at e
  have h0 : (secL σ.C 0).getD 0 0 = σ.C.getD 0 0 := by
    have := sec_at σ.C hl 0 (by omega) 0 (by omega)
    rw [Nat.zero_mul, Nat.zero_add] at this
    exact this
  have h1 : (secL σ.C 1).getD 0 0 = σ.C.getD 4096 0 := by
    have := sec_at σ.C hl 1 (by omega) 0 (by omega)
    rw [Nat.one_mul, Nat.add_zero] at this
    exact this
  rw [ho, h0, h1] at e
  simp only [Bool.false_eq_true, if_false] at e
  by_cases hm : actI (σ.C.getD 0 0) (σ.C.getD 4096 0) = -1
  · rw [if_pos hm] at e
    exact ⟨_, fmt_live hl τ s' e⟩
  · rw [if_neg hm] at e
    have hcases : actI (σ.C.getD 0 0) (σ.C.getD 4096 0) = 0 ∧ Cd (σ.C.getD 0 0) ∨ actI (σ.C.getD 0 0) (σ.C.getD 4096 0) = 1 ∧ Cd (σ.C.getD 4096 0) := act_cases _ _ hm
    rcases hcases with ⟨ha, hc⟩ | ⟨ha, hc⟩
    · rw [ha] at e
      refine bootIn_live (ac := 0) hl (by omega) (by rw [Nat.zero_mul]; exact hc) (fun hsp => ?_) τ s' e
      rw [Nat.zero_mul]
      exact (act0_safe hsp ha).2
    · rw [ha] at e
      refine bootIn_live (ac := 1) hl (by omega) (by rw [Nat.one_mul]; exact hc) (fun hsp => ?_) τ s' e
      rw [Nat.one_mul]
      exact (act1_safe hsp ha).2
end Go.Proofs.Ytcjahdgppnmdkaa
