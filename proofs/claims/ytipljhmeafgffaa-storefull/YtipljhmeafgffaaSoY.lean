/- A move, cut or not: what is kept then. -/
import Derived.Test.YtipljhmeafgffaaSoX
namespace Go.Proofs.Ytipljhmeafgffaa
open Go.RowKit Go.Great

theorem Recs.same1 {l m : List UInt8} {a b : Nat} {k k' : Kp} (h : Recs l a k b k') (hl : l.length = m.length) (ha : 1 ≤ a) (hs : ∀ j, 1 ≤ j → j < b → l.getD j 0 = m.getD j 0) : Recs m a k b k' := by
  induction h with
  | nil => exact .nil _ _
  | @cons a k b k' h t ih =>
    obtain ⟨c1, c2, c3, c4, c5⟩ := wholeB_true h
    have hle := t.le
    have e1 : lenAt m a = lenAt l a := by unfold lenAt; rw [hs (a + 1) (by omega) (by omega), hs (a + 2) (by omega) (by omega)]
    have e2 : idAt m a = idAt l a := by unfold idAt; rw [hs a ha (by omega)]
    refine .cons (wholeB_of (by rw [e2]; exact c2) (by rw [e1]; exact c3) (by rw [e1, ← hl]; exact c4) (by rw [e1, ← hs _ (by omega) (by omega)]; exact c5)) ?_
    rw [e1, e2, sgAt, e1]
    exact ih (by omega) hs
theorem Recs.low {l : List UInt8} {a b : Nat} {k k' : Kp} (h : Recs l a k b k') (hk : ∀ i, (k i).th = true → 1 ≤ (k i).lo) : ∀ i, (k' i).th = true → 1 ≤ (k' i).lo := by
  induction h with
  | nil => exact hk
  | @cons a k b k' h t ih =>
    refine ih fun i hi => ?_
    by_cases e : i = idAt l a
    · subst e
      rw [upd_at]
      show 1 ≤ a + 3
      omega
    · rw [upd_ne _ _ e] at hi ⊢
      exact hk i hi
theorem kz_low (i : Nat) (h : (kz i).th = true) : 1 ≤ (kz i).lo := by simp [kz, sgz] at h
/-- a store that lives on an image, and what it keeps -/
structure Live (C : List UInt8) (s : Sv) (V : Vl) : Prop where
  up : Up C s.ac V
  tu : s.tu < 3
  cd : codeN s.tu = C.getD (s.ac * 4096) 0
  en : Ends (secL C s.ac) 1 kz s.en s.k true
  val : ∀ i, i < 3 → V i = cont C s.ac s.k i
  sp : Cd (C.getD ((1 - s.ac) * 4096) 0) ∨ C.getD ((1 - s.ac) * 4096) 0 = 255
theorem nxt_of {t : Nat} (ht : t < 3) : codeN (folN t) = nxt (codeN t) ∧ Cd (codeN t) := by
  obtain rfl | rfl | rfl : t = 0 ∨ t = 1 ∨ t = 2 := by omega
  · exact ⟨rfl, .inl rfl⟩
  · exact ⟨rfl, .inr (.inl rfl)⟩
  · exact ⟨rfl, .inr (.inr rfl)⟩
/-- the code is there: the spare is the active one -/
theorem Mid.signed {C0 D : List UInt8} {ac tu : Nat} {m : Mv} {V : Vl} (h : Mid C0 ac m V 3) (hac : ac < 2) (htu : tu < 3) (hcd : codeN tu = C0.getD (ac * 4096) 0) (hD : D.length = 8192) (hb : D.getD ((1 - ac) * 4096) 0 = codeN (folN tu)) (hs : ∀ j, j ≠ (1 - ac) * 4096 → D.getD j 0 = m.σ.C.getD j 0) : Live D ⟨1 - ac, folN tu, m.en, m.k⟩ V := by
  have hsp : 1 - ac < 2 := by omega
  have h11 : 1 - (1 - ac) = ac := by omega
  obtain ⟨n1, n2⟩ := nxt_of htu
  obtain ⟨g1, g2, g3⟩ := h.en.kok (secL_len h.len hsp)
  have hsec : ∀ j, 1 ≤ j → j < 4096 → (secL m.σ.C (1 - ac)).getD j 0 = (secL D (1 - ac)).getD j 0 := fun j h1 h2 => by
    rw [sec_at _ h.len _ hsp _ h2, sec_at _ hD _ hsp _ h2, hs _ (by omega)]
  have hE : Ends (secL D (1 - ac)) 1 kz m.en m.k true := by
    refine ⟨h.en.1.same1 (by rw [secL_len h.len hsp, secL_len hD hsp]) (Nat.le_refl _) (fun j h1 h2 => hsec j h1 (by omega)), ?_, fun e => by cases e⟩
    rw [blankB_iff]
    intro j h1 h2
    rw [secL_len hD hsp] at h2
    rw [← hsec j (by omega) h2]
    exact (blankB_iff _ _).1 h.en.2.1 j h1 (by rw [secL_len h.len hsp]; exact h2)
  have hold : D.getD (ac * 4096) 0 = codeN tu := by
    have := h.act 0 (by omega)
    rw [Nat.add_zero] at this
    rw [hs _ (by omega), ← this, hcd]
  have hval : ∀ i, i < 3 → V i = cont D (1 - ac) m.k i := fun i hi => by
    have e := h.val i hi
    rw [if_pos hi] at e
    rw [← e]
    unfold cont
    by_cases ht : (m.k i).th = true
    · rw [if_pos ht, if_pos ht]
      have hkk := (g3.1 i ht).1
      apply congrArg some
      unfold txt
      refine txt_ext (fun j hj => ?_) (by rw [h.len]; omega) (by omega)
      have hlo := h.en.1.low kz_low i ht
      rw [hs _ (by omega)]
    · rw [if_neg ht, if_neg ht]
  have hup : Up D (1 - ac) V := ⟨hD, hsp, by rw [hb, n1]; exact nxt_cd n2, by rw [h11, hold, hb, n1]; exact Safe.moved n2 _, m.en, m.k, true, hE, hval⟩
  exact ⟨hup, by show (tu + 1) % 3 < 3; omega, by rw [hb], hE, hval, .inl (by show Cd (D.getD ((1 - (1 - ac)) * 4096) 0); rw [h11, hold]; exact n2)⟩
/-- a move: done, or cut -/
theorem Up.move {σ : St} {s : Sv} {V0 V : Vl} {id : Int} {v : List UInt8} (h : Up σ.C s.ac V0) (hk : KOk s.k 4096) (hv : v.length ≤ 2000) (htu : s.tu < 3) (hcd : codeN s.tu = σ.C.getD (s.ac * 4096) 0) (hV : ∀ j, j < 3 → V j = mvL σ.C s.ac s.k id v j) (hfit : 1 + restM s.k id v.length 0 3 ≤ 4096) :
    (∀ τ s', moveS σ s id v = (τ, some s') → Live τ.C s' V) ∧ (∀ τ, moveS σ s id v = (τ, none) → Up τ.C s.ac V0 ∨ Up τ.C (1 - s.ac) V) := by
  have hac := h.a2
  obtain ⟨hE1, hE2⟩ := h.erase
  unfold moveS
  have hl1 : (eraseS σ (1 - s.ac)).1.C.length = 8192 := by rw [eraseS_len, h.len]
  have hact1 : ∀ j, j < 4096 → σ.C.getD (s.ac * 4096 + j) 0 = (eraseS σ (1 - s.ac)).1.C.getD (s.ac * 4096 + j) 0 := fun j hj => by
    obtain ⟨q1, q2⟩ := eraseS_part σ (1 - s.ac) (by rw [h.len]; omega)
    cases hb : (eraseS σ (1 - s.ac)).2
    · obtain ⟨_, g, hg⟩ := q2 hb
      rw [hg, if_neg (by omega)]
    · rw [q1 hb, if_neg (by omega)]
  cases hb1 : (eraseS σ (1 - s.ac)).2
  · simp only [Bool.false_eq_true, if_false]
    refine ⟨(fun τ s' e => by injection e with _ e; cases e), fun τ e => ?_⟩
    injection e with e _
    subst e
    exact .inl hE1
  · simp only [if_true]
    obtain ⟨a1, a2, a3, a4⟩ := each_mid h.len hac hk hv hV 3 0 ⟨(eraseS σ (1 - s.ac)).1, 1, kz⟩ rfl (Mid.start hac hl1 hact1 (hE2 hb1)) hfit
    obtain ⟨⟨M, ok⟩, hx⟩ : ∃ x, eachS s.ac s.k id v 0 3 ⟨(eraseS σ (1 - s.ac)).1, 1, kz⟩ = x := ⟨_, rfl⟩
    rw [hx] at a1 a2 a3 a4 ⊢
    simp only at a1 a2 a3 a4 ⊢
    cases ok
    · simp only [Bool.false_eq_true, if_false]
      refine ⟨(fun τ s' e => by injection e with _ e; cases e), fun τ e => ?_⟩
      injection e with e _
      subst e
      exact .inl (h.spare a2 a3 (by rw [a4]; exact Safe.ff h.cd _))
    · simp only [if_true]
      have hM := a1 rfl
      obtain ⟨L, x, p1, p2, p3, p4⟩ := progS_part [codeN (folN s.tu)] M.σ ((1 - s.ac) * 4096) (by rw [a2, List.length_singleton]; omega)
      obtain ⟨⟨τ0, ok3⟩, hx3⟩ : ∃ x, progS M.σ ((1 - s.ac) * 4096) [codeN (folN s.tu)] = x := ⟨_, rfl⟩
      rw [hx3] at p2 p3 p4 ⊢
      simp only at p2 p3 p4 ⊢
      have hDl : τ0.C.length = 8192 := by rw [p4.1, a2]
      cases ok3
      · simp only [Bool.false_eq_true, if_false]
        refine ⟨(fun τ s' e => by injection e with _ e; cases e), fun τ e => ?_⟩
        injection e with e _
        subst e
        obtain rfl : L = 0 := by have := (p3 rfl).1; rw [List.length_singleton] at this; omega
        have hfirst : τ0.C.getD ((1 - s.ac) * 4096) 0 = codeN (folN s.tu) ||| x := by
          rw [p4.2, if_neg (by omega), if_pos (by rw [List.length_singleton]; omega), a4, and255]
          rfl
        have helse : ∀ j, j ≠ (1 - s.ac) * 4096 → τ0.C.getD j 0 = M.σ.C.getD j 0 := fun j hj => by
          rw [p4.2, if_neg (by omega), if_neg (by omega)]
        by_cases hc : codeN (folN s.tu) ||| x = codeN (folN s.tu)
        · exact .inr (hM.signed hac htu hcd hDl (by rw [hfirst, hc]) helse).up
        · refine .inl (h.spare hDl (fun j hj => by rw [a3 j hj, helse _ (by omega)]) ?_)
          rw [hfirst, ← hcd, (nxt_of htu).1]
          rw [(nxt_of htu).1] at hc
          exact Safe.cut (nxt_of htu).2 _ hc
      · simp only [if_true]
        refine ⟨fun τ s' e => ?_, fun τ e => by injection e with _ e; cases e⟩
        injection e with e1 e2
        injection e2 with e2
        subst e1 e2
        obtain rfl : L = 1 := p2 rfl
        exact hM.signed hac htu hcd hDl (by rw [p4.2, if_pos (by omega), a4, and255, Nat.sub_self]; rfl) (fun j hj => by rw [p4.2, if_neg (by omega), if_neg (by rw [List.length_singleton]; omega)])
end Go.Proofs.Ytipljhmeafgffaa
