/- The program's store and the document's: what a move, a format leave. -/
import Derived.Test.YthccigikelinbaaSq4
import Derived.Test.YthccigikelinbaaSoL
namespace Go.Proofs.Ythccigikelinbaa
open Go.RowKit Go.Great

theorem progRR_on {ρ : St} (ho : ρ.off = false) (a : Nat) (d : List UInt8) (h : a + d.length ≤ 8192) : progRR ρ (a : Int) (bs d) = ((progSR ρ a d).1, if (progSR ρ a d).2 then 0 else 60) := by
  have e1 : (bs d).data.toList = d := by simp [bs]
  have e2 : insideB (a : Int) ((bs d).size : Nat) = true := by
    rw [bs_size]
    unfold insideB
    exact decide_eq_true (by omega)
  unfold progRR
  rw [ho, e2, e1, Int.toNat_natCast]
  simp
theorem Rel.prg {σ ρ : St} (h : Rel σ ρ) (ho : σ.off = false) (a : Nat) (d : List UInt8) (hd : a + d.length ≤ 8192) : Rel (Go.Proofs.Ythccigikelinbaa.progS σ a d).1 (progRR ρ (a : Int) (bs d)).1 ∧ (progRR ρ (a : Int) (bs d)).2 = if (Go.Proofs.Ythccigikelinbaa.progS σ a d).2 then 0 else 60 := by
  rw [progRR_on (by rw [← h.off]; exact ho) a d hd]
  obtain ⟨h1, h2⟩ := Rel.progS d h a
  exact ⟨h1, by rw [h2]⟩
theorem Rel.era {σ ρ : St} (h : Rel σ ρ) (ho : σ.off = false) (s : Nat) (hs : s < 2) : Rel (eraseS σ s).1 (eraseRR ρ (s : Int)).1 ∧ (eraseRR ρ (s : Int)).2 = if (eraseS σ s).2 then 0 else 60 := by
  obtain ⟨h1, h2⟩ := h.erase (s : Int)
  rw [← h2]
  have e : eraseR σ (s : Int) = ((eraseS σ s).1, if (eraseS σ s).2 then 0 else 60) := by
    unfold eraseR
    rw [ho, Int.toNat_natCast, if_pos (show ((s : Int) = 0 ∨ (s : Int) = 1) by omega)]
    simp
  rw [e] at h1 ⊢
  exact ⟨h1, rfl⟩
theorem sixty {b : Bool} : (if b then (0 : Int) else 60) = 0 ↔ b = true := by cases b <;> simp
theorem nxR_fol {t : Nat} (ht : t < 3) : nxR (codeN t) = codeN (folN t) := by
  have h : t = 0 ∨ t = 1 ∨ t = 2 := by omega
  rcases h with rfl | rfl | rfl <;> rfl
/-- records that are moved, one by one: both alike -/
theorem each_rel {C0 : List UInt8} {ac : Nat} {k : Kp} {id : Int} {v : List UInt8} {V : Vl} (hC0 : C0.length = 8192) (hac : ac < 2) (hk : KOk k 4096) (hv : v.length ≤ 2000) (hV : ∀ j, j < 3 → V j = mvL C0 ac k id v j) :
    ∀ (n i : Nat) (m : Mv) (ρ : St), i + n = 3 → Mid C0 ac m V i → On m.σ → Rel m.σ ρ → m.en + restM k id v.length i n ≤ 4096 →
      Rel (eachS ac k id v i n m).1.σ (eachR (1 - ac) V i n m.en ρ).1 ∧ (eachR (1 - ac) V i n m.en ρ).2.2 = (if (eachS ac k id v i n m).2 then 0 else 60) ∧ ((eachS ac k id v i n m).2 = true → (eachR (1 - ac) V i n m.en ρ).2.1 = (eachS ac k id v i n m).1.en ∧ On (eachS ac k id v i n m).1.σ ∧ (eachS ac k id v i n m).1.en ≤ 4096) := by
  intro n
  induction n with
  | zero =>
    intro i m ρ hin hM hon hr hfit
    exact ⟨hr, rfl, fun _ => ⟨rfl, hon, by rw [restM] at hfit; show m.en ≤ 4096; omega⟩⟩
  | succ n ih =>
    intro i m ρ hin hM hon hr hfit
    have hi : i < 3 := by omega
    rw [restM] at hfit
    have hmv : mvL m.σ.C ac k id v i = V i := by
      rw [hV i hi]
      exact (mvL_same hC0 hM.len hac hk hM.act id v i).symm
    rw [eachS]
    cases hx : V i with
    | none =>
      have hs : step1 ac k id v i m = (m, true) := by unfold step1; rw [hmv, hx]
      rw [hs, eachR_none hx]
      simp only [if_true]
      refine ih (i + 1) m ρ (by omega) ⟨hM.len, hM.act, hM.ff, hM.en, fun j hj => ?_⟩ hon hr (by omega)
      rw [hM.val j hj]
      by_cases c : j < i
      · rw [if_pos c, if_pos (by omega)]
      · rw [if_neg c]
        by_cases e : j = i
        · subst e; rw [if_pos (by omega), hx]
        · rw [if_neg (by omega)]
    | some t =>
      have hs : step1 ac k id v i m = addS (1 - ac) i t m := by unfold step1; rw [hmv, hx]
      have ht : t.length ≤ 2000 ∧ 4 + t.length = szM k id v.length i := by
        have h0 := hV i hi
        rw [hx] at h0
        unfold mvL at h0
        unfold szM szK
        by_cases h1 : (i : Int) = id
        · rw [if_pos h1] at h0 ⊢
          injection h0 with h0
          rw [h0]
          exact ⟨hv, rfl⟩
        · rw [if_neg h1] at h0 ⊢
          by_cases h2 : (k i).th = true
          · rw [if_pos h2] at h0 ⊢
            injection h0 with h0
            have hkk := hk.1 i h2
            rw [h0, txt_len C0 hC0 ac hac (k i) (by omega)]
            exact ⟨hkk.2, rfl⟩
          · rw [if_neg h2] at h0; cases h0
      obtain ⟨a1, a2, a3, a4⟩ := hM.add hac hi t ht.1 (by omega) hx
      obtain ⟨r1, r2⟩ := hr.prg hon.off ((1 - ac) * 4096 + m.en) (recB i t) (by rw [recB_length]; omega)
      rw [hs, eachR_some hx]
      cases hb : (addS (1 - ac) i t m).2
      · simp only [Bool.false_eq_true, if_false]
        rw [addS_2] at hb
        rw [hb] at r2
        rw [if_neg (by rw [r2]; decide)]
        exact ⟨by rw [addS_σ]; exact r1, r2, fun e => by cases e⟩
      · simp only [if_true]
        have hb' := hb
        rw [addS_2] at hb'
        rw [hb'] at r2
        rw [if_pos (by rw [r2]; rfl)]
        have hkk := (addS_k hb).2
        have := ih (i + 1) (addS (1 - ac) i t m).1 (progRR ρ (((1 - ac) * 4096 + m.en : Nat) : Int) (bs (recB i t))).1 (by omega) (a1 hb) (by rw [addS_σ]; exact progS_on _ _ _ hon hb') (by rw [addS_σ]; exact r1) (by rw [hkk]; omega)
        rw [hkk, show m.en + 4 + t.length = m.en + (4 + t.length) by omega] at this
        exact this
/-- a move: both alike -/
def MvR (x : St × Option Sv) (y : St × Nat × Int) (ac : Nat) : Prop :=
  Rel x.1 y.1 ∧ ((∃ s', x.2 = some s' ∧ y.2.2 = 0 ∧ y.2.1 = s'.en ∧ s'.ac = 1 - ac) ∨ (x.2 = none ∧ y.2.2 = 60))
theorem move_rel {σ ρ : St} {s : Sv} {V : Vl} {id : Int} {v : List UInt8} (hr : Rel σ ρ) (hon : On σ) (hac : s.ac < 2) (hk : KOk s.k 4096) (hv : v.length ≤ 2000) (htu : s.tu < 3) (hcd : codeN s.tu = σ.C.getD (s.ac * 4096) 0) (hV : ∀ j, j < 3 → V j = mvL σ.C s.ac s.k id v j) (hfit : 1 + restM s.k id v.length 0 3 ≤ 4096) : MvR (moveS σ s id v) (moveR ρ s.ac V) s.ac := by
  obtain ⟨e1, e2⟩ := hr.era hon.off (1 - s.ac) (by omega)
  have hl1 : (eraseS σ (1 - s.ac)).1.C.length = 8192 := by rw [eraseS_len, hon.len]
  obtain ⟨q1, q2⟩ := eraseS_part σ (1 - s.ac) (by rw [hon.len]; omega)
  unfold moveS
  cases hb1 : (eraseS σ (1 - s.ac)).2
  · rw [hb1] at e2
    rw [moveR_no1 (by rw [e2]; decide)]
    exact ⟨e1, .inr ⟨rfl, e2⟩⟩
  · rw [hb1] at e2
    have hact1 : ∀ j, j < 4096 → σ.C.getD (s.ac * 4096 + j) 0 = (eraseS σ (1 - s.ac)).1.C.getD (s.ac * 4096 + j) 0 := fun j hj => by
      rw [q1 hb1, if_neg (by omega)]
    have hbl : ∀ j, j < 4096 → (eraseS σ (1 - s.ac)).1.C.getD ((1 - s.ac) * 4096 + j) 0 = 255 := fun j hj => by
      rw [q1 hb1, if_pos (by omega)]
    have hM0 := Mid.start (C0 := σ.C) (V := V) hac hl1 hact1 hbl
    have hone := eraseS_on hon hb1
    obtain ⟨a1, a2, a3, a4⟩ := each_mid hon.len hac hk hv hV 3 0 ⟨(eraseS σ (1 - s.ac)).1, 1, kz⟩ rfl hM0 hfit
    obtain ⟨b1, b2, b3⟩ := each_rel hon.len hac hk hv hV 3 0 ⟨(eraseS σ (1 - s.ac)).1, 1, kz⟩ (eraseRR ρ ((1 - s.ac : Nat) : Int)).1 rfl hM0 hone e1 hfit
    simp only [if_true]
    cases hb2 : (eachS s.ac s.k id v 0 3 ⟨(eraseS σ (1 - s.ac)).1, 1, kz⟩).2
    · rw [hb2] at b2
      rw [moveR_no2 (by rw [e2]; rfl) (by rw [b2]; decide)]
      exact ⟨b1, .inr ⟨rfl, b2⟩⟩
    · rw [hb2] at b2
      obtain ⟨c1, c2, c3⟩ := b3 hb2
      rw [moveR_yes (by rw [e2]; rfl) (by rw [b2]; rfl)]
      have hfirst : (eachR (1 - s.ac) V 0 3 1 (eraseRR ρ ((1 - s.ac : Nat) : Int)).1).1.C.getD (s.ac * 4096) 0 = codeN s.tu := by
        rw [hcd]
        have := a3 0 (by omega)
        rw [Nat.add_zero] at this
        rw [this, b1.C]
      rw [hfirst, nxR_fol htu]
      obtain ⟨d1, d2⟩ := b1.prg c2.off ((1 - s.ac) * 4096) [codeN (folN s.tu)] (by rw [List.length_singleton]; omega)
      simp only [if_true]
      cases hb3 : (progS (eachS s.ac s.k id v 0 3 ⟨(eraseS σ (1 - s.ac)).1, 1, kz⟩).1.σ ((1 - s.ac) * 4096) [codeN (folN s.tu)]).2
      · rw [hb3] at d2
        exact ⟨d1, .inr ⟨rfl, d2⟩⟩
      · rw [hb3] at d2
        exact ⟨d1, .inl ⟨_, rfl, d2, c1, rfl⟩⟩
end Go.Proofs.Ythccigikelinbaa
