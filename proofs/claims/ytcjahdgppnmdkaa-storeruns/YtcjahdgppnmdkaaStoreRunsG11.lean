/- SoB, SoC, SoD, SoRa. -/
import Derived.Test.YtcjahdgppnmdkaaStoreRunsG10
import Derived.Deep.RegionHeld3
set_option maxRecDepth 100000
namespace Go.Proofs.Ytcjahdgppnmdkaa
open Go.RowKit Go.Great
theorem turn_of {c : UInt8} (h : Cd c) : (turnI c).toNat < 3 ∧ codeN (turnI c).toNat = c := by
  rcases h with rfl | rfl | rfl
  · exact ⟨by decide, rfl⟩
  · exact ⟨by decide, rfl⟩
  · exact ⟨by decide, rfl⟩
/-- sector ac is read: clean or dirty, then done or cut -/
theorem Up.bootIn {σ : St} {ac : Nat} {V : Vl} (h : Up σ.C ac V) :
    (∀ τ s', bootIn σ ac = (τ, some s') → Live τ.C s' V) ∧ (∀ τ, bootIn σ ac = (τ, none) → ∃ a, Up τ.C a V) := by
  have hac := h.a2
  have hl := h.len
  have hc := h.cd
  obtain ⟨en, k, cl, hE, hval⟩ := h.rd
  have hrd := hE.rd 4096 (by rw [secL_len hl hac]; omega) (by rw [secL_len hl hac]; omega)
  obtain ⟨g1, g2, g3⟩ := hE.kok (secL_len hl hac)
  have hfst : (secL σ.C ac).getD 0 0 = σ.C.getD (ac * 4096) 0 := by
    have := sec_at σ.C hl ac hac 0 (by omega)
    rw [Nat.add_zero] at this
    exact this
  have hsp : (secL σ.C (1 - ac)).getD 0 0 = σ.C.getD ((1 - ac) * 4096) 0 := by
    have := sec_at σ.C hl (1 - ac) (by omega) 0 (by omega)
    rw [Nat.add_zero] at this
    exact this
  obtain ⟨t1, t2⟩ := turn_of hc
  have hsv : svOf σ.C ac = (⟨ac, (turnI (σ.C.getD (ac * 4096) 0)).toNat, en, k⟩, cl) := by
    unfold svOf
    rw [hrd, hfst]
  unfold Go.Proofs.Ytcjahdgppnmdkaa.bootIn
  rw [hsv, hsp]
  simp only
  cases cl
  · simp only [Bool.false_eq_true, if_false]
    have hV : ∀ j, j < 3 → V j = mvL σ.C ac k (-1) [] j := fun j hj => by
      unfold mvL
      rw [if_neg (by omega), hval j hj]
      rfl
    obtain ⟨m1, m2⟩ := Up.move (s := ⟨ac, (turnI (σ.C.getD (ac * 4096) 0)).toNat, en, k⟩) (id := -1) (v := []) h (g3.mono g1) (by simp) t1 t2 hV (by rw [List.length_nil, restM_none]; show 1 + sizeK k ≤ 4096; have := g3.2; omega)
    exact ⟨m1, fun τ e => by
      rcases m2 τ e with hu | hu
      · exact ⟨_, hu⟩
      · exact ⟨_, hu⟩⟩
  · simp only [if_true]
    by_cases hq : σ.C.getD ((1 - ac) * 4096) 0 ≠ 255 ∧ turnI (σ.C.getD ((1 - ac) * 4096) 0) = -1
    · rw [if_pos hq]
      obtain ⟨hE1, hE2⟩ := h.erase
      have hDl : (eraseS σ (1 - ac)).1.C.length = 8192 := by rw [eraseS_len, hl]
      cases hb : (eraseS σ (1 - ac)).2
      · simp only [Bool.false_eq_true, if_false]
        refine ⟨(fun τ s' e => by injection e with _ e; cases e), fun τ e => ?_⟩
        injection e with e _
        subst e
        exact ⟨_, hE1⟩
      · simp only [if_true]
        refine ⟨fun τ s' e => ?_, fun τ e => by injection e with _ e; cases e⟩
        injection e with e1 e2
        injection e2 with e2
        subst e1 e2
        have hact : ∀ j, j < 4096 → σ.C.getD (ac * 4096 + j) 0 = (eraseS σ (1 - ac)).1.C.getD (ac * 4096 + j) 0 := fun j hj => by
          rw [(eraseS_part σ (1 - ac) (by rw [hl]; omega)).1 hb, if_neg (by omega)]
        have e0 := hact 0 (by omega)
        rw [Nat.add_zero] at e0
        have hs0 := hE2 hb 0 (by omega)
        rw [Nat.add_zero] at hs0
        exact ⟨hE1, t1, by rw [← e0]; exact t2, by rw [← sec_same hl hDl hac hact]; exact hE, fun i hi => by rw [hval i hi]; exact cont_same hl hDl hac hact (Nat.le_refl _) (g3.mono g1) i, .inr hs0⟩
    · rw [if_neg hq]
      refine ⟨fun τ s' e => ?_, fun τ e => by injection e with _ e; cases e⟩
      injection e with e1 e2
      injection e2 with e2
      subst e1 e2
      refine ⟨h, t1, t2, hE, hval, ?_⟩
      by_cases h5 : σ.C.getD ((1 - ac) * 4096) 0 = 255
      · exact .inr h5
      · exact .inl (turn_cd (fun e => hq ⟨h5, e⟩))
/-- Boot of what was booted before -/
theorem Up.boot {σ : St} {ac : Nat} {V : Vl} (h : Up σ.C ac V) (ho : σ.off = false) :
    (∀ τ s', bootS σ = (τ, some s') → Live τ.C s' V) ∧ (∀ τ, bootS σ = (τ, none) → ∃ a, Up τ.C a V) := by
  have e : bootS σ = Go.Proofs.Ytcjahdgppnmdkaa.bootIn σ ac := by
    unfold bootS
    rw [ho, h.act]
    simp only [Bool.false_eq_true, if_false]
    rw [if_neg (by omega), show ((ac : Int)).toNat = ac by omega]
  rw [e]
  exact h.bootIn
end Go.Proofs.Ytcjahdgppnmdkaa
set_option maxRecDepth 100000
namespace Go.Proofs.Ytcjahdgppnmdkaa
open Go.RowKit Go.Great
theorem stepS_free {σ : St} (h : σ.ar = false) : (stepS σ).2.2 = true ∧ (stepS σ).1.ar = false := by
  unfold stepS
  rw [if_neg (by rw [h]; simp)]
  exact ⟨rfl, h⟩
theorem progB_free {σ : St} (h : σ.ar = false) (a : Nat) (b : UInt8) : (progB σ a b).2 = true ∧ (progB σ a b).1.ar = false := by
  obtain ⟨h1, h2⟩ := stepS_free h
  unfold progB
  rw [if_pos h1]
  exact ⟨rfl, h2⟩
theorem progS_free (d : List UInt8) : ∀ (σ : St) (a : Nat), σ.ar = false → (progS σ a d).2 = true ∧ (progS σ a d).1.ar = false := by
  induction d with
  | nil => intro σ a h; exact ⟨rfl, h⟩
  | cons b t ih =>
    intro σ a h
    obtain ⟨h1, h2⟩ := progB_free h a b
    rw [progS, if_pos h1]
    exact ih _ _ h2
theorem eraseS_free {σ : St} (h : σ.ar = false) (s : Nat) : (eraseS σ s).2 = true ∧ (eraseS σ s).1.ar = false := by
  obtain ⟨h1, h2⟩ := stepS_free h
  unfold eraseS
  rw [if_pos h1]
  exact ⟨rfl, h2⟩
theorem addS_free {m : Mv} (h : m.σ.ar = false) (s i : Nat) (t : List UInt8) : (addS s i t m).2 = true ∧ (addS s i t m).1.σ.ar = false := by
  rw [addS_2, addS_σ]
  exact progS_free _ _ _ h
theorem eachS_free (ac : Nat) (k : Kp) (id : Int) (v : List UInt8) : ∀ (n i : Nat) (m : Mv), m.σ.ar = false → (eachS ac k id v i n m).2 = true ∧ (eachS ac k id v i n m).1.σ.ar = false := by
  intro n
  induction n with
  | zero => intro i m h; exact ⟨rfl, h⟩
  | succ n ih =>
    intro i m h
    have hs : (step1 ac k id v i m).2 = true ∧ (step1 ac k id v i m).1.σ.ar = false := by
      unfold step1
      split
      · exact ⟨rfl, h⟩
      · exact addS_free h _ _ _
    rw [eachS, if_pos hs.1]
    exact ih _ _ hs.2
theorem moveS_free {σ : St} (h : σ.ar = false) (s : Sv) (id : Int) (v : List UInt8) : (moveS σ s id v).2.isSome = true ∧ (moveS σ s id v).1.ar = false := by
  obtain ⟨a1, a2⟩ := eraseS_free h (1 - s.ac)
  obtain ⟨b1, b2⟩ := eachS_free s.ac s.k id v 3 0 ⟨(eraseS σ (1 - s.ac)).1, 1, kz⟩ a2
  obtain ⟨c1, c2⟩ := progS_free [codeN (folN s.tu)] _ ((1 - s.ac) * 4096) b2
  unfold moveS
  rw [if_pos a1, if_pos b1, if_pos c1]
  exact ⟨rfl, c2⟩
theorem fmt2_free {σ : St} (h : σ.ar = false) : (fmt2 σ).2.isSome = true ∧ (fmt2 σ).1.ar = false := by
  obtain ⟨a1, a2⟩ := eraseS_free h 0
  obtain ⟨c1, c2⟩ := progS_free [15] _ 0 a2
  unfold fmt2
  rw [if_pos a1, if_pos c1]
  exact ⟨rfl, c2⟩
theorem fmtS_free {σ : St} (h : σ.ar = false) (b : UInt8) : (fmtS σ b).2.isSome = true ∧ (fmtS σ b).1.ar = false := by
  unfold fmtS
  by_cases hb : b = 255
  · rw [if_pos hb]; exact fmt2_free h
  · obtain ⟨a1, a2⟩ := eraseS_free h 1
    rw [if_neg hb, if_pos a1]
    exact fmt2_free a2
theorem bootS_free {σ : St} (h : σ.ar = false) (ho : σ.off = false) : (bootS σ).2.isSome = true ∧ (bootS σ).1.ar = false := by
  unfold bootS
  rw [if_neg (by rw [ho]; simp)]
  split
  · exact fmtS_free h _
  · unfold bootIn
    split
    · split
      · obtain ⟨a1, a2⟩ := eraseS_free h (1 - (actI ((secL σ.C 0).getD 0 0) ((secL σ.C 1).getD 0 0)).toNat)
        rw [if_pos a1]
        exact ⟨rfl, a2⟩
      · exact ⟨rfl, h⟩
    · exact moveS_free h _ _ _
theorem Live.ask {C : List UInt8} {s : Sv} {V : Vl} (h : Live C s V) : Ask s := by
  obtain ⟨g1, g2, g3⟩ := h.en.kok (secL_len h.up.len h.up.a2)
  exact ⟨h.up.a2, h.tu, g1, g3.mono g1⟩
theorem Live.get {C : List UInt8} {s : Sv} {V : Vl} (h : Live C s V) (i : Nat) (hi : i < 3) : getS C s (i : Int) = V i := by
  rw [h.val i hi]
  unfold getS cont
  rw [show ((i : Int)).toNat = i by omega]
  by_cases ht : (s.k i).th = true
  · rw [if_pos ht, if_pos ⟨by omega, by omega, ht⟩]
  · rw [if_neg ht, if_neg (fun c => ht c.2.2)]
/-- the next boot does nothing -/
theorem Live.again {σ : St} {s : Sv} {V : Vl} (h : Live σ.C s V) (ho : σ.off = false) : bootS σ = (σ, some s) := by
  have hac := h.up.a2
  have hl := h.up.len
  have hrd := h.en.rd 4096 (by rw [secL_len hl hac]; omega) (by rw [secL_len hl hac]; omega)
  have hfst : (secL σ.C s.ac).getD 0 0 = σ.C.getD (s.ac * 4096) 0 := by
    have := sec_at σ.C hl s.ac hac 0 (by omega)
    rw [Nat.add_zero] at this
    exact this
  have hsp : (secL σ.C (1 - s.ac)).getD 0 0 = σ.C.getD ((1 - s.ac) * 4096) 0 := by
    have := sec_at σ.C hl (1 - s.ac) (by omega) 0 (by omega)
    rw [Nat.add_zero] at this
    exact this
  have htu : (turnI (codeN s.tu)).toNat = s.tu := by
    have := h.tu
    obtain e | e | e : s.tu = 0 ∨ s.tu = 1 ∨ s.tu = 2 := by omega
    all_goals rw [e]; rfl
  unfold bootS
  rw [ho, h.up.act]
  simp only [Bool.false_eq_true, if_false]
  rw [if_neg (by omega), show ((s.ac : Int)).toNat = s.ac by omega]
  unfold bootIn svOf
  rw [hrd, hfst, ← h.cd, htu, hsp]
  simp only [if_true]
  rw [if_neg]
  intro c
  rcases h.sp with hc | hc
  · obtain ⟨t, e1, _, _⟩ := cd_turn hc
    rw [e1] at c
    omega
  · exact c.1 hc
end Go.Proofs.Ytcjahdgppnmdkaa
set_option maxRecDepth 100000
namespace Go.Proofs.Ytcjahdgppnmdkaa
open Go.RowKit Go.Great
/-- a move that is done, whatever the spare was -/
theorem move_done {σ : St} {s : Sv} {V : Vl} {id : Int} {v : List UInt8} (hl : σ.C.length = 8192) (hac : s.ac < 2) (hk : KOk s.k 4096) (hv : v.length ≤ 2000) (htu : s.tu < 3) (hcd : codeN s.tu = σ.C.getD (s.ac * 4096) 0) (hV : ∀ j, j < 3 → V j = mvL σ.C s.ac s.k id v j) (hfit : 1 + restM s.k id v.length 0 3 ≤ 4096) :
    ∀ τ s', moveS σ s id v = (τ, some s') → Live τ.C s' V := by
  unfold moveS
  have hl1 : (eraseS σ (1 - s.ac)).1.C.length = 8192 := by rw [eraseS_len, hl]
  obtain ⟨q1, _⟩ := eraseS_part σ (1 - s.ac) (by rw [hl]; omega)
  cases hb1 : (eraseS σ (1 - s.ac)).2
  · simp only [Bool.false_eq_true, if_false]
    intro τ s' e
    injection e with _ e; cases e
  · simp only [if_true]
    have hact1 : ∀ j, j < 4096 → σ.C.getD (s.ac * 4096 + j) 0 = (eraseS σ (1 - s.ac)).1.C.getD (s.ac * 4096 + j) 0 := fun j hj => by
      rw [q1 hb1, if_neg (by omega)]
    have hff : ∀ j, j < 4096 → (eraseS σ (1 - s.ac)).1.C.getD ((1 - s.ac) * 4096 + j) 0 = 255 := fun j hj => by
      rw [q1 hb1, if_pos (by omega)]
    obtain ⟨a1, a2, a3, a4⟩ := each_mid hl hac hk hv hV 3 0 ⟨(eraseS σ (1 - s.ac)).1, 1, kz⟩ rfl (Mid.start hac hl1 hact1 hff) hfit
    obtain ⟨⟨M, ok⟩, hx⟩ : ∃ x, eachS s.ac s.k id v 0 3 ⟨(eraseS σ (1 - s.ac)).1, 1, kz⟩ = x := ⟨_, rfl⟩
    rw [hx] at a1 a2 a3 a4 ⊢
    simp only at a1 a2 a3 a4 ⊢
    cases ok
    · simp only [Bool.false_eq_true, if_false]
      intro τ s' e
      injection e with _ e; cases e
    · simp only [if_true]
      have hM := a1 rfl
      obtain ⟨L, x, p1, p2, p3, p4⟩ := progS_part [codeN (folN s.tu)] M.σ ((1 - s.ac) * 4096) (by rw [a2, List.length_singleton]; omega)
      obtain ⟨⟨τ0, ok3⟩, hx3⟩ : ∃ x, progS M.σ ((1 - s.ac) * 4096) [codeN (folN s.tu)] = x := ⟨_, rfl⟩
      rw [hx3] at p2 p3 p4 ⊢
      simp only at p2 p3 p4 ⊢
      have hDl : τ0.C.length = 8192 := by rw [p4.1, a2]
      cases ok3
      · simp only [Bool.false_eq_true, if_false]
        intro τ s' e
        injection e with _ e; cases e
      · simp only [if_true]
        intro τ s' e
        injection e with e1 e2
        injection e2 with e2
        subst e1 e2
        obtain rfl : L = 1 := p2 rfl
        exact hM.signed hac htu hcd hDl (by rw [p4.2, if_pos (by omega), a4, and255, Nat.sub_self]; rfl) (fun j hj => by rw [p4.2, if_neg (by omega), if_neg (by rw [List.length_singleton]; omega)])
def noV : Vl := fun _ => none
/-- a sector that holds nothing -/
theorem live_new {D : List UInt8} (hl : D.length = 8192) (h0 : D.getD 0 0 = 15) (h1 : ∀ j, 1 ≤ j → j < 4096 → D.getD j 0 = 255) (h2 : D.getD 4096 0 = 255) : Live D ⟨0, 0, 1, kz⟩ noV := by
  have hE : Ends (secL D 0) 1 kz 1 kz true := by
    refine ⟨Recs.nil 1 kz, ?_, fun h => by cases h⟩
    rw [blankB_iff]
    intro j hj1 hj2
    rw [secL_len hl (by omega)] at hj2
    rw [sec_at D hl 0 (by omega) j hj2, Nat.zero_mul, Nat.zero_add]
    exact h1 j hj1 hj2
  have hval : ∀ i, i < 3 → noV i = cont D 0 kz i := fun i _ => rfl
  have e0 : D.getD (0 * 4096) 0 = 15 := h0
  have e1 : D.getD ((1 - 0) * 4096) 0 = 255 := h2
  have hU : Up D 0 noV := ⟨hl, by omega, by rw [e0]; exact .inl rfl, by rw [e0, e1]; exact Safe.ff (.inl rfl) 0, ⟨1, kz, true, hE, hval⟩⟩
  exact ⟨hU, by show 0 < 3; omega, by show codeN 0 = _; rw [e0]; rfl, hE, hval, .inr e1⟩
theorem fmt2_live {σ : St} (hl : σ.C.length = 8192) (h2 : σ.C.getD 4096 0 = 255) : ∀ τ s', fmt2 σ = (τ, some s') → Live τ.C s' noV := by
  intro τ s' e
  unfold fmt2 at e
  obtain ⟨q1, _⟩ := eraseS_part σ 0 (by rw [hl]; omega)
  have hl1 : (eraseS σ 0).1.C.length = 8192 := by rw [eraseS_len, hl]
  cases hb : (eraseS σ 0).2
  · rw [hb] at e
    simp only [Bool.false_eq_true, if_false] at e
    injection e with _ e; cases e
  · rw [hb] at e
    simp only [if_true] at e
    obtain ⟨L, x, p1, p2, p3, p4⟩ := progS_part [15] (eraseS σ 0).1 0 (by rw [hl1, List.length_singleton]; omega)
    obtain ⟨⟨τ0, ok⟩, hx⟩ : ∃ x, progS (eraseS σ 0).1 0 [15] = x := ⟨_, rfl⟩
    rw [hx] at p2 p4 e
    simp only at p2 p4 e
    cases ok
    · simp only [Bool.false_eq_true, if_false] at e
      injection e with _ e; cases e
    · simp only [if_true] at e
      injection e with e1 e2
      injection e2 with e2
      subst e1 e2
      obtain rfl : L = 1 := p2 rfl
      have q := q1 hb
      refine live_new (by rw [p4.1, hl1]) ?_ (fun j h1 h2 => ?_) ?_
      · rw [p4.2, if_pos (by omega), q, if_pos (by omega)]; rfl
      · rw [p4.2, if_neg (by omega), if_neg (by rw [List.length_singleton]; omega), q, if_pos (by omega)]
      · rw [p4.2, if_neg (by omega), if_neg (by rw [List.length_singleton]; omega), q, if_neg (by omega)]; exact h2
theorem fmt_live {σ : St} (hl : σ.C.length = 8192) : ∀ τ s', fmtS σ (σ.C.getD 4096 0) = (τ, some s') → Live τ.C s' noV := by
  intro τ s' e
  unfold fmtS at e
  by_cases h : σ.C.getD 4096 0 = 255
  · rw [if_pos h] at e
    exact fmt2_live hl h τ s' e
  · rw [if_neg h] at e
    obtain ⟨q1, _⟩ := eraseS_part σ 1 (by rw [hl]; omega)
    cases hb : (eraseS σ 1).2
    · rw [hb] at e
      simp only [Bool.false_eq_true, if_false] at e
      injection e with _ e; cases e
    · rw [hb] at e
      simp only [if_true] at e
      exact fmt2_live (by rw [eraseS_len, hl]) (by rw [q1 hb, if_pos (by omega)]) τ s' e
/-- sector ac has a code: whatever the spare is -/
theorem bootIn_live {σ : St} {ac : Nat} (hl : σ.C.length = 8192) (hac : ac < 2) (hcd : Cd (σ.C.getD (ac * 4096) 0)) (hs : (Cd (σ.C.getD ((1 - ac) * 4096) 0) ∨ σ.C.getD ((1 - ac) * 4096) 0 = 255) → Safe (σ.C.getD ((1 - ac) * 4096) 0) ac (σ.C.getD (ac * 4096) 0)) : ∀ τ s', bootIn σ ac = (τ, some s') → ∃ V, Live τ.C s' V := by
  intro τ s' e
  have hre := rd_ends (secL σ.C ac) 4096 1 kz (by rw [secL_len hl hac]; omega) (by rw [secL_len hl hac]; omega)
  obtain ⟨⟨k, en, cl⟩, hrd⟩ : ∃ x, rd (secL σ.C ac) 4096 1 kz = x := ⟨_, rfl⟩
  rw [hrd] at hre
  simp only at hre
  by_cases hsp : Cd (σ.C.getD ((1 - ac) * 4096) 0) ∨ σ.C.getD ((1 - ac) * 4096) 0 = 255
  · have hU : Up σ.C ac (cont σ.C ac k) := ⟨hl, hac, hcd, hs hsp, ⟨en, k, cl, hre, fun i _ => rfl⟩⟩
    exact ⟨_, hU.bootIn.1 τ s' e⟩
  · obtain ⟨g1, g2, g3⟩ := hre.kok (secL_len hl hac)
    have hfst : (secL σ.C ac).getD 0 0 = σ.C.getD (ac * 4096) 0 := by
      have := sec_at σ.C hl ac hac 0 (by omega)
      rw [Nat.add_zero] at this
      exact this
    have hspe : (secL σ.C (1 - ac)).getD 0 0 = σ.C.getD ((1 - ac) * 4096) 0 := by
      have := sec_at σ.C hl (1 - ac) (by omega) 0 (by omega)
      rw [Nat.add_zero] at this
      exact this
    obtain ⟨t1, t2⟩ := turn_of hcd
    have hsv : svOf σ.C ac = (⟨ac, (turnI (σ.C.getD (ac * 4096) 0)).toNat, en, k⟩, cl) := by
      unfold svOf
      rw [hrd, hfst]
    refine ⟨cont σ.C ac k, ?_⟩
    unfold bootIn at e
    rw [hsv, hspe] at e
    simp only at e
    cases cl
    · simp only [Bool.false_eq_true, if_false] at e
      refine move_done (s := ⟨ac, (turnI (σ.C.getD (ac * 4096) 0)).toNat, en, k⟩) (id := -1) (v := []) hl hac (g3.mono g1) (by simp) t1 t2 (fun j hj => ?_) (by rw [List.length_nil, restM_none]; show 1 + sizeK k ≤ 4096; have := g3.2; omega) τ s' e
      unfold mvL
      rw [if_neg (by omega)]
      rfl
    · simp only [if_true] at e
      rw [if_pos ⟨fun h => hsp (.inr h), not_cd (fun h => hsp (.inl h))⟩] at e
      obtain ⟨q1, _⟩ := eraseS_part σ (1 - ac) (by rw [hl]; omega)
      have hDl : (eraseS σ (1 - ac)).1.C.length = 8192 := by rw [eraseS_len, hl]
      cases hb : (eraseS σ (1 - ac)).2
      · rw [hb] at e
        simp only [Bool.false_eq_true, if_false] at e
        injection e with _ e; cases e
      · rw [hb] at e
        simp only [if_true] at e
        injection e with e1 e2
        injection e2 with e2
        subst e1 e2
        have hact : ∀ j, j < 4096 → σ.C.getD (ac * 4096 + j) 0 = (eraseS σ (1 - ac)).1.C.getD (ac * 4096 + j) 0 := fun j hj => by
          rw [q1 hb, if_neg (by omega)]
        have e0 := hact 0 (by omega)
        rw [Nat.add_zero] at e0
        have hs0 : (eraseS σ (1 - ac)).1.C.getD ((1 - ac) * 4096) 0 = 255 := by rw [q1 hb, if_pos (by omega)]
        have hE2 : Ends (secL (eraseS σ (1 - ac)).1.C ac) 1 kz en k true := by rw [← sec_same hl hDl hac hact]; exact hre
        have hval : ∀ i, i < 3 → cont σ.C ac k i = cont (eraseS σ (1 - ac)).1.C ac k i := fun i hi => cont_same hl hDl hac hact (Nat.le_refl _) (g3.mono g1) i
        exact ⟨⟨hDl, hac, by rw [← e0]; exact hcd, by rw [hs0, ← e0]; exact Safe.ff hcd ac, ⟨en, k, true, hE2, hval⟩⟩, t1, by rw [← e0]; exact t2, hE2, hval, .inr hs0⟩
theorem act_cases (a b : UInt8) (h : actI a b ≠ -1) : actI a b = 0 ∧ Cd a ∨ actI a b = 1 ∧ Cd b := by
  have key : ∀ c : UInt8, (Cd c ∧ (turnI c = 0 ∨ turnI c = 1 ∨ turnI c = 2)) ∨ turnI c = -1 := by
    intro c
    by_cases hc : Cd c
    · obtain ⟨t, e, ht, _⟩ := cd_turn hc
      exact .inl ⟨hc, by omega⟩
    · exact .inr (not_cd hc)
  unfold actI at h ⊢
  rcases key a with ⟨ca, ea | ea | ea⟩ | ea <;> rcases key b with ⟨cb, eb | eb | eb⟩ | eb <;> rw [ea, eb] at h ⊢ <;> first | exact .inl ⟨rfl, ca⟩ | exact .inr ⟨rfl, cb⟩ | exact absurd rfl h
/-- Boot of any image: what answers a store lives -/
theorem boot_live {σ : St} (hl : σ.C.length = 8192) (ho : σ.off = false) : ∀ τ s', bootS σ = (τ, some s') → ∃ V, Live τ.C s' V := by
  intro τ s' e
  unfold bootS at e
  have h0 : (secL σ.C 0).getD 0 0 = σ.C.getD 0 0 := by
    have := sec_at σ.C hl 0 (by omega) 0 (by omega)
    rw [Nat.zero_mul, Nat.zero_add] at this
    exact this
  have h1 : (secL σ.C 1).getD 0 0 = σ.C.getD 4096 0 := by
    have := sec_at σ.C hl 1 (by omega) 0 (by omega)
    rw [Nat.one_mul, Nat.add_zero] at this
    exact this
  rw [ho, h0, h1] at e
  simp only [Bool.false_eq_true, if_false] at e
  by_cases hm : actI (σ.C.getD 0 0) (σ.C.getD 4096 0) = -1
  · rw [if_pos hm] at e
    exact ⟨_, fmt_live hl τ s' e⟩
  · rw [if_neg hm] at e
    have hcases : actI (σ.C.getD 0 0) (σ.C.getD 4096 0) = 0 ∧ Cd (σ.C.getD 0 0) ∨ actI (σ.C.getD 0 0) (σ.C.getD 4096 0) = 1 ∧ Cd (σ.C.getD 4096 0) := act_cases _ _ hm
    rcases hcases with ⟨ha, hc⟩ | ⟨ha, hc⟩
    · rw [ha] at e
      refine bootIn_live (ac := 0) hl (by omega) (by rw [Nat.zero_mul]; exact hc) (fun hsp => ?_) τ s' e
      rw [Nat.zero_mul]
      exact (act0_safe hsp ha).2
    · rw [ha] at e
      refine bootIn_live (ac := 1) hl (by omega) (by rw [Nat.one_mul]; exact hc) (fun hsp => ?_) τ s' e
      rw [Nat.one_mul]
      exact (act1_safe hsp ha).2
end Go.Proofs.Ytcjahdgppnmdkaa
set_option maxRecDepth 100000
namespace Go.Proofs.Ytcjahdgppnmdkaa
open Go.RowKit Go.Great
theorem take_at {P : Program} {ops : Array Oper} {Q : Exit → Act → World → Prop} {md : Region.Mode} {S : World → Prop} {i : Nat} {oi : Oper} {v : Value} {d : Option Tmp} {fuel : Nat} {listed : Array Bool} {a : Act} {w : World} (hi : ops[i]? = some oi) (hd : oi.dst = d)
    (hs : Region.noSelect ops = true) (hf : Region.free md ops listed i = true) (hr : (Region.ready md ops listed).contains i = true)
    (hQ : ∀ c a w, Q (.panic c) (a.put d v) w → Q (.panic c) a w) (hy : YieldsIf P ops S oi v a) (hS : S w)
    (h : wpAnyH P md ops Q S fuel (listed.setIfInBounds i true) (a.put d v) w) : wpAnyH P md ops Q S (fuel + 1) listed a w := by
  subst hd
  exact wpAnyH_take hi hs hf hr hQ hy hS h
/-- a cut: Left, Junk -/
abbrev Ct := Int × ByteArray
def ctz : Ct := (0, ⟨#[]⟩)
/-- a slice of cuts, none of them in block R -/
def Cuts (w : World) (v : Value) (cs : List Ct) (R : Nat) : Prop :=
  ∃ a cap, v = .slice a cs.length cap ∧ (∀ i, i < cs.length → (cs.getD i ctz).2.size ≤ 9223372036854775807) ∧ (0 < cs.length → ∃ g o, a = some ⟨g, o, none⟩ ∧ g < w.heap.size ∧ g ≠ R ∧ ∀ i, i < cs.length → w.cell? ⟨g, o + i * 2, none⟩ = some (.int .i64 (cs.getD i ctz).1) ∧ w.cell? ⟨g, o + i * 2 + 1, none⟩ = some (.string (cs.getD i ctz).2))
theorem Kept.cell {R : Nat} {w w' : World} (h : Kept R w w') {g o : Nat} (hg : g < w.heap.size) (hne : g ≠ R) : w'.cell? ⟨g, o, none⟩ = w.cell? ⟨g, o, none⟩ :=
  World.cell?_of_block (a := ⟨g, o, none⟩) (World.grownBy.block h g hg (fun e => hne (by injection e)))
theorem Cuts.kept {w w' : World} {v : Value} {cs : List Ct} {R : Nat} (h : Cuts w v cs R) (hk : Kept R w w') : Cuts w' v cs R := by
  obtain ⟨a, cap, e, hz, hc⟩ := h
  refine ⟨a, cap, e, hz, fun h0 => ?_⟩
  obtain ⟨g, o, e2, hg, hne, hcc⟩ := hc h0
  have hs := hk.size
  exact ⟨g, o, e2, by omega, hne, fun i hi => by rw [hk.cell hg hne, hk.cell hg hne]; exact hcc i hi⟩
def Upx (C : List UInt8) (V : Vl) : Prop := ∃ a, Up C a V
/-- what raised answers -/
def RaEnd (n : Nat) (σ : St) (R : Nat) (w : World) (e : Ending) (w' : World) : Prop :=
  ∃ (S : Nat) (τ : St) (s : Sv), e = .returned (.tuple #[fp S, .bool true]) ∧ Fl w' R τ ∧ So w' S (fp R) s.ac s.tu s.en s.k ∧ (∃ V, Live τ.C s V) ∧ (∀ V, Upx σ.C V → Live τ.C s V) ∧ (τ.off = false ∧ τ.ar = false ∧ τ.jk.size ≤ 4096) ∧ w.heap.size ≤ S ∧ S ≠ R ∧ Kept R w w' ∧ (n = 0 → ∃ τ0, bootS (onS σ) = (τ0, some s) ∧ τ.C = τ0.C)
theorem onS_C (σ : St) : (onS σ).C = σ.C := rfl
theorem cutR_on {σ : St} (ho : σ.off = false) (hj : σ.jk.size ≤ 4096) (n : Int) (j : ByteArray) : (cutR σ n j).1.C = σ.C ∧ (cutR σ n j).1.off = false ∧ (cutR σ n j).1.jk.size ≤ 4096 ∧ (n < 0 → (cutR σ n j).2 = 1) ∧ (0 ≤ n → (cutR σ n j).2 = 0) := by
  unfold cutR
  rw [ho]
  simp only [Bool.false_eq_true, if_false]
  by_cases h : n < 0
  · rw [if_pos h]; exact ⟨rfl, ho, hj, fun _ => rfl, fun h2 => by omega⟩
  · rw [if_neg h]; exact ⟨rfl, rfl, jkS_size j, fun h2 => absurd h2 h, fun _ => rfl⟩
/-- behind the boot -/
def BoIn (σ0 : St) (x : St × Option Sv) : Prop := (∀ τ s, x = (τ, some s) → (∃ V, Live τ.C s V) ∧ ∀ V, Upx σ0.C V → Live τ.C s V) ∧ (∀ τ, x = (τ, none) → ∀ V, Upx σ0.C V → Upx τ.C V)
theorem boot_in {σ0 σ : St} (hl : σ.C.length = 8192) (ho : σ.off = false) (hU : ∀ V, Upx σ0.C V → Upx σ.C V) : BoIn σ0 (bootS σ) := by
  refine ⟨fun τ s e => ⟨boot_live hl ho τ s e, fun V hV => ?_⟩, fun τ e V hV => ?_⟩
  · obtain ⟨a, ha⟩ := hU V hV
    exact (ha.boot ho).1 τ s e
  · obtain ⟨a, ha⟩ := hU V hV
    exact (ha.boot ho).2 τ e
set_option maxRecDepth 100000 in
set_option maxHeartbeats 1000000 in
theorem raised_any (w : World) (R : Nat) (σ : St) (hF : Fl w R σ) (v : Value) (cs : List Ct) (hc : Cuts w v cs R) (hlen : cs.length ≤ 9223372036854775807) : Calls Try.prog 19 #[fp R, v] w fun e w' => RaEnd cs.length σ R w e w' := by
  have HF := hide hF
  have HC := hide hc
  have HOn := hide (fun W σx h => on_any W R σx h)
  have HBo := hide (fun W σx h hj => boot_any W R σx h hj)
  obtain ⟨a, cap, rfl, HSZ, _⟩ := hc
  have HSz := hide HSZ
  obtain ⟨n, HN⟩ : ∃ n, Hid (cs.length = n) := ⟨_, rfl⟩
  rw [HN.out] at hlen HSz ⊢
  have hni : (n : Int) ≤ 9223372036854775807 := by omega
  clear hF HSZ
  unfold fp at HOn HBo ⊢
  go_enter Try.func19, Try.ntmps19
  go_wp2_with fail
  go_loopw [6] (fun i wx => ∃ (k : Nat) (σx : St), k ≤ n ∧ i = .int .i64 k ∧ Fl wx R σx ∧ (∀ V, Upx σ.C V → Upx σx.C V) ∧ Kept R w wx ∧ (k = 0 → σx = σ)) (fun i _ => n + 1 - (intOf i).toNat)
  case atStart => exact ⟨0, σ, by omega, rfl, HF.out, fun V h => h, Kept.refl _ _, fun _ => rfl⟩
  case round =>
    obtain ⟨k, σx, hk, rfl, hFx, hUx, hKx, h0x⟩ := hrel
    have H0x := hide h0x
    have HFx := hide hFx
    have HUx := hide hUx
    have HKx := hide hKx
    have d0 : decide ((k : Int) ≤ (n : Int)) = true := decide_eq_true (by omega)
    clear hFx hUx hKx h0x
    go_wp2_with fail
    refine (HOn.out _ _ HFx.out).mono ?_
    rintro e w1 ⟨rfl, hF1, hK1⟩
    have HF1 := hide hF1
    have HK1 : Hid (Kept R w w1) := HKx.out.trans hK1
    clear hF1 hK1 HFx HKx
    by_cases hlt : k < n
    · have d1 : decide ((k : Int) < (n : Int)) = true := decide_eq_true (by omega)
      have dk : ((k : Int) == (n : Int)) = false := by simp; omega
      obtain ⟨a', cap', e1, _, hcc⟩ := HC.out.kept HK1.out
      rw [HN.out] at e1 hcc
      injection e1 with e1 _ e3
      subst e1 e3
      obtain ⟨g, o, rfl, hg, hgR, hcell⟩ := hcc (by omega)
      obtain ⟨x0, x1⟩ := hcell k hlt
      have hjs := HSz.out k hlt
      obtain ⟨Lf, HLf⟩ : ∃ x, Hid ((cs.getD k ctz).1 = x) := ⟨_, rfl⟩
      obtain ⟨Jk, HJk⟩ : ∃ x, Hid ((cs.getD k ctz).2 = x) := ⟨_, rfl⟩
      rw [HLf.out] at x0
      rw [HJk.out] at x1 hjs
      obtain ⟨c1, c2, c3, c4, c5⟩ := cutR_on (σ := onS σx) rfl (show (⟨#[]⟩ : ByteArray).size ≤ 4096 from Nat.zero_le _) Lf Jk
      have HCt := hide (fun W h => cut_any W R (onS σx) h Lf Jk hjs)
      unfold fp at HCt
      obtain ⟨σ2, er, hct⟩ : ∃ σ2 er, cutR (onS σx) Lf Jk = (σ2, er) := ⟨_, _, rfl⟩
      rw [hct] at HCt c1 c2 c3 c4 c5
      simp only at HCt c1 c2 c3 c4 c5
      have hsz1 : g < w1.heap.size := hg
      clear hcc hcell hct
      go_wp2_with fail
      by_cases hneg : Lf < 0
      · obtain rfl : er = 1 := c4 hneg
        have dn : decide (0 ≤ Lf) = false := decide_eq_false (by omega)
        clear hneg c4 c5
        refine wp_region_held_drew (S := fun wx => wx.cell? ⟨g, o + k * 2, none⟩ = some (.int .i64 Lf) ∧ wx.cell? ⟨g, o + k * 2 + 1, none⟩ = some (.string Jk)) (by kernel_rfl) (by exact ⟨x0, x1⟩) (fun hHeld => ?_)
        refine take_at (i := 0) (v := .pointer (some ⟨R, 0, none⟩)) (d := some 21) rfl rfl (by kernel_rfl) (by kernel_rfl) (by kernel_rfl) (fun _ _ _ h => h) (Or.inl ⟨by rfl, fun wS ⟨hS0, hS1⟩ => by go_simp; all_goals (rw [IntKind.wrap_i64]; omega)⟩) (by assumption) ?_
        simp only [Act.put, List.setIfInBounds_toArray, List.set_cons_zero, List.set_cons_succ]
        refine take_at (i := 1) (v := .slice (some ⟨g, o, none⟩) n cap) (d := some 22) rfl rfl (by kernel_rfl) (by kernel_rfl) (by kernel_rfl) (fun _ _ _ h => h) (Or.inl ⟨by rfl, fun wS ⟨hS0, hS1⟩ => by go_simp; all_goals (rw [IntKind.wrap_i64]; omega)⟩) (by assumption) ?_
        simp only [Act.put, List.setIfInBounds_toArray, List.set_cons_zero, List.set_cons_succ]
        refine take_at (i := 2) (v := .int .i64 k) (d := some 23) rfl rfl (by kernel_rfl) (by kernel_rfl) (by kernel_rfl) (fun _ _ _ h => h) (Or.inl ⟨by rfl, fun wS ⟨hS0, hS1⟩ => by go_simp; all_goals (rw [IntKind.wrap_i64]; omega)⟩) (by assumption) ?_
        simp only [Act.put, List.setIfInBounds_toArray, List.set_cons_zero, List.set_cons_succ]
        refine take_at (i := 3) (v := .pointer (some ⟨g, o + k * 2, none⟩)) (d := some 24) rfl rfl (by kernel_rfl) (by kernel_rfl) (by kernel_rfl) (fun _ _ _ h => h) (Or.inl ⟨by rfl, fun wS ⟨hS0, hS1⟩ => by go_simp; all_goals (rw [IntKind.wrap_i64]; omega)⟩) (by assumption) ?_
        simp only [Act.put, List.setIfInBounds_toArray, List.set_cons_zero, List.set_cons_succ]
        refine take_at (i := 4) (v := .pointer (some ⟨g, o + k * 2, none⟩)) (d := some 25) rfl rfl (by kernel_rfl) (by kernel_rfl) (by kernel_rfl) (fun _ _ _ h => h) (Or.inl ⟨by rfl, fun wS ⟨hS0, hS1⟩ => by go_simp; all_goals (rw [IntKind.wrap_i64]; omega)⟩) (by assumption) ?_
        simp only [Act.put, List.setIfInBounds_toArray, List.set_cons_zero, List.set_cons_succ]
        refine take_at (i := 5) (v := .int .i64 Lf) (d := some 26) rfl rfl (by kernel_rfl) (by kernel_rfl) (by kernel_rfl) (fun _ _ _ h => h) (Or.inl ⟨by rfl, fun wS ⟨hS0, hS1⟩ => by go_simp; all_goals (rw [IntKind.wrap_i64]; omega)⟩) (by assumption) ?_
        simp only [Act.put, List.setIfInBounds_toArray, List.set_cons_zero, List.set_cons_succ]
        refine take_at (i := 6) (v := .slice (some ⟨g, o, none⟩) n cap) (d := some 27) rfl rfl (by kernel_rfl) (by kernel_rfl) (by kernel_rfl) (fun _ _ _ h => h) (Or.inl ⟨by rfl, fun wS ⟨hS0, hS1⟩ => by go_simp; all_goals (rw [IntKind.wrap_i64]; omega)⟩) (by assumption) ?_
        simp only [Act.put, List.setIfInBounds_toArray, List.set_cons_zero, List.set_cons_succ]
        refine take_at (i := 7) (v := .int .i64 k) (d := some 28) rfl rfl (by kernel_rfl) (by kernel_rfl) (by kernel_rfl) (fun _ _ _ h => h) (Or.inl ⟨by rfl, fun wS ⟨hS0, hS1⟩ => by go_simp; all_goals (rw [IntKind.wrap_i64]; omega)⟩) (by assumption) ?_
        simp only [Act.put, List.setIfInBounds_toArray, List.set_cons_zero, List.set_cons_succ]
        refine take_at (i := 8) (v := .pointer (some ⟨g, o + k * 2, none⟩)) (d := some 29) rfl rfl (by kernel_rfl) (by kernel_rfl) (by kernel_rfl) (fun _ _ _ h => h) (Or.inl ⟨by rfl, fun wS ⟨hS0, hS1⟩ => by go_simp; all_goals (rw [IntKind.wrap_i64]; omega)⟩) (by assumption) ?_
        simp only [Act.put, List.setIfInBounds_toArray, List.set_cons_zero, List.set_cons_succ]
        refine take_at (i := 9) (v := .pointer (some ⟨g, o + k * 2 + 1, none⟩)) (d := some 30) rfl rfl (by kernel_rfl) (by kernel_rfl) (by kernel_rfl) (fun _ _ _ h => h) (Or.inl ⟨by rfl, fun wS ⟨hS0, hS1⟩ => by go_simp; all_goals (rw [IntKind.wrap_i64]; omega)⟩) (by assumption) ?_
        simp only [Act.put, List.setIfInBounds_toArray, List.set_cons_zero, List.set_cons_succ]
        refine take_at (i := 10) (v := .string Jk) (d := some 31) rfl rfl (by kernel_rfl) (by kernel_rfl) (by kernel_rfl) (fun _ _ _ h => h) (Or.inl ⟨by rfl, fun wS ⟨hS0, hS1⟩ => by go_simp; all_goals (rw [IntKind.wrap_i64]; omega)⟩) (by assumption) ?_
        simp only [Act.put, List.setIfInBounds_toArray, List.set_cons_zero, List.set_cons_succ]
        refine wpAnyH_ready (rs := [11]) (by kernel_rfl) (by simp) ?_
        refine AllReadyH.cons rfl (fun K hK => ?_) AllReadyH.nil
        go_simp
        refine (HCt.out _ HF1.out.drew).mono ?_
        rintro e w2 ⟨rfl, hF2, hK2⟩
        have hK2' : Kept R w1 w2 := (Kept.drew (Kept.refl R w1)).trans hK2
        have HF2 := hide hF2
        have HK2 : Hid (Kept R w w2) := HK1.out.trans hK2'
        have y0 := (hK2'.cell hsz1 hgR (o := o + k * 2)).trans x0
        have y1 := (hK2'.cell hsz1 hgR (o := o + k * 2 + 1)).trans x1
        clear hF2 hK2 hK2' hHeld
        refine hK.out _ _ (⟨y0, y1⟩) (fun hHeld => ?_)
        clear hK K
        refine take_at (i := 12) (v := .bool true) (d := some 33) rfl rfl (by kernel_rfl) (by kernel_rfl) (by kernel_rfl) (fun _ _ _ h => h) (Or.inl ⟨by rfl, fun wS ⟨hS0, hS1⟩ => by go_simp; all_goals (rw [IntKind.wrap_i64]; omega)⟩) (by assumption) ?_
        simp only [Act.put, List.setIfInBounds_toArray, List.set_cons_zero, List.set_cons_succ]
        refine take_at (i := 13) (v := .bool true) (d := some 34) rfl rfl (by kernel_rfl) (by kernel_rfl) (by kernel_rfl) (fun _ _ _ h => h) (Or.inl ⟨by rfl, fun wS ⟨hS0, hS1⟩ => by go_simp; all_goals (rw [IntKind.wrap_i64]; omega)⟩) (by assumption) ?_
        simp only [Act.put, List.setIfInBounds_toArray, List.set_cons_zero, List.set_cons_succ]
        refine take_at (i := 14) (v := .slice (some ⟨g, o, none⟩) n cap) (d := some 35) rfl rfl (by kernel_rfl) (by kernel_rfl) (by kernel_rfl) (fun _ _ _ h => h) (Or.inl ⟨by rfl, fun wS ⟨hS0, hS1⟩ => by go_simp; all_goals (rw [IntKind.wrap_i64]; omega)⟩) (by assumption) ?_
        simp only [Act.put, List.setIfInBounds_toArray, List.set_cons_zero, List.set_cons_succ]
        refine take_at (i := 15) (v := .int .i64 k) (d := some 36) rfl rfl (by kernel_rfl) (by kernel_rfl) (by kernel_rfl) (fun _ _ _ h => h) (Or.inl ⟨by rfl, fun wS ⟨hS0, hS1⟩ => by go_simp; all_goals (rw [IntKind.wrap_i64]; omega)⟩) (by assumption) ?_
        simp only [Act.put, List.setIfInBounds_toArray, List.set_cons_zero, List.set_cons_succ]
        refine take_at (i := 16) (v := .pointer (some ⟨g, o + k * 2, none⟩)) (d := some 37) rfl rfl (by kernel_rfl) (by kernel_rfl) (by kernel_rfl) (fun _ _ _ h => h) (Or.inl ⟨by rfl, fun wS ⟨hS0, hS1⟩ => by go_simp; all_goals (rw [IntKind.wrap_i64]; omega)⟩) (by assumption) ?_
        simp only [Act.put, List.setIfInBounds_toArray, List.set_cons_zero, List.set_cons_succ]
        refine take_at (i := 17) (v := .pointer (some ⟨g, o + k * 2, none⟩)) (d := some 38) rfl rfl (by kernel_rfl) (by kernel_rfl) (by kernel_rfl) (fun _ _ _ h => h) (Or.inl ⟨by rfl, fun wS ⟨hS0, hS1⟩ => by go_simp; all_goals (rw [IntKind.wrap_i64]; omega)⟩) (by assumption) ?_
        simp only [Act.put, List.setIfInBounds_toArray, List.set_cons_zero, List.set_cons_succ]
        refine take_at (i := 18) (v := .int .i64 Lf) (d := some 39) rfl rfl (by kernel_rfl) (by kernel_rfl) (by kernel_rfl) (fun _ _ _ h => h) (Or.inl ⟨by rfl, fun wS ⟨hS0, hS1⟩ => by go_simp; all_goals (rw [IntKind.wrap_i64]; omega)⟩) (by assumption) ?_
        simp only [Act.put, List.setIfInBounds_toArray, List.set_cons_zero, List.set_cons_succ]
        refine take_at (i := 19) (v := .bool false) (d := some 40) rfl rfl (by kernel_rfl) (by kernel_rfl) (by kernel_rfl) (fun _ _ _ h => h) (Or.inl ⟨by rfl, fun wS ⟨hS0, hS1⟩ => by go_simp; all_goals (rw [IntKind.wrap_i64]; omega)⟩) (by assumption) ?_
        simp only [Act.put, List.setIfInBounds_toArray, List.set_cons_zero, List.set_cons_succ]
        refine take_at (i := 20) (v := .bool false) (d := some 41) rfl rfl (by kernel_rfl) (by kernel_rfl) (by kernel_rfl) (fun _ _ _ h => h) (Or.inl ⟨by rfl, fun wS ⟨hS0, hS1⟩ => by go_simp; all_goals (rw [IntKind.wrap_i64]; omega)⟩) (by assumption) ?_
        simp only [Act.put, List.setIfInBounds_toArray, List.set_cons_zero, List.set_cons_succ]
        refine wpAnyH_done (by kernel_rfl) ?_ _
        go_simp
        clear hHeld x0 x1 y0 y1
        have HB3 := hide (boot_in (σ0 := σ) (σ := σ2) HF2.out.len c2 (fun V hV => by rw [c1]; exact HUx.out V hV))
        have HBoo := hide (HBo.out _ _ HF2.out c3)
        generalize bootS σ2 = X at HB3 HBoo
        go_wp2_with fail
        refine HBoo.out.mono ?_
        rintro e w3 ⟨ok, τ, s', S3, he, hX, hF3, hS3, hge, hK3⟩
        cases ok
        · simp only [Bool.false_eq_true, if_false] at he hX
          subst he
          have HU3 := hide (HB3.out.2 τ hX)
          have HF3 := hide hF3
          have HK3 : Hid (Kept R w w3) := HK2.out.trans hK3
          clear hF3 hS3 hK3 hge hX
          go_wp2_with fail
          go_roundw
          case rel => exact ⟨k + 1, τ, by omega, by go_num, HF3.out, HU3.out, HK3.out, fun h => absurd h (by omega)⟩
          case measure => simp [intOf]; omega
        · simp only [if_true] at he hX hS3
          subst he
          have HKp := HK2
          have HFp := HF2
          have HZ : Hid (n = 0 → ∃ τ0, bootS (onS σ) = (τ0, some s') ∧ (onS τ).C = τ0.C) := fun h => absurd hlt (by omega)
          have HL3 := hide (HB3.out.1 τ s' hX)
          have HF3 := hide hF3
          have HS3 := hide (hS3 trivial)
          have HK3 : Hid (Kept R w w3) := HKp.out.trans hK3
          have hge2 := HKp.out.size
          have hRl := HFp.out.lt
          have HSR : Hid (w.heap.size ≤ S3 ∧ S3 ≠ R) := ⟨by omega, by omega⟩
          clear hF3 hS3 hK3 hge hX hge2 hRl
          unfold fp
          go_wp2_with fail
          refine (HOn.out _ _ HF3.out).mono ?_
          rintro e w4 ⟨rfl, hF4, hK4⟩
          have HF4 := hide hF4
          have HS4 := hide (HS3.out.kept hK4 HSR.out.2)
          have HK4 : Hid (Kept R w w4) := HK3.out.trans hK4
          clear hF4 hK4
          go_wp2_with fail
          go_ret2
          exact (show RaEnd _ _ _ _ _ _ from ⟨S3, onS τ, s', rfl, HF4.out, HS4.out, HL3.out.1, HL3.out.2, ⟨rfl, rfl, Nat.zero_le _⟩, HSR.out.1, HSR.out.2, HK4.out, HZ.out⟩)
      · obtain rfl : er = 0 := c5 (by omega)
        clear hneg c4 c5
        refine wp_region_held_drew (S := fun wx => wx.cell? ⟨g, o + k * 2, none⟩ = some (.int .i64 Lf) ∧ wx.cell? ⟨g, o + k * 2 + 1, none⟩ = some (.string Jk)) (by kernel_rfl) (by exact ⟨x0, x1⟩) (fun hHeld => ?_)
        refine take_at (i := 0) (v := .pointer (some ⟨R, 0, none⟩)) (d := some 21) rfl rfl (by kernel_rfl) (by kernel_rfl) (by kernel_rfl) (fun _ _ _ h => h) (Or.inl ⟨by rfl, fun wS ⟨hS0, hS1⟩ => by go_simp; all_goals (rw [IntKind.wrap_i64]; omega)⟩) (by assumption) ?_
        simp only [Act.put, List.setIfInBounds_toArray, List.set_cons_zero, List.set_cons_succ]
        refine take_at (i := 1) (v := .slice (some ⟨g, o, none⟩) n cap) (d := some 22) rfl rfl (by kernel_rfl) (by kernel_rfl) (by kernel_rfl) (fun _ _ _ h => h) (Or.inl ⟨by rfl, fun wS ⟨hS0, hS1⟩ => by go_simp; all_goals (rw [IntKind.wrap_i64]; omega)⟩) (by assumption) ?_
        simp only [Act.put, List.setIfInBounds_toArray, List.set_cons_zero, List.set_cons_succ]
        refine take_at (i := 2) (v := .int .i64 k) (d := some 23) rfl rfl (by kernel_rfl) (by kernel_rfl) (by kernel_rfl) (fun _ _ _ h => h) (Or.inl ⟨by rfl, fun wS ⟨hS0, hS1⟩ => by go_simp; all_goals (rw [IntKind.wrap_i64]; omega)⟩) (by assumption) ?_
        simp only [Act.put, List.setIfInBounds_toArray, List.set_cons_zero, List.set_cons_succ]
        refine take_at (i := 3) (v := .pointer (some ⟨g, o + k * 2, none⟩)) (d := some 24) rfl rfl (by kernel_rfl) (by kernel_rfl) (by kernel_rfl) (fun _ _ _ h => h) (Or.inl ⟨by rfl, fun wS ⟨hS0, hS1⟩ => by go_simp; all_goals (rw [IntKind.wrap_i64]; omega)⟩) (by assumption) ?_
        simp only [Act.put, List.setIfInBounds_toArray, List.set_cons_zero, List.set_cons_succ]
        refine take_at (i := 4) (v := .pointer (some ⟨g, o + k * 2, none⟩)) (d := some 25) rfl rfl (by kernel_rfl) (by kernel_rfl) (by kernel_rfl) (fun _ _ _ h => h) (Or.inl ⟨by rfl, fun wS ⟨hS0, hS1⟩ => by go_simp; all_goals (rw [IntKind.wrap_i64]; omega)⟩) (by assumption) ?_
        simp only [Act.put, List.setIfInBounds_toArray, List.set_cons_zero, List.set_cons_succ]
        refine take_at (i := 5) (v := .int .i64 Lf) (d := some 26) rfl rfl (by kernel_rfl) (by kernel_rfl) (by kernel_rfl) (fun _ _ _ h => h) (Or.inl ⟨by rfl, fun wS ⟨hS0, hS1⟩ => by go_simp; all_goals (rw [IntKind.wrap_i64]; omega)⟩) (by assumption) ?_
        simp only [Act.put, List.setIfInBounds_toArray, List.set_cons_zero, List.set_cons_succ]
        refine take_at (i := 6) (v := .slice (some ⟨g, o, none⟩) n cap) (d := some 27) rfl rfl (by kernel_rfl) (by kernel_rfl) (by kernel_rfl) (fun _ _ _ h => h) (Or.inl ⟨by rfl, fun wS ⟨hS0, hS1⟩ => by go_simp; all_goals (rw [IntKind.wrap_i64]; omega)⟩) (by assumption) ?_
        simp only [Act.put, List.setIfInBounds_toArray, List.set_cons_zero, List.set_cons_succ]
        refine take_at (i := 7) (v := .int .i64 k) (d := some 28) rfl rfl (by kernel_rfl) (by kernel_rfl) (by kernel_rfl) (fun _ _ _ h => h) (Or.inl ⟨by rfl, fun wS ⟨hS0, hS1⟩ => by go_simp; all_goals (rw [IntKind.wrap_i64]; omega)⟩) (by assumption) ?_
        simp only [Act.put, List.setIfInBounds_toArray, List.set_cons_zero, List.set_cons_succ]
        refine take_at (i := 8) (v := .pointer (some ⟨g, o + k * 2, none⟩)) (d := some 29) rfl rfl (by kernel_rfl) (by kernel_rfl) (by kernel_rfl) (fun _ _ _ h => h) (Or.inl ⟨by rfl, fun wS ⟨hS0, hS1⟩ => by go_simp; all_goals (rw [IntKind.wrap_i64]; omega)⟩) (by assumption) ?_
        simp only [Act.put, List.setIfInBounds_toArray, List.set_cons_zero, List.set_cons_succ]
        refine take_at (i := 9) (v := .pointer (some ⟨g, o + k * 2 + 1, none⟩)) (d := some 30) rfl rfl (by kernel_rfl) (by kernel_rfl) (by kernel_rfl) (fun _ _ _ h => h) (Or.inl ⟨by rfl, fun wS ⟨hS0, hS1⟩ => by go_simp; all_goals (rw [IntKind.wrap_i64]; omega)⟩) (by assumption) ?_
        simp only [Act.put, List.setIfInBounds_toArray, List.set_cons_zero, List.set_cons_succ]
        refine take_at (i := 10) (v := .string Jk) (d := some 31) rfl rfl (by kernel_rfl) (by kernel_rfl) (by kernel_rfl) (fun _ _ _ h => h) (Or.inl ⟨by rfl, fun wS ⟨hS0, hS1⟩ => by go_simp; all_goals (rw [IntKind.wrap_i64]; omega)⟩) (by assumption) ?_
        simp only [Act.put, List.setIfInBounds_toArray, List.set_cons_zero, List.set_cons_succ]
        refine wpAnyH_ready (rs := [11]) (by kernel_rfl) (by simp) ?_
        refine AllReadyH.cons rfl (fun K hK => ?_) AllReadyH.nil
        go_simp
        refine (HCt.out _ HF1.out.drew).mono ?_
        rintro e w2 ⟨rfl, hF2, hK2⟩
        have hK2' : Kept R w1 w2 := (Kept.drew (Kept.refl R w1)).trans hK2
        have HF2 := hide hF2
        have HK2 : Hid (Kept R w w2) := HK1.out.trans hK2'
        have y0 := (hK2'.cell hsz1 hgR (o := o + k * 2)).trans x0
        have y1 := (hK2'.cell hsz1 hgR (o := o + k * 2 + 1)).trans x1
        clear hF2 hK2 hK2' hHeld
        refine hK.out _ _ (⟨y0, y1⟩) (fun hHeld => ?_)
        clear hK K
        refine take_at (i := 12) (v := .bool false) (d := some 33) rfl rfl (by kernel_rfl) (by kernel_rfl) (by kernel_rfl) (fun _ _ _ h => h) (Or.inl ⟨by rfl, fun wS ⟨hS0, hS1⟩ => by go_simp; all_goals (rw [IntKind.wrap_i64]; omega)⟩) (by assumption) ?_
        simp only [Act.put, List.setIfInBounds_toArray, List.set_cons_zero, List.set_cons_succ]
        refine take_at (i := 13) (v := .bool false) (d := some 34) rfl rfl (by kernel_rfl) (by kernel_rfl) (by kernel_rfl) (fun _ _ _ h => h) (Or.inl ⟨by rfl, fun wS ⟨hS0, hS1⟩ => by go_simp; all_goals (rw [IntKind.wrap_i64]; omega)⟩) (by assumption) ?_
        simp only [Act.put, List.setIfInBounds_toArray, List.set_cons_zero, List.set_cons_succ]
        refine take_at (i := 14) (v := undef) (d := some 35) rfl rfl (by kernel_rfl) (by kernel_rfl) (by kernel_rfl) (fun _ _ _ h => h) (Or.inr ⟨by rfl, rfl⟩) (by assumption) ?_
        simp only [Act.put, List.setIfInBounds_toArray, List.set_cons_zero, List.set_cons_succ]
        refine take_at (i := 15) (v := undef) (d := some 36) rfl rfl (by kernel_rfl) (by kernel_rfl) (by kernel_rfl) (fun _ _ _ h => h) (Or.inr ⟨by rfl, rfl⟩) (by assumption) ?_
        simp only [Act.put, List.setIfInBounds_toArray, List.set_cons_zero, List.set_cons_succ]
        refine take_at (i := 16) (v := undef) (d := some 37) rfl rfl (by kernel_rfl) (by kernel_rfl) (by kernel_rfl) (fun _ _ _ h => h) (Or.inr ⟨by rfl, rfl⟩) (by assumption) ?_
        simp only [Act.put, List.setIfInBounds_toArray, List.set_cons_zero, List.set_cons_succ]
        refine take_at (i := 17) (v := undef) (d := some 38) rfl rfl (by kernel_rfl) (by kernel_rfl) (by kernel_rfl) (fun _ _ _ h => h) (Or.inr ⟨by rfl, rfl⟩) (by assumption) ?_
        simp only [Act.put, List.setIfInBounds_toArray, List.set_cons_zero, List.set_cons_succ]
        refine take_at (i := 18) (v := undef) (d := some 39) rfl rfl (by kernel_rfl) (by kernel_rfl) (by kernel_rfl) (fun _ _ _ h => h) (Or.inr ⟨by rfl, rfl⟩) (by assumption) ?_
        simp only [Act.put, List.setIfInBounds_toArray, List.set_cons_zero, List.set_cons_succ]
        refine take_at (i := 19) (v := undef) (d := some 40) rfl rfl (by kernel_rfl) (by kernel_rfl) (by kernel_rfl) (fun _ _ _ h => h) (Or.inr ⟨by rfl, rfl⟩) (by assumption) ?_
        simp only [Act.put, List.setIfInBounds_toArray, List.set_cons_zero, List.set_cons_succ]
        refine take_at (i := 20) (v := .bool false) (d := some 41) rfl rfl (by kernel_rfl) (by kernel_rfl) (by kernel_rfl) (fun _ _ _ h => h) (Or.inl ⟨by rfl, fun wS ⟨hS0, hS1⟩ => by go_simp; all_goals (rw [IntKind.wrap_i64]; omega)⟩) (by assumption) ?_
        simp only [Act.put, List.setIfInBounds_toArray, List.set_cons_zero, List.set_cons_succ]
        refine wpAnyH_done (by kernel_rfl) ?_ _
        go_simp
        clear hHeld x0 x1 y0 y1
        have HB3 := hide (boot_in (σ0 := σ) (σ := σ2) HF2.out.len c2 (fun V hV => by rw [c1]; exact HUx.out V hV))
        have HBoo := hide (HBo.out _ _ HF2.out c3)
        generalize bootS σ2 = X at HB3 HBoo
        go_wp2_with fail
        refine HBoo.out.mono ?_
        rintro e w3 ⟨ok, τ, s', S3, he, hX, hF3, hS3, hge, hK3⟩
        cases ok
        · simp only [Bool.false_eq_true, if_false] at he hX
          subst he
          have HU3 := hide (HB3.out.2 τ hX)
          have HF3 := hide hF3
          have HK3 : Hid (Kept R w w3) := HK2.out.trans hK3
          clear hF3 hS3 hK3 hge hX
          go_wp2_with fail
          go_roundw
          case rel => exact ⟨k + 1, τ, by omega, by go_num, HF3.out, HU3.out, HK3.out, fun h => absurd h (by omega)⟩
          case measure => simp [intOf]; omega
        · simp only [if_true] at he hX hS3
          subst he
          have HKp := HK2
          have HFp := HF2
          have HZ : Hid (n = 0 → ∃ τ0, bootS (onS σ) = (τ0, some s') ∧ (onS τ).C = τ0.C) := fun h => absurd hlt (by omega)
          have HL3 := hide (HB3.out.1 τ s' hX)
          have HF3 := hide hF3
          have HS3 := hide (hS3 trivial)
          have HK3 : Hid (Kept R w w3) := HKp.out.trans hK3
          have hge2 := HKp.out.size
          have hRl := HFp.out.lt
          have HSR : Hid (w.heap.size ≤ S3 ∧ S3 ≠ R) := ⟨by omega, by omega⟩
          clear hF3 hS3 hK3 hge hX hge2 hRl
          unfold fp
          go_wp2_with fail
          refine (HOn.out _ _ HF3.out).mono ?_
          rintro e w4 ⟨rfl, hF4, hK4⟩
          have HF4 := hide hF4
          have HS4 := hide (HS3.out.kept hK4 HSR.out.2)
          have HK4 : Hid (Kept R w w4) := HK3.out.trans hK4
          clear hF4 hK4
          go_wp2_with fail
          go_ret2
          exact (show RaEnd _ _ _ _ _ _ from ⟨S3, onS τ, s', rfl, HF4.out, HS4.out, HL3.out.1, HL3.out.2, ⟨rfl, rfl, Nat.zero_le _⟩, HSR.out.1, HSR.out.2, HK4.out, HZ.out⟩)
    · obtain rfl : k = n := by omega
      have d1 : decide ((k : Int) < (k : Int)) = false := decide_eq_false (by omega)
      have dk : ((k : Int) == (k : Int)) = true := by simp
      have HB3 := hide (boot_in (σ0 := σ) (σ := onS σx) HF1.out.len rfl HUx.out)
      have HFr := hide (bootS_free (σ := onS σx) rfl rfl)
      have HBoo := hide (HBo.out _ _ HF1.out (Nat.zero_le _))
      have H0 : Hid (k = 0 → bootS (onS σ) = bootS (onS σx)) := fun h => by rw [H0x.out h]
      generalize bootS (onS σx) = X at HB3 HFr HBoo H0
      go_wp2_with fail
      refine HBoo.out.mono ?_
      rintro e w3 ⟨ok, τ, s', S3, he, hX, hF3, hS3, hge, hK3⟩
      cases ok
      · exfalso
        have := HFr.out.1
        rw [hX] at this
        exact absurd this (by simp)
      · simp only [if_true] at he hX hS3
        subst he
        have HKp := HK1
        have HFp := HF1
        have HZ : Hid (k = 0 → ∃ τ0, bootS (onS σ) = (τ0, some s') ∧ (onS τ).C = τ0.C) := fun h => ⟨τ, by rw [H0.out h, hX], rfl⟩
        have HL3 := hide (HB3.out.1 τ s' hX)
        have HF3 := hide hF3
        have HS3 := hide (hS3 trivial)
        have HK3 : Hid (Kept R w w3) := HKp.out.trans hK3
        have hge2 := HKp.out.size
        have hRl := HFp.out.lt
        have HSR : Hid (w.heap.size ≤ S3 ∧ S3 ≠ R) := ⟨by omega, by omega⟩
        clear hF3 hS3 hK3 hge hX hge2 hRl
        unfold fp
        go_wp2_with fail
        refine (HOn.out _ _ HF3.out).mono ?_
        rintro e w4 ⟨rfl, hF4, hK4⟩
        have HF4 := hide hF4
        have HS4 := hide (HS3.out.kept hK4 HSR.out.2)
        have HK4 : Hid (Kept R w w4) := HK3.out.trans hK4
        clear hF4 hK4
        go_wp2_with fail
        go_ret2
        exact (show RaEnd _ _ _ _ _ _ from ⟨S3, onS τ, s', rfl, HF4.out, HS4.out, HL3.out.1, HL3.out.2, ⟨rfl, rfl, Nat.zero_le _⟩, HSR.out.1, HSR.out.2, HK4.out, HZ.out⟩)
theorem cuts_none (w : World) (R : Nat) : Cuts w (.slice none 0 0) [] R := ⟨none, 0, rfl, fun i h => absurd h (by simp), fun h => absurd h (by simp)⟩
end Go.Proofs.Ytcjahdgppnmdkaa
