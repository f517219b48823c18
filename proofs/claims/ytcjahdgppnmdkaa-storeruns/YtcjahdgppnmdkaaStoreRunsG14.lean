/- SqR, SqS, SqT, SqU. -/
import Derived.Test.YtcjahdgppnmdkaaStoreRunsG07
import Derived.Test.YtcjahdgppnmdkaaStoreRunsG12
import Derived.Test.YtcjahdgppnmdkaaStoreRunsG11
import Derived.Test.YtcjahdgppnmdkaaStoreRunsG13
import Derived.Deep.RegionHeld3
set_option maxRecDepth 100000
namespace Go.Proofs.Ytcjahdgppnmdkaa
open Go.RowKit Go.Great
theorem progRR_on {ρ : St} (ho : ρ.off = false) (a : Nat) (d : List UInt8) (h : a + d.length ≤ 8192) : progRR ρ (a : Int) (bs d) = ((progSR ρ a d).1, if (progSR ρ a d).2 then 0 else 60) := by
  have e1 : (bs d).data.toList = d := by simp [bs]
  have e2 : insideB (a : Int) ((bs d).size : Nat) = true := by
    rw [bs_size]
    unfold insideB
    exact decide_eq_true (by omega)
  unfold progRR
  rw [ho, e2, e1, Int.toNat_natCast]
  simp
theorem Rel.prg {σ ρ : St} (h : Rel σ ρ) (ho : σ.off = false) (a : Nat) (d : List UInt8) (hd : a + d.length ≤ 8192) : Rel (Go.Proofs.Ytcjahdgppnmdkaa.progS σ a d).1 (progRR ρ (a : Int) (bs d)).1 ∧ (progRR ρ (a : Int) (bs d)).2 = if (Go.Proofs.Ytcjahdgppnmdkaa.progS σ a d).2 then 0 else 60 := by
  rw [progRR_on (by rw [← h.off]; exact ho) a d hd]
  obtain ⟨h1, h2⟩ := Rel.progS d h a
  exact ⟨h1, by rw [h2]⟩
theorem Rel.era {σ ρ : St} (h : Rel σ ρ) (ho : σ.off = false) (s : Nat) (hs : s < 2) : Rel (eraseS σ s).1 (eraseRR ρ (s : Int)).1 ∧ (eraseRR ρ (s : Int)).2 = if (eraseS σ s).2 then 0 else 60 := by
  obtain ⟨h1, h2⟩ := h.erase (s : Int)
  rw [← h2]
  have e : eraseR σ (s : Int) = ((eraseS σ s).1, if (eraseS σ s).2 then 0 else 60) := by
    unfold eraseR
    rw [ho, Int.toNat_natCast, if_pos (show ((s : Int) = 0 ∨ (s : Int) = 1) by omega)]
    simp
  rw [e] at h1 ⊢
  exact ⟨h1, rfl⟩
theorem sixty {b : Bool} : (if b then (0 : Int) else 60) = 0 ↔ b = true := by cases b <;> simp
theorem nxR_fol {t : Nat} (ht : t < 3) : nxR (codeN t) = codeN (folN t) := by
  have h : t = 0 ∨ t = 1 ∨ t = 2 := by omega
  rcases h with rfl | rfl | rfl <;> rfl
/-- records that are moved, one by one: both alike -/
theorem each_rel {C0 : List UInt8} {ac : Nat} {k : Kp} {id : Int} {v : List UInt8} {V : Vl} (hC0 : C0.length = 8192) (hac : ac < 2) (hk : KOk k 4096) (hv : v.length ≤ 2000) (hV : ∀ j, j < 3 → V j = mvL C0 ac k id v j) :
    ∀ (n i : Nat) (m : Mv) (ρ : St), i + n = 3 → Mid C0 ac m V i → On m.σ → Rel m.σ ρ → m.en + restM k id v.length i n ≤ 4096 →
      Rel (eachS ac k id v i n m).1.σ (eachR (1 - ac) V i n m.en ρ).1 ∧ (eachR (1 - ac) V i n m.en ρ).2.2 = (if (eachS ac k id v i n m).2 then 0 else 60) ∧ ((eachS ac k id v i n m).2 = true → (eachR (1 - ac) V i n m.en ρ).2.1 = (eachS ac k id v i n m).1.en ∧ On (eachS ac k id v i n m).1.σ ∧ (eachS ac k id v i n m).1.en ≤ 4096) := by
  intro n
  induction n with
  | zero =>
    intro i m ρ hin hM hon hr hfit
    exact ⟨hr, rfl, fun _ => ⟨rfl, hon, by rw [restM] at hfit; show m.en ≤ 4096; omega⟩⟩
  | succ n ih =>
    intro i m ρ hin hM hon hr hfit
    have hi : i < 3 := by omega
    rw [restM] at hfit
    have hmv : mvL m.σ.C ac k id v i = V i := by
      rw [hV i hi]
      exact (mvL_same hC0 hM.len hac hk hM.act id v i).symm
    rw [eachS]
    cases hx : V i with
    | none =>
      have hs : step1 ac k id v i m = (m, true) := by unfold step1; rw [hmv, hx]
      rw [hs, eachR_none hx]
      simp only [if_true]
      refine ih (i + 1) m ρ (by omega) ⟨hM.len, hM.act, hM.ff, hM.en, fun j hj => ?_⟩ hon hr (by omega)
      rw [hM.val j hj]
      by_cases c : j < i
      · rw [if_pos c, if_pos (by omega)]
      · rw [if_neg c]
        by_cases e : j = i
        · subst e; rw [if_pos (by omega), hx]
        · rw [if_neg (by omega)]
    | some t =>
      have hs : step1 ac k id v i m = addS (1 - ac) i t m := by unfold step1; rw [hmv, hx]
      have ht : t.length ≤ 2000 ∧ 4 + t.length = szM k id v.length i := by
        have h0 := hV i hi
        rw [hx] at h0
        unfold mvL at h0
        unfold szM szK
        by_cases h1 : (i : Int) = id
        · rw [if_pos h1] at h0 ⊢
          injection h0 with h0
          rw [h0]
          exact ⟨hv, rfl⟩
        · rw [if_neg h1] at h0 ⊢
          by_cases h2 : (k i).th = true
          · rw [if_pos h2] at h0 ⊢
            injection h0 with h0
            have hkk := hk.1 i h2
            rw [h0, txt_len C0 hC0 ac hac (k i) (by omega)]
            exact ⟨hkk.2, rfl⟩
          · rw [if_neg h2] at h0; cases h0
      obtain ⟨a1, a2, a3, a4⟩ := hM.add hac hi t ht.1 (by omega) hx
      obtain ⟨r1, r2⟩ := hr.prg hon.off ((1 - ac) * 4096 + m.en) (recB i t) (by rw [recB_length]; omega)
      rw [hs, eachR_some hx]
      cases hb : (addS (1 - ac) i t m).2
      · simp only [Bool.false_eq_true, if_false]
        rw [addS_2] at hb
        rw [hb] at r2
        rw [if_neg (by rw [r2]; decide)]
        exact ⟨by rw [addS_σ]; exact r1, r2, fun e => by cases e⟩
      · simp only [if_true]
        have hb' := hb
        rw [addS_2] at hb'
        rw [hb'] at r2
        rw [if_pos (by rw [r2]; rfl)]
        have hkk := (addS_k hb).2
        have := ih (i + 1) (addS (1 - ac) i t m).1 (progRR ρ (((1 - ac) * 4096 + m.en : Nat) : Int) (bs (recB i t))).1 (by omega) (a1 hb) (by rw [addS_σ]; exact progS_on _ _ _ hon hb') (by rw [addS_σ]; exact r1) (by rw [hkk]; omega)
        rw [hkk, show m.en + 4 + t.length = m.en + (4 + t.length) by omega] at this
        exact this
/-- a move: both alike -/
def MvR (x : St × Option Sv) (y : St × Nat × Int) (ac : Nat) : Prop :=
  Rel x.1 y.1 ∧ ((∃ s', x.2 = some s' ∧ y.2.2 = 0 ∧ y.2.1 = s'.en ∧ s'.ac = 1 - ac) ∨ (x.2 = none ∧ y.2.2 = 60))
theorem move_rel {σ ρ : St} {s : Sv} {V : Vl} {id : Int} {v : List UInt8} (hr : Rel σ ρ) (hon : On σ) (hac : s.ac < 2) (hk : KOk s.k 4096) (hv : v.length ≤ 2000) (htu : s.tu < 3) (hcd : codeN s.tu = σ.C.getD (s.ac * 4096) 0) (hV : ∀ j, j < 3 → V j = mvL σ.C s.ac s.k id v j) (hfit : 1 + restM s.k id v.length 0 3 ≤ 4096) : MvR (moveS σ s id v) (moveR ρ s.ac V) s.ac := by
  obtain ⟨e1, e2⟩ := hr.era hon.off (1 - s.ac) (by omega)
  have hl1 : (eraseS σ (1 - s.ac)).1.C.length = 8192 := by rw [eraseS_len, hon.len]
  obtain ⟨q1, q2⟩ := eraseS_part σ (1 - s.ac) (by rw [hon.len]; omega)
  unfold moveS
  cases hb1 : (eraseS σ (1 - s.ac)).2
  · rw [hb1] at e2
    rw [moveR_no1 (by rw [e2]; decide)]
    exact ⟨e1, .inr ⟨rfl, e2⟩⟩
  · rw [hb1] at e2
    have hact1 : ∀ j, j < 4096 → σ.C.getD (s.ac * 4096 + j) 0 = (eraseS σ (1 - s.ac)).1.C.getD (s.ac * 4096 + j) 0 := fun j hj => by
      rw [q1 hb1, if_neg (by omega)]
    have hbl : ∀ j, j < 4096 → (eraseS σ (1 - s.ac)).1.C.getD ((1 - s.ac) * 4096 + j) 0 = 255 := fun j hj => by
      rw [q1 hb1, if_pos (by omega)]
    have hM0 := Mid.start (C0 := σ.C) (V := V) hac hl1 hact1 hbl
    have hone := eraseS_on hon hb1
    obtain ⟨a1, a2, a3, a4⟩ := each_mid hon.len hac hk hv hV 3 0 ⟨(eraseS σ (1 - s.ac)).1, 1, kz⟩ rfl hM0 hfit
    obtain ⟨b1, b2, b3⟩ := each_rel hon.len hac hk hv hV 3 0 ⟨(eraseS σ (1 - s.ac)).1, 1, kz⟩ (eraseRR ρ ((1 - s.ac : Nat) : Int)).1 rfl hM0 hone e1 hfit
    simp only [if_true]
    cases hb2 : (eachS s.ac s.k id v 0 3 ⟨(eraseS σ (1 - s.ac)).1, 1, kz⟩).2
    · rw [hb2] at b2
      rw [moveR_no2 (by rw [e2]; rfl) (by rw [b2]; decide)]
      exact ⟨b1, .inr ⟨rfl, b2⟩⟩
    · rw [hb2] at b2
      obtain ⟨c1, c2, c3⟩ := b3 hb2
      rw [moveR_yes (by rw [e2]; rfl) (by rw [b2]; rfl)]
      have hfirst : (eachR (1 - s.ac) V 0 3 1 (eraseRR ρ ((1 - s.ac : Nat) : Int)).1).1.C.getD (s.ac * 4096) 0 = codeN s.tu := by
        rw [hcd]
        have := a3 0 (by omega)
        rw [Nat.add_zero] at this
        rw [this, b1.C]
      rw [hfirst, nxR_fol htu]
      obtain ⟨d1, d2⟩ := b1.prg c2.off ((1 - s.ac) * 4096) [codeN (folN s.tu)] (by rw [List.length_singleton]; omega)
      simp only [if_true]
      cases hb3 : (progS (eachS s.ac s.k id v 0 3 ⟨(eraseS σ (1 - s.ac)).1, 1, kz⟩).1.σ ((1 - s.ac) * 4096) [codeN (folN s.tu)]).2
      · rw [hb3] at d2
        exact ⟨d1, .inr ⟨rfl, d2⟩⟩
      · rw [hb3] at d2
        exact ⟨d1, .inl ⟨_, rfl, d2, c1, rfl⟩⟩
end Go.Proofs.Ytcjahdgppnmdkaa
set_option maxRecDepth 100000
namespace Go.Proofs.Ytcjahdgppnmdkaa
open Go.RowKit Go.Great
theorem cdB_iff (c : UInt8) : cdB c = true ↔ Cd c := by unfold cdB Cd; simp [or_assoc]
theorem cdB_no {c : UInt8} (h : ¬ Cd c) : cdB c = false := by
  cases hc : cdB c
  · rfl
  · exact absurd ((cdB_iff c).1 hc) h
theorem acR_actI (a b : UInt8) : acR a b = actI a b := by
  by_cases ha : Cd a
  · by_cases hb : Cd b
    · rcases ha with rfl | rfl | rfl <;> rcases hb with rfl | rfl | rfl <;> decide
    · unfold acR actI
      rw [(cdB_iff a).2 ha, cdB_no hb, not_cd hb]
      rcases ha with rfl | rfl | rfl <;> rfl
  · by_cases hb : Cd b
    · unfold acR actI
      rw [(cdB_iff b).2 hb, cdB_no ha, not_cd ha]
      rcases hb with rfl | rfl | rfl <;> rfl
    · unfold acR actI
      rw [cdB_no hb, cdB_no ha, not_cd ha, not_cd hb]
      rfl
def ctL (l : List UInt8) (k : Kp) (i : Nat) : Option (List UInt8) := if (k i).th then some ((l.drop (k i).lo).take (k i).n) else none
theorem rdV_rd (l : List UInt8) : ∀ (f a : Nat) (k : Kp) (V : Vl), (∀ i, V i = ctL l k i) → (∀ i, (rdV l f a V).1 i = ctL l (rd l f a k).1 i) ∧ (rdV l f a V).2 = (rd l f a k).2 := by
  intro f
  induction f with
  | zero => intro a k V h; exact ⟨h, rfl⟩
  | succ f ih =>
    intro a k V h
    rw [rdV, rd]
    by_cases h1 : blankB l a = true
    · rw [if_pos h1, if_pos h1]; exact ⟨h, rfl⟩
    · rw [if_neg h1, if_neg h1]
      by_cases h2 : wholeB l a = true
      · rw [if_pos h2, if_pos h2]
        refine ih _ _ _ (fun i => ?_)
        unfold upV ctL upd
        by_cases e : i = idAt l a
        · rw [if_pos e, if_pos e]; rfl
        · rw [if_neg e, if_neg e]; exact h i
      · rw [if_neg h2, if_neg h2]; exact ⟨h, rfl⟩
theorem txt_sec (C : List UInt8) (ac : Nat) (s : Sg) (h : s.lo + s.n ≤ 4096) : txt C ac s = ((secL C ac).drop s.lo).take s.n := by
  unfold txt secL
  rw [List.drop_take, List.drop_drop, List.take_take, Nat.min_eq_left (by omega)]
theorem cont_ct {C : List UInt8} {ac : Nat} {k : Kp} {e : Nat} (hk : KOk k e) (he : e ≤ 4096) (i : Nat) : cont C ac k i = ctL (secL C ac) k i := by
  unfold cont ctL
  by_cases h : (k i).th = true
  · rw [if_pos h, if_pos h, txt_sec _ _ _ (by have := (hk.1 i h).1; omega)]
  · rw [if_neg h, if_neg h]
theorem Live.to {C : List UInt8} {s : Sv} {V V' : Vl} (h : Live C s V) (e : ∀ i, i < 3 → V' i = V i) : Live C s V' := by
  obtain ⟨⟨a1, a2, a3, a4, en, k, cl, a5, a6⟩, b1, b2, b3, b4, b5⟩ := h
  exact ⟨⟨a1, a2, a3, a4, en, k, cl, a5, fun i hi => (e i hi).trans (a6 i hi)⟩, b1, b2, b3, fun i hi => (e i hi).trans (b4 i hi), b5⟩
/-- sector ac has a code: whatever the spare is -/
theorem bootIn_liveV {σ : St} {ac : Nat} (hl : σ.C.length = 8192) (hac : ac < 2) (hcd : Cd (σ.C.getD (ac * 4096) 0)) (hs : (Cd (σ.C.getD ((1 - ac) * 4096) 0) ∨ σ.C.getD ((1 - ac) * 4096) 0 = 255) → Safe (σ.C.getD ((1 - ac) * 4096) 0) ac (σ.C.getD (ac * 4096) 0)) : ∀ τ s', bootIn σ ac = (τ, some s') → Live τ.C s' (cont σ.C ac (rd (secL σ.C ac) 4096 1 kz).1) := by
  intro τ s' e
  have hre := rd_ends (secL σ.C ac) 4096 1 kz (by rw [secL_len hl hac]; omega) (by rw [secL_len hl hac]; omega)
  obtain ⟨⟨k, en, cl⟩, hrd⟩ : ∃ x, rd (secL σ.C ac) 4096 1 kz = x := ⟨_, rfl⟩
  rw [hrd] at hre ⊢
  simp only at hre ⊢
  by_cases hsp : Cd (σ.C.getD ((1 - ac) * 4096) 0) ∨ σ.C.getD ((1 - ac) * 4096) 0 = 255
  · have hU : Up σ.C ac (cont σ.C ac k) := ⟨hl, hac, hcd, hs hsp, ⟨en, k, cl, hre, fun i _ => rfl⟩⟩
    exact hU.bootIn.1 τ s' e
  · obtain ⟨g1, g2, g3⟩ := hre.kok (secL_len hl hac)
    have hfst : (secL σ.C ac).getD 0 0 = σ.C.getD (ac * 4096) 0 := by
      have := sec_at σ.C hl ac hac 0 (by omega)
      rw [Nat.add_zero] at this
      exact this
    have hspe : (secL σ.C (1 - ac)).getD 0 0 = σ.C.getD ((1 - ac) * 4096) 0 := by
      have := sec_at σ.C hl (1 - ac) (by omega) 0 (by omega)
      rw [Nat.add_zero] at this
      exact this
    obtain ⟨t1, t2⟩ := turn_of hcd
    have hsv : svOf σ.C ac = (⟨ac, (turnI (σ.C.getD (ac * 4096) 0)).toNat, en, k⟩, cl) := by
      unfold svOf
      rw [hrd, hfst]
    unfold bootIn at e
    rw [hsv, hspe] at e
    simp only at e
    cases cl
    · simp only [Bool.false_eq_true, if_false] at e
      refine move_done (s := ⟨ac, (turnI (σ.C.getD (ac * 4096) 0)).toNat, en, k⟩) (id := -1) (v := []) hl hac (g3.mono g1) (by simp) t1 t2 (fun j hj => ?_) (by rw [List.length_nil, restM_none]; show 1 + sizeK k ≤ 4096; have := g3.2; omega) τ s' e
      unfold mvL
      rw [if_neg (by omega)]
      rfl
    · simp only [if_true] at e
      rw [if_pos ⟨fun h => hsp (.inr h), not_cd (fun h => hsp (.inl h))⟩] at e
      obtain ⟨q1, _⟩ := eraseS_part σ (1 - ac) (by rw [hl]; omega)
      have hDl : (eraseS σ (1 - ac)).1.C.length = 8192 := by rw [eraseS_len, hl]
      cases hb : (eraseS σ (1 - ac)).2
      · rw [hb] at e
        simp only [Bool.false_eq_true, if_false] at e
        injection e with _ e; cases e
      · rw [hb] at e
        simp only [if_true] at e
        injection e with e1 e2
        injection e2 with e2
        subst e1 e2
        have hact : ∀ j, j < 4096 → σ.C.getD (ac * 4096 + j) 0 = (eraseS σ (1 - ac)).1.C.getD (ac * 4096 + j) 0 := fun j hj => by
          rw [q1 hb, if_neg (by omega)]
        have e0 := hact 0 (by omega)
        rw [Nat.add_zero] at e0
        have hs0 : (eraseS σ (1 - ac)).1.C.getD ((1 - ac) * 4096) 0 = 255 := by rw [q1 hb, if_pos (by omega)]
        have hE2 : Ends (secL (eraseS σ (1 - ac)).1.C ac) 1 kz en k true := by rw [← sec_same hl hDl hac hact]; exact hre
        have hval : ∀ i, i < 3 → cont σ.C ac k i = cont (eraseS σ (1 - ac)).1.C ac k i := fun i hi => cont_same hl hDl hac hact (Nat.le_refl _) (g3.mono g1) i
        exact ⟨⟨hDl, hac, by rw [← e0]; exact hcd, by rw [hs0, ← e0]; exact Safe.ff hcd ac, ⟨en, k, true, hE2, hval⟩⟩, t1, by rw [← e0]; exact t2, hE2, hval, .inr hs0⟩
/-- behind Boot: both alike -/
def BtR (x : St × Option Sv) (y : St × Option Kpt × Int) : Prop :=
  Rel x.1 y.1 ∧ ((∃ s' V, x.2 = some s' ∧ y.2.1 = some (s'.ac, V, s'.en) ∧ y.2.2 = 0 ∧ Live x.1.C s' V ∧ On x.1) ∨ (x.2 = none ∧ y.2.1 = none ∧ y.2.2 = 60))
theorem bootIn_rel {σ ρ : St} (hr : Rel σ ρ) (hon : On σ) {ac : Nat} (hac : ac < 2) (hcd : Cd (σ.C.getD (ac * 4096) 0)) (hs : (Cd (σ.C.getD ((1 - ac) * 4096) 0) ∨ σ.C.getD ((1 - ac) * 4096) 0 = 255) → Safe (σ.C.getD ((1 - ac) * 4096) 0) ac (σ.C.getD (ac * 4096) 0)) : BtR (bootIn σ ac) (bootA ρ ac (rdV (secL ρ.C ac) 4096 1 noneV)) := by
  have hl := hon.len
  have hLV := bootIn_liveV hl hac hcd hs
  have hre := rd_ends (secL σ.C ac) 4096 1 kz (by rw [secL_len hl hac]; omega) (by rw [secL_len hl hac]; omega)
  obtain ⟨v1, v2⟩ := rdV_rd (secL σ.C ac) 4096 1 kz noneV (fun i => rfl)
  rw [← hr.C]
  obtain ⟨⟨V, R2⟩, hRV⟩ : ∃ x, rdV (secL σ.C ac) 4096 1 noneV = x := ⟨_, rfl⟩
  rw [hRV] at v1 v2 ⊢
  obtain ⟨⟨k, en, cl⟩, hrd⟩ : ∃ x, rd (secL σ.C ac) 4096 1 kz = x := ⟨_, rfl⟩
  rw [hrd] at hre v1 v2 hLV
  simp only at hre v1 v2 hLV
  subst v2
  obtain ⟨g1, g2, g3⟩ := hre.kok (secL_len hl hac)
  have hVc : ∀ i, V i = cont σ.C ac k i := fun i => by rw [cont_ct g3 g1]; exact v1 i
  have hfst : (secL σ.C ac).getD 0 0 = σ.C.getD (ac * 4096) 0 := by
    have := sec_at σ.C hl ac hac 0 (by omega)
    rw [Nat.add_zero] at this
    exact this
  have hspe : (secL σ.C (1 - ac)).getD 0 0 = σ.C.getD ((1 - ac) * 4096) 0 := by
    have := sec_at σ.C hl (1 - ac) (by omega) 0 (by omega)
    rw [Nat.add_zero] at this
    exact this
  obtain ⟨t1, t2⟩ := turn_of hcd
  have hsv : svOf σ.C ac = (⟨ac, (turnI (σ.C.getD (ac * 4096) 0)).toNat, en, k⟩, cl) := by
    unfold svOf
    rw [hrd, hfst]
  unfold bootIn at hLV ⊢
  unfold bootA
  rw [hsv, hspe] at hLV ⊢
  rw [← hr.C]
  simp only at hLV ⊢
  cases cl
  · simp only [Bool.false_eq_true, if_false, if_true] at hLV ⊢
    have hm := move_rel (s := ⟨ac, (turnI (σ.C.getD (ac * 4096) 0)).toNat, en, k⟩) (id := -1) (v := []) (V := V) hr hon hac (g3.mono g1) (by simp) t1 t2 (fun j hj => by
      rw [hVc j]
      unfold mvL
      rw [if_neg (by omega)]
      rfl) (by rw [List.length_nil, restM_none]; show 1 + sizeK k ≤ 4096; have := g3.2; omega)
    obtain ⟨m1, m2⟩ := hm
    simp only at m1 m2
    refine ⟨m1, ?_⟩
    rcases m2 with ⟨s', n1, n2, n3, n4⟩ | ⟨n1, n2⟩
    · refine .inl ⟨s', V, n1, ?_, n2, (hLV _ s' (Prod.ext rfl n1)).to (fun i _ => hVc i), move_on hon _ s' (Prod.ext rfl n1)⟩
      simp only
      rw [if_pos n2, n3, n4]
    · exact .inr ⟨n1, by simp only; rw [if_neg (by rw [n2]; decide)], n2⟩
  · simp only [if_true, Bool.true_eq_false, if_false] at hLV ⊢
    by_cases hq : σ.C.getD ((1 - ac) * 4096) 0 ≠ 255 ∧ turnI (σ.C.getD ((1 - ac) * 4096) 0) = -1
    · have hq2 : σ.C.getD ((1 - ac) * 4096) 0 ≠ 255 ∧ cdB (σ.C.getD ((1 - ac) * 4096) 0) = false := ⟨hq.1, cdB_no (fun h => by obtain ⟨t, e, _, _⟩ := cd_turn h; have := hq.2; omega)⟩
      rw [if_pos hq] at hLV ⊢
      rw [if_pos hq2]
      obtain ⟨e1, e2⟩ := hr.era hon.off (1 - ac) (by omega)
      refine ⟨e1, ?_⟩
      cases hb : (eraseS σ (1 - ac)).2
      · rw [hb] at e2
        exact .inr ⟨rfl, by simp only; rw [if_neg (by rw [e2]; decide)], e2⟩
      · rw [hb] at e2 hLV
        exact .inl ⟨_, V, rfl, by simp only; rw [if_pos (by rw [e2]; rfl)], e2, (hLV _ _ rfl).to (fun i _ => hVc i), eraseS_on hon hb⟩
    · have hq2 : ¬ (σ.C.getD ((1 - ac) * 4096) 0 ≠ 255 ∧ cdB (σ.C.getD ((1 - ac) * 4096) 0) = false) := fun h => hq ⟨h.1, not_cd (fun hc => by rw [(cdB_iff _).2 hc] at h; exact absurd h.2 (by decide))⟩
      rw [if_neg hq] at hLV ⊢
      rw [if_neg hq2]
      exact ⟨hr, .inl ⟨_, V, rfl, rfl, rfl, (hLV _ _ rfl).to (fun i _ => hVc i), hon⟩⟩
theorem form2_rel {σ ρ : St} (hr : Rel σ ρ) (hon : On σ) : Rel (fmt2 σ).1 (form2 ρ).1 ∧ ((∃ s', (fmt2 σ).2 = some s' ∧ (form2 ρ).2 = 0 ∧ s'.ac = 0 ∧ s'.en = 1 ∧ On (fmt2 σ).1) ∨ ((fmt2 σ).2 = none ∧ (form2 ρ).2 = 60)) := by
  obtain ⟨e1, e2⟩ := hr.era hon.off 0 (by omega)
  unfold fmt2 form2
  cases hb : (eraseS σ 0).2
  · rw [hb] at e2
    rw [if_neg (show ¬ (eraseRR ρ 0).2 = 0 by have e2' : (eraseRR ρ 0).2 = 60 := e2; rw [e2']; decide)]
    exact ⟨e1, .inr ⟨rfl, e2⟩⟩
  · rw [hb] at e2
    rw [if_pos (show (eraseRR ρ 0).2 = 0 from e2)]
    have hone := eraseS_on hon hb
    obtain ⟨d1, d2⟩ := e1.prg hone.off 0 [15] (by decide)
    simp only [if_true]
    cases hb2 : (progS (eraseS σ 0).1 0 [15]).2
    · rw [hb2] at d2
      exact ⟨d1, .inr ⟨rfl, d2⟩⟩
    · rw [hb2] at d2
      exact ⟨d1, .inl ⟨_, rfl, d2, rfl, rfl, progS_on _ _ _ hone hb2⟩⟩
theorem fmt_rel {σ ρ : St} (hr : Rel σ ρ) (hon : On σ) : BtR (fmtS σ (σ.C.getD 4096 0)) ((formR ρ).1, if (formR ρ).2 = 0 then some (0, noneV, 1) else none, (formR ρ).2) := by
  have hLV := fmt_live hon.len
  have key : Rel (fmtS σ (σ.C.getD 4096 0)).1 (formR ρ).1 ∧ ((∃ s', (fmtS σ (σ.C.getD 4096 0)).2 = some s' ∧ (formR ρ).2 = 0 ∧ s'.ac = 0 ∧ s'.en = 1 ∧ On (fmtS σ (σ.C.getD 4096 0)).1) ∨ ((fmtS σ (σ.C.getD 4096 0)).2 = none ∧ (formR ρ).2 = 60)) := by
    rw [formR_eq]
    unfold fmtS form1
    rw [← hr.C]
    by_cases h : σ.C.getD 4096 0 = 255
    · rw [if_pos h, if_pos h]
      simp only [if_true]
      exact form2_rel hr hon
    · rw [if_neg h, if_neg h]
      obtain ⟨e1, e2⟩ := hr.era hon.off 1 (by omega)
      cases hb : (eraseS σ 1).2
      · rw [hb] at e2
        rw [if_neg (show ¬ (eraseRR ρ 1).2 = 0 by have e2' : (eraseRR ρ 1).2 = 60 := e2; rw [e2']; decide)]
        exact ⟨e1, .inr ⟨rfl, e2⟩⟩
      · rw [hb] at e2
        rw [if_pos (show (eraseRR ρ 1).2 = 0 from e2)]
        simp only [if_true]
        exact form2_rel e1 (eraseS_on hon hb)
  obtain ⟨k1, k2⟩ := key
  refine ⟨k1, ?_⟩
  rcases k2 with ⟨s', n1, n2, n3, n4, n5⟩ | ⟨n1, n2⟩
  · refine .inl ⟨s', noneV, n1, ?_, n2, (hLV _ s' (Prod.ext rfl n1)).to (fun i _ => rfl), n5⟩
    simp only
    rw [if_pos n2, n3, n4]
  · exact .inr ⟨n1, by simp only; rw [if_neg (by rw [n2]; decide)], n2⟩
theorem boot_rel {σ ρ : St} (hr : Rel σ ρ) (hon : On σ) : BtR (bootS σ) (bootR ρ) := by
  have hl := hon.len
  have h0 : (secL σ.C 0).getD 0 0 = σ.C.getD 0 0 := by
    have := sec_at σ.C hl 0 (by omega) 0 (by omega)
    rw [Nat.zero_mul, Nat.zero_add] at this
    exact this
  have h1 : (secL σ.C 1).getD 0 0 = σ.C.getD 4096 0 := by
    have := sec_at σ.C hl 1 (by omega) 0 (by omega)
    rw [Nat.one_mul, Nat.add_zero] at this
    exact this
  unfold bootS bootR
  rw [acR_actI, ← hr.C, h0, h1, ← hr.off, hon.off]
  simp only [Bool.false_eq_true, if_false]
  by_cases hm : actI (σ.C.getD 0 0) (σ.C.getD 4096 0) = -1
  · rw [if_pos hm, if_pos (by rw [hm]; decide)]
    exact fmt_rel hr hon
  · rw [if_neg hm]
    rcases act_cases _ _ hm with ⟨ha, hc⟩ | ⟨ha, hc⟩
    · rw [ha, if_neg (by decide), hr.C]
      have := bootIn_rel (ac := 0) hr hon (by omega) (by rw [Nat.zero_mul]; exact hc) (fun hsp => by rw [Nat.zero_mul]; exact (act0_safe hsp ha).2)
      exact this
    · rw [ha, if_neg (by decide), hr.C]
      have := bootIn_rel (ac := 1) hr hon (by omega) (by rw [Nat.one_mul]; exact hc) (fun hsp => by rw [Nat.one_mul]; exact (act1_safe hsp ha).2)
      exact this
theorem PutK.ok {σ τ : St} {s s' : Sv} {V : Vl} {i : Nat} {v : List UInt8} (h : PutK σ s V (i : Int) v (τ, some s', 0)) : Live τ.C s' (updV V i v) ∧ On τ := by
  rcases h with ⟨_, h⟩ | ⟨j, hj, hij, hv, h | ⟨τ1, s1, h, h2, h3⟩ | ⟨τ1, h, _⟩⟩
  · injection h with _ h; injection h with _ h; cases h
  · injection h with _ h; injection h with _ h; cases h
  · injection h with e1 h; injection h with e2 _; injection e2 with e2
    subst e1 e2
    obtain rfl : i = j := by omega
    exact ⟨h2, h3⟩
  · injection h with _ h; injection h with h _; cases h
theorem Live.sz {C : List UInt8} {s : Sv} {V : Vl} (h : Live C s V) (j : Nat) (hj : j < 3) : szQ V j = if (s.k j).th then 4 + (s.k j).n else 0 := by
  obtain ⟨g1, _, g3⟩ := h.en.kok (secL_len h.up.len h.up.a2)
  unfold szQ
  rw [h.val j hj]
  unfold cont
  by_cases e : (s.k j).th = true
  · rw [if_pos e, if_pos e]
    have := g3.1 j e
    show 4 + (txt C s.ac (s.k j)).length = _
    rw [txt_len C h.up.len s.ac h.up.a2 (s.k j) (by omega)]
  · rw [if_neg e, if_neg e]
theorem Live.needs {C : List UInt8} {s : Sv} {V : Vl} (h : Live C s V) (i : Nat) (hi : i < 3) (v : List UInt8) : sumV (upV V i v) 3 = needN s.k i v.length := by
  have z : ∀ j, j < 3 → szQ (upV V i v) j = if j = i then 4 + v.length else if (s.k j).th then 4 + (s.k j).n else 0 := fun j hj => by
    by_cases e : j = i
    · rw [if_pos e]; unfold szQ upV; rw [if_pos e]
    · rw [if_neg e, ← h.sz j hj]; unfold szQ upV; rw [if_neg e]
  show 1 + szQ (upV V i v) 0 + szQ (upV V i v) 1 + szQ (upV V i v) 2 = _
  rw [z 0 (by omega), z 1 (by omega), z 2 (by omega)]
  unfold needN
  have h3 : i = 0 ∨ i = 1 ∨ i = 2 := by omega
  rcases h3 with rfl | rfl | rfl <;> simp <;> omega
/-- behind Put: both alike -/
def PtR (x : St × Option Sv × Int) (y : St × Kpt × Bool × Int) : Prop :=
  Rel x.1 y.1 ∧ x.2.2 = y.2.2.2 ∧ ((∃ s' V', x.2.1 = some s' ∧ y.2.1 = (s'.ac, V', s'.en) ∧ y.2.2.1 = false ∧ Live x.1.C s' V' ∧ On x.1) ∨ (x.2.1 = none ∧ y.2.2.1 = true))
theorem put_rel {σ ρ : St} {s : Sv} {V : Vl} (hr : Rel σ ρ) (hL : Live σ.C s V) (hon : On σ) (id : Int) (v : List UInt8) : PtR (putS σ s id v) (putR ρ s.ac V s.en false id v) := by
  have hPK := put_live hL hon id v
  obtain ⟨g1, g2, g3⟩ := hL.en.kok (secL_len hL.up.len hL.up.a2)
  have hac := hL.up.a2
  unfold putS at hPK ⊢
  unfold putR
  rw [if_neg (show ¬ (false = true) by decide)]
  by_cases hb : ¬ (0 ≤ id ∧ id < 3) ∨ 2000 < v.length
  · rw [if_pos hb, if_pos hb]
    exact ⟨hr, rfl, .inl ⟨s, V, rfl, rfl, rfl, hL, hon⟩⟩
  · rw [if_neg hb] at hPK ⊢
    rw [if_neg hb]
    obtain ⟨i, hi, rfl⟩ : ∃ i : Nat, i < 3 ∧ id = (i : Int) := ⟨id.toNat, by omega, by omega⟩
    rw [Int.toNat_natCast] at hPK ⊢
    have hneed := hL.needs i hi v
    unfold putA
    rw [hneed]
    by_cases hf : 4096 < needN s.k i v.length
    · rw [if_pos hf, if_pos hf]
      exact ⟨hr, rfl, .inl ⟨s, V, rfl, rfl, rfl, hL, hon⟩⟩
    · rw [if_neg hf] at hPK ⊢
      rw [if_neg hf]
      by_cases hc : s.en + 4 + v.length ≤ 4096
      · rw [if_pos hc] at hPK ⊢
        rw [if_pos (show s.en + (4 + v.length) ≤ 4096 by omega)]
        obtain ⟨r1, r2⟩ := hr.prg hon.off (s.ac * 4096 + s.en) (recB i v) (by rw [recB_length]; omega)
        cases hb2 : (addS s.ac i v ⟨σ, s.en, s.k⟩).2
        · have hb3 := hb2
          rw [addS_2] at hb3
          simp only at hb3
          rw [hb3] at r2
          rw [if_neg (show ¬ (progRR ρ ((s.ac * 4096 + s.en : Nat) : Int) (bs (recB i v))).2 = 0 by rw [r2]; decide)]
          simp only [Bool.false_eq_true, if_false]
          exact ⟨by rw [addS_σ]; exact r1, r2.symm, .inr ⟨rfl, rfl⟩⟩
        · have hb3 := hb2
          rw [addS_2] at hb3
          simp only at hb3
          rw [hb3] at r2
          rw [if_pos (show (progRR ρ ((s.ac * 4096 + s.en : Nat) : Int) (bs (recB i v))).2 = 0 by rw [r2]; rfl)]
          rw [hb2] at hPK
          simp only [if_true] at hPK ⊢
          obtain ⟨l1, l2⟩ := hPK.ok
          refine ⟨by rw [addS_σ]; exact r1, rfl, .inl ⟨_, updV V i v, rfl, ?_, rfl, l1, l2⟩⟩
          rw [(addS_k hb2).2]
          show (s.ac, upV V i v, s.en + (4 + v.length)) = (s.ac, updV V i v, s.en + 4 + v.length)
          rw [Nat.add_assoc]
          rfl
      · rw [if_neg hc] at hPK ⊢
        rw [if_neg (show ¬ s.en + (4 + v.length) ≤ 4096 by omega)]
        have hm := move_rel (s := s) (id := (i : Int)) (v := v) (V := upV V i v) hr hon hac (g3.mono g1) (by omega) hL.tu hL.cd (fun j hj => by
          unfold upV mvL
          by_cases e : j = i
          · rw [if_pos e, if_pos (by omega)]
          · rw [if_neg e, if_neg (by omega), hL.val j hj]; rfl) (by rw [needN_rest s.k i v.length hi]; omega)
        obtain ⟨m1, m2⟩ := hm
        rcases m2 with ⟨s', n1, n2, n3, n4⟩ | ⟨n1, n2⟩
        · rw [if_pos n2]
          rw [n1] at hPK ⊢
          simp only [Option.isSome_some, if_true] at hPK ⊢
          obtain ⟨l1, l2⟩ := hPK.ok
          refine ⟨m1, rfl, .inl ⟨s', updV V i v, rfl, ?_, rfl, l1, l2⟩⟩
          rw [n3, n4]
          rfl
        · rw [if_neg (show ¬ (moveR ρ s.ac (upV V i v)).2.2 = 0 by rw [n2]; decide)]
          rw [n1]
          exact ⟨m1, n2.symm, .inr ⟨rfl, rfl⟩⟩
theorem get_rel {C : List UInt8} {s : Sv} {V : Vl} (hL : Live C s V) (id : Int) : getS C s id = getR V false id := by
  unfold getR
  by_cases h : 0 ≤ id ∧ id < 3
  · obtain ⟨i, hi, rfl⟩ : ∃ i : Nat, i < 3 ∧ id = (i : Int) := ⟨id.toNat, by omega, by omega⟩
    rw [hL.get i hi, if_pos ⟨rfl, h.1, h.2⟩, Int.toNat_natCast]
  · rw [if_neg (fun c => h ⟨c.2.1, c.2.2⟩)]
    unfold getS
    rw [if_neg (fun c => h ⟨c.1, c.2.1⟩)]
end Go.Proofs.Ytcjahdgppnmdkaa
set_option maxRecDepth 100000
namespace Go.Proofs.Ytcjahdgppnmdkaa
open Go.RowKit Go.Great
/-- the two stores: none, both alive and alike, or both standing -/
def Md (w : World) (B P R X D : Nat) (σ : St) (sp tp : Value) : Prop :=
  (sp = .pointer none ∧ tp = .pointer none) ∨
  ∃ S T, sp = fp S ∧ tp = fp T ∧ (B ≤ S ∧ B ≤ T ∧ S ≠ P ∧ S ≠ R ∧ S ≠ X ∧ S ≠ D ∧ S ≠ T ∧ T ≠ P ∧ T ≠ R ∧ T ≠ X ∧ T ≠ D) ∧
    ((∃ s V, So w S (fp R) s.ac s.tu s.en s.k ∧ Live σ.C s V ∧ On σ ∧ Bl w T (skC X (s.ac : Int) V (s.en : Int) false false) 133) ∨
     (∃ sec V en, sec < 2 ∧ en ≤ 4096 ∧ (∀ i, i < 3 → ((V i).getD []).length ≤ 2000) ∧ So w S (.pointer none) 0 0 0 kz ∧ Bl w T (skC X ((sec : Nat) : Int) V ((en : Nat) : Int) false true) 133))
structure Tw (B : Nat) (w0 w : World) (P R X D cap : Nat) (σ ρ : St) (sp tp : Value) : Prop where
  hP : B ≤ P
  hR : B ≤ R
  hX : B ≤ X
  hD : B ≤ D
  hB : B ≤ w0.heap.size
  n1 : P ≠ R
  n2 : P ≠ X
  n3 : P ≠ D
  n4 : R ≠ X
  n5 : R ≠ D
  f : Fl w R σ
  q : Rf w X D cap ρ
  r : Rel σ ρ
  p : Bl w P #[fp R, sp, fp X, tp] 28
  b : Below B w0 w
  m : Md w B P R X D σ sp tp
theorem Live.lens {C : List UInt8} {s : Sv} {V : Vl} (h : Live C s V) : ∀ i, i < 3 → ((V i).getD []).length ≤ 2000 := by
  intro i hi
  obtain ⟨g1, _, g3⟩ := h.en.kok (secL_len h.up.len h.up.a2)
  rw [h.val i hi]
  unfold cont
  by_cases e : (s.k i).th = true
  · rw [if_pos e]
    have := g3.1 i e
    show (txt C s.ac (s.k i)).length ≤ 2000
    rw [txt_len C h.up.len s.ac h.up.a2 (s.k i) (by omega)]
    omega
  · rw [if_neg e]; simp
theorem on_on {σ : St} {w : World} {R : Nat} (hF : Fl w R σ) : On (onS σ) := ⟨hF.len, rfl, by show (0 : Nat) ≤ _; omega⟩
theorem So.kept2 {w w' : World} {S X D : Nat} {p : Value} {ac tu en : Int} {k : Kp} (h : So w S p ac tu en k) (hb : Kept2 X D w w') (h1 : S ≠ X) (h2 : S ≠ D) : So w' S p ac tu en k := ⟨(hb.block S h.lt h1 h2).trans h.blk⟩
theorem So.setO {w : World} {S B : Nat} {p : Value} {ac tu en : Int} {k : Kp} (h : So w S p ac tu en k) (hne : S ≠ B) (i : Nat) (u : Value) : So (w.setCell ⟨B, i, none⟩ u) S p ac tu en k := ⟨(set_other _ _ hne).trans h.blk⟩
theorem Fl.setO {w : World} {R B : Nat} {σ : St} (h : Fl w R σ) (hne : R ≠ B) (i : Nat) (u : Value) : Fl (w.setCell ⟨B, i, none⟩ u) R σ := ⟨h.len, (set_other _ _ hne).trans h.blk⟩
theorem Md.setO {w : World} {B P R X D : Nat} {σ : St} {sp tp : Value} (h : Md w B P R X D σ sp tp) (i : Nat) (u : Value) : Md (w.setCell ⟨P, i, none⟩ u) B P R X D σ sp tp := by
  rcases h with h | ⟨S, T, e1, e2, hn, h⟩
  · exact .inl h
  · refine .inr ⟨S, T, e1, e2, hn, ?_⟩
    rcases h with ⟨s, V, a1, a2, a3, a4⟩ | ⟨sec, V, en, a1, a2, a3, a4, a5⟩
    · exact .inl ⟨s, V, a1.setO (by omega) _ _, a2, a3, a4.setOther (by omega) _ _⟩
    · exact .inr ⟨sec, V, en, a1, a2, a3, a4.setO (by omega) _ _, a5.setOther (by omega) _ _⟩
/-- both stores are put in the pair -/
theorem Tw.put {B : Nat} {w0 w w4 : World} {P R X D cap : Nat} {σ ρ τ ρ' : St} {sp tp sp' tp' : Value} (h : Tw B w0 w P R X D cap σ ρ sp tp) (hP : Bl w4 P #[fp R, sp, fp X, tp] 28) (hF : Fl w4 R τ) (hQ : Rf w4 X D cap ρ') (hr : Rel τ ρ') (hb : Below B w0 w4) (hm : Md w4 B P R X D τ sp' tp') : Tw B w0 ((w4.setCell ⟨P, 1, none⟩ sp').setCell ⟨P, 3, none⟩ tp') P R X D cap τ ρ' sp' tp' := by
  have hz : B ≤ w4.heap.size := Nat.le_trans h.hB hb.size
  refine ⟨h.hP, h.hR, h.hX, h.hD, h.hB, h.n1, h.n2, h.n3, h.n4, h.n5, (hF.setO h.n1.symm _ _).setO h.n1.symm _ _, (hQ.set3 h.n2 h.n3 _ _).set3 h.n2 h.n3 _ _, hr, ?_, set_below (set_below hb P 1 _ h.hP hz) P 3 _ h.hP (by rw [size_set]; exact hz), (hm.setO _ _).setO _ _⟩
  have g1 : Bl _ P #[fp R, sp', fp X, tp] 28 := hP.set 1 sp'
  exact g1.set 3 tp'
set_option maxRecDepth 100000 in
set_option maxHeartbeats 4000000 in
theorem pboot_any (B : Nat) (w0 w : World) (P R X D cap : Nat) (σ ρ : St) (sp tp : Value) (h : Tw B w0 w P R X D cap σ ρ sp tp) : Calls Try.prog 16 #[fp P] w fun e w' => e = .returned (.bool true) ∧ ∃ σ' ρ' sp' tp', Tw B w0 w' P R X D cap σ' ρ' sp' tp' := by
  have H := hide h
  have c0 := h.p.cell 0 (v := fp R) rfl
  have F1 := on_any w R σ h.f
  have HREL := hide (boot_rel h.r.on (on_on h.f))
  have HRO := hide h.r.on
  obtain ⟨⟨τ, os⟩, hbs⟩ : ∃ x, bootS (onS σ) = x := ⟨_, rfl⟩
  obtain ⟨⟨ρ', ok', er⟩, hbr⟩ : ∃ x, bootR (onR ρ) = x := ⟨_, rfl⟩
  have BO := fun W hf => boot_any W R (onS σ) hf HRO.out.js
  have RB := fun W hr => rboot_any W X D cap (onR ρ) hr HRO.out.jr
  rw [hbs] at BO HREL
  rw [hbr] at RB HREL
  clear hbs hbr h
  go_enter Try.func16, Try.ntmps16
  go_wp2_with fail
  refine F1.mono ?_
  rintro e w1 ⟨rfl, f1, k1⟩
  have P1 := hide (show Bl w1 P #[fp R, sp, fp X, tp] 28 from k1.other H.out.p H.out.n1)
  have Q1 := hide (H.out.q.kept k1 H.out.n4.symm H.out.n5.symm)
  have c2 := P1.out.cell 2 (v := fp X) rfl
  have FF1 := hide f1
  have K1 := hide k1
  have G1 := ron_any w1 X D cap ρ Q1.out
  clear f1 k1 F1 c0
  go_wp2_with fail
  refine G1.mono ?_
  rintro e w2 ⟨rfl, q2, k2⟩
  have P2 := hide (P1.out.kept2 k2 H.out.n2 H.out.n3)
  have FF2 := hide (FF1.out.kept2 k2 H.out.n4 H.out.n5)
  have Q2 := hide q2
  have K2 := hide k2
  have c0 := P2.out.cell 0 (v := fp R) rfl
  have B2 := BO w2 FF2.out
  clear q2 k2 G1 c2 BO
  go_wp2_with fail
  refine B2.mono ?_
  rintro e w3 ⟨ok, τ', s', S, rfl, hx, f3, hso, hS, k3⟩
  have P3 := hide (show Bl w3 P #[fp R, sp, fp X, tp] 28 from k3.other P2.out H.out.n1)
  have Q3 := hide (Q2.out.kept k3 H.out.n4.symm H.out.n5.symm)
  have c2 := P3.out.cell 2 (v := fp X) rfl
  have FF3 := hide f3
  have K3' := hide k3
  have HSO := hide hso
  have B3 := RB w3 Q3.out
  have HX := hide hx
  have HS := hide hS
  clear f3 k3 hso hx B2 c0 RB hS
  have hz1 := K1.out.size
  have hz2 := K2.out.size
  have hz3 := K3'.out.size
  have hPl := H.out.p.lt
  have hRl := H.out.f.lt
  have hXl := H.out.q.ltX
  have hDl := H.out.q.lt
  have hSz := FF3.out.lt
  have HB3 : Hid (Below B w0 w3) := hide (K3'.out.toBelow (K2.out.toBelow (K1.out.toBelow H.out.b (Nat.le_trans H.out.hB H.out.b.size) H.out.hR) (by have := H.out.hB; have := H.out.b.size; omega) H.out.hX H.out.hD) (by have := H.out.hB; have := H.out.b.size; omega) H.out.hR)
  cases ok with
  | true =>
    have hx := HX.out
    simp only [if_true] at hx
    injection hx with hx1 hx2
    subst hx1
    subst hx2
    obtain ⟨hr1, hr2⟩ := HREL.out
    rcases hr2 with ⟨s'', V, e1, e2, e3, hL, hOn⟩ | ⟨e1, _⟩
    · injection e1 with e1
      subst e1
      simp only at e2 e3
      subst e2 e3
      have HL := hide hL
      have HO := hide hOn
      have HR1 := hide hr1
      clear hr1 hL hOn HREL HX
      go_wp2_with fail
      refine B3.mono ?_
      rintro e w4 ⟨T, rfl, q4, hbl, hT, k4⟩
      have hz4 := k4.size
      have P4 := hide (P3.out.kept2 k4 H.out.n2 H.out.n3)
      have FF4 := hide (FF3.out.kept2 k4 H.out.n4 H.out.n5)
      have HSl : S < w3.heap.size := (HSO.out (by trivial)).lt
      have hS := HS.out
      have SO4 := hide ((HSO.out (by trivial)).kept2 k4 (by omega) (by omega))
      have BL4 := hide (hbl _ rfl)
      have Q4 := hide q4
      have HB4 := hide (k4.toBelow HB3.out (by have := H.out.hB; have := H.out.b.size; omega) H.out.hX H.out.hD)
      have hTn : w3.heap.size ≤ T := hT
      clear q4 hbl k4 B3 c2 hT hS
      have ft := P4.out.fz
      have d1 := P4.out.cell 1 (v := sp) rfl
      have d3 := P4.out.cell 3 (v := tp) rfl
      go_wp2_with fail
      go_ret
      have hP' := H.out.hP
      have hB' := H.out.hB
      have hb' := H.out.b.size
      refine ⟨rfl, _, _, _, _, H.out.put P4.out FF4.out Q4.out HR1.out HB4.out (.inr ⟨S, T, rfl, rfl, by have := HS.out; omega, .inl ⟨s', V, SO4.out, HL.out, HO.out, BL4.out⟩⟩)⟩
    · cases e1
  | false =>
    have hx := HX.out
    simp only [Bool.false_eq_true, if_false] at hx
    injection hx with hx1 hx2
    subst hx1
    subst hx2
    obtain ⟨hr1, hr2⟩ := HREL.out
    rcases hr2 with ⟨s'', V, e1, _⟩ | ⟨_, e2, e3⟩
    · cases e1
    · simp only at e2 e3
      subst e2 e3
      have HR1 := hide hr1
      clear hr1 HREL HX
      go_wp2_with fail
      refine B3.mono ?_
      rintro e w4 ⟨T, rfl, q4, hbl, hT, k4⟩
      have hz4 := k4.size
      have P4 := hide (P3.out.kept2 k4 H.out.n2 H.out.n3)
      have FF4 := hide (FF3.out.kept2 k4 H.out.n4 H.out.n5)
      have Q4 := hide q4
      have HB4 := hide (k4.toBelow HB3.out (by have := H.out.hB; have := H.out.b.size; omega) H.out.hX H.out.hD)
      clear q4 hbl k4 B3 c2 hT
      have ft := P4.out.fz
      have d1 := P4.out.cell 1 (v := sp) rfl
      have d3 := P4.out.cell 3 (v := tp) rfl
      go_wp2_with fail
      go_ret
      exact ⟨rfl, _, _, _, _, H.out.put P4.out FF4.out Q4.out HR1.out HB4.out (.inl ⟨rfl, rfl⟩)⟩
end Go.Proofs.Ytcjahdgppnmdkaa
set_option maxRecDepth 100000
namespace Go.Proofs.Ytcjahdgppnmdkaa
open Go.RowKit Go.Great
theorem tmod5 (k : Int) : k.tmod 5 = if 0 ≤ k then k % 5 else -((-k) % 5) := by
  by_cases h : 0 ≤ k
  · rw [if_pos h, Int.tmod_eq_emod_of_nonneg h]
  · rw [if_neg h]
    have := Int.neg_tmod (-k) 5
    rw [Int.neg_neg] at this
    rw [this, Int.tmod_eq_emod_of_nonneg (by omega)]
theorem tmod5_neg (k : Int) (h : k.tmod 5 < 0) : k.tmod 5 + 5 = k % 5 := by
  rw [tmod5] at h ⊢
  split at h
  · omega
  · rw [if_neg (by assumption)]; omega
theorem tmod5_pos (k : Int) (h : ¬ k.tmod 5 < 0) : k.tmod 5 = k % 5 := by
  rw [tmod5] at h ⊢
  split at h
  · rw [if_pos (by assumption)]
  · rw [if_neg (by assumption)]; omega
abbrev clV (k n : Int) (d : ByteArray) : Value := .agg #[.int .i64 k, .int .i64 n, .string d]
theorem which5 (w : World) (k n : Int) (d : ByteArray) (_hk : I64 k) : Calls Try.prog 42 #[clV k n d] w fun e w' => e = .returned (.int .i64 (k % 5)) ∧ Below w.heap.size w w' := by
  unfold I64 at _hk
  go_enter Try.func42, Try.ntmps42
  by_cases h : k.tmod 5 < 0
  · have e : k.tmod 5 + 5 = k % 5 := tmod5_neg k h
    go_wp2
    go_ret
    exact ⟨rfl, below_alloc _ _⟩
  · have e : k.tmod 5 = k % 5 := tmod5_pos k h
    go_wp2
    go_ret
    exact ⟨rfl, below_alloc _ _⟩
theorem Md.mono {w w' : World} {B P R X D : Nat} {σ τ : St} {sp tp : Value} (h : Md w B P R X D σ sp tp) (hC : τ.C = σ.C) (ho : On σ → On τ) (hk : ∀ k, k < w.heap.size → k ≠ P → k ≠ R → k ≠ X → k ≠ D → w'.heap[k]? = w.heap[k]?) : Md w' B P R X D τ sp tp := by
  rcases h with h | ⟨S, T, e1, e2, hn, h⟩
  · exact .inl h
  · refine .inr ⟨S, T, e1, e2, hn, ?_⟩
    obtain ⟨_, _, x1, x2, x3, x4, _, y1, y2, y3, y4⟩ := hn
    rcases h with ⟨s, V, a1, a2, a3, a4⟩ | ⟨sec, V, en, a1, a2, a3, a4, a5⟩
    · exact .inl ⟨s, V, ⟨(hk S a1.lt x1 x2 x3 x4).trans a1.blk⟩, by rw [hC]; exact a2, ho a3, (hk T a4.lt y1 y2 y3 y4).trans a4⟩
    · exact .inr ⟨sec, V, en, a1, a2, a3, ⟨(hk S a4.lt x1 x2 x3 x4).trans a4.blk⟩, (hk T a5.lt y1 y2 y3 y4).trans a5⟩
theorem Tw.below {B : Nat} {w0 w w' : World} {P R X D cap : Nat} {σ ρ : St} {sp tp : Value} (h : Tw B w0 w P R X D cap σ ρ sp tp) (hb : Below w.heap.size w w') : Tw B w0 w' P R X D cap σ ρ sp tp :=
  ⟨h.hP, h.hR, h.hX, h.hD, h.hB, h.n1, h.n2, h.n3, h.n4, h.n5, h.f.below hb, h.q.below hb, h.r, h.p.below hb, below_next h.b h.hB hb, h.m.mono rfl id (fun k hk _ _ _ _ => hb.block k hk)⟩
theorem Tw.drewN {B : Nat} {w0 w : World} {P R X D cap : Nat} {σ ρ : St} {sp tp : Value} (h : Tw B w0 w P R X D cap σ ρ sp tp) (n : Nat) : Tw B w0 (w.drewN n) P R X D cap σ ρ sp tp := h.below (drewN_below w n)
theorem Tw.drew {B : Nat} {w0 w : World} {P R X D cap : Nat} {σ ρ : St} {sp tp : Value} (h : Tw B w0 w P R X D cap σ ρ sp tp) : Tw B w0 w.drew P R X D cap σ ρ sp tp := h.below (Below.refl _ _).drew
theorem Tw.cut {B : Nat} {w0 w w1 w2 : World} {P R X D cap : Nat} {σ ρ : St} {sp tp : Value} (h : Tw B w0 w P R X D cap σ ρ sp tp) (n : Int) (j : ByteArray) (hj : j.size ≤ 140737488351232) (k1 : Kept R w w1) (h1 : Fl w1 R (cutR σ n j).1) (k2 : Kept2 X D w1 w2) (h2 : Rf w2 X D cap (cutRR ρ n j).1) : Tw B w0 w2 P R X D cap (cutR σ n j).1 (cutRR ρ n j).1 sp tp := by
  have hz : B ≤ w.heap.size := Nat.le_trans h.hB h.b.size
  have hz1 := k1.size
  have hr := (h.r.cut n j hj).1
  have hC : (cutR σ n j).1.C = σ.C := by unfold cutR; repeat' split
                                         all_goals rfl
  have hO : (cutR σ n j).1.off = σ.off := by unfold cutR; repeat' split
                                             all_goals rfl
  have hp1 : Bl w1 P #[fp R, sp, fp X, tp] 28 := k1.other h.p h.n1
  refine ⟨h.hP, h.hR, h.hX, h.hD, h.hB, h.n1, h.n2, h.n3, h.n4, h.n5, h1.kept2 k2 h.n4 h.n5, h2, hr, hp1.kept2 k2 h.n2 h.n3, k2.toBelow (k1.toBelow h.b hz h.hR) (by omega) h.hX h.hD, h.m.mono hC (fun ho => ⟨by rw [hC]; exact ho.len, by rw [hO]; exact ho.off, hr.js⟩) (fun k hk _ x2 x3 x4 => ?_)⟩
  rw [k2.block k (by omega) x3 x4]
  exact k1.block k hk (fun e => x2 (by injection e))
def Dz (B : Nat) (w0 : World) (P R X D cap : Nat) (e : Ending) (w' : World) : Prop := e = .returned (.bool true) ∧ ∃ σ ρ sp tp, Tw B w0 w' P R X D cap σ ρ sp tp
set_option maxHeartbeats 2000000 in
set_option maxRecDepth 100000 in
theorem dz_boot (B : Nat) (w0 w : World) (P R X D cap : Nat) (σ ρ : St) (sp tp : Value) (h : Tw B w0 w P R X D cap σ ρ sp tp) (k n : Int) (d : ByteArray) (hk : I64 k) (hn : I64 n) (hd : d.size ≤ 140737488351232) (h0 : k % 5 = 3) : Calls Try.prog 17 #[fp P, clV k n d] w fun e w' => Dz B w0 P R X D cap e w' := by
  have WH := fun w => which5 w k n d hk
  rw [h0] at WH
  clear h0
  have H := hide h
  have HN := hide hn
  have HDD := hide hd
  clear h hk hn hd
  go_enter Try.func17, Try.ntmps17
  go_wp2_with fail
  refine (WH _).mono ?_
  rintro e w1 ⟨rfl, b1⟩
  have H1 := hide ((H.out.below (below_alloc w _)).below b1)
  have HC1 : Hid (Bl w1 w.heap.size #[.int .i64 k, .int .i64 n, .string d] 34) := hide ((Bl.new w _ _).below b1)
  have hlP := H.out.p.lt
  have hlR := H.out.f.lt
  have hlX := H.out.q.ltX
  have hlD := H.out.q.lt
  have HMD := hide H.out.m
  obtain ⟨C, hCC⟩ : ∃ C, w.heap.size = C := ⟨_, rfl⟩
  rw [hCC] at HC1 hlP hlR hlX hlD ⊢
  have HN := hide (And.intro (show C ≠ P by omega) (And.intro (show C ≠ R by omega) (And.intro (show C ≠ X by omega) (show C ≠ D by omega))))
  clear b1 hCC hlP hlR hlX hlD
  have BT := pboot_any B w0 w1 P R X D cap σ ρ sp tp H1.out
  clear WH
  go_wp2_with fail
  refine BT.mono ?_
  rintro e w2 ⟨rfl, σ', ρ', sp', tp', h2⟩
  have H2 := hide h2
  clear h2 BT
  go_wp2_with fail
  go_ret
  exact ⟨rfl, _, _, _, _, H2.out⟩
set_option maxHeartbeats 2000000 in
set_option maxRecDepth 100000 in
theorem dz_image (B : Nat) (w0 w : World) (P R X D cap : Nat) (σ ρ : St) (sp tp : Value) (h : Tw B w0 w P R X D cap σ ρ sp tp) (k n : Int) (d : ByteArray) (hk : I64 k) (hn : I64 n) (hd : d.size ≤ 140737488351232) (h0 : k % 5 = 4) : Calls Try.prog 17 #[fp P, clV k n d] w fun e w' => Dz B w0 P R X D cap e w' := by
  have WH := fun w => which5 w k n d hk
  rw [h0] at WH
  clear h0
  have H := hide h
  have HN := hide hn
  have HDD := hide hd
  clear h hk hn hd
  go_enter Try.func17, Try.ntmps17
  go_wp2_with fail
  refine (WH _).mono ?_
  rintro e w1 ⟨rfl, b1⟩
  have H1 := hide ((H.out.below (below_alloc w _)).below b1)
  have HC1 : Hid (Bl w1 w.heap.size #[.int .i64 k, .int .i64 n, .string d] 34) := hide ((Bl.new w _ _).below b1)
  have hlP := H.out.p.lt
  have hlR := H.out.f.lt
  have hlX := H.out.q.ltX
  have hlD := H.out.q.lt
  have HMD := hide H.out.m
  obtain ⟨C, hCC⟩ : ∃ C, w.heap.size = C := ⟨_, rfl⟩
  rw [hCC] at HC1 hlP hlR hlX hlD ⊢
  have HN := hide (And.intro (show C ≠ P by omega) (And.intro (show C ≠ R by omega) (And.intro (show C ≠ X by omega) (show C ≠ D by omega))))
  clear b1 hCC hlP hlR hlX hlD
  clear WH
  obtain ⟨t, ht⟩ : ∃ t, Hid (bs σ.C = t) := ⟨_, hide rfl⟩
  obtain ⟨s, hs⟩ : ∃ s, Hid (σ.st = s) := ⟨_, hide rfl⟩
  have I1 : ∀ n, Calls Try.prog 26 #[fp R] (w1.drewN n) fun e w' => e = .returned (.string t) ∧ w' = w1.drewN n := fun n => by
    have := image_any _ R σ (H1.out.drewN n).f
    rw [ht.out] at this
    exact this
  have J1 : ∀ n, Calls Try.prog 44 #[fp X] (w1.drewN n) fun e w' => e = .returned (.string t) ∧ w' = w1.drewN n := fun n => by
    have := rimage_any _ X D cap ρ (H1.out.drewN n).q
    rw [← H1.out.r.C, ht.out] at this
    exact this
  have S1 : ∀ n, Calls Try.prog 25 #[fp R] (w1.drewN n) fun e w' => e = .returned (.int .i64 s) ∧ w' = w1.drewN n := fun n => by
    have := steps_any _ R σ (H1.out.drewN n).f
    rw [hs.out] at this
    exact this
  have c5 := H1.out.q.c5
  rw [← H1.out.r.st, hs.out] at c5
  have p0 := H1.out.p.cell 0 (v := fp R) rfl
  have p2 := H1.out.p.cell 2 (v := fp X) rfl
  go_wp2_with fail
  go_quiet (first | (go_at_call 26; exact Calls.quiet_of_same (I1 _)) | (go_at_call 44; exact Calls.quiet_of_same (J1 _)) | (go_at_call 25; exact Calls.quiet_of_same (S1 _)))
  go_wp2_with fail
  go_ret
  exact ⟨rfl, _, _, _, _, H1.out.drewN nq⟩
set_option maxHeartbeats 2000000 in
set_option maxRecDepth 100000 in
theorem dz_cut (B : Nat) (w0 w : World) (P R X D cap : Nat) (σ ρ : St) (sp tp : Value) (h : Tw B w0 w P R X D cap σ ρ sp tp) (k n : Int) (d : ByteArray) (hk : I64 k) (hn : I64 n) (hd : d.size ≤ 140737488351232) (h0 : k % 5 = 2) : Calls Try.prog 17 #[fp P, clV k n d] w fun e w' => Dz B w0 P R X D cap e w' := by
  have WH := fun w => which5 w k n d hk
  rw [h0] at WH
  clear h0
  have H := hide h
  have HN := hide hn
  have HDD := hide hd
  clear h hk hn hd
  go_enter Try.func17, Try.ntmps17
  go_wp2_with fail
  refine (WH _).mono ?_
  rintro e w1 ⟨rfl, b1⟩
  have H1 := hide ((H.out.below (below_alloc w _)).below b1)
  have HC1 : Hid (Bl w1 w.heap.size #[.int .i64 k, .int .i64 n, .string d] 34) := hide ((Bl.new w _ _).below b1)
  have hlP := H.out.p.lt
  have hlR := H.out.f.lt
  have hlX := H.out.q.ltX
  have hlD := H.out.q.lt
  have HMD := hide H.out.m
  obtain ⟨C, hCC⟩ : ∃ C, w.heap.size = C := ⟨_, rfl⟩
  rw [hCC] at HC1 hlP hlR hlX hlD ⊢
  have HN := hide (And.intro (show C ≠ P by omega) (And.intro (show C ≠ R by omega) (And.intro (show C ≠ X by omega) (show C ≠ D by omega))))
  clear b1 hCC hlP hlR hlX hlD
  clear WH
  obtain ⟨v, hv⟩ : ∃ v, Hid ((cutR σ n d).2 = v) := ⟨_, hide rfl⟩
  have F1 : ∀ wx, Fl wx R σ → Calls Try.prog 20 #[fp R, .int .i64 n, .string d] wx fun e w' => e = .returned (.int .i64 v) ∧ Fl w' R (cutR σ n d).1 ∧ Kept R wx w' := fun wx hx => by
    have := cut_any wx R σ hx n d (Nat.le_trans HDD.out (by decide))
    rw [hv.out] at this
    exact this
  have Q1 : ∀ wx, Rf wx X D cap ρ → Calls Try.prog 43 #[fp X, .int .i64 n, .string d] wx fun e w' => e = .returned (.int .i64 v) ∧ Rf w' X D cap (cutRR ρ n d).1 ∧ Kept2 X D wx w' := fun wx hx => by
    have := rcut_any wx X D cap ρ hx n d
    rw [← (H1.out.r.cut n d HDD.out).2, hv.out] at this
    exact this
  have p0 := H1.out.p.cell 0 (v := fp R) rfl
  have p2 := H1.out.p.cell 2 (v := fp X) rfl
  have k1 := HC1.out.cell 1 (v := .int .i64 n) rfl
  have k2 := HC1.out.cell 2 (v := .string d) rfl
  go_wp2_with fail
  refine wp_region_held_drew (S := fun wx => wx.cell? ⟨P, 0, none⟩ = some (fp R) ∧ wx.cell? ⟨P, 2, none⟩ = some (fp X) ∧ wx.cell? ⟨C, 1, none⟩ = some (.int .i64 n) ∧ wx.cell? ⟨C, 2, none⟩ = some (.string d)) (by kernel_rfl) (⟨p0, p2, k1, k2⟩) (fun hHeld => ?_)
  refine takeQ (i := 0) (v := fp P) (d := some 13) rfl rfl (by kernel_rfl) (by kernel_rfl) (by kernel_rfl) (fun _ _ _ h => h) (Or.inl ⟨by rfl, fun wS ⟨hS0, hS1, hS2, hS3⟩ => by go_simp; all_goals (rw [IntKind.wrap_i64]; omega)⟩) (by assumption) ?_
  simp only [Act.put, List.setIfInBounds_toArray, List.set_cons_zero, List.set_cons_succ]
  refine takeQ (i := 1) (v := .pointer (some ⟨P, 0, none⟩)) (d := some 14) rfl rfl (by kernel_rfl) (by kernel_rfl) (by kernel_rfl) (fun _ _ _ h => h) (Or.inl ⟨by rfl, fun wS ⟨hS0, hS1, hS2, hS3⟩ => by go_simp; all_goals (rw [IntKind.wrap_i64]; omega)⟩) (by assumption) ?_
  simp only [Act.put, List.setIfInBounds_toArray, List.set_cons_zero, List.set_cons_succ]
  refine takeQ (i := 2) (v := .pointer (some ⟨P, 0, none⟩)) (d := some 15) rfl rfl (by kernel_rfl) (by kernel_rfl) (by kernel_rfl) (fun _ _ _ h => h) (Or.inl ⟨by rfl, fun wS ⟨hS0, hS1, hS2, hS3⟩ => by go_simp; all_goals (rw [IntKind.wrap_i64]; omega)⟩) (by assumption) ?_
  simp only [Act.put, List.setIfInBounds_toArray, List.set_cons_zero, List.set_cons_succ]
  refine takeQ (i := 3) (v := fp R) (d := some 16) rfl rfl (by kernel_rfl) (by kernel_rfl) (by kernel_rfl) (fun _ _ _ h => h) (Or.inl ⟨by rfl, fun wS ⟨hS0, hS1, hS2, hS3⟩ => by go_simp; all_goals (rw [IntKind.wrap_i64]; omega)⟩) (by assumption) ?_
  simp only [Act.put, List.setIfInBounds_toArray, List.set_cons_zero, List.set_cons_succ]
  refine takeQ (i := 4) (v := .pointer (some ⟨C, 1, none⟩)) (d := some 17) rfl rfl (by kernel_rfl) (by kernel_rfl) (by kernel_rfl) (fun _ _ _ h => h) (Or.inl ⟨by rfl, fun wS ⟨hS0, hS1, hS2, hS3⟩ => by go_simp; all_goals (rw [IntKind.wrap_i64]; omega)⟩) (by assumption) ?_
  simp only [Act.put, List.setIfInBounds_toArray, List.set_cons_zero, List.set_cons_succ]
  refine takeQ (i := 5) (v := .int .i64 n) (d := some 18) rfl rfl (by kernel_rfl) (by kernel_rfl) (by kernel_rfl) (fun _ _ _ h => h) (Or.inl ⟨by rfl, fun wS ⟨hS0, hS1, hS2, hS3⟩ => by go_simp; all_goals (rw [IntKind.wrap_i64]; omega)⟩) (by assumption) ?_
  simp only [Act.put, List.setIfInBounds_toArray, List.set_cons_zero, List.set_cons_succ]
  refine takeQ (i := 6) (v := .pointer (some ⟨C, 2, none⟩)) (d := some 19) rfl rfl (by kernel_rfl) (by kernel_rfl) (by kernel_rfl) (fun _ _ _ h => h) (Or.inl ⟨by rfl, fun wS ⟨hS0, hS1, hS2, hS3⟩ => by go_simp; all_goals (rw [IntKind.wrap_i64]; omega)⟩) (by assumption) ?_
  simp only [Act.put, List.setIfInBounds_toArray, List.set_cons_zero, List.set_cons_succ]
  refine takeQ (i := 7) (v := .string d) (d := some 20) rfl rfl (by kernel_rfl) (by kernel_rfl) (by kernel_rfl) (fun _ _ _ h => h) (Or.inl ⟨by rfl, fun wS ⟨hS0, hS1, hS2, hS3⟩ => by go_simp; all_goals (rw [IntKind.wrap_i64]; omega)⟩) (by assumption) ?_
  simp only [Act.put, List.setIfInBounds_toArray, List.set_cons_zero, List.set_cons_succ]
  refine takeQ (i := 9) (v := fp P) (d := some 22) rfl rfl (by kernel_rfl) (by kernel_rfl) (by kernel_rfl) (fun _ _ _ h => h) (Or.inl ⟨by rfl, fun wS ⟨hS0, hS1, hS2, hS3⟩ => by go_simp; all_goals (rw [IntKind.wrap_i64]; omega)⟩) (by assumption) ?_
  simp only [Act.put, List.setIfInBounds_toArray, List.set_cons_zero, List.set_cons_succ]
  refine takeQ (i := 10) (v := .pointer (some ⟨P, 0, none⟩)) (d := some 23) rfl rfl (by kernel_rfl) (by kernel_rfl) (by kernel_rfl) (fun _ _ _ h => h) (Or.inl ⟨by rfl, fun wS ⟨hS0, hS1, hS2, hS3⟩ => by go_simp; all_goals (rw [IntKind.wrap_i64]; omega)⟩) (by assumption) ?_
  simp only [Act.put, List.setIfInBounds_toArray, List.set_cons_zero, List.set_cons_succ]
  refine takeQ (i := 11) (v := .pointer (some ⟨P, 2, none⟩)) (d := some 24) rfl rfl (by kernel_rfl) (by kernel_rfl) (by kernel_rfl) (fun _ _ _ h => h) (Or.inl ⟨by rfl, fun wS ⟨hS0, hS1, hS2, hS3⟩ => by go_simp; all_goals (rw [IntKind.wrap_i64]; omega)⟩) (by assumption) ?_
  simp only [Act.put, List.setIfInBounds_toArray, List.set_cons_zero, List.set_cons_succ]
  refine takeQ (i := 12) (v := fp X) (d := some 25) rfl rfl (by kernel_rfl) (by kernel_rfl) (by kernel_rfl) (fun _ _ _ h => h) (Or.inl ⟨by rfl, fun wS ⟨hS0, hS1, hS2, hS3⟩ => by go_simp; all_goals (rw [IntKind.wrap_i64]; omega)⟩) (by assumption) ?_
  simp only [Act.put, List.setIfInBounds_toArray, List.set_cons_zero, List.set_cons_succ]
  refine takeQ (i := 13) (v := .pointer (some ⟨C, 1, none⟩)) (d := some 26) rfl rfl (by kernel_rfl) (by kernel_rfl) (by kernel_rfl) (fun _ _ _ h => h) (Or.inl ⟨by rfl, fun wS ⟨hS0, hS1, hS2, hS3⟩ => by go_simp; all_goals (rw [IntKind.wrap_i64]; omega)⟩) (by assumption) ?_
  simp only [Act.put, List.setIfInBounds_toArray, List.set_cons_zero, List.set_cons_succ]
  refine takeQ (i := 14) (v := .int .i64 n) (d := some 27) rfl rfl (by kernel_rfl) (by kernel_rfl) (by kernel_rfl) (fun _ _ _ h => h) (Or.inl ⟨by rfl, fun wS ⟨hS0, hS1, hS2, hS3⟩ => by go_simp; all_goals (rw [IntKind.wrap_i64]; omega)⟩) (by assumption) ?_
  simp only [Act.put, List.setIfInBounds_toArray, List.set_cons_zero, List.set_cons_succ]
  refine takeQ (i := 15) (v := .pointer (some ⟨C, 2, none⟩)) (d := some 28) rfl rfl (by kernel_rfl) (by kernel_rfl) (by kernel_rfl) (fun _ _ _ h => h) (Or.inl ⟨by rfl, fun wS ⟨hS0, hS1, hS2, hS3⟩ => by go_simp; all_goals (rw [IntKind.wrap_i64]; omega)⟩) (by assumption) ?_
  simp only [Act.put, List.setIfInBounds_toArray, List.set_cons_zero, List.set_cons_succ]
  refine takeQ (i := 16) (v := .string d) (d := some 29) rfl rfl (by kernel_rfl) (by kernel_rfl) (by kernel_rfl) (fun _ _ _ h => h) (Or.inl ⟨by rfl, fun wS ⟨hS0, hS1, hS2, hS3⟩ => by go_simp; all_goals (rw [IntKind.wrap_i64]; omega)⟩) (by assumption) ?_
  simp only [Act.put, List.setIfInBounds_toArray, List.set_cons_zero, List.set_cons_succ]
  clear hHeld p0 p2 k1 k2
  refine wpAnyH_ready (rs := [8]) (by kernel_rfl) (by simp) ?_
  refine AllReadyH.cons rfl (fun K hK => ?_) AllReadyH.nil
  go_simp
  refine (F1 _ H1.out.drew.f).mono ?_
  rintro e w2 ⟨rfl, f2, g2⟩
  have FF2 := hide f2
  have G2 : Hid (Kept R w1.drew w2) := hide g2
  have HP2 : Hid (Bl w2 P #[fp R, sp, fp X, tp] 28) := hide (g2.other H1.out.drew.p H1.out.n1)
  have HC2 : Hid (Bl w2 C #[.int .i64 k, .int .i64 n, .string d] 34) := hide (g2.other HC1.out.drew HN.out.2.1)
  clear f2 g2
  refine hK.out _ _ ⟨HP2.out.cell 0 rfl, HP2.out.cell 2 rfl, HC2.out.cell 1 rfl, HC2.out.cell 2 rfl⟩ (fun hHeld => ?_)
  clear hK K hHeld
  refine wpAnyH_ready (rs := [17]) (by kernel_rfl) (by simp) ?_
  refine AllReadyH.cons rfl (fun K hK => ?_) AllReadyH.nil
  go_simp
  refine (Q1 _ (H1.out.drew.q.kept G2.out H1.out.n4.symm H1.out.n5.symm)).mono ?_
  rintro e w3 ⟨rfl, q3, g3⟩
  have QQ3 := hide q3
  have G3 := hide g3
  have HP3 := hide (HP2.out.kept2 g3 H1.out.n2 H1.out.n3)
  have HC3 := hide (HC2.out.kept2 g3 HN.out.2.2.1 HN.out.2.2.2)
  clear q3 g3
  refine hK.out _ _ ⟨HP3.out.cell 0 rfl, HP3.out.cell 2 rfl, HC3.out.cell 1 rfl, HC3.out.cell 2 rfl⟩ (fun hHeld => ?_)
  clear hK K
  refine wpAnyH_ready (rs := [18]) (by kernel_rfl) (by simp) ?_
  refine AllReadyH.cons rfl (fun K hK => ?_) AllReadyH.nil
  go_simp
  refine hK.out _ _ hHeld (fun hHeld => ?_)
  clear hK K
  refine wpAnyH_ready (rs := [19]) (by kernel_rfl) (by simp) ?_
  refine AllReadyH.cons rfl (fun K hK => ?_) AllReadyH.nil
  go_simp
  refine hK.out _ _ hHeld (fun hHeld => ?_)
  clear hK K hHeld
  refine wpAnyH_done (by kernel_rfl) ?_ _
  go_wp2_with fail
  go_ret
  exact ⟨rfl, _, _, _, _, H1.out.drew.cut n d HDD.out G2.out FF2.out G3.out QQ3.out⟩
end Go.Proofs.Ytcjahdgppnmdkaa
