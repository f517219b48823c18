/- The program's store and the document's: Boot, Put, Get leave both alike. -/
import Derived.Test.YthccigikelinbaaSqR
import Derived.Test.YthccigikelinbaaSoD
import Derived.Test.YthccigikelinbaaSq7
namespace Go.Proofs.Ythccigikelinbaa
open Go.RowKit Go.Great

theorem cdB_iff (c : UInt8) : cdB c = true ↔ Cd c := by unfold cdB Cd; simp [or_assoc]
theorem cdB_no {c : UInt8} (h : ¬ Cd c) : cdB c = false := by
  cases hc : cdB c
  · rfl
  · exact absurd ((cdB_iff c).1 hc) h
theorem acR_actI (a b : UInt8) : acR a b = actI a b := by
  by_cases ha : Cd a
  · by_cases hb : Cd b
    · rcases ha with rfl | rfl | rfl <;> rcases hb with rfl | rfl | rfl <;> decide
    · unfold acR actI
      rw [(cdB_iff a).2 ha, cdB_no hb, not_cd hb]
      rcases ha with rfl | rfl | rfl <;> rfl
  · by_cases hb : Cd b
    · unfold acR actI
      rw [(cdB_iff b).2 hb, cdB_no ha, not_cd ha]
      rcases hb with rfl | rfl | rfl <;> rfl
    · unfold acR actI
      rw [cdB_no hb, cdB_no ha, not_cd ha, not_cd hb]
      rfl
def ctL (l : List UInt8) (k : Kp) (i : Nat) : Option (List UInt8) := if (k i).th then some ((l.drop (k i).lo).take (k i).n) else none
theorem rdV_rd (l : List UInt8) : ∀ (f a : Nat) (k : Kp) (V : Vl), (∀ i, V i = ctL l k i) → (∀ i, (rdV l f a V).1 i = ctL l (rd l f a k).1 i) ∧ (rdV l f a V).2 = (rd l f a k).2 := by
  intro f
  induction f with
  | zero => intro a k V h; exact ⟨h, rfl⟩
  | succ f ih =>
    intro a k V h
    rw [rdV, rd]
    by_cases h1 : blankB l a = true
    · rw [if_pos h1, if_pos h1]; exact ⟨h, rfl⟩
    · rw [if_neg h1, if_neg h1]
      by_cases h2 : wholeB l a = true
      · rw [if_pos h2, if_pos h2]
        refine ih _ _ _ (fun i => ?_)
        unfold upV ctL upd
        by_cases e : i = idAt l a
        · rw [if_pos e, if_pos e]; rfl
        · rw [if_neg e, if_neg e]; exact h i
      · rw [if_neg h2, if_neg h2]; exact ⟨h, rfl⟩
theorem txt_sec (C : List UInt8) (ac : Nat) (s : Sg) (h : s.lo + s.n ≤ 4096) : txt C ac s = ((secL C ac).drop s.lo).take s.n := by
  unfold txt secL
  rw [List.drop_take, List.drop_drop, List.take_take, Nat.min_eq_left (by omega)]
theorem cont_ct {C : List UInt8} {ac : Nat} {k : Kp} {e : Nat} (hk : KOk k e) (he : e ≤ 4096) (i : Nat) : cont C ac k i = ctL (secL C ac) k i := by
  unfold cont ctL
  by_cases h : (k i).th = true
  · rw [if_pos h, if_pos h, txt_sec _ _ _ (by have := (hk.1 i h).1; omega)]
  · rw [if_neg h, if_neg h]
theorem Live.to {C : List UInt8} {s : Sv} {V V' : Vl} (h : Live C s V) (e : ∀ i, i < 3 → V' i = V i) : Live C s V' := by
  obtain ⟨⟨a1, a2, a3, a4, en, k, cl, a5, a6⟩, b1, b2, b3, b4, b5⟩ := h
  exact ⟨⟨a1, a2, a3, a4, en, k, cl, a5, fun i hi => (e i hi).trans (a6 i hi)⟩, b1, b2, b3, fun i hi => (e i hi).trans (b4 i hi), b5⟩
/-- sector ac has a code: whatever the spare is -/
theorem bootIn_liveV {σ : St} {ac : Nat} (hl : σ.C.length = 8192) (hac : ac < 2) (hcd : Cd (σ.C.getD (ac * 4096) 0)) (hs : (Cd (σ.C.getD ((1 - ac) * 4096) 0) ∨ σ.C.getD ((1 - ac) * 4096) 0 = 255) → Safe (σ.C.getD ((1 - ac) * 4096) 0) ac (σ.C.getD (ac * 4096) 0)) : ∀ τ s', bootIn σ ac = (τ, some s') → Live τ.C s' (cont σ.C ac (rd (secL σ.C ac) 4096 1 kz).1) := by
  intro τ s' e
  have hre := rd_ends (secL σ.C ac) 4096 1 kz (by rw [secL_len hl hac]; omega) (by rw [secL_len hl hac]; omega)
  obtain ⟨⟨k, en, cl⟩, hrd⟩ : ∃ x, rd (secL σ.C ac) 4096 1 kz = x := ⟨_, rfl⟩
  rw [hrd] at hre ⊢
  simp only at hre ⊢
  by_cases hsp : Cd (σ.C.getD ((1 - ac) * 4096) 0) ∨ σ.C.getD ((1 - ac) * 4096) 0 = 255
  · have hU : Up σ.C ac (cont σ.C ac k) := ⟨hl, hac, hcd, hs hsp, ⟨en, k, cl, hre, fun i _ => rfl⟩⟩
    exact hU.bootIn.1 τ s' e
  · obtain ⟨g1, g2, g3⟩ := hre.kok (secL_len hl hac)
    have hfst : (secL σ.C ac).getD 0 0 = σ.C.getD (ac * 4096) 0 := by
      have := sec_at σ.C hl ac hac 0 (by omega)
      rw [Nat.add_zero] at this
      exact this
    have hspe : (secL σ.C (1 - ac)).getD 0 0 = σ.C.getD ((1 - ac) * 4096) 0 := by
      have := sec_at σ.C hl (1 - ac) (by omega) 0 (by omega)
      rw [Nat.add_zero] at this
      exact this
    obtain ⟨t1, t2⟩ := turn_of hcd
    have hsv : svOf σ.C ac = (⟨ac, (turnI (σ.C.getD (ac * 4096) 0)).toNat, en, k⟩, cl) := by
      unfold svOf
      rw [hrd, hfst]
    unfold bootIn at e
    rw [hsv, hspe] at e
    simp only at e
    cases cl
    · simp only [Bool.false_eq_true, if_false] at e
      refine move_done (s := ⟨ac, (turnI (σ.C.getD (ac * 4096) 0)).toNat, en, k⟩) (id := -1) (v := []) hl hac (g3.mono g1) (by simp) t1 t2 (fun j hj => ?_) (by rw [List.length_nil, restM_none]; show 1 + sizeK k ≤ 4096; have := g3.2; omega) τ s' e
      unfold mvL
      rw [if_neg (by omega)]
      rfl
    · simp only [if_true] at e
      rw [if_pos ⟨fun h => hsp (.inr h), not_cd (fun h => hsp (.inl h))⟩] at e
      obtain ⟨q1, _⟩ := eraseS_part σ (1 - ac) (by rw [hl]; omega)
      have hDl : (eraseS σ (1 - ac)).1.C.length = 8192 := by rw [eraseS_len, hl]
      cases hb : (eraseS σ (1 - ac)).2
      · rw [hb] at e
        simp only [Bool.false_eq_true, if_false] at e
        injection e with _ e; cases e
      · rw [hb] at e
        simp only [if_true] at e
        injection e with e1 e2
        injection e2 with e2
        subst e1 e2
        have hact : ∀ j, j < 4096 → σ.C.getD (ac * 4096 + j) 0 = (eraseS σ (1 - ac)).1.C.getD (ac * 4096 + j) 0 := fun j hj => by
          rw [q1 hb, if_neg (by omega)]
        have e0 := hact 0 (by omega)
        rw [Nat.add_zero] at e0
        have hs0 : (eraseS σ (1 - ac)).1.C.getD ((1 - ac) * 4096) 0 = 255 := by rw [q1 hb, if_pos (by omega)]
        have hE2 : Ends (secL (eraseS σ (1 - ac)).1.C ac) 1 kz en k true := by rw [← sec_same hl hDl hac hact]; exact hre
        have hval : ∀ i, i < 3 → cont σ.C ac k i = cont (eraseS σ (1 - ac)).1.C ac k i := fun i hi => cont_same hl hDl hac hact (Nat.le_refl _) (g3.mono g1) i
        exact ⟨⟨hDl, hac, by rw [← e0]; exact hcd, by rw [hs0, ← e0]; exact Safe.ff hcd ac, ⟨en, k, true, hE2, hval⟩⟩, t1, by rw [← e0]; exact t2, hE2, hval, .inr hs0⟩
/-- behind Boot: both alike -/
def BtR (x : St × Option Sv) (y : St × Option Kpt × Int) : Prop :=
  Rel x.1 y.1 ∧ ((∃ s' V, x.2 = some s' ∧ y.2.1 = some (s'.ac, V, s'.en) ∧ y.2.2 = 0 ∧ Live x.1.C s' V ∧ On x.1) ∨ (x.2 = none ∧ y.2.1 = none ∧ y.2.2 = 60))
theorem bootIn_rel {σ ρ : St} (hr : Rel σ ρ) (hon : On σ) {ac : Nat} (hac : ac < 2) (hcd : Cd (σ.C.getD (ac * 4096) 0)) (hs : (Cd (σ.C.getD ((1 - ac) * 4096) 0) ∨ σ.C.getD ((1 - ac) * 4096) 0 = 255) → Safe (σ.C.getD ((1 - ac) * 4096) 0) ac (σ.C.getD (ac * 4096) 0)) : BtR (bootIn σ ac) (bootA ρ ac (rdV (secL ρ.C ac) 4096 1 noneV)) := by
  have hl := hon.len
  have hLV := bootIn_liveV hl hac hcd hs
  have hre := rd_ends (secL σ.C ac) 4096 1 kz (by rw [secL_len hl hac]; omega) (by rw [secL_len hl hac]; omega)
  obtain ⟨v1, v2⟩ := rdV_rd (secL σ.C ac) 4096 1 kz noneV (fun i => rfl)
  rw [← hr.C]
  obtain ⟨⟨V, R2⟩, hRV⟩ : ∃ x, rdV (secL σ.C ac) 4096 1 noneV = x := ⟨_, rfl⟩
  rw [hRV] at v1 v2 ⊢
  obtain ⟨⟨k, en, cl⟩, hrd⟩ : ∃ x, rd (secL σ.C ac) 4096 1 kz = x := ⟨_, rfl⟩
  rw [hrd] at hre v1 v2 hLV
  simp only at hre v1 v2 hLV
  subst v2
  obtain ⟨g1, g2, g3⟩ := hre.kok (secL_len hl hac)
  have hVc : ∀ i, V i = cont σ.C ac k i := fun i => by rw [cont_ct g3 g1]; exact v1 i
  have hfst : (secL σ.C ac).getD 0 0 = σ.C.getD (ac * 4096) 0 := by
    have := sec_at σ.C hl ac hac 0 (by omega)
    rw [Nat.add_zero] at this
    exact this
  have hspe : (secL σ.C (1 - ac)).getD 0 0 = σ.C.getD ((1 - ac) * 4096) 0 := by
    have := sec_at σ.C hl (1 - ac) (by omega) 0 (by omega)
    rw [Nat.add_zero] at this
    exact this
  obtain ⟨t1, t2⟩ := turn_of hcd
  have hsv : svOf σ.C ac = (⟨ac, (turnI (σ.C.getD (ac * 4096) 0)).toNat, en, k⟩, cl) := by
    unfold svOf
    rw [hrd, hfst]
  unfold bootIn at hLV ⊢
  unfold bootA
  rw [hsv, hspe] at hLV ⊢
  rw [← hr.C]
  simp only at hLV ⊢
  cases cl
  · simp only [Bool.false_eq_true, if_false, if_true] at hLV ⊢
    have hm := move_rel (s := ⟨ac, (turnI (σ.C.getD (ac * 4096) 0)).toNat, en, k⟩) (id := -1) (v := []) (V := V) hr hon hac (g3.mono g1) (by simp) t1 t2 (fun j hj => by
      rw [hVc j]
      unfold mvL
      rw [if_neg (by omega)]
      rfl) (by rw [List.length_nil, restM_none]; show 1 + sizeK k ≤ 4096; have := g3.2; omega)
    obtain ⟨m1, m2⟩ := hm
    simp only at m1 m2
    refine ⟨m1, ?_⟩
    rcases m2 with ⟨s', n1, n2, n3, n4⟩ | ⟨n1, n2⟩
    · refine .inl ⟨s', V, n1, ?_, n2, (hLV _ s' (Prod.ext rfl n1)).to (fun i _ => hVc i), move_on hon _ s' (Prod.ext rfl n1)⟩
      simp only
      rw [if_pos n2, n3, n4]
    · exact .inr ⟨n1, by simp only; rw [if_neg (by rw [n2]; decide)], n2⟩
  · simp only [if_true, Bool.true_eq_false, if_false] at hLV ⊢
    by_cases hq : σ.C.getD ((1 - ac) * 4096) 0 ≠ 255 ∧ turnI (σ.C.getD ((1 - ac) * 4096) 0) = -1
    · have hq2 : σ.C.getD ((1 - ac) * 4096) 0 ≠ 255 ∧ cdB (σ.C.getD ((1 - ac) * 4096) 0) = false := ⟨hq.1, cdB_no (fun h => by obtain ⟨t, e, _, _⟩ := cd_turn h; have := hq.2; omega)⟩
      rw [if_pos hq] at hLV ⊢
      rw [if_pos hq2]
      obtain ⟨e1, e2⟩ := hr.era hon.off (1 - ac) (by omega)
      refine ⟨e1, ?_⟩
      cases hb : (eraseS σ (1 - ac)).2
      · rw [hb] at e2
        exact .inr ⟨rfl, by simp only; rw [if_neg (by rw [e2]; decide)], e2⟩
      · rw [hb] at e2 hLV
        exact .inl ⟨_, V, rfl, by simp only; rw [if_pos (by rw [e2]; rfl)], e2, (hLV _ _ rfl).to (fun i _ => hVc i), eraseS_on hon hb⟩
    · have hq2 : ¬ (σ.C.getD ((1 - ac) * 4096) 0 ≠ 255 ∧ cdB (σ.C.getD ((1 - ac) * 4096) 0) = false) := fun h => hq ⟨h.1, not_cd (fun hc => by rw [(cdB_iff _).2 hc] at h; exact absurd h.2 (by decide))⟩
      rw [if_neg hq] at hLV ⊢
      rw [if_neg hq2]
      exact ⟨hr, .inl ⟨_, V, rfl, rfl, rfl, (hLV _ _ rfl).to (fun i _ => hVc i), hon⟩⟩
theorem form2_rel {σ ρ : St} (hr : Rel σ ρ) (hon : On σ) : Rel (fmt2 σ).1 (form2 ρ).1 ∧ ((∃ s', (fmt2 σ).2 = some s' ∧ (form2 ρ).2 = 0 ∧ s'.ac = 0 ∧ s'.en = 1 ∧ On (fmt2 σ).1) ∨ ((fmt2 σ).2 = none ∧ (form2 ρ).2 = 60)) := by
  obtain ⟨e1, e2⟩ := hr.era hon.off 0 (by omega)
  unfold fmt2 form2
  cases hb : (eraseS σ 0).2
  · rw [hb] at e2
    rw [if_neg (show ¬ (eraseRR ρ 0).2 = 0 by have e2' : (eraseRR ρ 0).2 = 60 := e2; rw [e2']; decide)]
    exact ⟨e1, .inr ⟨rfl, e2⟩⟩
  · rw [hb] at e2
    rw [if_pos (show (eraseRR ρ 0).2 = 0 from e2)]
    have hone := eraseS_on hon hb
    obtain ⟨d1, d2⟩ := e1.prg hone.off 0 [15] (by decide)
    simp only [if_true]
    cases hb2 : (progS (eraseS σ 0).1 0 [15]).2
    · rw [hb2] at d2
      exact ⟨d1, .inr ⟨rfl, d2⟩⟩
    · rw [hb2] at d2
      exact ⟨d1, .inl ⟨_, rfl, d2, rfl, rfl, progS_on _ _ _ hone hb2⟩⟩
theorem fmt_rel {σ ρ : St} (hr : Rel σ ρ) (hon : On σ) : BtR (fmtS σ (σ.C.getD 4096 0)) ((formR ρ).1, if (formR ρ).2 = 0 then some (0, noneV, 1) else none, (formR ρ).2) := by
  have hLV := fmt_live hon.len
  have key : Rel (fmtS σ (σ.C.getD 4096 0)).1 (formR ρ).1 ∧ ((∃ s', (fmtS σ (σ.C.getD 4096 0)).2 = some s' ∧ (formR ρ).2 = 0 ∧ s'.ac = 0 ∧ s'.en = 1 ∧ On (fmtS σ (σ.C.getD 4096 0)).1) ∨ ((fmtS σ (σ.C.getD 4096 0)).2 = none ∧ (formR ρ).2 = 60)) := by
    rw [formR_eq]
    unfold fmtS form1
    rw [← hr.C]
    by_cases h : σ.C.getD 4096 0 = 255
    · rw [if_pos h, if_pos h]
      simp only [if_true]
      exact form2_rel hr hon
    · rw [if_neg h, if_neg h]
      obtain ⟨e1, e2⟩ := hr.era hon.off 1 (by omega)
      cases hb : (eraseS σ 1).2
      · rw [hb] at e2
        rw [if_neg (show ¬ (eraseRR ρ 1).2 = 0 by have e2' : (eraseRR ρ 1).2 = 60 := e2; rw [e2']; decide)]
        exact ⟨e1, .inr ⟨rfl, e2⟩⟩
      · rw [hb] at e2
        rw [if_pos (show (eraseRR ρ 1).2 = 0 from e2)]
        simp only [if_true]
        exact form2_rel e1 (eraseS_on hon hb)
  obtain ⟨k1, k2⟩ := key
  refine ⟨k1, ?_⟩
  rcases k2 with ⟨s', n1, n2, n3, n4, n5⟩ | ⟨n1, n2⟩
  · refine .inl ⟨s', noneV, n1, ?_, n2, (hLV _ s' (Prod.ext rfl n1)).to (fun i _ => rfl), n5⟩
    simp only
    rw [if_pos n2, n3, n4]
  · exact .inr ⟨n1, by simp only; rw [if_neg (by rw [n2]; decide)], n2⟩
theorem boot_rel {σ ρ : St} (hr : Rel σ ρ) (hon : On σ) : BtR (bootS σ) (bootR ρ) := by
  have hl := hon.len
  have h0 : (secL σ.C 0).getD 0 0 = σ.C.getD 0 0 := by
    have := sec_at σ.C hl 0 (by omega) 0 (by omega)
    rw [Nat.zero_mul, Nat.zero_add] at this
    exact this
  have h1 : (secL σ.C 1).getD 0 0 = σ.C.getD 4096 0 := by
    have := sec_at σ.C hl 1 (by omega) 0 (by omega)
    rw [Nat.one_mul, Nat.add_zero] at this
    exact this
  unfold bootS bootR
  rw [acR_actI, ← hr.C, h0, h1, ← hr.off, hon.off]
  simp only [Bool.false_eq_true, if_false]
  by_cases hm : actI (σ.C.getD 0 0) (σ.C.getD 4096 0) = -1
  · rw [if_pos hm, if_pos (by rw [hm]; decide)]
    exact fmt_rel hr hon
  · rw [if_neg hm]
    rcases act_cases _ _ hm with ⟨ha, hc⟩ | ⟨ha, hc⟩
    · rw [ha, if_neg (by decide), hr.C]
      have := bootIn_rel (ac := 0) hr hon (by omega) (by rw [Nat.zero_mul]; exact hc) (fun hsp => by rw [Nat.zero_mul]; exact (act0_safe hsp ha).2)
      exact this
    · rw [ha, if_neg (by decide), hr.C]
      have := bootIn_rel (ac := 1) hr hon (by omega) (by rw [Nat.one_mul]; exact hc) (fun hsp => by rw [Nat.one_mul]; exact (act1_safe hsp ha).2)
      exact this
theorem PutK.ok {σ τ : St} {s s' : Sv} {V : Vl} {i : Nat} {v : List UInt8} (h : PutK σ s V (i : Int) v (τ, some s', 0)) : Live τ.C s' (updV V i v) ∧ On τ := by
  rcases h with ⟨_, h⟩ | ⟨j, hj, hij, hv, h | ⟨τ1, s1, h, h2, h3⟩ | ⟨τ1, h, _⟩⟩
  · injection h with _ h; injection h with _ h; cases h
  · injection h with _ h; injection h with _ h; cases h
  · injection h with e1 h; injection h with e2 _; injection e2 with e2
    subst e1 e2
    obtain rfl : i = j := by omega
    exact ⟨h2, h3⟩
  · injection h with _ h; injection h with h _; cases h
theorem Live.sz {C : List UInt8} {s : Sv} {V : Vl} (h : Live C s V) (j : Nat) (hj : j < 3) : szQ V j = if (s.k j).th then 4 + (s.k j).n else 0 := by
  obtain ⟨g1, _, g3⟩ := h.en.kok (secL_len h.up.len h.up.a2)
  unfold szQ
  rw [h.val j hj]
  unfold cont
  by_cases e : (s.k j).th = true
  · rw [if_pos e, if_pos e]
    have := g3.1 j e
    show 4 + (txt C s.ac (s.k j)).length = _
    rw [txt_len C h.up.len s.ac h.up.a2 (s.k j) (by omega)]
  · rw [if_neg e, if_neg e]
theorem Live.needs {C : List UInt8} {s : Sv} {V : Vl} (h : Live C s V) (i : Nat) (hi : i < 3) (v : List UInt8) : sumV (upV V i v) 3 = needN s.k i v.length := by
  have z : ∀ j, j < 3 → szQ (upV V i v) j = if j = i then 4 + v.length else if (s.k j).th then 4 + (s.k j).n else 0 := fun j hj => by
    by_cases e : j = i
    · rw [if_pos e]; unfold szQ upV; rw [if_pos e]
    · rw [if_neg e, ← h.sz j hj]; unfold szQ upV; rw [if_neg e]
  show 1 + szQ (upV V i v) 0 + szQ (upV V i v) 1 + szQ (upV V i v) 2 = _
  rw [z 0 (by omega), z 1 (by omega), z 2 (by omega)]
  unfold needN
  have h3 : i = 0 ∨ i = 1 ∨ i = 2 := by omega
  rcases h3 with rfl | rfl | rfl <;> simp <;> omega
/-- behind Put: both alike -/
def PtR (x : St × Option Sv × Int) (y : St × Kpt × Bool × Int) : Prop :=
  Rel x.1 y.1 ∧ x.2.2 = y.2.2.2 ∧ ((∃ s' V', x.2.1 = some s' ∧ y.2.1 = (s'.ac, V', s'.en) ∧ y.2.2.1 = false ∧ Live x.1.C s' V' ∧ On x.1) ∨ (x.2.1 = none ∧ y.2.2.1 = true))
theorem put_rel {σ ρ : St} {s : Sv} {V : Vl} (hr : Rel σ ρ) (hL : Live σ.C s V) (hon : On σ) (id : Int) (v : List UInt8) : PtR (putS σ s id v) (putR ρ s.ac V s.en false id v) := by
  have hPK := put_live hL hon id v
  obtain ⟨g1, g2, g3⟩ := hL.en.kok (secL_len hL.up.len hL.up.a2)
  have hac := hL.up.a2
  unfold putS at hPK ⊢
  unfold putR
  rw [if_neg (show ¬ (false = true) by decide)]
  by_cases hb : ¬ (0 ≤ id ∧ id < 3) ∨ 2000 < v.length
  · rw [if_pos hb, if_pos hb]
    exact ⟨hr, rfl, .inl ⟨s, V, rfl, rfl, rfl, hL, hon⟩⟩
  · rw [if_neg hb] at hPK ⊢
    rw [if_neg hb]
    obtain ⟨i, hi, rfl⟩ : ∃ i : Nat, i < 3 ∧ id = (i : Int) := ⟨id.toNat, by omega, by omega⟩
    rw [Int.toNat_natCast] at hPK ⊢
    have hneed := hL.needs i hi v
    unfold putA
    rw [hneed]
    by_cases hf : 4096 < needN s.k i v.length
    · rw [if_pos hf, if_pos hf]
      exact ⟨hr, rfl, .inl ⟨s, V, rfl, rfl, rfl, hL, hon⟩⟩
    · rw [if_neg hf] at hPK ⊢
      rw [if_neg hf]
      by_cases hc : s.en + 4 + v.length ≤ 4096
      · rw [if_pos hc] at hPK ⊢
        rw [if_pos (show s.en + (4 + v.length) ≤ 4096 by omega)]
        obtain ⟨r1, r2⟩ := hr.prg hon.off (s.ac * 4096 + s.en) (recB i v) (by rw [recB_length]; omega)
        cases hb2 : (addS s.ac i v ⟨σ, s.en, s.k⟩).2
        · have hb3 := hb2
          rw [addS_2] at hb3
          simp only at hb3
          rw [hb3] at r2
          rw [if_neg (show ¬ (progRR ρ ((s.ac * 4096 + s.en : Nat) : Int) (bs (recB i v))).2 = 0 by rw [r2]; decide)]
          simp only [Bool.false_eq_true, if_false]
          exact ⟨by rw [addS_σ]; exact r1, r2.symm, .inr ⟨rfl, rfl⟩⟩
        · have hb3 := hb2
          rw [addS_2] at hb3
          simp only at hb3
          rw [hb3] at r2
          rw [if_pos (show (progRR ρ ((s.ac * 4096 + s.en : Nat) : Int) (bs (recB i v))).2 = 0 by rw [r2]; rfl)]
          rw [hb2] at hPK
          simp only [if_true] at hPK ⊢
          obtain ⟨l1, l2⟩ := hPK.ok
          refine ⟨by rw [addS_σ]; exact r1, rfl, .inl ⟨_, updV V i v, rfl, ?_, rfl, l1, l2⟩⟩
          rw [(addS_k hb2).2]
          show (s.ac, upV V i v, s.en + (4 + v.length)) = (s.ac, updV V i v, s.en + 4 + v.length)
          rw [Nat.add_assoc]
          rfl
      · rw [if_neg hc] at hPK ⊢
        rw [if_neg (show ¬ s.en + (4 + v.length) ≤ 4096 by omega)]
        have hm := move_rel (s := s) (id := (i : Int)) (v := v) (V := upV V i v) hr hon hac (g3.mono g1) (by omega) hL.tu hL.cd (fun j hj => by
          unfold upV mvL
          by_cases e : j = i
          · rw [if_pos e, if_pos (by omega)]
          · rw [if_neg e, if_neg (by omega), hL.val j hj]; rfl) (by rw [needN_rest s.k i v.length hi]; omega)
        obtain ⟨m1, m2⟩ := hm
        rcases m2 with ⟨s', n1, n2, n3, n4⟩ | ⟨n1, n2⟩
        · rw [if_pos n2]
          rw [n1] at hPK ⊢
          simp only [Option.isSome_some, if_true] at hPK ⊢
          obtain ⟨l1, l2⟩ := hPK.ok
          refine ⟨m1, rfl, .inl ⟨s', updV V i v, rfl, ?_, rfl, l1, l2⟩⟩
          rw [n3, n4]
          rfl
        · rw [if_neg (show ¬ (moveR ρ s.ac (upV V i v)).2.2 = 0 by rw [n2]; decide)]
          rw [n1]
          exact ⟨m1, n2.symm, .inr ⟨rfl, rfl⟩⟩
theorem get_rel {C : List UInt8} {s : Sv} {V : Vl} (hL : Live C s V) (id : Int) : getS C s id = getR V false id := by
  unfold getR
  by_cases h : 0 ≤ id ∧ id < 3
  · obtain ⟨i, hi, rfl⟩ : ∃ i : Nat, i < 3 ∧ id = (i : Int) := ⟨id.toNat, by omega, by omega⟩
    rw [hL.get i hi, if_pos ⟨rfl, h.1, h.2⟩, Int.toNat_natCast]
  · rw [if_neg (fun c => h ⟨c.2.1, c.2.2⟩)]
    unfold getS
    rw [if_neg (fun c => h ⟨c.1, c.2.1⟩)]
end Go.Proofs.Ythccigikelinbaa
