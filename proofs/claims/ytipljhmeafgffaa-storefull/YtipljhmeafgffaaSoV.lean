/- A flash whose objects are known: 'Up'. -/
import Derived.Test.YtipljhmeafgffaaSoU
namespace Go.Proofs.Ytipljhmeafgffaa
open Go.RowKit Go.Great

abbrev Vl := Nat → Option (List UInt8)
/-- what a sector keeps of object i -/
def cont (C : List UInt8) (ac : Nat) (k : Kp) (i : Nat) : Option (List UInt8) := if (k i).th then some (txt C ac (k i)) else none
theorem Ends.kok {l : List UInt8} (hl : l.length = 4096) {b : Nat} {k : Kp} {cl : Bool} (h : Ends l 1 kz b k cl) : b ≤ 4096 ∧ 1 ≤ b ∧ KOk k b := by
  have e := h.rd 4096 (by omega) (by omega)
  have := rd_ok l 4096 1 kz (by omega) KOk.kz
  rw [e] at this
  exact ⟨by have := this.2.1; simp only at this; omega, this.1, this.2.2⟩
theorem txt_same {C D : List UInt8} {ac e : Nat} {s : Sg} (hC : C.length = 8192) (hD : D.length = 8192) (hac : ac < 2) (hs : ∀ j, j < e → C.getD (ac * 4096 + j) 0 = D.getD (ac * 4096 + j) 0) (he : e ≤ 4096) (h : s.lo + s.n ≤ e) : txt C ac s = txt D ac s := by
  unfold txt
  refine txt_ext (fun j hj => ?_) (by omega) (by omega)
  have := hs (s.lo + j) (by omega)
  rw [← Nat.add_assoc] at this
  exact this
theorem cont_same {C D : List UInt8} {ac e : Nat} {k : Kp} (hC : C.length = 8192) (hD : D.length = 8192) (hac : ac < 2) (hs : ∀ j, j < e → C.getD (ac * 4096 + j) 0 = D.getD (ac * 4096 + j) 0) (he : e ≤ 4096) (hk : KOk k e) (i : Nat) : cont C ac k i = cont D ac k i := by
  unfold cont
  by_cases h : (k i).th = true
  · rw [if_pos h, if_pos h, txt_same hC hD hac hs he (by have := (hk.1 i h).1; omega)]
  · rw [if_neg h, if_neg h]
theorem sec_same {C D : List UInt8} {ac : Nat} (hC : C.length = 8192) (hD : D.length = 8192) (hac : ac < 2) (hs : ∀ j, j < 4096 → C.getD (ac * 4096 + j) 0 = D.getD (ac * 4096 + j) 0) : secL C ac = secL D ac := by
  unfold secL
  exact txt_ext (fun j hj => hs j hj) (by omega) (by omega)
/-- sector ac is the active one, stays it whatever becomes of the spare by OR, and keeps V -/
structure Up (C : List UInt8) (ac : Nat) (V : Vl) : Prop where
  len : C.length = 8192
  a2 : ac < 2
  cd : Cd (C.getD (ac * 4096) 0)
  sf : Safe (C.getD ((1 - ac) * 4096) 0) ac (C.getD (ac * 4096) 0)
  rd : ∃ en k cl, Ends (secL C ac) 1 kz en k cl ∧ ∀ i, i < 3 → V i = cont C ac k i
theorem Up.spare {C D : List UInt8} {ac : Nat} {V : Vl} (h : Up C ac V) (hD : D.length = 8192) (hs : ∀ j, j < 4096 → C.getD (ac * 4096 + j) 0 = D.getD (ac * 4096 + j) 0) (hf : Safe (D.getD ((1 - ac) * 4096) 0) ac (C.getD (ac * 4096) 0)) : Up D ac V := by
  have e0 := hs 0 (by omega)
  rw [Nat.add_zero] at e0
  obtain ⟨en, k, cl, h1, h2⟩ := h.rd
  obtain ⟨g1, g2, g3⟩ := h1.kok (secL_len h.len h.a2)
  refine ⟨hD, h.a2, by rw [← e0]; exact h.cd, by rw [← e0]; exact hf, en, k, cl, by rw [← sec_same h.len hD h.a2 hs]; exact h1, fun i hi => ?_⟩
  rw [h2 i hi]
  exact cont_same h.len hD h.a2 hs (Nat.le_refl _) (g3.mono g1) i
theorem Up.act {C : List UInt8} {ac : Nat} {V : Vl} (h : Up C ac V) : actI ((secL C 0).getD 0 0) ((secL C 1).getD 0 0) = (ac : Int) := by
  rw [sec_at C h.len 0 (by omega) 0 (by omega), sec_at C h.len 1 (by omega) 0 (by omega)]
  have hc := h.cd
  have hf := h.sf
  obtain rfl | rfl : ac = 0 ∨ ac = 1 := by have := h.a2; omega
  · exact Safe.act0 hc hf
  · exact Safe.act1 hc hf
/-- an erase of the spare -/
theorem Up.erase {σ : St} {ac : Nat} {V : Vl} (h : Up σ.C ac V) : Up (eraseS σ (1 - ac)).1.C ac V ∧ ((eraseS σ (1 - ac)).2 = true → ∀ j, j < 4096 → (eraseS σ (1 - ac)).1.C.getD ((1 - ac) * 4096 + j) 0 = 255) := by
  have hac := h.a2
  have hl := h.len
  have hD : (eraseS σ (1 - ac)).1.C.length = 8192 := by rw [eraseS_len, hl]
  obtain ⟨p1, p2⟩ := eraseS_part σ (1 - ac) (by omega)
  cases hb : (eraseS σ (1 - ac)).2
  · obtain ⟨_, g, hg⟩ := p2 hb
    refine ⟨h.spare hD (fun j hj => by rw [hg, if_neg (by omega)]) ?_, fun e => by cases e⟩
    rw [hg, if_pos (by omega)]
    exact h.sf.or _
  · have hg := p1 hb
    refine ⟨h.spare hD (fun j hj => by rw [hg, if_neg (by omega)]) ?_, fun _ j hj => by rw [hg, if_pos (by omega)]⟩
    rw [hg, if_pos (by omega)]
    exact Safe.ff h.cd ac
end Go.Proofs.Ytipljhmeafgffaa
