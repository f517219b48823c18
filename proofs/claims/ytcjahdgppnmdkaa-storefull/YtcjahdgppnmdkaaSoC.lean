/- Without an armed cut nothing is cut. -/
import Derived.Test.YtcjahdgppnmdkaaSoB
set_option maxRecDepth 100000
namespace Go.Proofs.Ytcjahdgppnmdkaa
open Go.RowKit Go.Great

theorem stepS_free {σ : St} (h : σ.ar = false) : (stepS σ).2.2 = true ∧ (stepS σ).1.ar = false := by
  unfold stepS
  rw [if_neg (by rw [h]; simp)]
  exact ⟨rfl, h⟩
theorem progB_free {σ : St} (h : σ.ar = false) (a : Nat) (b : UInt8) : (progB σ a b).2 = true ∧ (progB σ a b).1.ar = false := by
  obtain ⟨h1, h2⟩ := stepS_free h
  unfold progB
  rw [if_pos h1]
  exact ⟨rfl, h2⟩
theorem progS_free (d : List UInt8) : ∀ (σ : St) (a : Nat), σ.ar = false → (progS σ a d).2 = true ∧ (progS σ a d).1.ar = false := by
  induction d with
  | nil => intro σ a h; exact ⟨rfl, h⟩
  | cons b t ih =>
    intro σ a h
    obtain ⟨h1, h2⟩ := progB_free h a b
    rw [progS, if_pos h1]
    exact ih _ _ h2
theorem eraseS_free {σ : St} (h : σ.ar = false) (s : Nat) : (eraseS σ s).2 = true ∧ (eraseS σ s).1.ar = false := by
  obtain ⟨h1, h2⟩ := stepS_free h
  unfold eraseS
  rw [if_pos h1]
  exact ⟨rfl, h2⟩
theorem addS_free {m : Mv} (h : m.σ.ar = false) (s i : Nat) (t : List UInt8) : (addS s i t m).2 = true ∧ (addS s i t m).1.σ.ar = false := by
  rw [addS_2, addS_σ]
  exact progS_free _ _ _ h
theorem eachS_free (ac : Nat) (k : Kp) (id : Int) (v : List UInt8) : ∀ (n i : Nat) (m : Mv), m.σ.ar = false → (eachS ac k id v i n m).2 = true ∧ (eachS ac k id v i n m).1.σ.ar = false := by
  intro n
  induction n with
  | zero => intro i m h; exact ⟨rfl, h⟩
  | succ n ih =>
    intro i m h
    have hs : (step1 ac k id v i m).2 = true ∧ (step1 ac k id v i m).1.σ.ar = false := by
      unfold step1
      split
      · exact ⟨rfl, h⟩
      · exact addS_free h _ _ _
    rw [eachS, if_pos hs.1]
    exact ih _ _ hs.2
theorem moveS_free {σ : St} (h : σ.ar = false) (s : Sv) (id : Int) (v : List UInt8) : (moveS σ s id v).2.isSome = true ∧ (moveS σ s id v).1.ar = false := by
  obtain ⟨a1, a2⟩ := eraseS_free h (1 - s.ac)
  obtain ⟨b1, b2⟩ := eachS_free s.ac s.k id v 3 0 ⟨(eraseS σ (1 - s.ac)).1, 1, kz⟩ a2
  obtain ⟨c1, c2⟩ := progS_free [codeN (folN s.tu)] _ ((1 - s.ac) * 4096) b2
  unfold moveS
  rw [if_pos a1, if_pos b1, if_pos c1]
  exact ⟨rfl, c2⟩
theorem fmt2_free {σ : St} (h : σ.ar = false) : (fmt2 σ).2.isSome = true ∧ (fmt2 σ).1.ar = false := by
  obtain ⟨a1, a2⟩ := eraseS_free h 0
  obtain ⟨c1, c2⟩ := progS_free [15] _ 0 a2
  unfold fmt2
  rw [if_pos a1, if_pos c1]
  exact ⟨rfl, c2⟩
theorem fmtS_free {σ : St} (h : σ.ar = false) (b : UInt8) : (fmtS σ b).2.isSome = true ∧ (fmtS σ b).1.ar = false := by
  unfold fmtS
  by_cases hb : b = 255
  · rw [if_pos hb]; exact fmt2_free h
  · obtain ⟨a1, a2⟩ := eraseS_free h 1
    rw [if_neg hb, if_pos a1]
    exact fmt2_free a2
theorem bootS_free {σ : St} (h : σ.ar = false) (ho : σ.off = false) : (bootS σ).2.isSome = true ∧ (bootS σ).1.ar = false := by
  unfold bootS
  rw [if_neg (by rw [ho]; simp)]
  split
  · exact fmtS_free h _
  · unfold bootIn
    split
    · split
      · obtain ⟨a1, a2⟩ := eraseS_free h (1 - (actI ((secL σ.C 0).getD 0 0) ((secL σ.C 1).getD 0 0)).toNat)
        rw [if_pos a1]
        exact ⟨rfl, a2⟩
      · exact ⟨rfl, h⟩
    · exact moveS_free h _ _ _
theorem Live.ask {C : List UInt8} {s : Sv} {V : Vl} (h : Live C s V) : Ask s := by
  obtain ⟨g1, g2, g3⟩ := h.en.kok (secL_len h.up.len h.up.a2)
  exact ⟨h.up.a2, h.tu, g1, g3.mono g1⟩
theorem Live.get {C : List UInt8} {s : Sv} {V : Vl} (h : Live C s V) (i : Nat) (hi : i < 3) : getS C s (i : Int) = V i := by
  rw [h.val i hi]
  unfold getS cont
  rw [show ((i : Int)).toNat = i by omega]
  by_cases ht : (s.k i).th = true
  · rw [if_pos ht, if_pos ⟨by omega, by omega, ht⟩]
  · rw [if_neg ht, if_neg (fun c => ht c.2.2)]
/-- the next boot does nothing -/
theorem Live.again {σ : St} {s : Sv} {V : Vl} (h : Live σ.C s V) (ho : σ.off = false) : bootS σ = (σ, some s) := by
  have hac := h.up.a2
  have hl := h.up.len
  have hrd := h.en.rd 4096 (by rw [secL_len hl hac]; omega) (by rw [secL_len hl hac]; omega)
  have hfst : (secL σ.C s.ac).getD 0 0 = σ.C.getD (s.ac * 4096) 0 := by
    have := sec_at σ.C hl s.ac hac 0 (by omega)
    rw [Nat.add_zero] at this
    exact this
  have hsp : (secL σ.C (1 - s.ac)).getD 0 0 = σ.C.getD ((1 - s.ac) * 4096) 0 := by
    have := sec_at σ.C hl (1 - s.ac) (by omega) 0 (by omega)
    rw [Nat.add_zero] at this
    exact this
  have htu : (turnI (codeN s.tu)).toNat = s.tu := by
    have := h.tu
    obtain e | e | e : s.tu = 0 ∨ s.tu = 1 ∨ s.tu = 2 := by omega
    all_goals rw [e]; rfl
  unfold bootS
  rw [ho, h.up.act]
  simp only [Bool.false_eq_true, if_false]
  rw [if_neg (by omega), show ((s.ac : Int)).toNat = s.ac by omega]
  unfold bootIn svOf
  rw [hrd, hfst, ← h.cd, htu, hsp]
  simp only [if_true]
  rw [if_neg]
  intro c
  rcases h.sp with hc | hc
  · obtain ⟨t, e1, _, _⟩ := cd_turn hc
    rw [e1] at c
    omega
  · exact c.1 hc
end Go.Proofs.Ytcjahdgppnmdkaa
