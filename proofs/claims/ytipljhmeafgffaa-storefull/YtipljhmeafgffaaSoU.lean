/- First bytes of sectors: which can become a code. -/
import Derived.Test.YtipljhmeafgffaaSoT
namespace Go.Proofs.Ytipljhmeafgffaa
open Go.RowKit Go.Great

theorem or_zero {a b : UInt8} (h : a ||| b = 0) : a = 0 := by
  have h2 : a.toBitVec ||| b.toBitVec = 0#8 := congrArg UInt8.toBitVec h
  apply UInt8.toBitVec_inj.1
  show a.toBitVec = 0#8
  exact (BitVec.or_eq_zero_iff.1 h2).1
theorem or_and8 (a b c : UInt8) : (a ||| b) &&& c = (a &&& c) ||| (b &&& c) := by
  apply UInt8.toBitVec_inj.1
  show (a.toBitVec ||| b.toBitVec) &&& c.toBitVec = (a.toBitVec &&& c.toBitVec) ||| (b.toBitVec &&& c.toBitVec)
  exact BitVec.and_or_distrib_right
def nxt (c : UInt8) : UInt8 := codeN (folN (turnI c).toNat)
/-- a code -/
def Cd (c : UInt8) : Prop := c = 15 ∨ c = 51 ∨ c = 85
theorem cd_turn {c : UInt8} (h : Cd c) : ∃ t : Nat, turnI c = (t : Int) ∧ t < 3 ∧ codeN t = c := by
  rcases h with rfl | rfl | rfl
  · exact ⟨0, rfl, by omega, rfl⟩
  · exact ⟨1, rfl, by omega, rfl⟩
  · exact ⟨2, rfl, by omega, rfl⟩
theorem turn_cd {c : UInt8} (h : turnI c ≠ -1) : Cd c := by
  unfold turnI at h
  by_cases h1 : c = 15
  · exact .inl h1
  · by_cases h2 : c = 51
    · exact .inr (.inl h2)
    · by_cases h3 : c = 85
      · exact .inr (.inr h3)
      · rw [if_neg h1, if_neg h2, if_neg h3] at h; exact absurd rfl h
theorem not_cd {c : UInt8} (h : ¬ Cd c) : turnI c = -1 := by
  unfold turnI
  rw [if_neg (fun e => h (.inl e)), if_neg (fun e => h (.inr (.inl e))), if_neg (fun e => h (.inr (.inr e)))]
theorem nxt_cd {c : UInt8} (h : Cd c) : Cd (nxt c) := by
  rcases h with rfl | rfl | rfl
  · exact .inr (.inl rfl)
  · exact .inr (.inr rfl)
  · exact .inl rfl
/-- a spare's first byte that no OR turns into a code that would be the active one -/
def Safe (y : UInt8) (ac : Nat) (c : UInt8) : Prop := y &&& ~~~(nxt c) ≠ 0 ∧ (ac = 1 → y &&& ~~~c ≠ 0)
theorem Safe.or {y c : UInt8} {ac : Nat} (h : Safe y ac c) (g : UInt8) : Safe (y ||| g) ac c := by
  refine ⟨fun e => h.1 ?_, fun ha e => h.2 ha ?_⟩
  · rw [or_and8] at e; exact or_zero e
  · rw [or_and8] at e; exact or_zero e
theorem Safe.ff {c : UInt8} (h : Cd c) (ac : Nat) : Safe 255 ac c := by
  rcases h with rfl | rfl | rfl
  all_goals exact ⟨by decide, fun _ => by decide⟩
theorem Safe.act0 {a b : UInt8} (ha : Cd a) (h : Safe b 0 a) : actI a b = 0 := by
  by_cases hb : Cd b
  · rcases ha with rfl | rfl | rfl <;> rcases hb with rfl | rfl | rfl
    all_goals first
      | rfl
      | exact absurd (by decide) h.1
  · unfold actI
    rw [not_cd hb]
    rcases ha with rfl | rfl | rfl <;> rfl
theorem Safe.act1 {a b : UInt8} (hb : Cd b) (h : Safe a 1 b) : actI a b = 1 := by
  by_cases ha : Cd a
  · rcases ha with rfl | rfl | rfl <;> rcases hb with rfl | rfl | rfl
    all_goals first
      | rfl
      | exact absurd (by decide) h.1
      | exact absurd (by decide) (h.2 rfl)
  · unfold actI
    rw [not_cd ha]
    rcases hb with rfl | rfl | rfl <;> rfl
theorem act0_safe {a b : UInt8} (hb : Cd b ∨ b = 255) (h : actI a b = 0) : Cd a ∧ Safe b 0 a := by
  have ha : Cd a := by
    by_cases ha : Cd a
    · exact ha
    · exfalso
      unfold actI at h
      rw [not_cd ha] at h
      rcases hb with (rfl | rfl | rfl) | rfl <;> exact absurd h (by decide)
  refine ⟨ha, ?_⟩
  rcases hb with hb | rfl
  · rcases ha with rfl | rfl | rfl <;> rcases hb with rfl | rfl | rfl
    all_goals first
      | exact absurd h (by decide)
      | exact ⟨by decide, fun e => by cases e⟩
  · exact Safe.ff ha 0
theorem act1_safe {a b : UInt8} (ha : Cd a ∨ a = 255) (h : actI a b = 1) : Cd b ∧ Safe a 1 b := by
  have hb : Cd b := by
    by_cases hb : Cd b
    · exact hb
    · exfalso
      unfold actI at h
      rw [not_cd hb] at h
      rcases ha with (rfl | rfl | rfl) | rfl <;> exact absurd h (by decide)
  refine ⟨hb, ?_⟩
  rcases ha with ha | rfl
  · rcases ha with rfl | rfl | rfl <;> rcases hb with rfl | rfl | rfl
    all_goals first
      | exact absurd h (by decide)
      | exact ⟨by decide, fun _ => by decide⟩
  · exact Safe.ff hb 1
/-- a code that is programmed in part -/
theorem Safe.cut {c x : UInt8} (hc : Cd c) (ac : Nat) (h : nxt c ||| x ≠ nxt c) : Safe (nxt c ||| x) ac c := by
  refine ⟨fun e => h ?_, fun _ e => ?_⟩
  · rw [or_and8] at e
    have e2 : x &&& ~~~(nxt c) = 0 := by
      have : (x &&& ~~~(nxt c)) ||| (nxt c &&& ~~~(nxt c)) = 0 := by rw [UInt8.or_comm]; exact e
      exact or_zero this
    have e3 : x.toBitVec &&& ~~~(nxt c).toBitVec = 0#8 := congrArg UInt8.toBitVec e2
    apply UInt8.toBitVec_inj.1
    show (nxt c).toBitVec ||| x.toBitVec = (nxt c).toBitVec
    ext i hi
    have := congrArg (fun v => v.getLsbD i) e3
    simp at this ⊢
    intro hx
    cases hn : (nxt c).toBitVec[i]
    · simp_all
    · rfl
  · rw [or_and8] at e
    have := or_zero e
    rcases hc with rfl | rfl | rfl <;> exact absurd this (by decide)
/-- behind a move the old sector is a safe spare -/
theorem Safe.moved {c : UInt8} (hc : Cd c) (ac : Nat) : Safe c ac (nxt c) := by
  rcases hc with rfl | rfl | rfl <;> exact ⟨by decide, fun _ => by decide⟩
end Go.Proofs.Ytipljhmeafgffaa
