/- Pure: how a side crosses a row, with its sign; a way that meets no side. -/
import Derived.Test.YtohepelnbmojiaaGeT
namespace Go.Proofs.Ytohepelnbmojiaa

/-- how a side from a to b crosses the way from p to the right: 1 upwards, -1 downwards -/
def sj (a b p : Pt) : Int := (if upB a b p = true then 1 else 0) - (if upB b a p = true then 1 else 0)
/-- a corner in the strip of a way, on its right -/
def iS (p q v : Pt) : Int := if inS p q v = true then 1 else 0
theorem sj_neg (a b p : Pt) : sj b a p = - sj a b p := by unfold sj; omega
theorem sj_start (a b : Pt) : sj a b a = 0 := by
  have h1 : ¬ upB a b a = true := fun h => by have := (upB_iff a b a).1 h; unfold cross at this; grind
  have h2 : ¬ upB b a a = true := fun h => by have := (upB_iff b a a).1 h; omega
  unfold sj; rw [if_neg h1, if_neg h2]; rfl
theorem sj_end (a b : Pt) : sj a b b = 0 := by rw [← Int.neg_eq_zero, ← sj_neg]; exact sj_start b a
theorem sj_on {a b q : Pt} (h : cross a b q = 0) : sj a b q = 0 := by
  have h' : cross b a q = 0 := by rw [cross_flip, h]; rfl
  have h1 : ¬ upB a b q = true := fun g => by have := (upB_iff a b q).1 g; omega
  have h2 : ¬ upB b a q = true := fun g => by have := (upB_iff b a q).1 g; omega
  unfold sj; rw [if_neg h1, if_neg h2]; rfl
/-- a side that goes up -/
theorem edge_sj_up {a b p q : Pt} (hab : a.2 ≤ b.2) (hpq : p.2 < q.2) (hn : ¬ MeetP a b p q) : sj a b p - sj a b q = iS p q b - iS p q a := by
  have e := edge_up hab hpq hn
  have n1 : ¬ upB b a p = true := fun h => by have := (upB_iff b a p).1 h; omega
  have n2 : ¬ upB b a q = true := fun h => by have := (upB_iff b a q).1 h; omega
  have k1 : ¬ (upB a b p = true ∧ inS p q a = true) := fun h => by
    have h1 := (upB_iff a b p).1 h.1
    have h2 := (inS_iff p q a).1 h.2
    omega
  have k2 : ¬ (upB a b q = true ∧ inS p q b = true) := fun h => by
    have h1 := (upB_iff a b q).1 h.1
    have h2 := (inS_iff p q b).1 h.2
    omega
  unfold sj iS
  rw [if_neg n1, if_neg n2]
  revert e k1 k2
  cases upB a b p <;> cases upB a b q <;> cases inS p q a <;> cases inS p q b <;> simp
theorem edge_sj {a b p q : Pt} (hpq : p.2 < q.2) (hn : ¬ MeetP a b p q) : sj a b p - sj a b q = iS p q b - iS p q a := by
  rcases Int.le_total a.2 b.2 with h | h
  · exact edge_sj_up h hpq hn
  · have := edge_sj_up h hpq (fun g => hn g.swap.flip.swap)
    rw [sj_neg a b p, sj_neg a b q] at this
    omega
theorem cross_cyc (a b c : Pt) : cross b c a = cross a b c := by unfold cross; grind
theorem cross_swp (a b c : Pt) : cross a c b = - cross a b c := by unfold cross; grind
/-- a side that begins where the way begins: it counts if it goes up on the right -/
def fst' (p q a : Pt) : Int := if p.2 < a.2 ∧ cross p q a < 0 then 1 else 0
theorem first_side {p q a : Pt} (hpq : p.2 < q.2) : fst' p q a - sj p a q = iS p q a := by
  have e : cross p a q = - cross p q a := cross_swp p q a
  have n1 : ¬ upB a p q = true := fun h => by have := (upB_iff a p q).1 h; omega
  unfold fst' sj iS
  rw [if_neg n1]
  by_cases h1 : upB p a q = true
  · have := (upB_iff p a q).1 h1
    rw [if_pos h1, if_pos (by omega), if_neg (fun h => by have := (inS_iff p q a).1 h; omega)]; rfl
  · rw [if_neg h1]
    by_cases h2 : inS p q a = true
    · have := (inS_iff p q a).1 h2
      rw [if_pos h2, if_pos (by omega)]; rfl
    · rw [if_neg h2, if_neg]; · rfl
      intro h
      by_cases h3 : a.2 ≤ q.2
      · exact h2 ((inS_iff p q a).2 ⟨h.1, h3, h.2⟩)
      · exact h1 ((upB_iff p a q).2 ⟨by omega, by omega, by omega⟩)
/-- a side that begins where the way ends: it counts if it comes from below on the right -/
def lst' (p q b : Pt) : Int := if b.2 ≤ q.2 ∧ cross p q b < 0 then 1 else 0
theorem last_side {p q b : Pt} (hpq : p.2 < q.2) : sj q b p + lst' p q b = iS p q b := by
  have e : cross b q p = - cross p q b := by rw [← cross_cyc b q p, cross_swp, cross_cyc]
  have n1 : ¬ upB q b p = true := fun h => by have := (upB_iff q b p).1 h; omega
  unfold lst' sj iS
  rw [if_neg n1]
  by_cases h1 : upB b q p = true
  · have := (upB_iff b q p).1 h1
    rw [if_pos h1, if_pos (by omega), if_neg (fun h => by have := (inS_iff p q b).1 h; omega)]; rfl
  · rw [if_neg h1]
    by_cases h2 : inS p q b = true
    · have := (inS_iff p q b).1 h2
      rw [if_pos h2, if_pos (by omega)]; rfl
    · rw [if_neg h2, if_neg]; · rfl
      intro h
      by_cases h3 : p.2 < b.2
      · exact h2 ((inS_iff p q b).2 ⟨h3, h.1, h.2⟩)
      · exact h1 ((upB_iff b q p).2 ⟨by omega, by omega, by omega⟩)
/-- a part of a way -/
theorem part_meet {a b p q Q : Pt} (h1 : p.2 < q.2) (h2 : q.2 < Q.2) (h0 : cross p Q q = 0) (h : MeetP a b p q) : MeetP a b p Q := by
  obtain ⟨⟨x1, x2⟩, ⟨y1, y2⟩, c1, c2⟩ := h
  have hv : 0 < Q.2 - p.2 := by omega
  have hu : 0 < q.2 - p.2 := by omega
  have ex : (q.1 - p.1) * (Q.2 - p.2) = (q.2 - p.2) * (Q.1 - p.1) := by unfold cross at h0; grind
  have bx : min p.1 Q.1 ≤ q.1 ∧ q.1 ≤ max p.1 Q.1 := by
    rcases Int.le_total p.1 Q.1 with hq | hq
    · have t1 : 0 ≤ (q.2 - p.2) * (Q.1 - p.1) := Int.mul_nonneg (by omega) (by omega)
      have t2 : 0 ≤ (Q.2 - q.2) * (Q.1 - p.1) := Int.mul_nonneg (by omega) (by omega)
      have e2 : (Q.1 - q.1) * (Q.2 - p.2) = (Q.2 - q.2) * (Q.1 - p.1) := by grind
      have s1 : 0 ≤ q.1 - p.1 := Int.nonneg_of_mul_nonneg_left (by rw [ex]; exact t1) hv
      have s2 : 0 ≤ Q.1 - q.1 := Int.nonneg_of_mul_nonneg_left (by rw [e2]; exact t2) hv
      omega
    · have t1 : 0 ≤ (q.2 - p.2) * (p.1 - Q.1) := Int.mul_nonneg (by omega) (by omega)
      have t2 : 0 ≤ (Q.2 - q.2) * (p.1 - Q.1) := Int.mul_nonneg (by omega) (by omega)
      have e1 : (p.1 - q.1) * (Q.2 - p.2) = (q.2 - p.2) * (p.1 - Q.1) := by grind
      have e2 : (q.1 - Q.1) * (Q.2 - p.2) = (Q.2 - q.2) * (p.1 - Q.1) := by grind
      have s1 : 0 ≤ p.1 - q.1 := Int.nonneg_of_mul_nonneg_left (by rw [e1]; exact t1) hv
      have s2 : 0 ≤ q.1 - Q.1 := Int.nonneg_of_mul_nonneg_left (by rw [e2]; exact t2) hv
      omega
  refine ⟨⟨by omega, by omega⟩, ⟨by omega, by omega⟩, ?_, ?_⟩
  · have e3 : (Q.2 - p.2) * cross a b q = (Q.2 - q.2) * cross a b p + (q.2 - p.2) * cross a b Q := by unfold cross; grind
    have e4 : (q.2 - p.2) * (cross a b p * cross a b Q) = (Q.2 - p.2) * (cross a b p * cross a b q) - (Q.2 - q.2) * (cross a b p * cross a b p) := by grind
    have t1 : (Q.2 - p.2) * (cross a b p * cross a b q) ≤ 0 := Int.mul_nonpos_of_nonneg_of_nonpos (by omega) c1
    have t2 : 0 ≤ (Q.2 - q.2) * (cross a b p * cross a b p) := Int.mul_nonneg (by omega) (sq_nonneg _)
    refine Decidable.byContradiction fun hc => ?_
    have : 0 < (q.2 - p.2) * (cross a b p * cross a b Q) := Int.mul_pos hu (by omega)
    omega
  · have e5 : (Q.2 - p.2) * cross p q a = (q.2 - p.2) * cross p Q a := by unfold cross; grind
    have e6 : (Q.2 - p.2) * cross p q b = (q.2 - p.2) * cross p Q b := by unfold cross; grind
    refine Decidable.byContradiction fun hc => ?_
    have t1 : 0 < ((q.2 - p.2) * (q.2 - p.2)) * (cross p Q a * cross p Q b) := Int.mul_pos (Int.mul_pos hu hu) (by omega)
    have t2 : ((q.2 - p.2) * (q.2 - p.2)) * (cross p Q a * cross p Q b) = ((Q.2 - p.2) * (Q.2 - p.2)) * (cross p q a * cross p q b) := by grind
    have t3 : ((Q.2 - p.2) * (Q.2 - p.2)) * (cross p q a * cross p q b) ≤ 0 := Int.mul_nonpos_of_nonneg_of_nonpos (Int.mul_nonneg (by omega) (by omega)) c2
    omega
end Go.Proofs.Ytohepelnbmojiaa
