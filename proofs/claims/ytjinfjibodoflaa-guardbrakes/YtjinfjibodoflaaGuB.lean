/- GuardBrakes, the pure part: how far a braked vehicle still gets. -/
import Derived.Test.YtjinfjibodoflaaLwU2
namespace Go.Proofs.Ytjinfjibodoflaa
open Go.RowKit Go.Great

/-- the way of a velocity that is braked -/
def wy (v b : Int) : Int := if v < 1 then 0 else sm v b (v / b).toNat
theorem wy_nat (v b : Int) (hb : 1 ≤ b) (hv : 1 ≤ v) : ∃ i : Nat, (i : Int) = v / b ∧ wy v b = sm v b i ∧ b * (i : Int) ≤ v ∧ v < b * (i : Int) + b := by
  have q0 : 0 ≤ v / b := Int.ediv_nonneg (by omega) (by omega)
  have e := Int.mul_ediv_add_emod v b
  have m0 := Int.emod_nonneg v (show b ≠ 0 by omega)
  have m1 := Int.emod_lt_of_pos v (show 0 < b by omega)
  refine ⟨(v / b).toNat, by omega, by unfold wy; rw [if_neg (by omega)], ?_, ?_⟩ <;> rw [Int.toNat_of_nonneg q0] <;> omega
theorem wy_nonneg (v b : Int) (hb : 1 ≤ b) : 0 ≤ wy v b := by
  by_cases hv : v < 1
  · unfold wy; rw [if_pos hv]; omega
  · obtain ⟨i, _, e, h, _⟩ := wy_nat v b hb (by omega)
    rw [e]
    exact (sm_in v b hb (by omega) i h).1
theorem wy_le (v b : Int) (hb : 1 ≤ b) (hv : 0 ≤ v) : wy v b ≤ v * v := by
  by_cases h1 : v < 1
  · unfold wy; rw [if_pos h1]; exact Int.mul_nonneg hv hv
  · obtain ⟨i, hi, e, h, _⟩ := wy_nat v b hb (by omega)
    rw [e]
    have := (sm_in v b hb (by omega) i h).2
    have q : (i : Int) ≤ v := by rw [hi]; exact Int.ediv_le_self b (by omega)
    have := Int.mul_le_mul_of_nonneg_right q hv
    omega
theorem wy_zero (v b : Int) (hb : 1 ≤ b) (h : v ≤ b) : wy v b = 0 := by
  by_cases h1 : v < 1
  · unfold wy; rw [if_pos h1]
  · obtain ⟨i, _, e, h2, h3⟩ := wy_nat v b hb (by omega)
    rw [e]
    rcases (show i = 0 ∨ i = 1 ∨ 2 ≤ i by omega) with g | g | g
    · subst g; rfl
    · subst g; simp only [sm]; simp at h2 ⊢; omega
    · have : b * 2 ≤ b * (i : Int) := Int.mul_le_mul_of_nonneg_left (by omega) (by omega)
      omega
theorem wy_step (v b : Int) (hb : 1 ≤ b) : wy v b = max (v - b) 0 + wy (v - b) b := by
  by_cases h : v ≤ b
  · rw [wy_zero v b hb h, wy_zero (v - b) b hb (by omega)]; omega
  · obtain ⟨i, hi, e, h2, h3⟩ := wy_nat v b hb (by omega)
    obtain ⟨j, hj, e', h4, h5⟩ := wy_nat (v - b) b hb (by omega)
    have hij : (i : Int) = (j : Int) + 1 := by
      rw [hi]
      exact div_of v b hb _ (by rw [Int.mul_add, Int.mul_one]; omega) (by rw [Int.mul_add, Int.mul_one]; omega)
    rw [e, e']
    have t1 := sm_two v b i
    have t2 := sm_two (v - b) b j
    rw [hij] at t1
    have : 2 * sm v b i = 2 * (v - b) + 2 * sm (v - b) b j := by rw [t1, t2]; grind
    omega
theorem wy_mono (b : Int) (hb : 1 ≤ b) : ∀ (n : Nat) (x y : Int), y.toNat ≤ n → x ≤ y → wy x b ≤ wy y b := by
  intro n
  induction n with
  | zero =>
    intro x y hy h
    rw [wy_zero x b hb (by omega), wy_zero y b hb (by omega)]
    omega
  | succ n ih =>
    intro x y hy h
    by_cases h1 : y < 1
    · rw [wy_zero x b hb (by omega), wy_zero y b hb (by omega)]; omega
    · rw [wy_step x b hb, wy_step y b hb]
      have := ih (x - b) (y - b) (by omega) (by omega)
      omega
theorem wy_up {b x y : Int} (hb : 1 ≤ b) (h : x ≤ y) : wy x b ≤ wy y b := wy_mono b hb y.toNat x y (Nat.le_refl _) h
theorem stp_wy (v b : Int) (hb : 1 ≤ b) : stp v b = sat (wy v b) := by
  by_cases h : v < 1
  · unfold stp wy; rw [if_pos (.inl h), if_pos h]; rfl
  · obtain ⟨i, hi, e, _, _⟩ := wy_nat v b hb (by omega)
    rw [e]
    exact stp_sm v b hb (by omega) i hi
/-- a tick of braking -/
theorem brk_step {b p v v' B : Int} (hb : 1 ≤ b) (h : p + wy v b ≤ B) (hv : v' ≤ v - b) : p + max v' 0 + wy v' b ≤ B := by
  have := wy_step v b hb
  have := wy_up hb hv
  omega
end Go.Proofs.Ytjinfjibodoflaa
