/- Dividing two words by one, half a word at a time: the mathematics of a step. -/
import Derived.Test.YtjinfjibodoflaaLead
namespace Go.Proofs.Ytjinfjibodoflaa
open Go.RowKit

/-- q is not below the digit, and r is what it leaves of the high part -/
def J (u u1 y1 Y q r : Int) : Prop := q * y1 + r = u ∧ 0 ≤ r ∧ 0 ≤ q ∧ u * 4294967296 + u1 < (q + 1) * Y
/-- q is the digit -/
def E (u u1 Y q : Int) : Prop := 0 ≤ q ∧ q ≤ 4294967295 ∧ q * Y ≤ u * 4294967296 + u1 ∧ u * 4294967296 + u1 < q * Y + Y
/-- what the divisor's halves are -/
structure H (y1 y0 Y : Int) : Prop where
  e : Y = y1 * 4294967296 + y0
  a : 2147483648 ≤ y1
  b : y1 ≤ 4294967295
  c : 0 ≤ y0
  d : y0 ≤ 4294967295

theorem H.mul {y1 y0 Y : Int} (h : H y1 y0 Y) (q : Int) : q * Y = q * y1 * 4294967296 + q * y0 := by
  rw [h.e, Int.mul_add, Int.mul_assoc]
theorem j_start {u u1 y1 y0 Y : Int} (h : H y1 y0 Y) (hu : 0 ≤ u) (h0 : 0 ≤ u1) (h1 : u1 ≤ 4294967295) : J u u1 y1 Y (u / y1) (u - u / y1 * y1) := by
  have ha := h.a
  have e1 := Int.mul_ediv_add_emod u y1
  have e2 := Int.emod_nonneg u (show y1 ≠ 0 by omega)
  have e3 := Int.emod_lt_of_pos u (show 0 < y1 by omega)
  have hq : 0 ≤ u / y1 := Int.ediv_nonneg hu (by omega)
  rw [Int.mul_comm] at e1
  generalize u / y1 = q at *
  refine ⟨by omega, by omega, hq, ?_⟩
  rw [Int.add_mul, h.mul]
  have e5 := h.e
  have := Int.mul_nonneg hq h.c
  have := h.c
  omega
theorem quot_le {u y1 y0 Y : Int} (h : H y1 y0 Y) (hu : 0 ≤ u) (hY : u ≤ 18446744073709551615) : 0 ≤ u / y1 ∧ u / y1 ≤ 8589934591 ∧ 0 ≤ u / y1 * y1 ∧ u / y1 * y1 ≤ u ∧ u - u / y1 * y1 < y1 := by
  have ha := h.a
  have e1 := Int.mul_ediv_add_emod u y1
  have e2 := Int.emod_nonneg u (show y1 ≠ 0 by omega)
  have e3 := Int.emod_lt_of_pos u (show 0 < y1 by omega)
  have hq : 0 ≤ u / y1 := Int.ediv_nonneg hu (by omega)
  have h2 : u / y1 ≤ 8589934591 := by
    have := Int.ediv_le_ediv (a := u) (b := 18446744073709551615) (c := y1) (by omega) hY
    have h4 : (18446744073709551615 : Int) / y1 < 8589934592 := by
      refine Int.ediv_lt_of_lt_mul (by omega) ?_
      omega
    omega
  rw [Int.mul_comm] at e1
  refine ⟨hq, h2, Int.mul_nonneg hq (by omega), by omega, by omega⟩
theorem j_step {u u1 y1 y0 Y q r : Int} (h : H y1 y0 Y) (hu : u < Y) (h1 : u1 ≤ 4294967295) (j : J u u1 y1 Y q r) (hc : 4294967296 ≤ q ∨ 4294967296 * r + u1 < q * y0) (hu1 : 0 ≤ u1) : 1 ≤ q ∧ J u u1 y1 Y (q - 1) (r + y1) := by
  obtain ⟨j1, j2, j3, j4⟩ := j
  have hq : 1 ≤ q := by
    by_cases g : q = 0
    · subst g; simp at hc; omega
    · omega
  refine ⟨hq, by rw [Int.sub_mul]; omega, by have := h.a; omega, by omega, ?_⟩
  rw [show q - 1 + 1 = q by omega]
  rcases hc with hc | hc
  · have := Int.mul_le_mul_of_nonneg_right hc (show 0 ≤ Y by have := h.e; have := h.a; have := h.c; omega)
    omega
  · rw [h.mul]
    omega
theorem e_done {u u1 y1 y0 Y q r : Int} (h : H y1 y0 Y) (j : J u u1 y1 Y q r) (h1 : q < 4294967296) (h2 : q * y0 ≤ 4294967296 * r + u1) : E u u1 Y q := by
  obtain ⟨j1, j2, j3, j4⟩ := j
  refine ⟨j3, by omega, ?_, by rw [Int.add_mul] at j4; omega⟩
  rw [h.mul]
  omega
theorem e_break {u u1 y1 y0 Y q r : Int} (h : H y1 y0 Y) (hu : u < Y) (hu1 : 0 ≤ u1) (j : J u u1 y1 Y q r) (h1 : 4294967296 ≤ r) : E u u1 Y q := by
  have hq : q < 4294967296 := by
    by_cases g : q < 4294967296
    · exact g
    · have := Int.mul_le_mul_of_nonneg_right (show (4294967296 : Int) ≤ q by omega) (show 0 ≤ y1 by have := h.a; omega)
      have := j.1
      have := h.e
      have := h.d
      omega
  refine e_done h j hq ?_
  have := Int.mul_le_mul (show q ≤ 4294967295 by omega) h.d h.c (by omega)
  omega
/-- what a digit leaves, as it is reckoned -/
theorem e_rest {u u1 Y q : Int} (e : E u u1 Y q) (hY : Y ≤ 18446744073709551615) : IntKind.u64.wrap (IntKind.u64.wrap (IntKind.u64.wrap (u * 4294967296) + u1) - IntKind.u64.wrap (q * Y)) = u * 4294967296 + u1 - q * Y := by
  obtain ⟨_, _, e1, e2⟩ := e
  simp only [IntKind.wrap_u64]
  omega
/-- the digits are the quotient's, and what is left is the rest -/
theorem div_end {X y S u v u1 u0 q1 q0 : Int} (hS : 1 ≤ S) (hU : X * S = u * 18446744073709551616 + v) (hv : v = u1 * 4294967296 + u0) (e1 : E u u1 (y * S) q1) (e2 : E (u * 4294967296 + u1 - q1 * (y * S)) u0 (y * S) q0) :
    X / y = q1 * 4294967296 + q0 ∧ X % y = ((u * 4294967296 + u1 - q1 * (y * S)) * 4294967296 + u0 - q0 * (y * S)) / S := by
  obtain ⟨_, _, a1, a2⟩ := e1
  obtain ⟨_, _, b1, b2⟩ := e2
  have hd : (u * 4294967296 + u1 - q1 * (y * S)) * 4294967296 + u0 - q0 * (y * S) = (X - (q1 * 4294967296 + q0) * y) * S := by
    have e1 : (X - (q1 * 4294967296 + q0) * y) * S = X * S - (q1 * (y * S) * 4294967296 + q0 * (y * S)) := by
      rw [Int.sub_mul, Int.add_mul, Int.add_mul, Int.mul_assoc q0, Int.mul_right_comm q1, Int.mul_right_comm (q1 * y), Int.mul_assoc q1 y S]
    omega
  have hr : ((u * 4294967296 + u1 - q1 * (y * S)) * 4294967296 + u0 - q0 * (y * S)) / S = X - (q1 * 4294967296 + q0) * y := by
    rw [hd]; exact Int.mul_ediv_cancel _ (by omega)
  have g1 : 0 ≤ (X - (q1 * 4294967296 + q0) * y) * S := by omega
  have g2 : (X - (q1 * 4294967296 + q0) * y) * S < y * S := by omega
  have k1 : 0 ≤ X - (q1 * 4294967296 + q0) * y := Int.nonneg_of_mul_nonneg_left g1 (by omega)
  have k2 : X - (q1 * 4294967296 + q0) * y < y := Int.lt_of_mul_lt_mul_right g2 (by omega)
  have hu := (Int.ediv_emod_unique (a := X) (b := y) (q := q1 * 4294967296 + q0) (r := X - (q1 * 4294967296 + q0) * y) (by omega)).2 ⟨by rw [Int.mul_comm y]; omega, k1, k2⟩
  exact ⟨hu.1, by rw [hr]; exact hu.2⟩
/-- the dividend, moved up -/
theorem div_up {hi lo y : Int} {s : Nat} (h1 : 1 ≤ hi) (h2 : hi < y) (h4 : 0 ≤ lo) (h5 : lo ≤ 18446744073709551615) (hs : s ≤ 63) (hs2 : y * 2 ^ s ≤ 18446744073709551615) :
    ∃ u v, bits .or .u64 (IntKind.u64.wrap (hi * 2 ^ s)) (lo / 2 ^ (64 - s)) = u ∧ IntKind.u64.wrap (lo * 2 ^ s) = v ∧ 0 ≤ u ∧ u < y * 2 ^ s ∧ 0 ≤ v ∧ v ≤ 18446744073709551615 ∧ (hi * 18446744073709551616 + lo) * 2 ^ s = u * 18446744073709551616 + v := by
  have hS : (1 : Int) ≤ 2 ^ s := by have := Int.pow_pos (n := (2 : Int)) (m := s) (by omega); omega
  have hT : (1 : Int) ≤ 2 ^ (64 - s) := by have := Int.pow_pos (n := (2 : Int)) (m := 64 - s) (by omega); omega
  have hST : (2 : Int) ^ s * 2 ^ (64 - s) = 18446744073709551616 := by
    rw [← Int.pow_add, show s + (64 - s) = 64 by omega]; rfl
  have hlt : hi * 2 ^ s < y * 2 ^ s := Int.mul_lt_mul_of_pos_right h2 (by omega)
  have h0 : 0 ≤ hi * 2 ^ s := Int.mul_nonneg (by omega) (by omega)
  have hw : IntKind.u64.wrap (hi * 2 ^ s) = hi * 2 ^ s := by rw [IntKind.wrap_u64]; omega
  have hq0 : 0 ≤ lo / 2 ^ (64 - s) := Int.ediv_nonneg h4 (by omega)
  have hq1 : lo / 2 ^ (64 - s) < 2 ^ s := by
    refine Int.ediv_lt_of_lt_mul (by omega) ?_
    omega
  have hle : hi * 2 ^ s + 2 ^ s ≤ y * 2 ^ s := by
    have := Int.mul_le_mul_of_nonneg_right (show hi + 1 ≤ y by omega) (show (0 : Int) ≤ 2 ^ s by omega)
    rw [Int.add_mul] at this
    omega
  have hor : bits .or .u64 (hi * 2 ^ s) (lo / 2 ^ (64 - s)) = hi * 2 ^ s + lo / 2 ^ (64 - s) :=
    bits_join .u64 64 (by decide) (fun n g g' => by rw [IntKind.wrap_u64]; omega) s _ _ h0 (by simp) (by omega) hq0 hq1 (by omega)
  have hm := Int.mul_ediv_add_emod lo (2 ^ (64 - s))
  have hm1 := Int.emod_nonneg lo (show (2 : Int) ^ (64 - s) ≠ 0 by omega)
  have hm2 := Int.emod_lt_of_pos lo (show (0 : Int) < 2 ^ (64 - s) by omega)
  have hA : lo * 2 ^ s = lo / 2 ^ (64 - s) * 18446744073709551616 + lo % 2 ^ (64 - s) * 2 ^ s := by
    have e : lo * 2 ^ s = (2 ^ (64 - s) * (lo / 2 ^ (64 - s)) + lo % 2 ^ (64 - s)) * 2 ^ s := by rw [hm]
    rw [e, Int.add_mul, Int.mul_comm (2 ^ (64 - s)), Int.mul_assoc, Int.mul_comm (2 ^ (64 - s)), hST]
  have hC0 : 0 ≤ lo % 2 ^ (64 - s) * 2 ^ s := Int.mul_nonneg hm1 (by omega)
  have hC1 : lo % 2 ^ (64 - s) * 2 ^ s < 18446744073709551616 := by
    have := Int.mul_lt_mul_of_pos_right hm2 (show (0 : Int) < 2 ^ s by omega)
    rw [Int.mul_comm (2 ^ (64 - s)), hST] at this
    exact this
  refine ⟨hi * 2 ^ s + lo / 2 ^ (64 - s), lo * 2 ^ s - lo / 2 ^ (64 - s) * 18446744073709551616, by rw [hw, hor], ?_, by omega, by omega, by omega, by omega, ?_⟩
  · rw [IntKind.wrap_u64]
    generalize lo * 2 ^ s = A at *
    generalize lo / 2 ^ (64 - s) = B at *
    generalize lo % 2 ^ (64 - s) * 2 ^ s = C at *
    omega
  · rw [Int.add_mul, Int.mul_right_comm]; omega
end Go.Proofs.Ytjinfjibodoflaa
