/- Pure: how fast an axis shall go when it is so far away: the more, the further, never above its speed, the same both ways; an axis that is led stays near its reference. -/
import Derived.Test.YthldohfjkjhdcaaFix
namespace Go.Proofs.Ythldohfjkjhdcaa
open Go.RowKit

theorem sqrt_belowC (k : Nat) (n : Int) (h : n < 0) : sqrtFrom k n 0 = 0 := by
  induction k with
  | zero => rfl
  | succ k ih =>
    have hp : (0 : Int) < 2 ^ k := Int.pow_pos (by omega)
    have ht : n.tdiv (0 + 2 ^ k) ≤ 0 := by
      have := Int.tdiv_nonneg (a := -n) (b := 0 + 2 ^ k) (by omega) (by omega)
      rw [Int.neg_tdiv] at this
      omega
    unfold sqrtFrom
    rw [if_neg (by omega)]
    exact ih
theorem le_quotC (n x : Int) (hn : 0 ≤ n) (hx : 0 < x) : x ≤ n.tdiv x ↔ x * x ≤ n := by
  rw [Int.tdiv_eq_ediv_of_nonneg hn]
  exact Int.le_ediv_iff_mul_le hx
/-- what the document's root looks at is what the program's does -/
theorem root_cond (n x : Int) (hn : n ≤ 9223372036854775807) (hx : 0 < x) : (x ≤ 3037000499 ∧ x * x ≤ n) ↔ x ≤ n.tdiv x := by
  by_cases h : 0 ≤ n
  · rw [le_quotC n x h hx]
    refine ⟨fun q => q.2, fun q => ⟨?_, q⟩⟩
    by_cases g : x ≤ 3037000499
    · exact g
    · have := Int.mul_le_mul (a := 3037000500) (b := 3037000500) (c := x) (d := x) (by omega) (by omega) (by omega) (by omega)
      omega
  · have h1 : n.tdiv x ≤ 0 := by
      have := Int.tdiv_nonneg (a := -n) (b := x) (by omega) (by omega)
      rw [Int.neg_tdiv] at this
      omega
    have h2 : 0 ≤ x * x := Int.mul_nonneg (by omega) (by omega)
    constructor
    · rintro ⟨_, q⟩; omega
    · intro q; omega
theorem sqrt_fromC (k : Nat) (n r : Int) (hn : 0 ≤ n) (hr : 0 ≤ r) (h1 : r * r ≤ n) (h2 : n < (r + 2 ^ k) * (r + 2 ^ k)) :
    0 ≤ sqrtFrom k n r ∧ sqrtFrom k n r * sqrtFrom k n r ≤ n ∧ n < (sqrtFrom k n r + 1) * (sqrtFrom k n r + 1) := by
  induction k generalizing r with
  | zero => exact ⟨hr, h1, by show n < (r + 1) * (r + 1); simpa using h2⟩
  | succ k ih =>
    have hp : (0 : Int) < 2 ^ k := Int.pow_pos (by omega)
    unfold sqrtFrom
    have hq := le_quotC n (r + 2 ^ k) hn (by omega)
    split
    · rename_i g
      refine ih (r + 2 ^ k) (by omega) (hq.1 g) ?_
      rw [Int.pow_succ] at h2
      rw [show r + 2 ^ k + 2 ^ k = r + 2 ^ k * 2 by omega]
      exact h2
    · rename_i g
      refine ih r hr h1 ?_
      have : ¬ (r + 2 ^ k) * (r + 2 ^ k) ≤ n := fun q => g (hq.2 q)
      omega
/-- the root -/
def rt (n : Int) : Int := sqrtFrom 32 n 0
theorem rt_facts (n : Int) (h : 0 ≤ n) (h' : n ≤ 9223372036854775807) : 0 ≤ rt n ∧ rt n * rt n ≤ n ∧ n < (rt n + 1) * (rt n + 1) ∧ rt n ≤ 3037000499 := by
  obtain ⟨h1, h2, h3⟩ := sqrt_fromC 32 n 0 h (by omega) (by omega) (by simp; omega)
  unfold rt
  generalize sqrtFrom 32 n 0 = r at *
  refine ⟨h1, h2, h3, ?_⟩
  by_cases g : r ≤ 3037000499
  · exact g
  · have := Int.mul_le_mul (a := 3037000500) (b := 3037000500) (c := r) (d := r) (by omega) (by omega) (by omega) (by omega)
    omega
theorem rt_zero : rt 0 = 0 := by
  have h := rt_facts 0 (by decide) (by decide)
  generalize rt 0 = r at *
  by_cases g : r = 0
  · exact g
  · have := Int.mul_pos (show 0 < r by omega) (show 0 < r by omega)
    omega
theorem rt_mono {a b : Int} (h0 : 0 ≤ a) (h : a ≤ b) (h1 : b ≤ 9223372036854775807) : rt a ≤ rt b := by
  obtain ⟨x0, x1, _, _⟩ := rt_facts a h0 (by omega)
  obtain ⟨y0, _, y2, _⟩ := rt_facts b (by omega) h1
  generalize rt a = x at *
  generalize rt b = y at *
  by_cases g : x ≤ y
  · exact g
  · have := Int.mul_le_mul (a := y + 1) (b := y + 1) (c := x) (d := x) (by omega) (by omega) (by omega) (by omega)
    omega
theorem sat_in (x : Int) : I64 (sat x) := by
  unfold I64 sat
  split
  · omega
  · split <;> omega
theorem sat_mono {a b : Int} (h : a ≤ b) : sat a ≤ sat b := by
  unfold sat
  repeat' split
  all_goals omega
theorem sat_pos {a : Int} (h : 0 ≤ a) : 0 ≤ sat a := by
  unfold sat
  repeat' split
  all_goals omega
/-- an amount: of the least int the greatest -/
def amt (f : Int) : Int := if f < 0 then sat (0 - f) else f
theorem amt_in {f : Int} (h : I64 f) : 0 ≤ amt f ∧ amt f ≤ 9223372036854775807 := by
  unfold I64 at h
  unfold amt sat
  repeat' split
  all_goals omega
/-- how fast an axis shall go over an amount -/
def lawM (m sp ac : Int) : Int := min sp (min (rt (sat (ac * m))) (m / 32))
/-- how fast an axis shall go -/
def lawS (far sp ac : Int) : Int := if sp < 1 ∨ ac < 1 then 0 else if far < 0 then -(lawM (amt far) sp ac) else lawM far sp ac
theorem lawM_in {m sp ac : Int} (hm : 0 ≤ m) (hs : 1 ≤ sp) (ha : 1 ≤ ac) : 0 ≤ lawM m sp ac ∧ lawM m sp ac ≤ sp := by
  have h0 : 0 ≤ ac * m := Int.mul_nonneg (by omega) hm
  have h := rt_facts (sat (ac * m)) (sat_pos h0) (sat_in _).2
  unfold lawM
  omega
theorem lawM_mono {m m' sp ac : Int} (h0 : 0 ≤ m) (h : m ≤ m') (ha : 1 ≤ ac) : lawM m sp ac ≤ lawM m' sp ac := by
  have e0 : 0 ≤ ac * m := Int.mul_nonneg (by omega) h0
  have e1 : ac * m ≤ ac * m' := Int.mul_le_mul_of_nonneg_left h (by omega)
  have h2 := rt_mono (sat_pos e0) (sat_mono e1) (sat_in _).2
  unfold lawM
  omega
theorem lawM_zero {sp ac : Int} (hs : 1 ≤ sp) : lawM 0 sp ac = 0 := by
  unfold lawM
  rw [Int.mul_zero, show sat 0 = 0 from rfl, rt_zero]
  omega
theorem lawS_mono {a b sp ac : Int} (ha : I64 a) (hb : I64 b) (h : a ≤ b) : lawS a sp ac ≤ lawS b sp ac := by
  unfold lawS
  by_cases hc : sp < 1 ∨ ac < 1
  · rw [if_pos hc, if_pos hc]; omega
  · rw [if_neg hc, if_neg hc]
    have ia := amt_in ha
    have ib := amt_in hb
    by_cases h1 : a < 0
    · rw [if_pos h1]
      have pa := lawM_in (m := amt a) (sp := sp) (ac := ac) ia.1 (by omega) (by omega)
      by_cases h2 : b < 0
      · rw [if_pos h2]
        have hm : amt b ≤ amt a := by
          unfold amt
          rw [if_pos h1, if_pos h2]
          exact sat_mono (by omega)
        have := lawM_mono (sp := sp) (ac := ac) ib.1 hm (by omega)
        omega
      · rw [if_neg h2]
        have pb := lawM_in (m := b) (sp := sp) (ac := ac) (by omega) (by omega) (by omega)
        omega
    · rw [if_neg h1, if_neg (by omega)]
      exact lawM_mono (by omega) h (by omega)
theorem lawS_bound {a sp ac : Int} (ha : I64 a) : -(max sp 0) ≤ lawS a sp ac ∧ lawS a sp ac ≤ max sp 0 := by
  unfold lawS
  by_cases hc : sp < 1 ∨ ac < 1
  · rw [if_pos hc]; omega
  · rw [if_neg hc]
    have ia := amt_in ha
    by_cases h1 : a < 0
    · rw [if_pos h1]
      have pa := lawM_in (m := amt a) (sp := sp) (ac := ac) ia.1 (by omega) (by omega)
      omega
    · rw [if_neg h1]
      have pb := lawM_in (m := a) (sp := sp) (ac := ac) (by omega) (by omega) (by omega)
      omega
theorem lawS_sign {a sp ac : Int} (ha : I64 a) : (0 < a → 0 ≤ lawS a sp ac) ∧ (a < 0 → lawS a sp ac ≤ 0) ∧ (a = 0 → lawS a sp ac = 0) := by
  unfold lawS
  by_cases hc : sp < 1 ∨ ac < 1
  · rw [if_pos hc]; omega
  · rw [if_neg hc]
    have ia := amt_in ha
    by_cases h1 : a < 0
    · rw [if_pos h1]
      have pa := lawM_in (m := amt a) (sp := sp) (ac := ac) ia.1 (by omega) (by omega)
      omega
    · rw [if_neg h1]
      have pb := lawM_in (m := a) (sp := sp) (ac := ac) (by omega) (by omega) (by omega)
      refine ⟨by omega, by omega, fun h => ?_⟩
      subst h
      exact lawM_zero (by omega)
theorem lawS_turn {a sp ac : Int} (ha : I64 a) (hl : a ≠ -9223372036854775808) : lawS (sat (0 - a)) sp ac = -(lawS a sp ac) := by
  unfold I64 at ha
  have e : sat (0 - a) = -a := by
    unfold sat
    repeat' split
    all_goals omega
  rw [e]
  unfold lawS
  by_cases hc : sp < 1 ∨ ac < 1
  · rw [if_pos hc, if_pos hc]; omega
  · rw [if_neg hc, if_neg hc]
    by_cases h1 : a < 0
    · rw [if_pos h1, if_neg (by omega)]
      have : amt a = -a := by unfold amt; rw [if_pos h1]; exact e
      rw [this]; omega
    · rw [if_neg h1]
      by_cases h0 : a = 0
      · subst h0
        rw [if_neg (by omega), show (-0 : Int) = 0 from rfl, lawM_zero (by omega)]
        omega
      · rw [if_pos (by omega)]
        have : amt (-a) = a := by
          unfold amt
          rw [if_pos (by omega)]
          unfold sat
          repeat' split
          all_goals omega
        rw [this]
/-- a reference goes nearer, by no more than a step -/
theorem slew_in (a b s : Int) (hs : 0 ≤ s) : -s ≤ slew a b s - a ∧ slew a b s - a ≤ s ∧ ((a ≤ slew a b s ∧ slew a b s ≤ b) ∨ (b ≤ slew a b s ∧ slew a b s ≤ a) ∨ slew a b s = a) := by
  unfold slew
  repeat' split
  all_goals omega
/-- an axis that is as near to its reference as it is told wrong, and as the air is, stays so -/
theorem led {v ref nxt n air off dev : Int} (hn : -off ≤ n ∧ n ≤ off) (ha : -dev ≤ air ∧ air ≤ dev) (hs : -12 ≤ nxt - ref ∧ nxt - ref ≤ 12) (hl : 12 + dev + 2 * off ≤ 64) (hv : -(off + dev) ≤ v - ref ∧ v - ref ≤ off + dev) : clamp (nxt - (v + n)) (-64) 64 = nxt - (v + n) ∧ -(off + dev) ≤ v + (nxt - (v + n)) + air - nxt ∧ v + (nxt - (v + n)) + air - nxt ≤ off + dev := by
  refine ⟨?_, by omega, by omega⟩
  unfold clamp
  rw [if_neg (by omega), if_neg (by omega)]
end Go.Proofs.Ythldohfjkjhdcaa
