/- Pure: rows of numbers with signs. -/
import Derived.Test.YtohepelnbmojiaaGeY
namespace Go.Proofs.Ytohepelnbmojiaa

theorem sm_add (f g : Nat → Int) (a n : Nat) : sm (fun j => f j + g j) a n = sm f a n + sm g a n := by
  induction n with
  | zero => rfl
  | succ n ih => rw [sm, sm, sm, ih]; omega
theorem sm_ext {f g : Nat → Int} {a n : Nat} (h : ∀ i, i < n → f (a + i) = g (a + i)) : sm f a n = sm g a n := by
  induction n with
  | zero => rfl
  | succ n ih => rw [sm, sm, ih (fun i hi => h i (by omega)), h n (by omega)]
theorem sm_mul (f : Nat → Int) (c : Int) (a n : Nat) : sm (fun j => c * f j) a n = c * sm f a n := by
  induction n with
  | zero => simp [sm]
  | succ n ih => rw [sm, sm, ih, Int.mul_add]
theorem sm_zero (a n : Nat) : sm (fun _ => 0) a n = 0 := by
  induction n with
  | zero => rfl
  | succ n ih => rw [sm, ih]; rfl
theorem sm_swap (f : Nat → Nat → Int) (a b n k : Nat) : sm (fun i => sm (fun j => f i j) b k) a n = sm (fun j => sm (fun i => f i j) a n) b k := by
  induction n with
  | zero => show 0 = _; rw [show (fun j => sm (fun i => f i j) a 0) = fun _ => 0 from rfl, sm_zero]
  | succ n ih => rw [sm, ih, ← sm_add]; rfl
theorem sm_nonneg {f : Nat → Int} {a n : Nat} (h : ∀ i, i < n → 0 ≤ f (a + i)) : 0 ≤ sm f a n := by
  induction n with
  | zero => exact Int.le_refl _
  | succ n ih => rw [sm]; have := ih (fun i hi => h i (by omega)); have := h n (by omega); omega
theorem sm_pos {f : Nat → Int} {a n : Nat} (h : ∀ i, i < n → 0 ≤ f (a + i)) (k : Nat) (hk : k < n) (h1 : 0 < f (a + k)) : 0 < sm f a n := by
  induction n with
  | zero => omega
  | succ n ih =>
    rw [sm]
    have h2 := h n (by omega)
    by_cases e : k = n
    · subst e
      have := sm_nonneg (f := f) (a := a) (n := k) (fun i hi => h i (by omega))
      omega
    · have := ih (fun i hi => h i (by omega)) (by omega)
      omega
theorem sm_le {f : Nat → Int} {a n : Nat} {c : Int} (h : ∀ i, i < n → f (a + i) ≤ c) : sm f a n ≤ n * c := by
  induction n with
  | zero => simp [sm]
  | succ n ih =>
    rw [sm]
    have h1 := ih (fun i hi => h i (by omega))
    have h2 := h n (by omega)
    have e : ((n + 1 : Nat) : Int) * c = n * c + c := by rw [Int.natCast_add, Int.add_mul]; simp
    omega
theorem greatest {p : Nat → Prop} [DecidablePred p] (x : Nat → Int) (m : Nat) (h : ∃ k, k < m ∧ p k) : ∃ k, k < m ∧ p k ∧ ∀ j, j < m → p j → x j ≤ x k := by
  induction m with
  | zero => obtain ⟨k, hk, _⟩ := h; omega
  | succ m ih =>
    by_cases hh : ∃ k, k < m ∧ p k
    · obtain ⟨k, h1, h2, h3⟩ := ih hh
      by_cases hm : p m
      · by_cases hx : x k ≤ x m
        · refine ⟨m, by omega, hm, fun j hj pj => ?_⟩
          by_cases e : j = m
          · rw [e]; exact Int.le_refl _
          · exact Int.le_trans (h3 j (by omega) pj) hx
        · refine ⟨k, by omega, h2, fun j hj pj => ?_⟩
          by_cases e : j = m
          · rw [e]; omega
          · exact h3 j (by omega) pj
      · refine ⟨k, by omega, h2, fun j hj pj => ?_⟩
        by_cases e : j = m
        · rw [e] at pj; exact absurd pj hm
        · exact h3 j (by omega) pj
    · obtain ⟨k, h1, h2⟩ := h
      have e : k = m := by
        refine Decidable.byContradiction fun hne => hh ⟨k, by omega, h2⟩
      subst e
      refine ⟨k, by omega, h2, fun j hj pj => ?_⟩
      by_cases e : j = k
      · rw [e]; exact Int.le_refl _
      · exact absurd ⟨j, by omega, pj⟩ hh
section
variable {s x : Nat → Int} {m : Nat} {c : Int}
/-- what is right of z -/
def rw' (s x : Nat → Int) (m : Nat) (z : Int) : Int := sm (fun j => if z < x j then s j else 0) 0 m
theorem row_two (h0 : sm s 0 m = 0) (hR : ∀ k, k < m → s k ≠ 0 → rw' s x m (x k) + (if s k = 1 then 1 else 0) = c) (z : Int) : rw' s x m z = 0 ∨ rw' s x m z = c ∨ rw' s x m z = c - 1 := by
  by_cases h : ∃ k, k < m ∧ (s k ≠ 0 ∧ x k ≤ z)
  · obtain ⟨k, h1, ⟨h2, h3⟩, h4⟩ := greatest (p := fun k => s k ≠ 0 ∧ x k ≤ z) x m h
    have e : rw' s x m z = rw' s x m (x k) := by
      refine sm_ext fun i hi => ?_
      simp only [Nat.zero_add]
      by_cases g : s i = 0
      · rw [g]; simp
      · by_cases g1 : z < x i
        · rw [if_pos g1, if_pos (by omega)]
        · rw [if_neg g1, if_neg]
          have := h4 i hi ⟨g, by omega⟩
          omega
    have := hR k h1 h2
    rw [← e] at this
    split at this <;> omega
  · refine .inl ?_
    rw [← h0]
    refine sm_ext fun i hi => ?_
    simp only [Nat.zero_add]
    by_cases g : z < x i
    · rw [if_pos g]
    · rw [if_neg g]
      refine Decidable.byContradiction fun hne => h ⟨i, hi, fun e => hne e.symm, by omega⟩
theorem row_top (hs : ∀ j, j < m → s j = 0 ∨ s j = 1 ∨ s j = -1) (hR : ∀ k, k < m → s k ≠ 0 → rw' s x m (x k) + (if s k = 1 then 1 else 0) = c) (h : ∃ k, k < m ∧ s k ≠ 0) : (c = 0 ∨ c = 1) ∧ ∃ k, k < m ∧ s k ≠ 0 ∧ 0 < (2 * c - 1) * rw' s x m (x k - 1) := by
  obtain ⟨k, h1, h2, h3⟩ := greatest (p := fun k => s k ≠ 0) x m h
  have z : ∀ i, i < m → s i ≠ 0 → x i = x k → rw' s x m (x i) = 0 := fun i hi hsi hx => by
    rw [← sm_zero 0 m]
    refine sm_ext fun j hj => ?_
    simp only [Nat.zero_add]
    by_cases g : s j = 0
    · rw [g]; simp
    · have := h3 j hj g
      rw [if_neg (by omega)]
  have hc := hR k h1 h2
  rw [z k h1 h2 rfl] at hc
  have hc2 : c = 0 ∨ c = 1 := by split at hc <;> omega
  refine ⟨hc2, k, h1, h2, ?_⟩
  have e : (2 * c - 1) * rw' s x m (x k - 1) = sm (fun j => (2 * c - 1) * (if x k - 1 < x j then s j else 0)) 0 m := (sm_mul _ _ _ _).symm
  rw [e]
  have sg : ∀ i, i < m → s i ≠ 0 → x i = x k → (2 * c - 1) * s i = 1 := fun i hi hsi hx => by
    have a := hR i hi hsi
    rw [z i hi hsi hx] at a
    rcases hs i hi with g | g | g
    · exact absurd g hsi
    · rw [g] at a ⊢; simp at a; rw [← a]; rfl
    · rw [g] at a ⊢; simp at a; rw [← a]; rfl
  refine sm_pos (fun i hi => ?_) k h1 ?_
  · simp only [Nat.zero_add]
    by_cases g : s i = 0
    · rw [g]; simp
    · by_cases g1 : x k - 1 < x i
      · rw [if_pos g1, sg i hi g (by have := h3 i hi g; omega)]; decide
      · rw [if_neg g1]; simp
  · simp only [Nat.zero_add]
    rw [if_pos (by omega), sg k h1 h2 rfl]; decide
theorem cake (lo : Int) : ∀ (n : Nat) (y sv : Int), lo ≤ y → y ≤ lo + n → sm (fun i => if lo + (i : Int) < y then sv else 0) 0 n = sv * (y - lo) := by
  intro n
  induction n with
  | zero =>
    intro y sv h1 h2
    have e : y = lo := by simp at h2; omega
    rw [e]; simp [sm]
  | succ n ih =>
    intro y sv h1 h2
    rw [sm]
    simp only [Nat.zero_add]
    by_cases e : y = lo + (n + 1 : Nat)
    · have e2 : sm (fun i => if lo + (i : Int) < y then sv else 0) 0 n = sm (fun i => if lo + (i : Int) < lo + n then sv else 0) 0 n := sm_ext fun i hi => by
        simp only [Nat.zero_add]
        rw [if_pos (by omega), if_pos (by omega)]
      rw [e2, ih (lo + n) sv (by omega) (Int.le_refl _), if_pos (by omega), e]
      push_cast
      grind
    · rw [ih y sv h1 (by push_cast at *; omega), if_neg (by push_cast at *; omega)]; omega
/-- a row: its ends, one behind the other, add up to a length -/
theorem row_len (hs : ∀ j, j < m → s j = 0 ∨ s j = 1 ∨ s j = -1) (h0 : sm s 0 m = 0) (hR : ∀ k, k < m → s k ≠ 0 → rw' s x m (x k) + (if s k = 1 then 1 else 0) = c) (h : ∃ k, k < m ∧ s k ≠ 0) (lo : Int) (n : Nat) (hx : ∀ j, j < m → s j ≠ 0 → lo ≤ x j ∧ x j ≤ lo + n) :
    (c = 0 ∨ c = 1) ∧ 0 < (2 * c - 1) * sm (fun j => s j * x j) 0 m ∧ (2 * c - 1) * sm (fun j => s j * x j) 0 m ≤ n := by
  obtain ⟨hc, k, h1, h2, h3⟩ := row_top hs hR h
  have key : sm (fun i => rw' s x m (lo + (i : Int))) 0 n = sm (fun j => s j * x j) 0 m := by
    have e1 : sm (fun i => rw' s x m (lo + (i : Int))) 0 n = sm (fun j => sm (fun i => if lo + (i : Int) < x j then s j else 0) 0 n) 0 m := sm_swap (fun i j => if lo + (i : Int) < x j then s j else 0) 0 0 n m
    have e2 : sm (fun j => sm (fun i => if lo + (i : Int) < x j then s j else 0) 0 n) 0 m = sm (fun j => s j * x j + (-lo) * s j) 0 m := sm_ext fun j hj => by
      simp only [Nat.zero_add]
      by_cases g : s j = 0
      · rw [g]; simp; exact sm_zero 0 n
      · rw [cake lo n (x j) (s j) (hx j hj g).1 (hx j hj g).2]; grind
    rw [e1, e2, sm_add, sm_mul, h0]; simp
  have two : ∀ z, 0 ≤ (2 * c - 1) * rw' s x m z ∧ (2 * c - 1) * rw' s x m z ≤ 1 := fun z => by
    rcases row_two (x := x) h0 hR z with e | e | e <;> rw [e] <;> rcases hc with g | g <;> rw [g] <;> decide
  have hk := hx k h1 h2
  have hlo : lo < x k := by
    refine Decidable.byContradiction fun hn => ?_
    have e : rw' s x m (x k - 1) = 0 := by
      rw [← h0]
      refine sm_ext fun j hj => ?_
      simp only [Nat.zero_add]
      by_cases g : s j = 0
      · rw [g]; simp
      · have := hx j hj g
        rw [if_pos (by omega)]
    rw [e] at h3
    omega
  rw [← key, ← sm_mul]
  refine ⟨hc, ?_, ?_⟩
  · refine sm_pos (fun i hi => ?_) (x k - 1 - lo).toNat (by omega) ?_
    · simp only [Nat.zero_add]; exact (two _).1
    · simp only [Nat.zero_add]
      rw [show lo + ((x k - 1 - lo).toNat : Int) = x k - 1 by omega]
      exact h3
  · have := sm_le (f := fun i => (2 * c - 1) * rw' s x m (lo + (i : Int))) (a := 0) (n := n) (c := 1) (fun i _ => (two _).2)
    omega
end
end Go.Proofs.Ytohepelnbmojiaa
