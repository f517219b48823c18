/- Pure: a polygon's area, row by row. -/
import Derived.Test.YtohepelnbmojiaaGf1
namespace Go.Proofs.Ytohepelnbmojiaa

theorem row_sum (X t : Int) : ∀ (N r : Nat), r ≤ N → sm (fun i => if i < r then X + t * (2 * (i : Int) + 1) else 0) 0 N = r * X + t * (r * r) := by
  intro N
  induction N with
  | zero => intro r hr; obtain rfl : r = 0 := by omega
            simp [sm]
  | succ N ih =>
    intro r hr
    rw [sm]
    simp only [Nat.zero_add]
    by_cases e : r = N + 1
    · subst e
      have e2 : sm (fun i => if i < N + 1 then X + t * (2 * (i : Int) + 1) else 0) 0 N = sm (fun i => if i < N then X + t * (2 * (i : Int) + 1) else 0) 0 N := sm_ext fun i hi => by
        simp only [Nat.zero_add]
        rw [if_pos (by omega), if_pos (by omega)]
      rw [e2, ih N (Nat.le_refl _), if_pos (by omega)]
      push_cast
      grind
    · rw [ih r (by omega), if_neg (by omega)]; omega
/-- twice a polygon's area -/
def ar2 (V : Nat → Pt) (m : Nat) : Int := sm (fun k => (V k).1 * (V (k + 1)).2 - (V k).2 * (V (k + 1)).1) 0 m
section
variable {V : Nat → Pt} {m : Nat} {t : Nat → Int}
/-- a side's share, row by row -/
theorem side_rows (ht : ∀ k, (V (k + 1)).1 - (V k).1 = t k * ((V (k + 1)).2 - (V k).2)) (h0 : Int) (N : Nat) (r : Nat → Nat) (hr : ∀ k, r k ≤ N ∧ (V k).2 = 2 * (h0 + r k)) (k : Nat) : ((V k).1 + (V (k + 1)).1) * ((V (k + 1)).2 - (V k).2) = 4 * sm (fun i => sr V (2 * (h0 + (i : Int)) + 1) k * xr V t (2 * (h0 + (i : Int)) + 1) k) 0 N := by
  obtain ⟨a1, a2⟩ := hr k
  obtain ⟨b1, b2⟩ := hr (k + 1)
  obtain ⟨X, hX⟩ : ∃ X, X = (V k).1 - t k * (2 * (r k : Int)) := ⟨_, rfl⟩
  have e1 := row_sum X (t k) N (r (k + 1)) b1
  have e2 := row_sum X (t k) N (r k) a1
  have e3 : sm (fun i => sr V (2 * (h0 + (i : Int)) + 1) k * xr V t (2 * (h0 + (i : Int)) + 1) k) 0 N = sm (fun i => (if i < r (k + 1) then X + t k * (2 * (i : Int) + 1) else 0) - (if i < r k then X + t k * (2 * (i : Int) + 1) else 0)) 0 N := sm_ext fun i _ => by
    simp only [Nat.zero_add]
    have ex : xr V t (2 * (h0 + (i : Int)) + 1) k = X + t k * (2 * (i : Int) + 1) := by unfold xr; rw [hX, a2]; grind
    rw [ex]
    unfold sr
    rw [a2, b2]
    by_cases g1 : i < r (k + 1) <;> by_cases g2 : i < r k
    · rw [if_pos g1, if_pos g2, if_pos (by omega), if_pos (by omega)]; omega
    · rw [if_pos g1, if_neg g2, if_pos (by omega), if_neg (by omega)]; omega
    · rw [if_neg g1, if_pos g2, if_neg (by omega), if_pos (by omega)]; omega
    · rw [if_neg g1, if_neg g2, if_neg (by omega), if_neg (by omega)]; omega
  rw [e3, ← sm_sub, e1, e2]
  have e4 := ht k
  rw [a2, b2] at e4 ⊢
  have e5 : (V k).1 = X + t k * (2 * (r k : Int)) := by omega
  have e6 : (V (k + 1)).1 = X + t k * (2 * (r (k + 1) : Int)) := by grind
  rw [e5, e6]; grind
theorem area_rows (H : Sim V m) (ht : ∀ k, (V (k + 1)).1 - (V k).1 = t k * ((V (k + 1)).2 - (V k).2)) (h0 : Int) (N : Nat) (r : Nat → Nat) (hr : ∀ k, r k ≤ N ∧ (V k).2 = 2 * (h0 + r k)) : ar2 V m = 4 * sm (fun i => sm (fun k => sr V (2 * (h0 + (i : Int)) + 1) k * xr V t (2 * (h0 + (i : Int)) + 1) k) 0 m) 0 N := by
  have e1 : ar2 V m = sm (fun k => ((V k).1 + (V (k + 1)).1) * ((V (k + 1)).2 - (V k).2)) 0 m := by
    have d : sm (fun k => (V (k + 1)).1 * (V (k + 1)).2 - (V k).1 * (V k).2) 0 m = 0 := by
      rw [sm_tele _ (fun j => (V j).1 * (V j).2) 0 m (fun i _ => rfl)]
      have e : V m = V 0 := by have := H.per 0; rwa [Nat.zero_add] at this
      simp only [Nat.zero_add]
      rw [e]; omega
    have s : sm (fun k => ((V k).1 + (V (k + 1)).1) * ((V (k + 1)).2 - (V k).2)) 0 m = ar2 V m + sm (fun k => (V (k + 1)).1 * (V (k + 1)).2 - (V k).1 * (V k).2) 0 m := by
      unfold ar2
      rw [← sm_add]
      exact sm_ext fun i _ => by simp only [Nat.zero_add]; grind
    omega
  rw [e1, sm_swap (fun i k => sr V (2 * (h0 + (i : Int)) + 1) k * xr V t (2 * (h0 + (i : Int)) + 1) k) 0 0 N m, ← sm_mul]
  exact sm_ext fun k _ => by simp only [Nat.zero_add]; exact side_rows ht h0 N r hr k
theorem area_main (H : Sim V m) (ht : ∀ k, (V (k + 1)).1 - (V k).1 = t k * ((V (k + 1)).2 - (V k).2)) (h0 : Int) (N : Nat) (r : Nat → Nat) (hr : ∀ k, r k ≤ N ∧ (V k).2 = 2 * (h0 + r k)) (lo : Int) (n : Nat) (hx : ∀ k, lo ≤ (V k).1 ∧ (V k).1 ≤ lo + n) : ∃ e : Int, (e = 1 ∨ e = -1) ∧ 0 < e * ar2 V m ∧ e * ar2 V m ≤ 4 * (N * n) := by
  have odd : ∀ (i : Nat) (k : Nat), (V k).2 ≠ 2 * (h0 + (i : Int)) + 1 := fun i k => by rw [(hr k).2]; omega
  have rows : ∀ i : Nat, (∃ k, k < m ∧ sr V (2 * (h0 + (i : Int)) + 1) k ≠ 0) → (lft V m 0 = 0 ∨ lft V m 0 = 1) ∧ 0 < (2 * lft V m 0 - 1) * sm (fun k => sr V (2 * (h0 + (i : Int)) + 1) k * xr V t (2 * (h0 + (i : Int)) + 1) k) 0 m ∧ (2 * lft V m 0 - 1) * sm (fun k => sr V (2 * (h0 + (i : Int)) + 1) k * xr V t (2 * (h0 + (i : Int)) + 1) k) 0 m ≤ n := fun i hi =>
    row_len (fun j _ => sr_cases V _ j) (sr_sum H _) (fun k _ hk => row_right H ht _ (odd i) k hk) hi lo n (fun j _ hj => xr_in ht j _ hj lo (lo + n) (hx j) (hx (j + 1)))
  have each : ∀ i : Nat, 0 ≤ (2 * lft V m 0 - 1) * sm (fun k => sr V (2 * (h0 + (i : Int)) + 1) k * xr V t (2 * (h0 + (i : Int)) + 1) k) 0 m ∧ (2 * lft V m 0 - 1) * sm (fun k => sr V (2 * (h0 + (i : Int)) + 1) k * xr V t (2 * (h0 + (i : Int)) + 1) k) 0 m ≤ n := fun i => by
    by_cases h : ∃ k, k < m ∧ sr V (2 * (h0 + (i : Int)) + 1) k ≠ 0
    · have := rows i h; omega
    · have z : sm (fun k => sr V (2 * (h0 + (i : Int)) + 1) k * xr V t (2 * (h0 + (i : Int)) + 1) k) 0 m = 0 := by
        rw [← sm_zero 0 m]
        refine sm_ext fun k hk => ?_
        simp only [Nat.zero_add]
        have : sr V (2 * (h0 + (i : Int)) + 1) k = 0 := Decidable.byContradiction fun g => h ⟨k, hk, g⟩
        rw [this]; omega
      rw [z]; omega
  have h3 := H.m3
  obtain ⟨i, hi, hc⟩ : ∃ i, i < N ∧ sr V (2 * (h0 + (i : Int)) + 1) 0 ≠ 0 := by
    have n1 := H.ne 0
    have a := hr 0
    have b := hr 1
    rw [a.2, b.2] at n1
    refine ⟨min (r 0) (r 1), by omega, ?_⟩
    unfold sr
    rw [Nat.zero_add, a.2, b.2]
    split <;> split <;> omega
  obtain ⟨hc2, hp, _⟩ := rows i ⟨0, by omega, hc⟩
  refine ⟨2 * lft V m 0 - 1, by omega, ?_, ?_⟩
  · rw [area_rows H ht h0 N r hr]
    have : 0 < (2 * lft V m 0 - 1) * sm (fun i => sm (fun k => sr V (2 * (h0 + (i : Int)) + 1) k * xr V t (2 * (h0 + (i : Int)) + 1) k) 0 m) 0 N := by
      rw [← sm_mul]
      exact sm_pos (fun i _ => by simp only [Nat.zero_add]; exact (each i).1) i hi (by simp only [Nat.zero_add]; exact hp)
    grind
  · rw [area_rows H ht h0 N r hr]
    have : (2 * lft V m 0 - 1) * sm (fun i => sm (fun k => sr V (2 * (h0 + (i : Int)) + 1) k * xr V t (2 * (h0 + (i : Int)) + 1) k) 0 m) 0 N ≤ N * n := by
      rw [← sm_mul]
      exact sm_le (fun i _ => by simp only [Nat.zero_add]; exact (each i).2)
    grind
end
end Go.Proofs.Ytohepelnbmojiaa
