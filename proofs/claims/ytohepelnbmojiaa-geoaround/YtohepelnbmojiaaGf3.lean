/- Pure: a simple polygon's area is not 0, and fits. -/
import Derived.Test.YtohepelnbmojiaaGf2
namespace Go.Proofs.Ytohepelnbmojiaa

/-- a plane that is stretched and slanted -/
def lin (α β γ : Int) (p : Pt) : Pt := (α * p.1, β * p.1 + γ * p.2)
theorem lin_cross (α β γ : Int) (a b p : Pt) : cross (lin α β γ a) (lin α β γ b) (lin α β γ p) = (α * γ) * cross a b p := by unfold cross lin; grind
theorem sq_le {g z : Int} (hg : 0 < g) (h : (g * g) * z ≤ 0) : z ≤ 0 := by
  refine Decidable.byContradiction fun hz => ?_
  have : 0 < (g * g) * z := Int.mul_pos (Int.mul_pos hg hg) (by omega)
  omega
theorem lin_on {α β γ : Int} (h1 : 0 < α) (h2 : 0 < γ) {a b p : Pt} (h : onB (lin α β γ a) (lin α β γ b) (lin α β γ p) = true) : onB a b p = true := by
  obtain ⟨c, x, y⟩ := (onB_iff _ _ _).1 h
  rw [lin_cross] at c
  have c0 : cross a b p = 0 := by
    rcases Int.mul_eq_zero.1 c with e | e
    · have := Int.mul_pos h1 h2; omega
    · exact e
  refine on_line c0 (sq_le h1 ?_) fun e1 e2 => sq_le h2 ?_
  · have : (α * α) * ((a.1 - p.1) * (b.1 - p.1)) = ((lin α β γ a).1 - (lin α β γ p).1) * ((lin α β γ b).1 - (lin α β γ p).1) := by unfold lin; grind
    omega
  · have : (γ * γ) * ((a.2 - p.2) * (b.2 - p.2)) = ((lin α β γ a).2 - (lin α β γ p).2) * ((lin α β γ b).2 - (lin α β γ p).2) := by
      have g1 : a.1 = p.1 := by omega
      have g2 : b.1 = p.1 := by omega
      unfold lin; simp only; rw [g1, g2]; grind
    omega
theorem lin_meet {α β γ : Int} (h1 : 0 < α) (h2 : 0 < γ) {a b c d : Pt} (h : MeetP (lin α β γ a) (lin α β γ b) (lin α β γ c) (lin α β γ d)) : MeetP a b c d := by
  have g := meet_com h
  refine com_meet ?_
  unfold comB at g ⊢
  simp only [Bool.or_eq_true, Bool.and_eq_true, decide_eq_true_eq, sg_mul_neg, lin_cross] at g ⊢
  rcases g with (((g | g) | g) | g) | ⟨g1, g2⟩
  · exact .inl (.inl (.inl (.inl (lin_on h1 h2 g))))
  · exact .inl (.inl (.inl (.inr (lin_on h1 h2 g))))
  · exact .inl (.inl (.inr (lin_on h1 h2 g)))
  · exact .inl (.inr (lin_on h1 h2 g))
  · have hp := Int.mul_pos h1 h2
    have f : ∀ x y : Int, (α * γ * x) * (α * γ * y) < 0 → x * y < 0 := fun x y h => by
      refine Decidable.byContradiction fun hz => ?_
      have : 0 ≤ ((α * γ) * (α * γ)) * (x * y) := Int.mul_nonneg (Int.mul_nonneg (by omega) (by omega)) (by omega)
      have e : (α * γ * x) * (α * γ * y) = ((α * γ) * (α * γ)) * (x * y) := by grind
      omega
    exact .inr ⟨f _ _ g1, f _ _ g2⟩
/-- squares, multiplied -/
def prS (E : Nat → Int) : Nat → Int
  | 0 => 1
  | n + 1 => prS E n * (E n * E n)
theorem prS_pos {E : Nat → Int} (h : ∀ k, E k ≠ 0) (n : Nat) : 0 < prS E n := by
  induction n with
  | zero => show (0 : Int) < 1; decide
  | succ n ih =>
    refine Int.mul_pos ih ?_
    rcases Int.lt_or_gt_of_ne (h n) with g | g
    · exact Int.mul_pos_of_neg_of_neg g g
    · exact Int.mul_pos g g
theorem prS_dvd (E : Nat → Int) (n k : Nat) (h : k < n) : ∃ s, prS E n = s * E k := by
  induction n with
  | zero => omega
  | succ n ih =>
    by_cases e : k = n
    · subst e; exact ⟨prS E k * E k, by rw [prS, Int.mul_assoc]⟩
    · obtain ⟨s, hs⟩ := ih (by omega)
      exact ⟨s * (E n * E n), by rw [prS, hs]; grind⟩
/-- a simple polygon -/
structure Sim0 (V : Nat → Pt) (m : Nat) : Prop where
  m3 : 3 ≤ m
  per : ∀ j, V (j + m) = V j
  ne : ∀ k, V k ≠ V (k + 1)
  far : ∀ k j, k + 2 ≤ j → j + 2 ≤ k + m → ¬ MeetP (V j) (V (j + 1)) (V k) (V (k + 1))
  fold1 : ∀ k, ¬ onB (V k) (V (k + 1)) (V (k + 2)) = true
  fold2 : ∀ k, ¬ onB (V (k + 1)) (V (k + 2)) (V k) = true
  fit : ∀ k, -536870912 ≤ (V k).1 ∧ (V k).1 ≤ 536870912 ∧ -536870912 ≤ (V k).2 ∧ (V k).2 ≤ 536870912
theorem Sim0.per_mul {V : Nat → Pt} {m : Nat} (H : Sim0 V m) (k : Nat) : V k = V (k % m) := by
  have : ∀ q r, V (r + q * m) = V r := fun q => by
    induction q with
    | zero => intro r; simp
    | succ q ih => intro r; rw [Nat.succ_mul, ← Nat.add_assoc, H.per, ih]
  have e := this (k / m) (k % m)
  rw [← e]
  congr 1
  have := Nat.mod_add_div k m
  rw [Nat.mul_comm] at this
  exact this.symm
/-- a simple polygon's area is not 0, and less than 2 to the 62nd -/
theorem area_fits {V : Nat → Pt} {m : Nat} (H : Sim0 V m) : ∃ e : Int, (e = 1 ∨ e = -1) ∧ 0 < e * ar2 V m ∧ e * ar2 V m < 4611686018427387904 := by
  have h3 := H.m3
  obtain ⟨E, hE⟩ : ∃ E : Nat → Int, ∀ k, E k = 2 * (2147483648 * ((V (k + 1)).2 - (V k).2) + ((V (k + 1)).1 - (V k).1)) := ⟨_, fun _ => rfl⟩
  have En : ∀ k, E k ≠ 0 := fun k h => by
    rw [hE] at h
    have f1 := H.fit k
    have f2 := H.fit (k + 1)
    refine H.ne k (Prod.ext ?_ ?_) <;> omega
  have Em : ∀ k, E k = E (k % m) := fun k => by
    rw [hE, hE, H.per_mul k, H.per_mul (k + 1), H.per_mul (k % m + 1)]
    rw [show (k % m + 1) % m = (k + 1) % m by rw [Nat.add_mod, Nat.mod_mod, ← Nat.add_mod]]
  obtain ⟨α, hα⟩ : ∃ α, prS E m = α := ⟨_, rfl⟩
  have pα : 0 < α := hα ▸ prS_pos En m
  have sl : ∀ k, ∃ s, α = s * E k := fun k => by rw [Em, ← hα]; exact prS_dvd E m (k % m) (Nat.mod_lt _ (by omega))
  obtain ⟨U, hU⟩ : ∃ U : Nat → Pt, ∀ k, U k = lin α 2 4294967296 (V k) := ⟨_, fun _ => rfl⟩
  have hU1 : ∀ k, (U k).1 = α * (V k).1 := fun k => by rw [hU]; rfl
  have hU2 : ∀ k, (U k).2 = 2 * (V k).1 + 4294967296 * (V k).2 := fun k => by rw [hU]; rfl
  have S : Sim U m := by
    refine ⟨h3, fun j => by rw [hU, hU, H.per], fun k h => ?_, fun k j g1 g2 g => ?_, fun k g => ?_, fun k g => ?_⟩
    · have := En k
      rw [hE] at this
      rw [hU2, hU2] at h
      omega
    · rw [hU, hU, hU, hU] at g
      exact H.far k j g1 g2 (lin_meet pα (by decide) g)
    · rw [hU, hU, hU] at g
      exact H.fold1 k (lin_on pα (by decide) g)
    · rw [hU, hU, hU] at g
      exact H.fold2 k (lin_on pα (by decide) g)
  have ht : ∀ k, ∃ t, (U (k + 1)).1 - (U k).1 = t * ((U (k + 1)).2 - (U k).2) := fun k => by
    obtain ⟨s, hs⟩ := sl k
    refine ⟨s * ((V (k + 1)).1 - (V k).1), ?_⟩
    have e : (U (k + 1)).2 - (U k).2 = E k := by rw [hU2, hU2, hE]; omega
    rw [e, hU1, hU1, hs]; grind
  obtain ⟨t, ht⟩ : ∃ t : Nat → Int, ∀ k, (U (k + 1)).1 - (U k).1 = t k * ((U (k + 1)).2 - (U k).2) := ⟨fun k => Classical.choose (ht k), fun k => Classical.choose_spec (ht k)⟩
  have hA : ar2 U m = (α * 4294967296) * ar2 V m := by
    unfold ar2
    rw [← sm_mul]
    refine sm_ext fun k _ => ?_
    simp only [Nat.zero_add]
    rw [hU1, hU1, hU2, hU2]; grind
  obtain ⟨e, he, p1, p2⟩ := area_main S ht (-1152921505143717888) 2305843010287435776 (fun k => ((V k).1 + 2147483648 * (V k).2 + 1152921505143717888).toNat) (fun k => by
    have f := H.fit k
    rw [hU2]
    constructor <;> omega) (-(α * 536870912)) (α * 1073741824).toNat (fun k => by
    have f := H.fit k
    rw [hU1]
    have a1 : 0 ≤ α * ((V k).1 + 536870912) := Int.mul_nonneg (by omega) (by omega)
    have a2 : 0 ≤ α * (536870912 - (V k).1) := Int.mul_nonneg (by omega) (by omega)
    constructor
    · grind
    · have : ((α * 1073741824).toNat : Int) = α * 1073741824 := by omega
      rw [this]; grind)
  rw [hA] at p1 p2
  have hn : ((α * 1073741824).toNat : Int) = α * 1073741824 := by omega
  rw [hn] at p2
  refine ⟨e, he, ?_, ?_⟩
  · refine Decidable.byContradiction fun hz => ?_
    have : (α * 4294967296) * (e * ar2 V m) ≤ 0 := Int.mul_nonpos_of_nonneg_of_nonpos (by omega) (by omega)
    have e2 : e * (α * 4294967296 * ar2 V m) = (α * 4294967296) * (e * ar2 V m) := by grind
    omega
  · refine Decidable.byContradiction fun hz => ?_
    have g : α * 4611686018427387904 ≤ α * (e * ar2 V m) := Int.mul_le_mul_of_nonneg_left (by omega) (by omega)
    have e2 : e * (α * 4294967296 * ar2 V m) = 4294967296 * (α * (e * ar2 V m)) := by grind
    rw [e2] at p2
    have hN : ((2305843010287435776 : Nat) : Int) = 2305843010287435776 := rfl
    rw [hN] at p2
    omega
end Go.Proofs.Ytohepelnbmojiaa
