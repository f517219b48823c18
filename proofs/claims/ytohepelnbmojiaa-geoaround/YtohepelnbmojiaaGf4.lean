/- Pure: a polygon that Simple lets by has an area that is not 0. -/
import Derived.Test.YtohepelnbmojiaaGf3
import Derived.Test.YtohepelnbmojiaaGeV
namespace Go.Proofs.Ytohepelnbmojiaa
open Go.RowKit

theorem ne_mod {m a b : Nat} (h : a < b) (h2 : b < a + m) : a % m ≠ b % m := fun e => by
  have := Nat.sub_mod_eq_zero_of_mod_eq e.symm
  rw [Nat.mod_eq_of_lt (by omega)] at this
  omega
theorem nxt_of (m k : Nat) : nxt m (k % m) = (k + 1) % m := by unfold nxt; rw [Nat.mod_add_mod]
/-- a polygon that is found simple -/
theorem sim0_of {l : List Pt} (h : simE l = 0) : Sim0 (fun k => pt l (k % l.length)) l.length := by
  obtain ⟨m, hm⟩ : ∃ m, l.length = m := ⟨_, rfl⟩
  unfold simE at h
  rw [hm] at h
  by_cases c1 : m < 3
  · rw [if_pos c1] at h; omega
  rw [if_neg c1] at h
  by_cases c2 : 64 < m
  · rw [if_pos c2] at h; omega
  rw [if_neg c2] at h
  by_cases c3 : l.all fitB = false
  · rw [if_pos c3] at h; omega
  rw [if_neg c3] at h
  by_cases c4 : twinB l m = true
  · rw [if_pos c4] at h; omega
  rw [if_neg c4] at h
  by_cases c5 : tangB l m = true
  · rw [if_pos c5] at h; omega
  have fit : l.all fitB = true := by cases e : l.all fitB <;> simp_all
  have lt : ∀ k, k % m < m := fun k => Nat.mod_lt _ (by omega)
  have pr : ∀ i j, pairB l m (i % m) (j % m) = false := fun i j => by
    refine Bool.eq_false_iff.2 fun g => c5 ?_
    exact List.any_eq_true.2 ⟨⟨i % m, lt i⟩, List.mem_finRange _, List.any_eq_true.2 ⟨⟨j % m, lt j⟩, List.mem_finRange _, g⟩⟩
  have fold : ∀ k, ¬ onB (pt l (k % m)) (pt l ((k + 1) % m)) (pt l ((k + 2) % m)) = true ∧ ¬ onB (pt l ((k + 1) % m)) (pt l ((k + 2) % m)) (pt l (k % m)) = true := fun k => by
    have g := pr k (k + 1)
    unfold pairB at g
    rw [nxt_of, nxt_of] at g
    have n1 : ¬ ((k + 1) % m = k % m ∨ k % m = (k + 1 + 1) % m) := by
      rintro (e | e)
      · exact ne_mod (m := m) (show k < k + 1 by omega) (by omega) e.symm
      · exact ne_mod (m := m) (show k < k + 1 + 1 by omega) (by omega) e
    rw [if_neg n1, if_pos rfl, on_flat, on_flat] at g
    simp only [Bool.or_eq_false_iff] at g
    exact ⟨by rw [show k + 2 = k + 1 + 1 from rfl, g.1]; simp, by rw [show k + 2 = k + 1 + 1 from rfl, g.2]; simp⟩
  rw [hm]
  refine ⟨by omega, fun j => by simp only [Nat.add_mod_right], fun k e => ?_, fun k j g1 g2 g => ?_, fun k => (fold k).1, fun k => (fold k).2, fun k => ?_⟩
  · refine c4 (List.any_eq_true.2 ⟨⟨k % m, lt k⟩, List.mem_finRange _, ?_⟩)
    show sameB l m (k % m) = true
    have e1 := congrArg Prod.fst e
    have e2 := congrArg Prod.snd e
    unfold sameB
    rw [nxt_of]
    simp only [Bool.and_eq_true, decide_eq_true_eq]
    exact ⟨e1, e2⟩
  · have q := pr j k
    unfold pairB at q
    rw [nxt_of, nxt_of] at q
    have n1 : ¬ (k % m = j % m ∨ j % m = (k + 1) % m) := by
      rintro (e | e)
      · exact ne_mod (m := m) (show k < j by omega) (by omega) e
      · exact ne_mod (m := m) (show k + 1 < j by omega) (by omega) e.symm
    have n2 : ¬ k % m = (j + 1) % m := fun e => ne_mod (m := m) (show k < j + 1 by omega) (by omega) e
    rw [if_neg n1, if_neg n2] at q
    have this : meetB (pt l (j % m)) (pt l ((j + 1) % m)) (pt l (k % m)) (pt l ((k + 1) % m)) = true := (meetB_iff _ _ _ _).2 g
    rw [q] at this
    cases this
  · exact fit_of (at_all fit (by rw [hm]; exact lt k))
theorem sum_ar2 (l : List Pt) (m : Nat) : ∀ n, n ≤ m → sumA l m (upto m n) = sm (fun k => (pt l (k % m)).1 * (pt l ((k + 1) % m)).2 - (pt l (k % m)).2 * (pt l ((k + 1) % m)).1) 0 n := by
  intro n
  induction n with
  | zero => intro _; simp [upto, sumA, sm]
  | succ n ih =>
    intro hn
    rw [upto_succ (by omega), sm, ← ih (by omega)]
    unfold sumA
    rw [List.foldl_append, List.foldl_cons, List.foldl_nil]
    simp only [Nat.zero_add]
    rw [Nat.mod_eq_of_lt (show n < m by omega)]
    rfl
/-- a simple polygon's area is not 0 -/
theorem ara_not0 (l : List Pt) (h : simE l = 0) : araI l ≠ 0 := by
  obtain ⟨e, he, p1, p2⟩ := area_fits (sim0_of h)
  unfold araI
  rw [if_pos h, arS_eq, ← upto_all, sum_ar2 l l.length l.length (Nat.le_refl _)]
  have e2 : ar2 (fun k => pt l (k % l.length)) l.length = sm (fun k => (pt l (k % l.length)).1 * (pt l ((k + 1) % l.length)).2 - (pt l (k % l.length)).2 * (pt l ((k + 1) % l.length)).1) 0 l.length := rfl
  rw [e2] at p1 p2
  intro g
  unfold wrap64 at g
  rcases he with rfl | rfl <;> omega
end Go.Proofs.Ytohepelnbmojiaa
