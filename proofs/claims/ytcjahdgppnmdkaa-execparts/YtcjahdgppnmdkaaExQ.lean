/- Package exec: a plan of the first jobs: pure; two plans side by side. -/
import Derived.Test.YtcjahdgppnmdkaaLwQ2
set_option maxRecDepth 100000
namespace Go.Proofs.Ytcjahdgppnmdkaa
open Go.RowKit Go.Great

theorem tw_congr {α : Type} {p q : α → Bool} : ∀ {l : List α}, (∀ x ∈ l, p x = q x) → l.takeWhile p = l.takeWhile q ∧ l.dropWhile p = l.dropWhile q
  | [], _ => ⟨rfl, rfl⟩
  | x :: l, h => by
    obtain ⟨h1, h2⟩ := tw_congr (l := l) (fun y hy => h y (List.mem_cons_of_mem _ hy))
    have hx := h x (by simp)
    rw [List.takeWhile_cons, List.takeWhile_cons, List.dropWhile_cons, List.dropWhile_cons, hx, h1, h2]
    exact ⟨rfl, rfl⟩
theorem jbA_take {L : List Jb} {k i : Nat} (h : i < k) : jbA (L.take k) i = jbA L i := by
  unfold jbA
  rw [List.getD, List.getD, List.getElem?_take, if_pos h]
theorem ins_take {L : List Jb} {k i : Nat} {l : List Nat} (hi : i < k) (hl : ∀ x ∈ l, x < k) : ins (L.take k) i l = ins L i l := by
  unfold ins
  obtain ⟨h1, h2⟩ := tw_congr (p := fun x => decide ((jbA (L.take k) x).rk ≤ (jbA (L.take k) i).rk)) (q := fun x => decide ((jbA L x).rk ≤ (jbA L i).rk)) (l := l) (fun x hx => by rw [jbA_take (hl x hx), jbA_take hi])
  rw [h1, h2]
theorem dueN_take (L : List Jb) (t : Int) (k : Nat) : ∀ n, n ≤ k → dueN (L.take k) t n = dueN L t n
  | 0, _ => rfl
  | n + 1, h => by
    unfold dueN
    rw [dueN_take L t k n (by omega), jbA_take (by omega : n < k), ins_take (by omega : n < k) (fun x hx => by have := (dueN_mem.1 hx).1; omega)]
theorem ins_filter {L : List Jb} {k i : Nat} {l : List Nat} (h : k ≤ i) : (ins L i l).filter (fun x => decide (x < k)) = l.filter (fun x => decide (x < k)) := by
  rw [ins_split, List.filter_append, List.filter_cons_of_neg (by simp; omega), ← List.filter_append, List.take_append_drop]
theorem dueN_filter (L : List Jb) (t : Int) (k : Nat) : ∀ n, k ≤ n → (dueN L t n).filter (fun x => decide (x < k)) = dueN L t k
  | 0, h => by
    have : k = 0 := by omega
    subst this
    rfl
  | n + 1, h => by
    by_cases e : k = n + 1
    · subst e
      rw [List.filter_eq_self]
      intro x hx
      exact decide_eq_true (dueN_mem.1 hx).1
    · have ih := dueN_filter L t k n (by omega)
      conv => lhs; unfold dueN
      split
      · rw [ins_filter (by omega), ih]
      · exact ih
theorem dueS_take (L : List Jb) (t : Int) (k : Nat) (hk : k ≤ L.length) : dueS (L.take k) t = (dueS L t).filter (fun x => decide (x < k)) := by
  unfold dueS
  rw [dueN_filter L t k _ hk, List.length_take, Nat.min_eq_left hk, dueN_take L t k k (Nat.le_refl _)]
theorem chkJ_take {L : List Jb} (h : chkJ L = 0) (k : Nat) : chkJ (L.take k) = 0 := by
  obtain ⟨h1, h2⟩ := chkJ_ok h
  unfold chkJ
  rw [if_neg (by rw [List.length_take]; omega), if_neg]
  intro e
  obtain ⟨x, hx, hb⟩ := List.any_eq_true.1 e
  have h3 := h2 x (List.mem_of_mem_take hx)
  unfold bad at hb
  rw [Bool.or_eq_true, decide_eq_true_iff, decide_eq_true_iff] at hb
  omega
theorem JsOk.take {L : List Jb} (h : JsOk L) (k : Nat) : JsOk (L.take k) := ⟨by rw [List.length_take]; have := h.le; omega, fun j hj => h.good j (List.mem_of_mem_take hj), fun j hj => h.ok j (List.mem_of_mem_take hj)⟩
/-- the first k jobs of a list that came in -/
theorem JbsN.take {w : World} {na : Option Addr} {n np k : Nat} {L : List Jb} (h : JbsN w (.slice na n np) L) (hn : L.length = n) (hk : k ≤ n) : JbsN w (.slice na k np) (L.take k) := by
  obtain ⟨⟨⟨h1, h2⟩, h3⟩, h4⟩ := h
  have hl : (L.take k).length = k := by rw [List.length_take]; omega
  refine ⟨⟨⟨⟨?_, na, np, by rw [hl], fun h0 => ?_⟩, fun x hx => h2 x (List.mem_of_mem_take hx)⟩, by rw [hl]; omega⟩, fun m c e => ?_⟩
  · rw [hl]; have := h1.1; omega
  · obtain ⟨_, a, c, e, hc⟩ := h1
    rw [hl] at h0
    obtain ⟨g, o, ea, hg, hcc⟩ := hc (by omega)
    injection e with e1 _ _
    exact ⟨g, o, by rw [e1, ea], hg, fun i x hx j u hu => hcc i x (by rw [List.getElem?_take] at hx; split at hx; exact hx; cases hx) j u hu⟩
  · injection e with e1 e2 e3
    exact h4 n c (by rw [e1, e3])
theorem PlanW.other {w w' : World} {b b' P Q : Nat} {L M : List Jb} {t u : Int} (h : PlanW w b P L t) (hQ : PlanW w b' Q M u) (hne : P ≠ Q) (hG : w.grownBy w' (some Q)) : PlanW w' b P L t := by
  obtain ⟨a2, n2, cap2, hB⟩ := hQ.blk
  obtain ⟨a, cap, l, h1, h2, h3⟩ := h
  refine ⟨a, cap, l, ⟨rfl, Nat.le_trans h1.bs hG.size, h1.box.grown hG (fun e => hne (by injection e with e; exact e.symm)), World.ownsRow.kept h1.own hG (.inr (blk_apart h1.own hB (by decide))), h1.ok, h1.ht⟩, h2, h3⟩
end Go.Proofs.Ytcjahdgppnmdkaa
