/- Package vote, as plain mathematics: what units that speak do to a vote. -/
import Derived.Test.YtmglcmhofcejiaaVoO
namespace Go.Proofs.Ytmglcmhofcejiaa
open Go.RowKit Go.Great

theorem hr_v (u : Un) (t : Vt) (i : Nat) (hi : i < 3) : (hr u t 3).v i = (if u.o i = true then u.x i else t.v i) ∧ (hr u t 3).a i = (if u.o i = true then 0 else cnt (t.a i)) := by
  simp only [hr, hr1]
  match i, hi with
  | 0, _ => cases u.o 0 <;> cases u.o 1 <;> cases u.o 2 <;> simp [upI]
  | 1, _ => cases u.o 0 <;> cases u.o 1 <;> cases u.o 2 <;> simp [upI]
  | 2, _ => cases u.o 0 <;> cases u.o 1 <;> cases u.o 2 <;> simp [upI]
theorem vl3 (t : Vt) : vl t 3 = (if t.a 0 ≤ t.st then [t.v 0] else []) ++ ((if t.a 1 ≤ t.st then [t.v 1] else []) ++ if t.a 2 ≤ t.st then [t.v 2] else []) := by
  simp [vl, List.append_assoc]
/-- how many of the first j units speak within a span -/
def gd (u : Un) (a b : Int) : Nat → Nat
  | 0 => 0
  | j + 1 => gd u a b j + if (u.o j && (decide (a ≤ u.x j) && decide (u.x j ≤ b))) = true then 1 else 0
theorem gd_le (u : Un) (a b : Int) (j : Nat) : gd u a b j ≤ j := by
  induction j with
  | zero => exact Nat.le_refl _
  | succ j ih => rw [gd]; split <;> omega
theorem mid_in {a b y0 y1 y2 : Int} {p0 p1 p2 : Prop} [Decidable p0] [Decidable p1] [Decidable p2] {q0 q1 q2 : Prop} (h0 : q0 → p0 ∧ a ≤ y0 ∧ y0 ≤ b) (h1 : q1 → p1 ∧ a ≤ y1 ∧ y1 ≤ b) (h2 : q2 → p2 ∧ a ≤ y2 ∧ y2 ≤ b) (h : (q0 ∧ q1) ∨ (q0 ∧ q2) ∨ (q1 ∧ q2)) :
    ((if p0 then [y0] else []) ++ ((if p1 then [y1] else []) ++ if p2 then [y2] else [])) ≠ [] ∧ a ≤ midL ((if p0 then [y0] else []) ++ ((if p1 then [y1] else []) ++ if p2 then [y2] else [])) ∧ midL ((if p0 then [y0] else []) ++ ((if p1 then [y1] else []) ++ if p2 then [y2] else [])) ≤ b := by
  rcases h with ⟨g, g'⟩ | ⟨g, g'⟩ | ⟨g, g'⟩
  · obtain ⟨c0, k0, k0'⟩ := h0 g
    obtain ⟨c1, k1, k1'⟩ := h1 g'
    by_cases c2 : p2
    · simp only [c0, c1, c2, if_true, List.cons_append, List.nil_append, midL]; exact ⟨by simp, by omega, by omega⟩
    · simp only [c0, c1, c2, if_true, if_false, List.cons_append, List.nil_append, midL, hlf]; exact ⟨by simp, by omega, by omega⟩
  · obtain ⟨c0, k0, k0'⟩ := h0 g
    obtain ⟨c1, k1, k1'⟩ := h2 g'
    by_cases c2 : p1
    · simp only [c0, c1, c2, if_true, List.cons_append, List.nil_append, midL]; exact ⟨by simp, by omega, by omega⟩
    · simp only [c0, c1, c2, if_true, if_false, List.cons_append, List.nil_append, midL, hlf]; exact ⟨by simp, by omega, by omega⟩
  · obtain ⟨c0, k0, k0'⟩ := h1 g
    obtain ⟨c1, k1, k1'⟩ := h2 g'
    by_cases c2 : p0
    · simp only [c0, c1, c2, if_true, List.cons_append, List.nil_append, midL]; exact ⟨by simp, by omega, by omega⟩
    · simp only [c0, c1, c2, if_true, if_false, List.cons_append, List.nil_append, midL, hlf]; exact ⟨by simp, by omega, by omega⟩
/-- two units that speak within a span: so does the vote -/
theorem holds_math (u : Un) (t : Vt) (a b : Int) (ht : 0 ≤ t.st) (h : 2 ≤ gd u a b 3) : sok u t = true ∧ a ≤ sx u t ∧ sx u t ≤ b := by
  have hs : (hr u t 3).st = t.st := (hr_st u t 3).1
  have e : ∀ i, i < 3 → (u.o i && (decide (a ≤ u.x i) && decide (u.x i ≤ b))) = true → (hr u t 3).a i ≤ (hr u t 3).st ∧ a ≤ (hr u t 3).v i ∧ (hr u t 3).v i ≤ b := by
    intro i hi hq
    simp only [Bool.and_eq_true, decide_eq_true_eq] at hq
    obtain ⟨e1, e2⟩ := hr_v u t i hi
    rw [hq.1] at e1 e2
    rw [e1, e2, hs]
    exact ⟨ht, hq.2⟩
  have two : ((u.o 0 && (decide (a ≤ u.x 0) && decide (u.x 0 ≤ b))) = true ∧ (u.o 1 && (decide (a ≤ u.x 1) && decide (u.x 1 ≤ b))) = true) ∨ ((u.o 0 && (decide (a ≤ u.x 0) && decide (u.x 0 ≤ b))) = true ∧ (u.o 2 && (decide (a ≤ u.x 2) && decide (u.x 2 ≤ b))) = true) ∨ ((u.o 1 && (decide (a ≤ u.x 1) && decide (u.x 1 ≤ b))) = true ∧ (u.o 2 && (decide (a ≤ u.x 2) && decide (u.x 2 ≤ b))) = true) := by
    simp only [gd] at h
    generalize (u.o 0 && (decide (a ≤ u.x 0) && decide (u.x 0 ≤ b))) = z0 at *
    generalize (u.o 1 && (decide (a ≤ u.x 1) && decide (u.x 1 ≤ b))) = z1 at *
    generalize (u.o 2 && (decide (a ≤ u.x 2) && decide (u.x 2 ≤ b))) = z2 at *
    cases z0 <;> cases z1 <;> cases z2 <;> simp at h ⊢
  have m := mid_in (e 0 (by omega)) (e 1 (by omega)) (e 2 (by omega)) two
  rw [← vl3] at m
  refine ⟨?_, m.2⟩
  unfold sok
  cases hv : vl (hr u t 3) 3 with
  | nil => exact absurd hv m.1
  | cons x l => rfl
/-- a tick's cells -/
theorem Tks.get {w : World} {v : Value} {L : List Un} (h : Tks w v L) (i : Nat) (hi : i < L.length) : ∃ g o cap u, v = .slice (some ⟨g, o, none⟩) L.length cap ∧ g < w.heap.size ∧ L[i]? = some u ∧ UOk u ∧ w.cell? ⟨g, o + i * 6, none⟩ = some (.bool (u.o 0)) ∧ w.cell? ⟨g, o + i * 6 + 1, none⟩ = some (.int .i64 (u.x 0)) ∧ w.cell? ⟨g, o + i * 6 + 2, none⟩ = some (.bool (u.o 1)) ∧ w.cell? ⟨g, o + i * 6 + 3, none⟩ = some (.int .i64 (u.x 1)) ∧ w.cell? ⟨g, o + i * 6 + 4, none⟩ = some (.bool (u.o 2)) ∧ w.cell? ⟨g, o + i * 6 + 5, none⟩ = some (.int .i64 (u.x 2)) := by
  obtain ⟨hu, hm, a, cap, rfl, hc⟩ := h
  obtain ⟨g, o, rfl, hg, hcell⟩ := hc (by omega)
  have e : L[i]? = some L[i] := by simp [hi]
  exact ⟨g, o, cap, L[i], rfl, hg, e, hu _ (List.getElem_mem hi), hcell i _ e⟩
theorem Tks.below {w w' : World} {v : Value} {L : List Un} (h : Tks w v L) (hb : Below w.heap.size w w') : Tks w' v L := by
  obtain ⟨hu, hm, a, cap, rfl, hc⟩ := h
  refine ⟨hu, hm, a, cap, rfl, fun h0 => ?_⟩
  obtain ⟨g, o, rfl, hg, hcell⟩ := hc h0
  refine ⟨g, o, rfl, Nat.lt_of_lt_of_le hg hb.size, fun i u hi => ?_⟩
  obtain ⟨c0, c1, c2, c3, c4, c5⟩ := hcell i u hi
  exact ⟨(hb.cell (p := ⟨g, _, none⟩) hg).trans c0, (hb.cell (p := ⟨g, _, none⟩) hg).trans c1, (hb.cell (p := ⟨g, _, none⟩) hg).trans c2, (hb.cell (p := ⟨g, _, none⟩) hg).trans c3, (hb.cell (p := ⟨g, _, none⟩) hg).trans c4, (hb.cell (p := ⟨g, _, none⟩) hg).trans c5⟩
end Go.Proofs.Ytmglcmhofcejiaa
