/- Package exec: how often a job has been due: pure; the counts and the last ticks beside a plan. -/
import Derived.Test.YtcjahdgppnmdkaaLwQ2
import Derived.Laws.MakeOwn
set_option maxRecDepth 100000
namespace Go.Proofs.Ytcjahdgppnmdkaa
open Go.RowKit Go.Great

/-- how many moments lie ahead of a tick -/
def cnt (j : Jb) (t : Int) : Int := (fm j t - j.ph) / j.pe
theorem cnt_zero (j : Jb) : ∀ t, t ≤ j.ph → cnt j t = 0 := by
  intro t h
  unfold cnt fm
  rw [if_pos h, Int.sub_self, Int.zero_ediv]
theorem cnt_next (j : Jb) (t : Int) (hp : 1 ≤ j.pe) : cnt j (t + 1) = if dueB j t then cnt j t + 1 else cnt j t := by
  unfold cnt
  rw [fm_next j t hp]
  split
  · next h =>
    have e := (due_iff j t).1 h
    rw [e, show t + j.pe - j.ph = t - j.ph + j.pe by omega, Int.add_ediv_of_dvd_right (Int.dvd_refl _), Int.ediv_self (by omega)]
  · rfl
theorem fm_le (j : Jb) (t : Int) (hp : 1 ≤ j.pe) : j.ph ≤ fm j t := by
  unfold fm
  split
  · exact Int.le_refl _
  · have := Int.emod_nonneg (j.ph - t) (b := j.pe) (by omega); omega
theorem cnt_nonneg (j : Jb) (t : Int) (hp : 1 ≤ j.pe) : 0 ≤ cnt j t := Int.ediv_nonneg (by have := fm_le j t hp; omega) (by omega)
/-- the first time is the phase -/
theorem due_first (j : Jb) (t : Int) (_hp : 1 ≤ j.pe) (hd : dueB j t = true) (h0 : cnt j t = 0) : t = j.ph := by
  have e := (due_iff j t).1 hd
  unfold cnt at h0
  rw [e] at h0
  unfold dueB at hd
  rw [Bool.and_eq_true, decide_eq_true_iff, decide_eq_true_iff] at hd
  have h1 := Int.emod_add_mul_ediv (t - j.ph) j.pe
  rw [h0, hd.2] at h1
  omega
theorem cnt_want (j : Jb) (t : Int) (hp : 1 ≤ j.pe) (h : j.ph < t) : cnt j t = (t - 1 - j.ph) / j.pe + 1 := by
  unfold cnt fm
  rw [if_neg (by omega)]
  have h1 := Int.emod_add_mul_ediv (t - 1 - j.ph) j.pe
  have h2 := Int.emod_nonneg (t - 1 - j.ph) (b := j.pe) (by omega)
  have h3 := Int.emod_lt_of_pos (t - 1 - j.ph) (b := j.pe) (by omega)
  generalize (t - 1 - j.ph) / j.pe = q at *
  generalize (t - 1 - j.ph) % j.pe = r at *
  have e1 : (j.ph - t) % j.pe = j.pe - r - 1 := by
    have e2 : j.ph - t = (j.pe - r - 1) + j.pe * (-(q + 1)) := by rw [Int.mul_neg, Int.mul_add]; omega
    rw [e2, Int.add_mul_emod_self_left]
    exact Int.emod_eq_of_lt (by omega) (by omega)
  rw [e1, show t + (j.pe - r - 1) - j.ph = j.pe * (q + 1) by rw [Int.mul_add]; omega]
  exact Int.mul_ediv_cancel_left _ (by omega)
/-- what the last tick says -/
def LOK (j : Jb) (t x : Int) : Prop := 0 < cnt j t → fm j t - x = j.pe
/-- counts and last ticks, each job at its tick -/
def StC (L : List Jb) (n : Nat) (tt : Nat → Int) (C La : Nat → Int) : Prop := ∀ k, k < n → C k = cnt (jbA L k) (tt k) ∧ LOK (jbA L k) (tt k) (La k) ∧ (-9223372036854775808 ≤ La k ∧ La k ≤ 4096) ∧ C k ≤ 4096
def upd (f : Nat → Int) (k : Nat) (x : Int) : Nat → Int := fun j => if j = k then x else f j
/-- the ticks behind i jobs of those that are due -/
def ttI (lo : List Nat) (t : Int) (i : Nat) : Nat → Int := fun k => if k ∈ lo.take i then t + 1 else t
theorem nodup_of {L : List Jb} {lo : List Nat} (h : lo.Pairwise (ahd L)) {i : Nat} (hi : i < lo.length) : lo[i] ∉ lo.take i := by
  intro hm
  obtain ⟨j, hj, e⟩ := List.getElem_of_mem hm
  rw [List.getElem_take] at e
  rw [List.length_take] at hj
  have := List.pairwise_iff_getElem.1 h j i (by omega) hi (by omega)
  rw [e] at this
  rcases this with h1 | h1 <;> omega
theorem ttI_next {lo : List Nat} {t : Int} {i : Nat} (hi : i < lo.length) : ttI lo t (i + 1) = fun k => if k = lo[i] then t + 1 else ttI lo t i k := by
  funext k
  unfold ttI
  rw [List.take_add_one, List.getElem?_eq_getElem hi, Option.toList_some]
  by_cases h : k = lo[i]
  · rw [if_pos h, if_pos (by rw [h]; exact List.mem_append_right _ (List.mem_singleton.2 rfl))]
  · rw [if_neg h]
    by_cases h2 : k ∈ lo.take i
    · rw [if_pos h2, if_pos (List.mem_append_left _ h2)]
    · rw [if_neg h2, if_neg (by
        intro hm
        rcases List.mem_append.1 hm with hm | hm
        · exact h2 hm
        · exact h (List.mem_singleton.1 hm))]
/-- one that is due is counted -/
theorem StC.step {L : List Jb} {n : Nat} {lo : List Nat} {t : Int} {i : Nat} {C La : Nat → Int} (h : StC L n (ttI lo t i) C La) (hL : ∀ j ∈ L, 1 ≤ j.pe) (hn : L.length = n) (hs : lo.Pairwise (ahd L)) (hi : i < lo.length) (hlo : ∀ x ∈ lo, x < n ∧ dueB (jbA L x) t = true) (h0 : 0 ≤ t) (ht : t < 4096) (hc : C lo[i] < 4096) : StC L n (ttI lo t (i + 1)) (upd C lo[i] (C lo[i] + 1)) (upd La lo[i] t) := by
  intro k hk
  rw [ttI_next hi]
  unfold upd
  by_cases e : k = lo[i]
  · subst e
    obtain ⟨h1, h2⟩ := hlo lo[i] (List.getElem_mem hi)
    have hp := hL _ (jbA_in (by rw [hn]; exact h1))
    have ett : ttI lo t i lo[i] = t := by unfold ttI; rw [if_neg (nodup_of hs hi)]
    obtain ⟨c1, c2, c3, c4⟩ := h lo[i] h1
    rw [ett] at c1 c2
    simp only [if_true]
    refine ⟨by rw [c1, cnt_next _ _ hp, if_pos h2], fun _ => ?_, by omega, by omega⟩
    rw [fm_next _ _ hp, if_pos h2]
    omega
  · rw [if_neg e, if_neg e]
    simp only [if_neg e]
    exact h k hk
theorem StC.at {L : List Jb} {n : Nat} {lo : List Nat} {t : Int} {i : Nat} {C La : Nat → Int} (h : StC L n (ttI lo t i) C La) (hs : lo.Pairwise (ahd L)) (hi : i < lo.length) (hlo : ∀ x ∈ lo, x < n ∧ dueB (jbA L x) t = true) : C lo[i] = cnt (jbA L lo[i]) t ∧ LOK (jbA L lo[i]) t (La lo[i]) ∧ (-9223372036854775808 ≤ La lo[i] ∧ La lo[i] ≤ 4096) ∧ C lo[i] ≤ 4096 := by
  have h1 := h lo[i] (hlo lo[i] (List.getElem_mem hi)).1
  rw [show ttI lo t i lo[i] = t by unfold ttI; rw [if_neg (nodup_of hs hi)]] at h1
  exact h1
/-- behind all of them: the next tick -/
theorem StC.done {L : List Jb} {n : Nat} {t : Int} {C La : Nat → Int} (h : StC L n (ttI (dueS L t) t (dueS L t).length) C La) (hL : ∀ j ∈ L, 1 ≤ j.pe) (hn : L.length = n) : StC L n (fun _ => t + 1) C La := by
  intro k hk
  have hp := hL _ (jbA_in (by rw [hn]; exact hk))
  obtain ⟨c1, c2, c3, c4⟩ := h k hk
  unfold ttI at c1 c2
  rw [List.take_length] at c1 c2
  by_cases hd : dueB (jbA L k) t = true
  · have hm : k ∈ dueS L t := dueN_mem.2 ⟨by rw [hn]; exact hk, hd⟩
    rw [if_pos hm] at c1 c2
    exact ⟨c1, c2, c3, c4⟩
  · have hm : k ∉ dueS L t := fun h => hd (dueN_mem.1 h).2
    rw [if_neg hm] at c1 c2
    have e1 := cnt_next (jbA L k) t hp
    rw [if_neg hd] at e1
    have e2 := fm_next (jbA L k) t hp
    rw [if_neg hd] at e2
    refine ⟨by rw [c1, e1], fun h => ?_, c3, c4⟩
    rw [e1] at h
    rw [e2]
    exact c2 h
theorem StC.start {L : List Jb} {n : Nat} (hL : ∀ j ∈ L, 0 ≤ j.ph) (hn : L.length = n) : StC L n (fun _ => 0) (fun _ => 0) (fun _ => 0) := by
  intro k hk
  have e := cnt_zero (jbA L k) 0 (hL _ (jbA_in (by rw [hn]; exact hk)))
  exact ⟨e.symm, fun h => by rw [e] at h; omega, ⟨by show (_ : Int) ≤ 0; omega, by show (0 : Int) ≤ _; omega⟩, by show (0 : Int) ≤ _; omega⟩
theorem ttI_zero (lo : List Nat) (t : Int) : ttI lo t 0 = fun _ => t := by
  funext k
  simp [ttI]
/-- a count is at most the ticks -/
theorem cnt_le (j : Jb) (t : Int) (hp : 1 ≤ j.pe) (h0 : 0 ≤ j.ph) (ht : 0 ≤ t) : cnt j t ≤ t := by
  by_cases h : t ≤ j.ph
  · rw [cnt_zero j t h]; exact ht
  · rw [cnt_want j t hp (by omega)]
    have h2 : (t - 1 - j.ph) / j.pe ≤ t - 1 - j.ph := Int.ediv_le_self j.pe (by omega)
    omega
/-- n numbers in a block -/
def ArC (w : World) (g n : Nat) (C : Nat → Int) : Prop := ∃ cs, Blk w g cs 3 ∧ cs.size = n ∧ ∀ k, k < n → cs[k]? = some (.int .i64 (C k))
theorem ArC.cell {w : World} {g n : Nat} {C : Nat → Int} (h : ArC w g n C) {k : Nat} (hk : k < n) : w.cell? ⟨g, k, none⟩ = some (.int .i64 (C k)) := by
  obtain ⟨cs, h1, _, h3⟩ := h
  exact h1.cell k (h3 k hk)
theorem ArC.frozen {w : World} {g n : Nat} {C : Nat → Int} (h : ArC w g n C) (k : Nat) : w.frozen? ⟨g, k, none⟩ = false := by
  obtain ⟨cs, h1, _, h3⟩ := h
  exact h1.frozen k
theorem ArC.after {w w' : World} {g n : Nat} {C : Nat → Int} (h : ArC w g n C) (hb : Below w.heap.size w w') : ArC w' g n C := by
  obtain ⟨cs, h1, h2⟩ := h
  exact ⟨cs, h1.after hb, h2⟩
theorem ArC.grown {w w' : World} {g n : Nat} {C : Nat → Int} {r : Option Nat} (h : ArC w g n C) (hb : w.grownBy w' r) (hr : r ≠ some g) : ArC w' g n C := by
  obtain ⟨cs, h1, h2⟩ := h
  exact ⟨cs, h1.grown hb hr, h2⟩
theorem ArC.set {w : World} {g n : Nat} {C : Nat → Int} (h : ArC w g n C) (k : Nat) (x : Int) : ArC (w.setCell ⟨g, k, none⟩ (.int .i64 x)) g n (upd C k x) := by
  obtain ⟨cs, h1, h2, h3⟩ := h
  refine ⟨_, h1.set k _, by simp [h2], fun j hj => ?_⟩
  unfold upd
  rw [Array.getElem?_setIfInBounds]
  by_cases e : k = j
  · subst e
    rw [if_pos rfl, if_pos rfl, if_pos (by omega)]
  · rw [if_neg e, if_neg (fun h => e h.symm)]
    exact h3 j hj
theorem ArC.lt {w : World} {g n : Nat} {C : Nat → Int} (h : ArC w g n C) : g < w.heap.size := by
  obtain ⟨cs, h1, _⟩ := h
  exact h1.lt
theorem ArC.new (w : World) (n : Nat) : ArC (w.alloc (.cells (madeCells #[.int .i64 0] n) 3)) w.heap.size n (fun _ => 0) := by
  refine ⟨_, Blk.new _ _ _, size_madeCells _ _, fun k hk => ?_⟩
  unfold madeCells
  rw [Array.getElem?_map, Array.getElem?_range, if_pos hk, Option.map_some]
  have : k % 1 = 0 := Nat.mod_one k
  simp [this]
theorem PlanW.keptB {w w' : World} {b P g n : Nat} {L : List Jb} {t : Int} {C : Nat → Int} (h : PlanW w b P L t) (hC : ArC w g n C) (hG : w.grownBy w' (some g)) : PlanW w' b P L t := by
  obtain ⟨cs, hB, _⟩ := hC
  obtain ⟨a, cap, l, h1, h2, h3⟩ := h
  refine ⟨a, cap, l, ⟨rfl, Nat.le_trans h1.bs hG.size, h1.box.grown hG (fun e => ?_), World.ownsRow.kept h1.own hG (.inr (blk_apart h1.own hB (by decide))), h1.ok, h1.ht⟩, h2, h3⟩
  injection e with e
  subst e
  have h4 : w.heap[g]? = some (.cells cs 3 (0, 0)) := hB
  have h5 : w.heap[g]? = some (.cells _ 120 (0, 0)) := h1.box
  rw [h4] at h5
  injection h5 with h5
  injection h5 with _ h5
  exact absurd h5 (by decide)
theorem ArC.other {w w' : World} {b P g n : Nat} {L : List Jb} {t : Int} {C : Nat → Int} (h : ArC w g n C) (hP : PlanW w b P L t) (hG : w.grownBy w' (some P)) : ArC w' g n C := by
  refine h.grown hG (fun e => ?_)
  injection e with e
  subst e
  obtain ⟨cs, hB, _⟩ := h
  obtain ⟨_, _, _, h1⟩ := hP.blk
  have h4 : w.heap[P]? = some (.cells cs 3 (0, 0)) := hB
  have h5 : w.heap[P]? = some (.cells _ 120 (0, 0)) := h1
  rw [h4] at h5
  injection h5 with h5
  injection h5 with _ h5
  exact absurd h5 (by decide)
end Go.Proofs.Ytcjahdgppnmdkaa
