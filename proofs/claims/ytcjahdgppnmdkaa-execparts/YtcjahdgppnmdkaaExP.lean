/- Package exec: which jobs are due, and which turns wait: pure. -/
import Derived.Test.YtcjahdgppnmdkaaExJ
set_option maxRecDepth 100000
namespace Go.Proofs.Ytcjahdgppnmdkaa
open Go.RowKit Go.Great

def bad (j : Jb) : Bool := decide (j.pe < 1) || decide (j.ph < 0)
/-- what New answers -/
def chkJ (L : List Jb) : Int := if 64 < L.length then 4 else if L.any bad then 1 else 0
theorem chkJ_ok {L : List Jb} (h : chkJ L = 0) : L.length ≤ 64 ∧ ∀ j ∈ L, 1 ≤ j.pe ∧ 0 ≤ j.ph := by
  unfold chkJ at h
  split at h
  · cases h
  · next h1 =>
    split at h
    · cases h
    · next h2 =>
      refine ⟨by omega, fun j hj => ?_⟩
      have : bad j = false := by
        cases e : bad j with
        | false => rfl
        | true => exact absurd (List.any_eq_true.2 ⟨j, hj, e⟩) h2
      unfold bad at this
      simp at this
      omega
/-- is a job due in a tick? -/
def dueB (j : Jb) (t : Int) : Bool := decide (j.ph ≤ t) && decide ((t - j.ph) % j.pe = 0)
/-- its first moment from a tick on -/
def fm (j : Jb) (t : Int) : Int := if t ≤ j.ph then j.ph else t + (j.ph - t) % j.pe
theorem neg_mod {a m : Int} (h : (-a) % m = 0 ↔ a % m = 0) : ((-a) % m = 0) = (a % m = 0) := propext h
theorem mod_neg (a m : Int) : (-a) % m = 0 ↔ a % m = 0 := by
  rw [← Int.dvd_iff_emod_eq_zero, ← Int.dvd_iff_emod_eq_zero, Int.dvd_neg]
theorem due_iff (j : Jb) (t : Int) : dueB j t = true ↔ fm j t = t := by
  unfold dueB fm
  rw [Bool.and_eq_true, decide_eq_true_iff, decide_eq_true_iff]
  have e : j.ph - t = -(t - j.ph) := by omega
  split
  · next h =>
    constructor
    · rintro ⟨h1, _⟩; omega
    · intro h1
      refine ⟨by omega, ?_⟩
      rw [show t - j.ph = 0 by omega, Int.zero_emod]
  · next h =>
    rw [e]
    constructor
    · rintro ⟨_, h2⟩
      rw [(mod_neg _ _).2 h2]; omega
    · intro h1
      exact ⟨by omega, (mod_neg _ _).1 (by omega)⟩
theorem fm_ge (j : Jb) (t : Int) (hp : 1 ≤ j.pe) : t ≤ fm j t := by
  unfold fm
  split
  · assumption
  · have := Int.emod_nonneg (j.ph - t) (b := j.pe) (by omega); omega
theorem pred_mod (a m : Int) (hm : 1 ≤ m) : (a - 1) % m = if a % m = 0 then m - 1 else a % m - 1 := by
  have h1 := Int.emod_nonneg a (b := m) (by omega)
  have h2 := Int.emod_lt_of_pos a (b := m) (by omega)
  have h3 : a - 1 = (a % m - 1) + m * (a / m) := by have := Int.emod_add_mul_ediv a m; omega
  rw [h3, Int.add_mul_emod_self_left]
  split
  · next h =>
    rw [h]
    rw [show (0 : Int) - 1 = (m - 1) + m * (-1) by omega, Int.add_mul_emod_self_left]
    exact Int.emod_eq_of_lt (by omega) (by omega)
  · next h => exact Int.emod_eq_of_lt (by omega) (by omega)
theorem fm_next (j : Jb) (t : Int) (hp : 1 ≤ j.pe) : fm j (t + 1) = if dueB j t then t + j.pe else fm j t := by
  by_cases hd : dueB j t = true
  · rw [if_pos hd]
    have h := (due_iff j t).1 hd
    unfold dueB at hd
    rw [Bool.and_eq_true, decide_eq_true_iff, decide_eq_true_iff] at hd
    unfold fm
    rw [if_neg (by omega), show j.ph - (t + 1) = (j.ph - t) - 1 by omega, pred_mod _ _ hp, if_pos (by rw [show j.ph - t = -(t - j.ph) by omega]; exact (mod_neg _ _).2 hd.2)]
    omega
  · rw [if_neg hd]
    have h : ¬ fm j t = t := fun e => hd ((due_iff j t).2 e)
    unfold fm at h ⊢
    by_cases h1 : t ≤ j.ph
    · rw [if_pos h1] at h ⊢
      rw [if_pos (by omega)]
    · rw [if_neg h1] at h ⊢
      rw [if_neg (by omega), show j.ph - (t + 1) = (j.ph - t) - 1 by omega, pred_mod _ _ hp, if_neg (by omega)]
      omega
def j0 : Jb := ⟨1, 0, 0⟩
def jbA (L : List Jb) (k : Nat) : Jb := L.getD k j0
/-- the turn of job k that waits at a tick -/
def tuA (L : List Jb) (t : Int) (k : Nat) : Option Tu := if fm (jbA L k) t ≤ 9223372036854775807 then some ⟨fm (jbA L k) t, (jbA L k).rk, k, (jbA L k).pe⟩ else none
def tuS (L : List Jb) (t : Int) : List Tu := (List.range L.length).filterMap (tuA L t)
/-- behind all whose rank is not greater -/
def ins (L : List Jb) (k : Nat) (l : List Nat) : List Nat := l.takeWhile (fun i => decide ((jbA L i).rk ≤ (jbA L k).rk)) ++ k :: l.dropWhile (fun i => decide ((jbA L i).rk ≤ (jbA L k).rk))
/-- which of the first n jobs are due, in order -/
def dueN (L : List Jb) (t : Int) : Nat → List Nat
  | 0 => []
  | n + 1 => if dueB (jbA L n) t then ins L n (dueN L t n) else dueN L t n
def dueS (L : List Jb) (t : Int) : List Nat := dueN L t L.length
theorem ins_perm (L : List Jb) (k : Nat) (l : List Nat) : (ins L k l).Perm (k :: l) := by
  unfold ins
  refine List.perm_middle.trans (List.Perm.of_eq ?_)
  rw [List.takeWhile_append_dropWhile]
theorem dueN_mem {L : List Jb} {t : Int} : ∀ {n i : Nat}, i ∈ dueN L t n ↔ i < n ∧ dueB (jbA L i) t = true
  | 0, i => by simp [dueN]
  | n + 1, i => by
    unfold dueN
    split
    · next h =>
      rw [(ins_perm L n _).mem_iff, List.mem_cons, dueN_mem]
      constructor
      · rintro (rfl | h1)
        · exact ⟨by omega, h⟩
        · exact ⟨by omega, h1.2⟩
      · intro h1
        by_cases e : i = n
        · exact .inl e
        · exact .inr ⟨by omega, h1.2⟩
    · next h =>
      rw [dueN_mem]
      constructor
      · intro h1; exact ⟨by omega, h1.2⟩
      · intro h1
        refine ⟨?_, h1.2⟩
        by_cases e : i = n
        · subst e; exact absurd h1.2 h
        · omega
/-- ahead: lesser rank, or of the same rank and lesser number -/
def ahd (L : List Jb) (a b : Nat) : Prop := (jbA L a).rk < (jbA L b).rk ∨ ((jbA L a).rk = (jbA L b).rk ∧ a < b)
theorem mem_tw {α : Type} {p : α → Bool} : ∀ {l : List α} {x : α}, x ∈ l.takeWhile p → p x = true
  | y :: l, x, h => by
    rw [List.takeWhile_cons] at h
    split at h
    · rcases List.mem_cons.1 h with rfl | h
      · assumption
      · exact mem_tw h
    · simp at h
theorem ins_sorted {L : List Jb} {k : Nat} {l : List Nat} (hs : l.Pairwise (ahd L)) (hk : ∀ i ∈ l, i < k) : (ins L k l).Pairwise (ahd L) := by
  unfold ins
  have hsp := hs
  rw [← List.takeWhile_append_dropWhile (p := fun i => decide ((jbA L i).rk ≤ (jbA L k).rk)) (l := l), List.pairwise_append] at hsp
  obtain ⟨h1, h2, h3⟩ := hsp
  have hd : ∀ i ∈ l.dropWhile (fun i => decide ((jbA L i).rk ≤ (jbA L k).rk)), (jbA L k).rk < (jbA L i).rk := by
    cases e : l.dropWhile (fun i => decide ((jbA L i).rk ≤ (jbA L k).rk)) with
    | nil => intro i hi; simp at hi
    | cons y r =>
      have hy : ¬ (jbA L y).rk ≤ (jbA L k).rk := by
        have := List.head?_dropWhile_not (fun i => decide ((jbA L i).rk ≤ (jbA L k).rk)) l
        rw [e] at this
        simpa using this
      rw [e, List.pairwise_cons] at h2
      intro i hi
      rcases List.mem_cons.1 hi with rfl | hi
      · omega
      · rcases h2.1 i hi with h | h <;> omega
  rw [List.pairwise_append]
  refine ⟨h1, List.pairwise_cons.2 ⟨fun i hi => .inl (hd i hi), h2⟩, fun a ha b hb => ?_⟩
  have h4 := mem_tw ha
  rw [decide_eq_true_iff] at h4
  have h5 := hk a ((List.takeWhile_sublist _).subset ha)
  rcases List.mem_cons.1 hb with rfl | hb
  · rcases Int.lt_or_eq_of_le h4 with h6 | h6
    · exact .inl h6
    · exact .inr ⟨h6, h5⟩
  · exact h3 a ha b hb
theorem dueN_sorted (L : List Jb) (t : Int) : ∀ n, (dueN L t n).Pairwise (ahd L)
  | 0 => List.Pairwise.nil
  | n + 1 => by
    unfold dueN
    split
    · exact ins_sorted (dueN_sorted L t n) (fun i hi => (dueN_mem.1 hi).1)
    · exact dueN_sorted L t n
theorem dueN_perm (L : List Jb) (t : Int) : ∀ n, (dueN L t n).Perm ((List.range n).filter (fun k => dueB (jbA L k) t))
  | 0 => List.Perm.refl _
  | n + 1 => by
    unfold dueN
    rw [List.range_succ, List.filter_append]
    split
    · next h =>
      refine (ins_perm L n _).trans ?_
      rw [List.filter_cons_of_pos (p := fun k => dueB (jbA L k) t) h, List.filter_nil]
      exact ((dueN_perm L t n).cons n).trans (List.perm_append_comm (l₁ := [n]))
    · next h =>
      rw [List.filter_cons_of_neg (p := fun k => dueB (jbA L k) t) h, List.filter_nil, List.append_nil]
      exact dueN_perm L t n
/-- the turns of a tick, in order -/
def nowS (L : List Jb) (t : Int) : List Tu := (dueS L t).map (fun k => ⟨t, (jbA L k).rk, k, (jbA L k).pe⟩)
/-- the others -/
def latS (L : List Jb) (t : Int) : List Tu := ((List.range L.length).filter (fun k => !dueB (jbA L k) t)).filterMap (tuA L t)
theorem fm_split (p : Nat → Bool) (g : Nat → Option Tu) : ∀ l : List Nat, ((l.filter p).filterMap g ++ (l.filter (fun k => !p k)).filterMap g).Perm (l.filterMap g)
  | [] => List.Perm.refl _
  | k :: l => by
    have ih := fm_split p g l
    cases hp : p k with
    | true =>
      rw [List.filter_cons_of_pos hp, List.filter_cons_of_neg (by simp [hp])]
      cases hg : g k with
      | none => rw [List.filterMap_cons_none hg, List.filterMap_cons_none hg]; exact ih
      | some u => rw [List.filterMap_cons_some hg, List.filterMap_cons_some hg, List.cons_append]; exact ih.cons u
    | false =>
      rw [List.filter_cons_of_neg (by simp [hp]), List.filter_cons_of_pos (by simp [hp])]
      cases hg : g k with
      | none => rw [List.filterMap_cons_none hg, List.filterMap_cons_none hg]; exact ih
      | some u => rw [List.filterMap_cons_some hg, List.filterMap_cons_some hg]; exact List.perm_middle.trans (ih.cons u)
theorem tuA_due {L : List Jb} {t : Int} {k : Nat} (h : dueB (jbA L k) t = true) (ht : t ≤ 9223372036854775807) : tuA L t k = some ⟨t, (jbA L k).rk, k, (jbA L k).pe⟩ := by
  unfold tuA
  rw [(due_iff _ _).1 h, if_pos ht]
theorem fmap_eq {α β : Type} {g : α → Option β} {f : α → β} : ∀ {l : List α}, (∀ x ∈ l, g x = some (f x)) → l.filterMap g = l.map f
  | [], _ => rfl
  | x :: l, h => by
    rw [List.filterMap_cons_some (h x (by simp)), List.map_cons, fmap_eq (fun y hy => h y (List.mem_cons_of_mem _ hy))]
theorem now_lat (L : List Jb) (t : Int) (ht : t ≤ 9223372036854775807) : (nowS L t ++ latS L t).Perm (tuS L t) := by
  refine List.Perm.trans (List.Perm.append_right _ ?_) (fm_split (fun k => dueB (jbA L k) t) (tuA L t) (List.range L.length))
  rw [fmap_eq (f := fun k => ⟨t, (jbA L k).rk, k, (jbA L k).pe⟩) (fun k hk => tuA_due (List.mem_filter.1 hk).2 ht)]
  exact (dueN_perm L t L.length).map _
theorem fmap_congr {α β : Type} {f g : α → Option β} : ∀ {l : List α}, (∀ x ∈ l, f x = g x) → l.filterMap f = l.filterMap g
  | [], _ => rfl
  | x :: l, h => by
    have ih := fmap_congr (f := f) (g := g) (l := l) (fun y hy => h y (List.mem_cons_of_mem _ hy))
    have hx := h x (by simp)
    cases hg : g x with
    | none => rw [List.filterMap_cons_none (hx.trans hg), List.filterMap_cons_none hg, ih]
    | some u => rw [List.filterMap_cons_some (hx.trans hg), List.filterMap_cons_some hg, ih]
theorem nx_now (L : List Jb) (t : Int) (k : Nat) (hp : 1 ≤ (jbA L k).pe) (h : dueB (jbA L k) t = true) : nx ⟨t, (jbA L k).rk, k, (jbA L k).pe⟩ = tuA L (t + 1) k := by
  unfold nx tuA
  rw [fm_next _ _ hp, if_pos h]
theorem jbA_in {L : List Jb} {k : Nat} (h : k < L.length) : jbA L k ∈ L := by
  unfold jbA
  rw [List.getD, List.getElem?_eq_getElem h]
  exact List.getElem_mem h
/-- behind a tick the turns of the next one wait -/
theorem now_next (L : List Jb) (t : Int) (hL : ∀ j ∈ L, 1 ≤ j.pe) : ((nowS L t).filterMap nx ++ latS L t).Perm (tuS L (t + 1)) := by
  refine List.Perm.trans (List.Perm.append ?_ (List.Perm.of_eq ?_)) (fm_split (fun k => dueB (jbA L k) t) (tuA L (t + 1)) (List.range L.length))
  · unfold nowS
    rw [List.filterMap_map]
    refine ((dueN_perm L t L.length).filterMap _).trans (List.Perm.of_eq (fmap_congr fun k hk => ?_))
    obtain ⟨h1, h2⟩ := List.mem_filter.1 hk
    exact nx_now L t k (hL _ (jbA_in (List.mem_range.1 h1))) h2
  · unfold latS
    refine fmap_congr fun k hk => ?_
    obtain ⟨h1, h2⟩ := List.mem_filter.1 hk
    have h2 : dueB (jbA L k) t = false := by simpa using h2
    unfold tuA
    rw [fm_next _ _ (hL _ (jbA_in (List.mem_range.1 h1))), h2]
    rfl
/-- what is asked of the jobs -/
structure JsOk (L : List Jb) : Prop where
  le : L.length ≤ 64
  good : ∀ j ∈ L, 1 ≤ j.pe ∧ 0 ≤ j.ph
  ok : ∀ j ∈ L, JbOk j
theorem JsOk.tu {L : List Jb} (h : JsOk L) {t : Int} (h0 : 0 ≤ t) {k : Nat} {u : Tu} (hk : k < L.length) (e : tuA L t k = some u) : TOk u ∧ t ≤ u.tk := by
  unfold tuA at e
  split at e
  · next h1 =>
    injection e with e
    subst e
    have h2 := fm_ge (jbA L k) t (h.good _ (jbA_in hk)).1
    obtain ⟨a, _, c⟩ := h.ok _ (jbA_in hk)
    have hg := (h.good _ (jbA_in hk)).1
    have := h.le
    exact ⟨⟨by show 0 ≤ fm _ _; omega, h1, c.1, c.2, Int.natCast_nonneg k, by show (k : Int) < 64; omega, hg, a.2⟩, h2⟩
  · cases e
theorem JsOk.dr {L : List Jb} (h : JsOk L) {t : Int} (h0 : 0 ≤ t) (ht : t ≤ 9223372036854775807) : DR t (nowS L t) (latS L t) := by
  have hmem : ∀ k ∈ dueS L t, k < L.length ∧ dueB (jbA L k) t = true := fun k hk => dueN_mem.1 hk
  have hnow : ∀ k ∈ dueS L t, TOk ⟨t, (jbA L k).rk, k, (jbA L k).pe⟩ := fun k hk => (h.tu h0 (hmem k hk).1 (tuA_due (hmem k hk).2 ht)).1
  have hlat : ∀ u ∈ latS L t, TOk u ∧ t < u.tk := fun u hu => by
    obtain ⟨k, hk, e⟩ := List.mem_filterMap.1 hu
    obtain ⟨h1, h2⟩ := List.mem_filter.1 hk
    have h3 := h.tu h0 (List.mem_range.1 h1) e
    refine ⟨h3.1, ?_⟩
    rcases Int.lt_or_eq_of_le h3.2 with h4 | h4
    · exact h4
    · exfalso
      unfold tuA at e
      split at e
      · injection e with e
        rw [← e] at h4
        have := (due_iff (jbA L k) t).2 h4.symm
        rw [this] at h2
        cases h2
      · cases e
  refine ⟨fun u hu => ?_, ?_, fun u hu => (hlat u hu).2, fun u hu => ?_, ?_⟩
  · obtain ⟨k, _, e⟩ := List.mem_map.1 hu
    rw [← e]
  · unfold nowS
    rw [List.pairwise_map]
    refine List.Pairwise.imp_of_mem (R := ahd L) (fun {a b} ha hb hab => ?_) (dueN_sorted L t L.length)
    obtain ⟨_, _, a3, a4, a5, a6, _, _⟩ := hnow a ha
    obtain ⟨_, _, b3, b4, b5, b6, _, _⟩ := hnow b hb
    unfold ky
    simp only at *
    rcases hab with h1 | ⟨h1, h2⟩
    · omega
    · rw [h1]; omega
  · rcases List.mem_append.1 hu with hu | hu
    · obtain ⟨k, hk, e⟩ := List.mem_map.1 hu
      rw [← e]
      exact hnow k hk
    · exact (hlat u hu).1
  · have h1 := (now_lat L t ht).length_eq
    have h2 := List.length_filterMap_le (tuA L t) (List.range L.length)
    rw [List.length_range] at h2
    rw [List.length_append] at h1
    unfold tuS at h1
    have := h.le
    omega
theorem now_nu (L : List Jb) (t : Int) : (nowS L t).map Tu.nu = (dueS L t).map Int.ofNat := by
  unfold nowS
  rw [List.map_map]
  rfl
/-- at tick 0 -/
theorem tuS_zero {L : List Jb} (h : JsOk L) : tuS L 0 = (List.range L.length).map (fun k => ⟨(jbA L k).ph, (jbA L k).rk, k, (jbA L k).pe⟩) := by
  refine fmap_eq fun k hk => ?_
  have h1 := jbA_in (List.mem_range.1 hk)
  have h2 := (h.good _ h1).2
  have h3 := (h.ok _ h1).b0.2
  unfold tuA fm
  rw [if_pos h2, if_pos h3]
end Go.Proofs.Ytcjahdgppnmdkaa
