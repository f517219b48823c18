/- Pure: a polygon that begins one corner further on, or goes the other way round. -/
import Derived.Test.YtohepelnbmojiaaGrI
import Derived.Test.YtohepelnbmojiaaGrE
namespace Go.Proofs.Ytohepelnbmojiaa

theorem nxt_inj {m i j : Nat} (hi : i < m) (hj : j < m) (h : nxt m i = nxt m j) : i = j := by
  by_cases a : i + 1 < m
  · by_cases b : j + 1 < m
    · rw [nxt_succ a, nxt_succ b] at h; omega
    · rw [nxt_succ a, nxt_last (by omega)] at h; omega
  · by_cases b : j + 1 < m
    · rw [nxt_last (by omega), nxt_succ b] at h; omega
    · omega
theorem nxt_surj {m j : Nat} (hj : j < m) : ∃ i, i < m ∧ nxt m i = j := by
  cases j with
  | zero => exact ⟨m - 1, by omega, nxt_last (by omega)⟩
  | succ j => exact ⟨j, by omega, nxt_succ hj⟩
theorem any_map {m : Nat} {f g : Nat → Bool} (t : Nat → Nat) (ht : ∀ i, i < m → t i < m) (hs : ∀ j, j < m → ∃ i, i < m ∧ t i = j) (h : ∀ i, i < m → f i = g (t i)) : ((List.finRange m).any fun i => f i.1) = ((List.finRange m).any fun i => g i.1) := by
  rw [Bool.eq_iff_iff, List.any_eq_true, List.any_eq_true]
  constructor
  · rintro ⟨⟨i, hi⟩, _, e⟩
    exact ⟨⟨t i, ht i hi⟩, List.mem_finRange _, by rw [← h i hi]; exact e⟩
  · rintro ⟨⟨j, hj⟩, _, e⟩
    obtain ⟨i, hi, rfl⟩ := hs j hj
    exact ⟨⟨i, hi⟩, List.mem_finRange _, by rw [h i hi]; exact e⟩
/-- how one polygon's sides stand in another -/
structure Same (l l' : List Pt) (m : Nat) (t : Nat → Nat) (back : Bool) : Prop where
  lt : ∀ i, i < m → t i < m
  on : ∀ j, j < m → ∃ i, i < m ∧ t i = j
  inj : ∀ i j, i < m → j < m → t i = t j → i = j
  at0 : ∀ i, i < m → pt l' i = if back then pt l (nxt m (t i)) else pt l (t i)
  at1 : ∀ i, i < m → pt l' (nxt m i) = if back then pt l (t i) else pt l (nxt m (t i))
  nx : ∀ i j, i < m → j < m → (j = nxt m i ↔ if back then t i = nxt m (t j) else t j = nxt m (t i))
theorem meetB_rev (a b c d : Pt) : meetB b a d c = meetB a b c d := by
  rw [Bool.eq_iff_iff, meetB_iff, meetB_iff]
  exact ⟨fun h => (h.flip).swap.flip.swap, fun h => (h.flip).swap.flip.swap⟩
theorem meetB_swp (a b c d : Pt) : meetB c d a b = meetB a b c d := by
  rw [Bool.eq_iff_iff, meetB_iff, meetB_iff]
  exact ⟨MeetP.swap, MeetP.swap⟩
theorem right_rev (a b p : Pt) : rightB b a p = rightB a b p := by
  unfold rightB
  by_cases h : b.2 < a.2
  · rw [if_pos h, if_neg (by omega)]
  · by_cases h' : a.2 < b.2
    · rw [if_neg h, if_pos h']
    · rw [if_neg h, if_neg h']
      have e1 : upB b a p = false := Bool.eq_false_iff.2 (fun e => by have := (upB_iff b a p).1 e; omega)
      have e2 : upB a b p = false := Bool.eq_false_iff.2 (fun e => by have := (upB_iff a b p).1 e; omega)
      rw [e1, e2]
section
variable {l l' : List Pt} {m : Nat} {t : Nat → Nat} {back : Bool}
theorem Same.same (S : Same l l' m t back) {i : Nat} (hi : i < m) : sameB l' m i = sameB l m (t i) := by
  have h0 := S.at0 i hi
  have h1 := S.at1 i hi
  have e : ∀ (l : List Pt) i, sameB l m i = decide (pt l i = pt l (nxt m i)) := fun l i => by
    unfold sameB pt
    rw [Bool.eq_iff_iff]
    simp
  rw [e, e, h0, h1]
  cases back
  · rfl
  · simp only [if_true]
    rw [Bool.eq_iff_iff]
    simp only [decide_eq_true_eq]
    exact eq_comm
theorem Same.onk (S : Same l l' m t back) {i : Nat} (p : Pt) (hi : i < m) : onK l' m p i = onK l m p (t i) := by
  unfold onK
  rw [S.at0 i hi, S.at1 i hi]
  cases back
  · rfl
  · exact meetB_rev _ _ _ _
theorem Same.rtk (S : Same l l' m t back) {i : Nat} (p : Pt) (hi : i < m) : rtK l' m p i = rtK l m p (t i) := by
  unfold rtK
  rw [S.at0 i hi, S.at1 i hi]
  cases back
  · rfl
  · exact right_rev _ _ _
theorem Same.pair (S : Same l l' m t back) {i j : Nat} (hi : i < m) (hj : j < m) : pairB l' m i j = if back then pairB l m (t j) (t i) else pairB l m (t i) (t j) := by
  have n1 := S.nx i j hi hj
  have n2 := S.nx j i hj hi
  have ij : j = i ↔ t j = t i := ⟨fun h => by rw [h], fun h => S.inj j i hj hi h⟩
  have a0 := S.at0 i hi
  have a1 := S.at1 i hi
  have b0 := S.at0 j hj
  have b1 := S.at1 j hj
  cases back
  · simp only [Bool.false_eq_true, if_false] at *
    have d1 : (j = i ∨ i = nxt m j) ↔ (t j = t i ∨ t i = nxt m (t j)) := or_congr ij n2
    unfold pairB
    rw [a0, a1, b0, b1]
    simp only [d1, n1]
  · simp only [if_true] at *
    have d1 : (j = i ∨ i = nxt m j) ↔ (t i = t j ∨ t j = nxt m (t i)) := or_congr (ij.trans eq_comm) n2
    unfold pairB
    rw [a0, a1, b0, b1]
    simp only [d1, n1]
    split
    · rfl
    · split
      · rw [meetB_rev (pt l (t i)), meetB_rev (pt l (t j)), Bool.or_comm]
      · rw [meetB_rev, meetB_swp]
theorem Same.twin (S : Same l l' m t back) : twinB l' m = twinB l m := any_map t S.lt S.on (fun _ hi => S.same hi)
theorem Same.tang (S : Same l l' m t back) : tangB l' m = tangB l m := by
  rw [Bool.eq_iff_iff]
  have key : ∀ {l : List Pt}, tangB l m = true ↔ ∃ i j, i < m ∧ j < m ∧ pairB l m i j = true := fun {l} => by
    constructor
    · intro h
      obtain ⟨⟨i, hi⟩, _, h1⟩ := List.any_eq_true.1 h
      obtain ⟨⟨j, hj⟩, _, h2⟩ := List.any_eq_true.1 h1
      exact ⟨i, j, hi, hj, h2⟩
    · rintro ⟨i, j, hi, hj, h⟩
      exact List.any_eq_true.2 ⟨⟨i, hi⟩, List.mem_finRange _, List.any_eq_true.2 ⟨⟨j, hj⟩, List.mem_finRange _, h⟩⟩
  rw [key, key]
  constructor
  · rintro ⟨i, j, hi, hj, h⟩
    rw [S.pair hi hj] at h
    cases back
    · exact ⟨t i, t j, S.lt i hi, S.lt j hj, h⟩
    · exact ⟨t j, t i, S.lt j hj, S.lt i hi, h⟩
  · rintro ⟨i, j, hi, hj, h⟩
    obtain ⟨i', hi', rfl⟩ := S.on i hi
    obtain ⟨j', hj', rfl⟩ := S.on j hj
    have p1 := S.pair hi' hj'
    have p2 := S.pair hj' hi'
    cases back
    · exact ⟨i', j', hi', hj', by rw [p1]; exact h⟩
    · exact ⟨j', i', hj', hi', by rw [p2]; exact h⟩
theorem Same.ons (S : Same l l' m t back) (p : Pt) : ((List.finRange m).any fun k => onK l' m p k.1) = ((List.finRange m).any fun k => onK l m p k.1) := any_map t S.lt S.on (fun _ hi => S.onk p hi)
end
end Go.Proofs.Ytohepelnbmojiaa
