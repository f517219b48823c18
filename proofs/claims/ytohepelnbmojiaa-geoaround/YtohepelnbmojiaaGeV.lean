/- Pure: what Simple, Side and Area2 answer of the turned list. -/
import Derived.Test.YtohepelnbmojiaaGeU
import Derived.Test.YtohepelnbmojiaaGeK
namespace Go.Proofs.Ytohepelnbmojiaa
open Go.RowKit

theorem all_iff {l : List Pt} : l.all fitB = true ↔ ∀ k, k < l.length → fitB (pt l k) = true := by
  constructor
  · exact fun h k hk => at_all h hk
  · intro h
    rw [List.all_eq_true]
    intro p hp
    obtain ⟨k, hk, e⟩ := List.mem_iff_getElem.1 hp
    have := h k hk
    rw [show pt l k = p from by
      rw [← e]
      show l.getD k (0, 0) = _
      rw [List.getD_eq_getElem?_getD, List.getElem?_eq_getElem hk]; rfl] at this
    exact this
section
variable {l l' : List Pt} {t : Nat → Nat} {back : Bool}
theorem Same.all (S : Same l l' l.length t back) (hn : l'.length = l.length) : l'.all fitB = l.all fitB := by
  rw [Bool.eq_iff_iff, all_iff, all_iff, hn]
  constructor
  · intro h j hj
    cases back
    · obtain ⟨i, hi, rfl⟩ := S.on j hj
      have := S.at0 i hi
      simp only [Bool.false_eq_true, if_false] at this
      rw [← this]; exact h i hi
    · obtain ⟨i, hi, rfl⟩ := S.on j hj
      have := S.at1 i hi
      simp only [if_true] at this
      rw [← this]; exact h _ (nxt_lt (by omega))
  · intro h i hi
    have := S.at0 i hi
    rw [this]
    have hl := S.lt i hi
    cases back
    · exact h _ hl
    · exact h _ (nxt_lt (by omega))
theorem Same.sim (S : Same l l' l.length t back) (hn : l'.length = l.length) : simE l' = simE l := by
  unfold simE
  rw [hn, S.all hn, S.twin, S.tang]
theorem Same.sdI (S : Same l l' l.length t back) (hn : l'.length = l.length) (p : Pt) : sdI l' p = Go.Proofs.Ytohepelnbmojiaa.sdI l p := by
  unfold Go.Proofs.Ytohepelnbmojiaa.sdI
  rw [S.sim hn, hn, S.sid p]
theorem Same.sdE (S : Same l l' l.length t back) (hn : l'.length = l.length) (p : Pt) : sdE l' p = Go.Proofs.Ytohepelnbmojiaa.sdE l p := by
  unfold Go.Proofs.Ytohepelnbmojiaa.sdE
  rw [S.sim hn]
end
/-- the sides' sum, that nothing cuts -/
def sumA (l : List Pt) (m : Nat) (pre : List (Fin m)) : Int := pre.foldl (fun s k => s + arK l m k.1) 0
theorem fold_add {m : Nat} (f : Nat → Int) (q : List (Fin m)) : ∀ s : Int, q.foldl (fun s k => s + f k.1) s = s + q.foldl (fun s k => s + f k.1) 0 := by
  induction q with
  | nil => intro s; simp
  | cons x q ih => intro s; rw [List.foldl_cons, List.foldl_cons, ih, ih (0 + f x.1)]; omega
theorem arS_eq (l : List Pt) (m : Nat) (q : List (Fin m)) : arS l m q = wrap64 (sumA l m q) := by
  have key : ∀ (q : List (Fin m)) (s : Int), q.foldl (fun s k => wrap64 (s + arK l m k.1)) (wrap64 s) = wrap64 (q.foldl (fun s k => s + arK l m k.1) s) := fun q => by
    induction q with
    | nil => intro s; rfl
    | cons x q ih =>
      intro s
      rw [List.foldl_cons, List.foldl_cons, ← ih, show wrap64 (wrap64 s + arK l m x.1) = wrap64 (s + arK l m x.1) from by unfold wrap64; omega]
  have := key q 0
  rw [show wrap64 0 = 0 from by unfold wrap64; omega] at this
  exact this
theorem Same.arK {l l' : List Pt} {m : Nat} {t : Nat → Nat} {back : Bool} (S : Same l l' m t back) {i : Nat} (hi : i < m) : arK l' m i = if back then - Go.Proofs.Ytohepelnbmojiaa.arK l m (t i) else Go.Proofs.Ytohepelnbmojiaa.arK l m (t i) := by
  have e : ∀ (l : List Pt) i, Go.Proofs.Ytohepelnbmojiaa.arK l m i = (pt l i).1 * (pt l (nxt m i)).2 - (pt l i).2 * (pt l (nxt m i)).1 := fun _ _ => rfl
  rw [e, e, S.at0 i hi, S.at1 i hi]
  cases back
  · rfl
  · simp only [if_true]
    rw [Int.mul_comm (pt l (nxt m (t i))).1, Int.mul_comm (pt l (nxt m (t i))).2]
    omega
theorem Same.sum {l l' : List Pt} {m : Nat} {t : Nat → Nat} {back : Bool} (S : Same l l' m t back) : sumA l' m (List.finRange m) = if back then - sumA l m (List.finRange m) else sumA l m (List.finRange m) := by
  have h := S.perm.foldl_eq' (f := fun (s : Int) (k : Fin m) => s + Go.Proofs.Ytohepelnbmojiaa.arK l m k.1) (fun x _ y _ z => by omega) 0
  unfold sumA
  rw [← h, List.foldl_map]
  have e : ∀ (q : List (Fin m)), q.foldl (fun s k => s + Go.Proofs.Ytohepelnbmojiaa.arK l' m k.1) 0 = if back then - q.foldl (fun s k => s + Go.Proofs.Ytohepelnbmojiaa.arK l m (t k.1)) 0 else q.foldl (fun s k => s + Go.Proofs.Ytohepelnbmojiaa.arK l m (t k.1)) 0 := fun q => by
    induction q with
    | nil => cases back <;> rfl
    | cons x q ih =>
      rw [List.foldl_cons, List.foldl_cons, fold_add (Go.Proofs.Ytohepelnbmojiaa.arK l' m), fold_add (fun k => Go.Proofs.Ytohepelnbmojiaa.arK l m (t k)), ih, S.arK x.2]
      cases back
      · rfl
      · simp only [if_true]; omega
  exact e _
theorem Same.ara {l l' : List Pt} {t : Nat → Nat} {back : Bool} (S : Same l l' l.length t back) (hn : l'.length = l.length) : araI l' = if back then wrap64 (- araI l) else araI l := by
  unfold araI
  rw [S.sim hn, hn, arS_eq, arS_eq, S.sum]
  cases back
  · rfl
  · simp only [if_true]
    split
    · unfold wrap64; omega
    · unfold wrap64; omega
end Go.Proofs.Ytohepelnbmojiaa
