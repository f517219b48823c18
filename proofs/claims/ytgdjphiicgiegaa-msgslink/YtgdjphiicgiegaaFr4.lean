/- The frame at the mark, by its bytes; frames in a slice; what a reading keeps. -/
import Derived.Test.YtgdjphiicgiegaaFr3
namespace Go.Proofs.Ytgdjphiicgiegaa
open Go.RowKit Go.Great

theorem getD_bs (l : List UInt8) (i : Nat) (h : i < (bs l).size) : (bs l)[i] = l.getD i 0 := by
  rw [← getD_at (bs l) i h, bs_list]
theorem ripe_facts {l : List UInt8} (h : ripeB l = true) : 2 ≤ l.length ∧ (64 < lenB l ∨ 6 + lenB l ≤ l.length) := by
  unfold ripeB at h; simpa using h
theorem body_facts (l : List UInt8) (h6 : 6 + lenB l ≤ l.length) : ∃ h : 2 < ((bs l).extract 1 (4 + lenB l)).size, ((bs l).extract 1 (4 + lenB l)).size = 3 + lenB l ∧ chk ((bs l).extract 1 (4 + lenB l)).data.toList ((bs l).extract 1 (4 + lenB l))[2] = chk ((l.drop 1).take (3 + lenB l)) (l.getD 3 0) := by
  have e : ((bs l).extract 1 (4 + lenB l)).data.toList = (l.drop 1).take (3 + lenB l) := by
    rw [extract_list, bs_list, show 4 + lenB l - 1 = 3 + lenB l by omega]
  have hs : ((bs l).extract 1 (4 + lenB l)).size = 3 + lenB l := by
    rw [← list_size, e, List.length_take, List.length_drop]; omega
  refine ⟨by omega, hs, ?_⟩
  rw [← getD_at _ 2 (by omega), e]
  congr 1
  simp only [List.getD, List.getElem?_take, List.getElem?_drop]
  rw [if_pos (by omega)]
theorem first_bad (w : World) (R : Nat) (l : List UInt8) (n : Int) (h : Rdr w R (bs l) n) (hr : ripeB l = true) (hb : 64 < lenB l ∨ goodB l = false) : Calls Try.prog 38 #[.pointer (some ⟨R, 0, none⟩)] w fun e w' => e = .returned (.tuple #[.agg #[.int .i64 0, .int .i64 0, .string ⟨#[]⟩], .bool false]) ∧ Below w.heap.size w w' := by
  obtain ⟨h2, h3⟩ := ripe_facts hr
  have hs := bs_size l
  have e1 : ((bs l)[1]'(by omega)).toNat = lenB l := by rw [getD_bs]; rfl
  by_cases h64 : 64 < lenB l
  · exact first_long w R (bs l) n h (by omega) (by omega)
  · have h6 : 6 + lenB l ≤ l.length := by omega
    obtain ⟨b1, b2, b3⟩ := body_facts l h6
    refine first_wrong w R (bs l) n h (by omega) (lenB l) (4 + lenB l) (5 + lenB l) e1 (by omega) (by omega) (by omega) (by omega) (by omega) _ rfl b1 (by omega) ?_
    rw [b3, getD_bs, getD_bs]
    rcases hb with hb | hb
    · omega
    · unfold goodB at hb
      simpa using hb
theorem first_ok (w : World) (R : Nat) (l : List UInt8) (n : Int) (h : Rdr w R (bs l) n) (hr : ripeB l = true) (h64 : lenB l ≤ 64) (hg : goodB l = true) : Calls Try.prog 38 #[.pointer (some ⟨R, 0, none⟩)] w fun e w' => e = .returned (.tuple #[.agg #[.int .i64 (frB l).1, .int .i64 (frB l).2.1, .string (frB l).2.2], .bool true]) ∧ Below w.heap.size w w' := by
  obtain ⟨h2, h3⟩ := ripe_facts hr
  have hs := bs_size l
  have e1 : ((bs l)[1]'(by omega)).toNat = lenB l := by rw [getD_bs]; rfl
  have h6 : 6 + lenB l ≤ l.length := by omega
  obtain ⟨b1, b2, b3⟩ := body_facts l h6
  have ep : (bs l).extract 4 (4 + lenB l) = (frB l).2.2 := by
    apply bs_ext
    rw [extract_list, bs_list, show 4 + lenB l - 4 = lenB l by omega]
    simp [frB]
  have eps : (frB l).2.2.size = lenB l := by
    rw [← ep, ← list_size, extract_list, bs_list, List.length_take, List.length_drop]; omega
  have := first_good w R (bs l) n h (by omega) (lenB l) (4 + lenB l) (5 + lenB l) e1 (by omega) (by omega) (by omega) (by omega) (by omega) (by omega) (by omega) _ (frB l).2.2 rfl ep (by omega) b1 (by omega) (by
    rw [b3, getD_bs, getD_bs]
    unfold goodB at hg
    simpa using hg)
  rw [getD_bs, getD_bs] at this
  exact this
/-- the cells of frames in a slice -/
def cellsF (fs : List Fr) : List Value := fs.flatMap fun f => [.int .i64 f.1, .int .i64 f.2.1, .string f.2.2]
theorem cellsF_length (fs : List Fr) : (cellsF fs).length = fs.length * 3 := by
  induction fs with
  | nil => rfl
  | cons f fs ih => simp [cellsF] at ih ⊢; omega
theorem cellsF_app (fs gs : List Fr) : cellsF (fs ++ gs) = cellsF fs ++ cellsF gs := by simp [cellsF]
theorem cellsF_one (f : Fr) : cellsF [f] = [.int .i64 f.1, .int .i64 f.2.1, .string f.2.2] := by simp [cellsF]
theorem grown_below {w w' : World} (h : Below w.heap.size w w') (row : Option Nat) : w.grownBy w' row := ⟨h.os, h.tape, h.output, h.size, fun k hk _ => h.block k hk⟩
/-- what a reading of block R keeps -/
def Kept (R : Nat) (w w' : World) : Prop := w.grownBy w' (some R)
theorem Kept.refl (R : Nat) (w : World) : Kept R w w := ⟨rfl, rfl, rfl, Nat.le_refl _, fun _ _ _ => rfl⟩
theorem Kept.step {R : Nat} {w w1 w2 : World} {row : Option Nat} (h : Kept R w w1) (g : w1.grownBy w2 row) (hr : ∀ k, row = some k → w.heap.size ≤ k ∨ k = R) : Kept R w w2 := by
  refine ⟨g.os.trans h.os, g.tape.trans h.tape, g.output.trans h.output, Nat.le_trans h.size g.size, fun k hk hne => ?_⟩
  have hs := h.size
  refine (g.block k (by omega) ?_).trans (h.block k hk hne)
  intro e
  rcases hr k e.symm with h1 | h1
  · omega
  · exact hne (by rw [h1])
theorem Kept.below {R : Nat} {w w1 w2 : World} (h : Kept R w w1) (g : Below w1.heap.size w1 w2) : Kept R w w2 := h.step (grown_below g none) (fun _ e => by cases e)
theorem Kept.alloc {R : Nat} {w w1 : World} (h : Kept R w w1) (o : Obj) : Kept R w (w1.alloc o) := h.below (below_alloc _ _)
theorem Kept.trans {R : Nat} {w w1 w2 : World} (h : Kept R w w1) (g : Kept R w1 w2) : Kept R w w2 := Kept.step h (show w1.grownBy w2 (some R) from g) (fun k e => by injection e with e; exact .inr e.symm)
theorem Kept.set {R : Nat} {w w1 : World} (h : Kept R w w1) (i : Nat) (u : Value) : Kept R w (w1.setCell ⟨R, i, none⟩ u) := by
  refine Kept.trans h ⟨rfl, rfl, rfl, by simp [World.setCell], fun k hk hne => Below.heap_setCell _ _ _ _ ?_⟩
  intro e; exact hne (by rw [e])
theorem Kept.size {R : Nat} {w w1 : World} (h : Kept R w w1) : w.heap.size ≤ w1.heap.size := World.grownBy.size h
theorem Kept.over {R : Nat} {w w1 : World} {o : Obj} (h : Kept R (w.alloc o) w1) : Kept R w w1 := Kept.trans (Kept.alloc (Kept.refl R w) o) h
theorem Kept.toBelow {R B : Nat} {a w w1 : World} (h : Below B a w) (g : Kept R w w1) (hB : B ≤ w.heap.size) (hR : B ≤ R) : Below B a w1 := h.grown g hB (fun k e => by injection e with e; omega)
/-- a list that begins at a mark, or is empty -/
def Sought (l : List UInt8) : Prop := l.dropWhile (fun x => x != 253) = l
theorem sought_drop (l : List UInt8) : Sought (l.dropWhile (fun x => x != 253)) := by
  unfold Sought
  induction l with
  | nil => rfl
  | cons x t ih =>
    by_cases h : x = 253
    · subst h; simp
    · rw [List.dropWhile_cons_of_pos (by simpa using h)]; exact ih
theorem sought_cons {x : UInt8} {t : List UInt8} (h : Sought (x :: t)) : x = 253 := by
  refine Decidable.byContradiction fun hx => ?_
  unfold Sought at h
  rw [List.dropWhile_cons_of_pos (by simpa using hx)] at h
  have hl := congrArg List.length h
  have : (t.dropWhile (fun x => x != 253)).length ≤ t.length := (List.dropWhile_suffix _).length_le
  simp at hl; omega
theorem step_unripe {l : List UInt8} (h : Sought l) (hr : ripeB l = false) : step l = none := by
  cases l with
  | nil => rfl
  | cons x t =>
    have hx := sought_cons h
    unfold ripeB at hr
    simp only [decide_eq_false_iff_not] at hr
    rw [step_cons, if_pos hx]
    by_cases ht : t.length = 0
    · rw [if_pos ht]
    · have : 2 ≤ (x :: t).length := by simp; omega
      rw [if_neg ht, if_neg (by omega), if_pos (by omega)]
theorem step_bad {l : List UInt8} (h : Sought l) (hr : ripeB l = true) (hb : 64 < lenB l ∨ goodB l = false) : step l = some (none, 1, l.drop 1) := by
  obtain ⟨h2, h3⟩ := ripe_facts hr
  cases l with
  | nil => simp at h2
  | cons x t =>
    have hx := sought_cons h
    have ht : ¬ t.length = 0 := by simp at h2; omega
    rw [step_cons, if_pos hx, if_neg ht]
    by_cases h64 : 64 < lenB (x :: t)
    · rw [if_pos h64]; rfl
    · have hg : goodB (x :: t) = false := by rcases hb with hb | hb
                                             · omega
                                             · exact hb
      rw [if_neg h64, if_neg (by omega), if_neg (by simp [hg])]; rfl
theorem step_ok {l : List UInt8} (h : Sought l) (hr : ripeB l = true) (h64 : lenB l ≤ 64) (hg : goodB l = true) : step l = some (some (frB l), 0, l.drop (6 + lenB l)) := by
  obtain ⟨h2, h3⟩ := ripe_facts hr
  cases l with
  | nil => simp at h2
  | cons x t =>
    have hx := sought_cons h
    have ht : ¬ t.length = 0 := by simp at h2; omega
    rw [step_cons, if_pos hx, if_neg ht, if_neg (by omega), if_neg (by omega), if_pos hg]
/-- how many bytes the reader at R holds -/
def rlen (w : World) (R : Nat) : Nat := match w.cell? ⟨R, 0, none⟩ with | some (.string s) => s.size | _ => 0
theorem rlen_of {w : World} {R : Nat} {s : ByteArray} {n : Int} (h : Rdr w R s n) : rlen w R = s.size := by
  unfold rlen; rw [h.c0]
theorem Rdr.alloc {w : World} {R : Nat} {s : ByteArray} {n : Int} (h : Rdr w R s n) (o : Obj) : Rdr (w.alloc o) R s n := h.below (below_alloc _ _)
theorem Rdr.grown {w w' : World} {R : Nat} {s : ByteArray} {n : Int} {row : Option Nat} (h : Rdr w R s n) (g : w.grownBy w' row) (hr : row ≠ some R) : Rdr w' R s n := by
  unfold Rdr at h ⊢; rw [g.block R (lt_of_block h) (fun e => hr e.symm), h]
end Go.Proofs.Ytgdjphiicgiegaa
