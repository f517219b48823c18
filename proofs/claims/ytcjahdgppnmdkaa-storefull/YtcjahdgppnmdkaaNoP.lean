/- What Program leaves, in one: plain lists. -/
import Derived.Test.YtcjahdgppnmdkaaNo4
set_option maxRecDepth 100000
namespace Go.Proofs.Ytcjahdgppnmdkaa
open Go.RowKit Go.Great

theorem wrap_id (n : Int) (h : -9223372036854775808 ≤ n ∧ n ≤ 9223372036854775807) : wrap64 n = n := by unfold wrap64; omega
def andL (d : List UInt8) (i : Nat) (c : UInt8) : UInt8 := c &&& d.getD i 0
theorem onL_cons (C : List UInt8) (a : Nat) (b : UInt8) (d : List UInt8) (h : a < C.length) : onL (C.set a (C.getD a 0 &&& b)) (a + 1) d.length (andL d) = onL C a (d.length + 1) (andL (b :: d)) := by
  apply List.ext_getElem
  · simp [onL]
  · intro k h1 h2
    have hk : k < C.length := by simpa [onL] using h2
    rw [onL_at, onL_at]
    simp only [List.getElem_set]
    by_cases e : a = k
    · subst e
      rw [if_neg (by omega), if_pos rfl, if_pos (by omega), Nat.sub_self, getD_at _ _ h]
      rfl
    · simp only [if_neg e]
      by_cases c : a + 1 ≤ k ∧ k < a + 1 + d.length
      · rw [if_pos c, if_pos (by omega)]
        obtain ⟨m, hm⟩ : ∃ m, k - a = m + 1 := ⟨k - a - 1, by omega⟩
        rw [hm, show k - (a + 1) = m by omega]
        rfl
      · rw [if_neg c, if_neg (by omega)]
theorem stepS_pre (σ : St) (har : σ.ar = true → 1 ≤ σ.lf ∧ σ.lf ≤ 9223372036854775807) (h0 : 0 ≤ σ.st) (h1 : σ.st + 1 ≤ 9223372036854775807) : stepS σ = ({ σ with lf := if σ.ar then σ.lf - 1 else σ.lf, st := σ.st + 1 }, ⟨#[]⟩, true) := by
  unfold stepS
  have e1 : wrap64 (σ.st + 1) = σ.st + 1 := wrap_id _ (by omega)
  have e3 : (if σ.ar = true then wrap64 (σ.lf - 1) else σ.lf) = if σ.ar = true then σ.lf - 1 else σ.lf := by
    by_cases hr : σ.ar = true
    · have := har hr
      rw [if_pos hr, if_pos hr, wrap_id _ (by omega)]
    · rw [if_neg hr, if_neg hr]
  have e2 : ¬ (σ.ar = true ∧ σ.lf = 0) := by intro hc; have := har hc.1; omega
  rw [if_neg e2, e1, e3]
theorem progB_pre (σ : St) (a : Nat) (b : UInt8) (har : σ.ar = true → 1 ≤ σ.lf ∧ σ.lf ≤ 9223372036854775807) (h0 : 0 ≤ σ.st) (h1 : σ.st + 1 ≤ 9223372036854775807) : progB σ a b = ({ σ with C := σ.C.set a (σ.C.getD a 0 &&& b), lf := if σ.ar then σ.lf - 1 else σ.lf, st := σ.st + 1 }, true) := by
  unfold progB
  rw [stepS_pre σ har h0 h1]
  rfl
theorem progS_pre (d : List UInt8) : ∀ (σ : St) (a : Nat), (σ.ar = true → (d.length : Int) ≤ σ.lf ∧ σ.lf ≤ 9223372036854775807) → a + d.length ≤ σ.C.length → 0 ≤ σ.st → σ.st + d.length ≤ 9223372036854775807 →
    progS σ a d = ({ σ with C := onL σ.C a d.length (andL d), st := σ.st + d.length, lf := if σ.ar then σ.lf - d.length else σ.lf }, true) := by
  induction d with
  | nil =>
    intro σ a _ _ _ _
    rw [progS, List.length_nil, onL_zero]
    obtain ⟨C, off, st, ar, lf, jk⟩ := σ
    simp
  | cons b t ih =>
    intro σ a har hlen h0 h1
    rw [List.length_cons] at hlen
    have hl : (((b :: t).length : Nat) : Int) = (t.length : Int) + 1 := by rw [List.length_cons]; omega
    rw [hl] at h1 har ⊢
    have hpb := progB_pre σ a b (fun hr => by have := har hr; omega) h0 (by omega)
    rw [progS, hpb, if_pos rfl]
    have ih2 := ih { σ with C := σ.C.set a (σ.C.getD a 0 &&& b), lf := if σ.ar then σ.lf - 1 else σ.lf, st := σ.st + 1 } (a + 1) (by
        intro hr
        have := har hr
        show (t.length : Int) ≤ (if σ.ar = true then σ.lf - 1 else σ.lf) ∧ (if σ.ar = true then σ.lf - 1 else σ.lf) ≤ _
        rw [if_pos hr]
        omega) (by
        show a + 1 + t.length ≤ (σ.C.set a (σ.C.getD a 0 &&& b)).length
        rw [List.length_set]; omega) (by show 0 ≤ σ.st + 1; omega) (by show σ.st + 1 + (t.length : Int) ≤ _; omega)
    rw [ih2]
    have e1 : σ.st + 1 + (t.length : Int) = σ.st + ((t.length : Int) + 1) := by omega
    have e2 : (if σ.ar = true then (if σ.ar = true then σ.lf - 1 else σ.lf) - (t.length : Int) else (if σ.ar = true then σ.lf - 1 else σ.lf)) = if σ.ar = true then σ.lf - ((t.length : Int) + 1) else σ.lf := by
      by_cases hr : σ.ar = true
      · rw [if_pos hr, if_pos hr, if_pos hr]; omega
      · rw [if_neg hr, if_neg hr, if_neg hr]
    show (({ C := onL (σ.C.set a (σ.C.getD a 0 &&& b)) (a + 1) t.length (andL t), off := σ.off, st := σ.st + 1 + (t.length : Int), ar := σ.ar, lf := (if σ.ar = true then (if σ.ar = true then σ.lf - 1 else σ.lf) - (t.length : Int) else (if σ.ar = true then σ.lf - 1 else σ.lf)), jk := σ.jk } : St), true) = _
    rw [e1, e2, onL_cons _ _ _ _ (by omega)]
    rfl
theorem progS_app (d1 d2 : List UInt8) : ∀ (σ : St) (a : Nat), progS σ a (d1 ++ d2) = if (progS σ a d1).2 then progS (progS σ a d1).1 (a + d1.length) d2 else ((progS σ a d1).1, false) := by
  induction d1 with
  | nil => intro σ a; simp [progS]
  | cons b t ih =>
    intro σ a
    rw [List.cons_append, progS, progS]
    cases h : (progB σ a b).2
    · simp
    · simp only [if_true]
      rw [ih, List.length_cons, show a + 1 + t.length = a + (t.length + 1) by omega]
/-- a program that is cut: in its byte L -/
theorem progS_cut (d : List UInt8) (L : Nat) (hL : L < d.length) (σ : St) (a : Nat) (har : σ.ar = true) (hlf : σ.lf = L) (hlen : a + d.length ≤ σ.C.length) (h0 : 0 ≤ σ.st) (h1 : σ.st + d.length ≤ 9223372036854775807) (h2 : L ≤ 9223372036854775807) :
    progS σ a d = ({ C := (onL σ.C a L (andL d)).set (a + L) (σ.C.getD (a + L) 0 &&& (d.getD L 0 ||| arB σ.jk 0)), off := true, st := σ.st + L, ar := false, lf := 0, jk := ⟨#[]⟩ }, false) := by
  have hd : d = d.take L ++ (d.getD L 0 :: d.drop (L + 1)) := by
    rw [getD_at d 0 hL]
    rw [← List.drop_eq_getElem_cons hL, List.take_append_drop]
  have hl : (d.take L).length = L := by rw [List.length_take]; omega
  have hp := progS_pre (d.take L) σ a (by intro _; rw [hl, hlf]; omega) (by rw [hl]; omega) h0 (by rw [hl]; omega)
  rw [hl] at hp
  have hon : onL σ.C a L (andL (d.take L)) = onL σ.C a L (andL d) := by
    apply onL_congr
    intro i c hi
    unfold andL
    congr 1
    rw [List.getD_eq_getElem?_getD, List.getD_eq_getElem?_getD, List.getElem?_take_of_lt hi]
  rw [hon] at hp
  conv => lhs; rw [hd]
  rw [progS_app, hp, hl]
  simp only [if_true, har, hlf, Int.sub_self]
  have hst : stepS { C := onL σ.C a L (andL d), off := σ.off, st := σ.st + L, ar := true, lf := 0, jk := σ.jk } = ({ C := onL σ.C a L (andL d), off := true, st := σ.st + L, ar := false, lf := 0, jk := ⟨#[]⟩ }, σ.jk, false) := by
    simp [stepS]
  rw [progS]
  unfold progB
  rw [hst]
  simp only [Bool.false_eq_true, if_false]
  rw [onL_next _ _ _ _ (by omega)]
end Go.Proofs.Ytcjahdgppnmdkaa
