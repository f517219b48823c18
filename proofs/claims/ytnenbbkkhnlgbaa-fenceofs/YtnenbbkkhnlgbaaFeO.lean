/- Fences of items, in plain words; lists of lists of ints as they read. -/
import Derived.Test.YtnenbbkkhnlgbaaFeQ
namespace Go.Proofs.Ytnenbbkkhnlgbaa
open Go.RowKit Go.Great

/-- what was read of items so far -/
structure OSt where
  P : List Pt
  R : List Pt
  fl : Int
  ce : Int
  lim : Bool
def ofS (s : OSt) (x : List Int) : Option OSt :=
  if x.length = 5 ∧ x.getD 3 0 = 0 ∧ x.getD 4 0 = 0 then
    (if x.getD 0 0 = 1 then some { s with P := s.P ++ [(x.getD 1 0, x.getD 2 0)] }
     else if x.getD 0 0 = 2 then some { s with R := s.R ++ [(x.getD 1 0, x.getD 2 0)] }
     else if x.getD 0 0 = 3 ∧ s.lim = false then some { s with fl := x.getD 1 0, ce := x.getD 2 0, lim := true }
     else none)
  else none
def ofL : List (List Int) → OSt → Option OSt
  | [], s => some s
  | x :: L, s => match ofS s x with
    | some t => ofL L t
    | none => none
def os0 : OSt := ⟨[], [], 0, 0, false⟩
def ofE (L : List (List Int)) : Int := match ofL L os0 with
  | some s => if s.lim = true then chk s.P s.fl s.ce s.R else 191
  | none => 191
def ofA (L : List (List Int)) : Dec := if ofE L = 0 then (match ofL L os0 with
  | some s => ⟨s.P, s.fl, s.ce, s.R⟩
  | none => ⟨[], 0, 0, []⟩) else ⟨[], 0, 0, []⟩
theorem drop_li {l : List (List Int)} {k : Nat} (h : k < l.length) : l.drop k = l.getD k [] :: l.drop (k + 1) := by
  rw [List.drop_eq_getElem_cons h, List.getD, List.getElem?_eq_getElem h]
  rfl
theorem ofL_at {L : List (List Int)} {k : Nat} (h : k < L.length) (s : OSt) : ofL (L.drop k) s = match ofS s (L.getD k []) with
    | some t => ofL (L.drop (k + 1)) t
    | none => none := by rw [drop_li h, ofL]
theorem ofL_end {L : List (List Int)} {k : Nat} (h : L.length ≤ k) (s : OSt) : ofL (L.drop k) s = some s := by rw [List.drop_of_length_le h, ofL]
theorem ofS_len {s t : OSt} {x : List Int} (h : ofS s x = some t) : t.P.length + t.R.length ≤ s.P.length + s.R.length + 1 := by
  unfold ofS at h
  split at h
  · split at h
    · injection h with h; subst h; simp; omega
    · split at h
      · injection h with h; subst h; simp; omega
      · split at h
        · injection h with h; subst h; simp
        · cases h
  · cases h
/-- a slice of slices of ints, as it reads -/
def Lsts (w : World) (v : Value) (L : List (List Int)) : Prop :=
  ∃ a cap, v = .slice a L.length cap ∧ (0 < L.length → ∃ g o, a = some ⟨g, o, none⟩ ∧ g < w.heap.size ∧ ∀ i, i < L.length → ∃ u, w.cell? ⟨g, o + i, none⟩ = some u ∧ Ints w u (L.getD i []))
theorem Lsts.below {w w' : World} {v : Value} {L : List (List Int)} (h : Lsts w v L) (hb : Below w.heap.size w w') : Lsts w' v L := by
  obtain ⟨a, cap, e, h1⟩ := h
  refine ⟨a, cap, e, fun h0 => ?_⟩
  obtain ⟨g, o, e2, hg, hc⟩ := h1 h0
  have hs := hb.size
  refine ⟨g, o, e2, by omega, fun i hi => ?_⟩
  obtain ⟨u, hu, hi⟩ := hc i hi
  exact ⟨u, (hb.cell (p := ⟨g, o + i, none⟩) hg).trans hu, hi.below hb⟩
theorem five_of {x : List Int} (h : x.length = 5) : ∃ a b c d e, x = [a, b, c, d, e] := by
  match x, h with
  | [a, b, c, d, e], _ => exact ⟨a, b, c, d, e, rfl⟩
theorem ofE_some {L : List (List Int)} {s : OSt} (h : ofL L os0 = some s) (hl : s.lim = true) : ofE L = chk s.P s.fl s.ce s.R ∧ (chk s.P s.fl s.ce s.R = 0 → ofA L = ⟨s.P, s.fl, s.ce, s.R⟩) ∧ (chk s.P s.fl s.ce s.R ≠ 0 → ofA L = ⟨[], 0, 0, []⟩) := by
  have hE : ofE L = chk s.P s.fl s.ce s.R := by unfold ofE; rw [h]; simp [hl]
  refine ⟨hE, fun h0 => ?_, fun h0 => ?_⟩
  · unfold ofA; rw [hE, if_pos h0, h]
  · unfold ofA; rw [hE, if_neg h0]
theorem ofE_bad {L : List (List Int)} (h : ofL L os0 = none ∨ ∃ s, ofL L os0 = some s ∧ s.lim = false) : ofE L = 191 ∧ ofA L = ⟨[], 0, 0, []⟩ := by
  have hE : ofE L = 191 := by
    unfold ofE
    rcases h with h | ⟨s, h, hl⟩
    · rw [h]
    · rw [h]; simp [hl]
  exact ⟨hE, by unfold ofA; rw [hE]; rfl⟩
end Go.Proofs.Ytnenbbkkhnlgbaa
