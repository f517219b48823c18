/- Items that a call makes: a row of its own of slices of five ints. -/
import Derived.Test.YtnenbbkkhnlgbaaFeW
namespace Go.Proofs.Ytnenbbkkhnlgbaa
open Go.RowKit Go.Great

def cI (p : Pt) : List Int := [1, p.1, p.2, 0, 0]
def rI (p : Pt) : List Int := [2, p.1, p.2, 0, 0]
theorem ofL_app : ∀ (A B : List (List Int)) (s : OSt), ofL (A ++ B) s = match ofL A s with
    | some t => ofL B t
    | none => none
  | [], B, s => rfl
  | x :: A, B, s => by
    rw [List.cons_append, ofL, ofL]
    cases h : ofS s x with
    | none => rfl
    | some t => exact ofL_app A B t
theorem ofL_corners : ∀ (P : List Pt) (s : OSt), ofL (P.map cI) s = some { s with P := s.P ++ P }
  | [], s => by simp [ofL]
  | p :: P, s => by
    rw [List.map_cons, ofL]
    have e : ofS s (cI p) = some { s with P := s.P ++ [p] } := by simp [ofS, cI]
    rw [e]
    simp only
    rw [ofL_corners P]
    simp
theorem ofL_rallies : ∀ (R : List Pt) (s : OSt), ofL (R.map rI) s = some { s with R := s.R ++ R }
  | [], s => by simp [ofL]
  | p :: R, s => by
    rw [List.map_cons, ofL]
    have e : ofS s (rI p) = some { s with R := s.R ++ [p] } := by simp [ofS, rI]
    rw [e]
    simp only
    rw [ofL_rallies R]
    simp
/-- a fence's items -/
def itemsF (P : List Pt) (fl ce : Int) (R : List Pt) : List (List Int) := P.map cI ++ [[3, fl, ce, 0, 0]] ++ R.map rI
theorem ofL_items (P : List Pt) (fl ce : Int) (R : List Pt) : ofL (itemsF P fl ce R) os0 = some ⟨P, R, fl, ce, true⟩ := by
  unfold itemsF
  rw [ofL_app, ofL_app, ofL_corners]
  simp [os0, ofL, ofS, ofL_rallies]
/-- the items of a fence are read as it -/
theorem of_items {P R : List Pt} {fl ce : Int} (h : chk P fl ce R = 0) : ofE (itemsF P fl ce R) = 0 ∧ ofA (itemsF P fl ce R) = ⟨P, fl, ce, R⟩ := by
  obtain ⟨e, h0, _⟩ := ofE_some (ofL_items P fl ce R) rfl
  simp only at e h0
  rw [e]
  exact ⟨h, h0 h⟩
/-- a row of the call's own of slices of five ints -/
def Its (w : World) (base : Nat) (v : Value) (L : List (List Int)) : Prop :=
  ∃ us : List Value, w.ownsRow base 53 1 v us.length us ∧ us.length = L.length ∧ ∀ i, i < L.length → ∃ g, us.getD i undef = .slice (some ⟨g, 0, none⟩) 5 5 ∧ (L.getD i []).length = 5 ∧ Blk w g (rowI (L.getD i [])) 3
theorem Its.nil (w : World) (base : Nat) : Its w base (.slice none 0 0) [] := ⟨[], World.ownsRow_nil _ _ _ _, rfl, fun i h => absurd h (by simp)⟩
theorem Its.below {w w' : World} {base : Nat} {v : Value} {L : List (List Int)} (h : Its w base v L) (hb : Below w.heap.size w w') : Its w' base v L := by
  obtain ⟨us, h1, h2, h3⟩ := h
  refine ⟨us, World.ownsRow.kept h1 (grown_below hb none) (by cases v.ownBlock <;> simp), h2, fun i hi => ?_⟩
  obtain ⟨g, a, b, c⟩ := h3 i hi
  exact ⟨g, a, b, c.after hb⟩
theorem Its.form {w : World} {base : Nat} {v : Value} {L : List (List Int)} (h : Its w base v L) : ∃ a cap, v = .slice a L.length cap := by
  obtain ⟨us, h1, h2, _⟩ := h
  rw [← h2]
  rcases h1.2 with ⟨e1, e2⟩ | ⟨g, cap, cur, e1, _⟩
  · exact ⟨none, 0, by rw [e1, e2]⟩
  · exact ⟨_, cap, e1⟩
theorem Its.lsts {w : World} {base : Nat} {v : Value} {L : List (List Int)} (h : Its w base v L) : Lsts w v L := by
  obtain ⟨us, h1, h2, h3⟩ := h
  have h0 := h1
  rcases h1.2 with ⟨e1, e2⟩ | ⟨g, cap, cur, e1, _, hh, _⟩
  · have : L = [] := List.eq_nil_of_length_eq_zero (by omega)
    subst this
    exact ⟨none, 0, e1, fun h => absurd h (by simp)⟩
  · subst e1
    refine ⟨_, cap, by rw [h2], fun _ => ⟨g, 0, rfl, lt_of_block hh, fun i hi => ?_⟩⟩
    obtain ⟨q, a, b, c⟩ := h3 i hi
    refine ⟨.slice (some ⟨q, 0, none⟩) 5 5, ?_, ints_row c 5 5 b.symm⟩
    rw [Nat.zero_add, World.ownsRow.cellAt h0 i (by omega), ← a, List.getD, List.getElem?_eq_getElem (by omega)]
    rfl
theorem info_lst : (Try.prog.info? 53).map (fun i => (i.zero, i.size, i.bytes)) = some (some (.slice none 0 0), 1, 24) := by kernel_rfl
/-- one item more -/
theorem Its.more {w w' : World} {base : Nat} {v v' : Value} {L : List (List Int)} {us : List Value} (h1 : w.ownsRow base 53 1 v us.length us) (h2 : us.length = L.length) (h3 : ∀ i, i < L.length → ∃ g, us.getD i undef = .slice (some ⟨g, 0, none⟩) 5 5 ∧ (L.getD i []).length = 5 ∧ Blk w g (rowI (L.getD i [])) 3) {g : Nat} {x : List Int} (hx : x.length = 5) (hg : Blk w g (rowI x) 3) (h4 : w'.ownsRow base 53 1 v' (us.length + 1) (us ++ [.slice (some ⟨g, 0, none⟩) 5 5])) (h5 : w.grownBy w' v.ownBlock) : Its w' base v' (L ++ [x]) := by
  refine ⟨us ++ [.slice (some ⟨g, 0, none⟩) 5 5], by rw [List.length_append]; exact h4, by simp [h2], fun i hi => ?_⟩
  by_cases e : i = L.length
  · subst e
    refine ⟨g, ?_, ?_, ?_⟩
    · rw [← h2, List.getD, List.getElem?_append_right (Nat.le_refl _)]; simp
    · rw [List.getD, List.getElem?_append_right (Nat.le_refl _)]; simpa using hx
    · have : (L ++ [x]).getD L.length [] = x := by rw [List.getD, List.getElem?_append_right (Nat.le_refl _)]; simp
      rw [this]
      exact blk_grown h1 hg (by decide) h5
  · have hi' : i < L.length := by simp at hi; omega
    obtain ⟨q, a, b, c⟩ := h3 i hi'
    have e1 : (L ++ [x]).getD i [] = L.getD i [] := by rw [List.getD, List.getD, List.getElem?_append_left hi']
    refine ⟨q, ?_, by rw [e1]; exact b, by rw [e1]; exact blk_grown h1 c (by decide) h5⟩
    rw [← a, List.getD, List.getD, List.getElem?_append_left (by omega)]
end Go.Proofs.Ytnenbbkkhnlgbaa
