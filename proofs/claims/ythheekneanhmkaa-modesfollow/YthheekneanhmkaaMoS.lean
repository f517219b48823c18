/- The document's step of a machine (windhoverref20.Step). -/
import Derived.Test.YthheekneanhmkaaMoR
import Derived.Test.YthheekneanhmkaaMoL
namespace Go.Proofs.Ythheekneanhmkaa
open Go.RowKit Go.Great

/-- how far the first loop has come: behind the events below i -/
def Fol (m ev : Int) (i : Nat) (d k : Int) : Prop := (d = -1 ∧ k = m ∧ fol m (evs ev i) = none) ∨ (0 ≤ d ∧ fol m (evs ev 18) = some d ∧ k = nx m d)
theorem Fol.zero (m ev : Int) : Fol m ev 0 (-1) m := .inl ⟨rfl, rfl, rfl⟩
theorem Fol.none {m ev k d : Int} {i : Nat} (h : Fol m ev i d k) (hd : d < 0) : d = -1 ∧ k = m ∧ fol m (evs ev i) = Option.none := by
  rcases h with h | h
  · exact h
  · omega
theorem Fol.skip {m ev : Int} {i : Nat} (h : fol m (evs ev i) = Option.none) (hy : hasE ev i = false) : Fol m ev (i + 1) (-1) m := by
  refine .inl ⟨rfl, rfl, ?_⟩
  unfold evs
  rw [hy, if_neg (by simp), List.append_nil]
  exact h
theorem Fol.stay {m ev : Int} {i : Nat} (h : fol m (evs ev i) = Option.none) (hn : nx m i = m) : Fol m ev (i + 1) (-1) m := by
  refine .inl ⟨rfl, rfl, ?_⟩
  unfold evs
  rw [fol_app, h]
  split
  · rw [fol_same _ hn]; rfl
  · rfl
theorem Fol.go {m ev : Int} {i : Nat} (h : fol m (evs ev i) = Option.none) (hi : i < 18) (hy : hasE ev i = true) (hn : ¬ nx m i = m) : Fol m ev (i + 1) i (nx m i) := by
  refine .inr ⟨by omega, ?_, rfl⟩
  obtain ⟨r, hr⟩ := evs_split ev (i + 1) (18 - (i + 1))
  rw [show i + 1 + (18 - (i + 1)) = 18 by omega] at hr
  rw [hr, fol_app]
  have : fol m (evs ev (i + 1)) = some (i : Int) := by
    unfold evs
    rw [fol_app, h, hy, if_pos rfl, fol_go _ hn]
    rfl
  rw [this]
  rfl
theorem Fol.done {m ev k d : Int} {i : Nat} (h : Fol m ev i d k) (hq : ¬ (i < 18 ∧ d < 0)) (hi : i ≤ 18) : k = stM m ev ∧ d = stE m ev := by
  rcases h with ⟨rfl, rfl, h⟩ | ⟨h0, h, rfl⟩
  · obtain rfl : i = 18 := by omega
    unfold stM folM stE folE
    rw [h]
    exact ⟨rfl, rfl⟩
  · unfold stM folM stE folE
    rw [h]
    exact ⟨rfl, rfl⟩
/-- the five that stay -/
def sty (j : Nat) : Nat := [0, 1, 2, 4, 5].getD j 0
/-- the latches behind the first j of them -/
def lJ (f g : Nat → Bool) : Nat → Int
  | 0 => latB (f 0) (f 1) (f 2) (f 4) (f 5)
  | 1 => latB (f 0 || g 0) (f 1) (f 2) (f 4) (f 5)
  | 2 => latB (f 0 || g 0) (f 1 || g 1) (f 2) (f 4) (f 5)
  | 3 => latB (f 0 || g 0) (f 1 || g 1) (f 2 || g 2) (f 4) (f 5)
  | 4 => latB (f 0 || g 0) (f 1 || g 1) (f 2 || g 2) (f 4 || g 4) (f 5)
  | _ => latB (f 0 || g 0) (f 1 || g 1) (f 2 || g 2) (f 4 || g 4) (f 5 || g 5)
theorem has0 : ∀ a b c d e : Bool, hasE (latB a b c d e) 0 = a := of_decide_eq_true (by kernel_rfl)
theorem has1 : ∀ a b c d e : Bool, hasE (latB a b c d e) 1 = b := of_decide_eq_true (by kernel_rfl)
theorem has2 : ∀ a b c d e : Bool, hasE (latB a b c d e) 2 = c := of_decide_eq_true (by kernel_rfl)
theorem has4 : ∀ a b c d e : Bool, hasE (latB a b c d e) 4 = d := of_decide_eq_true (by kernel_rfl)
theorem has5 : ∀ a b c d e : Bool, hasE (latB a b c d e) 5 = e := of_decide_eq_true (by kernel_rfl)
theorem lJ_no (f g : Nat → Bool) : ∀ j : Nat, j < 5 → g (sty j) = false → lJ f g (j + 1) = lJ f g j
  | 0, _, h => by show latB (f 0 || g 0) _ _ _ _ = _; rw [show g 0 = false from h, Bool.or_false]; rfl
  | 1, _, h => by show latB _ (f 1 || g 1) _ _ _ = _; rw [show g 1 = false from h, Bool.or_false]; rfl
  | 2, _, h => by show latB _ _ (f 2 || g 2) _ _ = _; rw [show g 2 = false from h, Bool.or_false]; rfl
  | 3, _, h => by show latB _ _ _ (f 4 || g 4) _ = _; rw [show g 4 = false from h, Bool.or_false]; rfl
  | 4, _, h => by show latB _ _ _ _ (f 5 || g 5) = _; rw [show g 5 = false from h, Bool.or_false]; rfl
  | n + 5, h, _ => absurd h (by omega)
theorem lJ_had (f g : Nat → Bool) : ∀ j : Nat, j < 5 → hasE (lJ f g j) (sty j) = true → lJ f g (j + 1) = lJ f g j
  | 0, _, h => by have e : f 0 = true := by rw [← has0 (f 0) (f 1) (f 2) (f 4) (f 5)]; exact h
                  show latB (f 0 || g 0) _ _ _ _ = latB (f 0) _ _ _ _; rw [e]; rfl
  | 1, _, h => by have e : f 1 = true := by rw [← has1 (f 0 || g 0) (f 1) (f 2) (f 4) (f 5)]; exact h
                  show latB _ (f 1 || g 1) _ _ _ = latB _ (f 1) _ _ _; rw [e]; rfl
  | 2, _, h => by have e : f 2 = true := by rw [← has2 (f 0 || g 0) (f 1 || g 1) (f 2) (f 4) (f 5)]; exact h
                  show latB _ _ (f 2 || g 2) _ _ = latB _ _ (f 2) _ _; rw [e]; rfl
  | 3, _, h => by have e : f 4 = true := by rw [← has4 (f 0 || g 0) (f 1 || g 1) (f 2 || g 2) (f 4) (f 5)]; exact h
                  show latB _ _ _ (f 4 || g 4) _ = latB _ _ _ (f 4) _; rw [e]; rfl
  | 4, _, h => by have e : f 5 = true := by rw [← has5 (f 0 || g 0) (f 1 || g 1) (f 2 || g 2) (f 4 || g 4) (f 5)]; exact h
                  show latB _ _ _ _ (f 5 || g 5) = latB _ _ _ _ (f 5); rw [e]; rfl
  | n + 5, h, _ => absurd h (by omega)
theorem ad0 : ∀ b c d e : Bool, latB false b c d e + 1 = latB true b c d e := of_decide_eq_true (by kernel_rfl)
theorem ad1 : ∀ a c d e : Bool, latB a false c d e + 2 = latB a true c d e := of_decide_eq_true (by kernel_rfl)
theorem ad2 : ∀ a b d e : Bool, latB a b false d e + 4 = latB a b true d e := of_decide_eq_true (by kernel_rfl)
theorem ad4 : ∀ a b c e : Bool, latB a b c false e + 16 = latB a b c true e := of_decide_eq_true (by kernel_rfl)
theorem ad5 : ∀ a b c d : Bool, latB a b c d false + 32 = latB a b c d true := of_decide_eq_true (by kernel_rfl)
theorem lJ_add (f g : Nat → Bool) : ∀ j : Nat, j < 5 → g (sty j) = true → hasE (lJ f g j) (sty j) = false → lJ f g j + 2 ^ sty j = lJ f g (j + 1)
  | 0, _, hg, h => by have e : f 0 = false := by rw [← has0 (f 0) (f 1) (f 2) (f 4) (f 5)]; exact h
                      show latB (f 0) _ _ _ _ + 1 = latB (f 0 || g 0) _ _ _ _; rw [e, show g 0 = true from hg]; exact ad0 _ _ _ _
  | 1, _, hg, h => by have e : f 1 = false := by rw [← has1 (f 0 || g 0) (f 1) (f 2) (f 4) (f 5)]; exact h
                      show latB _ (f 1) _ _ _ + 2 = latB _ (f 1 || g 1) _ _ _; rw [e, show g 1 = true from hg]; exact ad1 _ _ _ _
  | 2, _, hg, h => by have e : f 2 = false := by rw [← has2 (f 0 || g 0) (f 1 || g 1) (f 2) (f 4) (f 5)]; exact h
                      show latB _ _ (f 2) _ _ + 4 = latB _ _ (f 2 || g 2) _ _; rw [e, show g 2 = true from hg]; exact ad2 _ _ _ _
  | 3, _, hg, h => by have e : f 4 = false := by rw [← has4 (f 0 || g 0) (f 1 || g 1) (f 2 || g 2) (f 4) (f 5)]; exact h
                      show latB _ _ _ (f 4) _ + 16 = latB _ _ _ (f 4 || g 4) _; rw [e, show g 4 = true from hg]; exact ad4 _ _ _ _
  | 4, _, hg, h => by have e : f 5 = false := by rw [← has5 (f 0 || g 0) (f 1 || g 1) (f 2 || g 2) (f 4 || g 4) (f 5)]; exact h
                      show latB _ _ _ _ (f 5) + 32 = latB _ _ _ _ (f 5 || g 5); rw [e, show g 5 = true from hg]; exact ad5 _ _ _ _
  | n + 5, h, _, _ => absurd h (by omega)
theorem latB_in : ∀ a b c d e : Bool, 0 ≤ latB a b c d e ∧ latB a b c d e ≤ 63 := of_decide_eq_true (by kernel_rfl)
theorem lJ_in (f g : Nat → Bool) : ∀ j, 0 ≤ lJ f g j ∧ lJ f g j ≤ 63
  | 0 => latB_in _ _ _ _ _
  | 1 => latB_in _ _ _ _ _
  | 2 => latB_in _ _ _ _ _
  | 3 => latB_in _ _ _ _ _
  | 4 => latB_in _ _ _ _ _
  | _ + 5 => latB_in _ _ _ _ _
theorem lJ_end (m : Int) (f : Nat → Bool) (ev : Int) (h : flyB m = true) : lJ f (hasE ev) 5 = la1 m (lat f) ev := by
  unfold la1
  rw [if_pos h, and_55, or_lat]
  rfl
theorem lJ_0 (m : Int) (f : Nat → Bool) (ev : Int) (h : flyB m = false) : lJ f (hasE ev) 0 = la1 m (lat f) ev := by
  unfold la1
  rw [if_neg (by rw [h]; simp)]
  rfl
theorem sty_in : ∀ j : Nat, j < 5 → sty j ≤ 5 := by decide
end Go.Proofs.Ythheekneanhmkaa
