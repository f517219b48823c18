/- Missions: which are sound, and what a run does: pure. -/
import Derived.Test.YtnekjfidobglmaaGnO
namespace Go.Proofs.Ytnekjfidobglmaa
open Go.RowKit Go.Great

theorem i64_of {x : Int} (h : -9223372036854775808 ≤ x ∧ x ≤ 9223372036854775807) : I64 x := h
theorem i64_0 : I64 0 := i64_of (by omega)
/-- an item -/
structure It where
  k : UInt8
  a : Int
  b : Int
  c : Int
def ItOk (x : It) : Prop := I64 x.a ∧ I64 x.b ∧ I64 x.c
def itC (x : It) : List Value := [.int .u8 (x.k.toNat : Int), .int .i64 x.a, .int .i64 x.b, .int .i64 x.c]
/-- an item's cells as an array -/
abbrev iC (k a b c : Int) : Array Value := #[.int .u8 k, .int .i64 a, .int .i64 b, .int .i64 c]
abbrev iV (k a b c : Int) : Value := .agg (iC k a b c)
def wi (x lo hi : Int) : Bool := decide (lo ≤ x) && decide (x ≤ hi)
/-- the document's table -/
def okK (k a b c : Int) : Bool :=
  if k = 1 then wi a 1 120000 && decide (b = 0) && decide (c = 0)
  else if k = 2 then wi a (-536870912) 536870912 && wi b (-536870912) 536870912 && wi c 0 120000
  else if k = 3 then wi a 0 1000000 && decide (b = 0) && decide (c = 0)
  else if k = 4 then wi b 0 255 && decide (c = 0)
  else if k = 5 then wi a 1600 64000 && decide (b = 0) && decide (c = 0)
  else if k = 6 ∨ k = 7 then decide (a = 0) && decide (b = 0) && decide (c = 0)
  else false
/-- what is wrong with an item of n -/
def oneE (n : Nat) (x : It) : Int := if okK x.k.toNat x.a x.b x.c = false then 191 else if x.k.toNat = 4 ∧ ¬ (0 ≤ x.a ∧ x.a < n) then 190 else 0
def chkG (n : Nat) : List It → Int
  | [] => 0
  | x :: r => if oneE n x = 0 then chkG n r else oneE n x
/-- what is wrong with a mission -/
def chk (L : List It) : Int := if 64 < L.length then 4 else chkG L.length L
theorem chkG_mem {n : Nat} : ∀ {L : List It}, chkG n L = 0 → ∀ x ∈ L, oneE n x = 0
  | [], _, x, h => by simp at h
  | y :: r, h, x, hx => by
    unfold chkG at h
    split at h
    · next h0 =>
      rcases List.mem_cons.1 hx with rfl | hx
      · exact h0
      · exact chkG_mem h x hx
    · next h0 => exact absurd h h0
theorem chk_ok {L : List It} (h : chk L = 0) : L.length ≤ 64 ∧ ∀ x ∈ L, oneE L.length x = 0 := by
  unfold chk at h
  split at h
  · cases h
  · exact ⟨by omega, chkG_mem h⟩
theorem one_ok {n : Nat} {x : It} (h : oneE n x = 0) : okK x.k.toNat x.a x.b x.c = true ∧ (x.k.toNat = 4 → 0 ≤ x.a ∧ x.a < n) := by
  unfold oneE at h
  split at h
  · cases h
  · next h0 =>
    split at h
    · cases h
    · next h1 => exact ⟨by simpa using h0, fun e => Decidable.byContradiction fun h2 => h1 ⟨e, h2⟩⟩
theorem chk_small {L : List It} : 0 ≤ chk L ∧ chk L ≤ 191 := by
  have key : ∀ (n : Nat) (l : List It), 0 ≤ chkG n l ∧ chkG n l ≤ 191 := by
    intro n l
    induction l with
    | nil => exact ⟨by simp [chkG], by simp [chkG]⟩
    | cons x r ih =>
      unfold chkG
      split
      · exact ih
      · unfold oneE
        split
        · omega
        · split <;> omega
  unfold chk
  split
  · omega
  · exact key _ _
theorem wi_true {x lo hi : Int} (h : wi x lo hi = true) : lo ≤ x ∧ x ≤ hi := by unfold wi at h; simp at h; exact h
theorem drop_cons {α : Type} {L : List α} {k : Nat} {x : α} (h : L[k]? = some x) : L.drop k = x :: L.drop (k + 1) := by
  obtain ⟨hlt, e⟩ := List.getElem?_eq_some_iff.1 h
  rw [List.drop_eq_getElem_cons hlt, e]
end Go.Proofs.Ytnekjfidobglmaa
