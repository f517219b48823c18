/- Looks that came in. -/
import Derived.Test.YtambpihkbicbkaaGr2
import Derived.Test.YtambpihkbicbkaaGnO
namespace Go.Proofs.Ytambpihkbicbkaa
open Go.RowKit Go.Great Go.Deep Go.WideShapes Go.ChangeShapes

/-- a look -/
structure Lok where
  f : Bool
  c : Int
  a : Int
  t : Int
def cLok (x : Lok) : List Value := [.bool x.f, .int .i64 x.c, .int .i64 x.a, .int .i64 x.t]
structure LokOk (x : Lok) : Prop where
  c : I64 x.c
  a : I64 x.a
  t : I64 x.t
theorem one_Lok {H : Type} {enc : TypeId × Value → H} {W : World} {base : Nat} {spare : Nat → Bool} {held : Bool} (n : Nat) (cs : List Value) (y : DataW H × List MemPlace) (h : DataW.trod enc Try.prog W base spare held n 26 cs = some y) (hl : cs.length = 4) : ∃ x, LokOk x ∧ cs = cLok x := by
  obtain ⟨c0, e0⟩ := list_of hl 0 (by omega)
  obtain ⟨c1, e1⟩ := list_of hl 1 (by omega)
  obtain ⟨c2, e2⟩ := list_of hl 2 (by omega)
  obtain ⟨c3, e3⟩ := list_of hl 3 (by omega)
  obtain ⟨a0, rfl⟩ := bool_field Try.underlying26 h 0 0 rfl e0
  obtain ⟨a1, rfl, w1⟩ := int_field Try.underlying26 h 1 1 rfl e1
  obtain ⟨a2, rfl, w2⟩ := int_field Try.underlying26 h 2 2 rfl e2
  obtain ⟨a3, rfl, w3⟩ := int_field Try.underlying26 h 3 3 rfl e3
  refine ⟨⟨a0, a1, a2, a3⟩, ⟨w1, w2, w3⟩, ?_⟩
  apply List.ext_getElem?
  intro i
  match i with
  | 0 => exact e0
  | 1 => exact e1
  | 2 => exact e2
  | 3 => exact e3
  | i + 4 => rw [List.getElem?_eq_none (by omega), List.getElem?_eq_none (by simp [cLok])]
theorem open_looks {H : Type} {enc : TypeId × Value → H} {W : World} {v : Value} {d : DataW H} {p : List MemPlace} {r : Reach} {b0 : Nat} (hok : Value.okWide Try.prog W r b0 22 v) (h : DataW.Trod enc Try.prog W 0 (fun _ => true) true 22 v d p) (_ : ∀ q ∈ DataW.weights Try.prog 22 d, q ≤ reachBytes) : ∃ L, (∀ x ∈ L, LokOk x) ∧ Rws W v 4 cLok L := by
  obtain ⟨ad, ln, cp, rfl⟩ := okWide_slice Try.underlying22 hok
  obtain ⟨fuel, hf⟩ := h
  obtain ⟨L, h1, h2, _⟩ := open_rws (k := 4) (cel := cLok) (ok := LokOk) (by omega) (fun _ => rfl) Try.underlying22 (by kernel_rfl) (fun n cs y h hl => one_Lok n cs y h hl) hf
  exact ⟨L, h1, h2⟩
end Go.Proofs.Ytambpihkbicbkaa
