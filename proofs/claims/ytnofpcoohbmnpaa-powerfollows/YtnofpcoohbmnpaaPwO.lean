/- Readings, points, uses that came in. -/
import Derived.Test.YtnofpcoohbmnpaaPw5
import Derived.Test.YtnofpcoohbmnpaaGnO
namespace Go.Proofs.Ytnofpcoohbmnpaa
open Go.RowKit Go.Great Go.Deep Go.WideShapes Go.ChangeShapes

/-- a reading -/
structure Rdg where
  o : Bool
  x : Int
def cRdg (x : Rdg) : List Value := [.bool x.o, .int .i64 x.x]
structure RdgOk (x : Rdg) : Prop where
  x : I64 x.x
theorem one_Rdg {H : Type} {enc : TypeId × Value → H} {W : World} {base : Nat} {spare : Nat → Bool} {held : Bool} (n : Nat) (cs : List Value) (y : DataW H × List MemPlace) (h : DataW.trod enc Try.prog W base spare held n 42 cs = some y) (hl : cs.length = 2) : ∃ x, RdgOk x ∧ cs = cRdg x := by
  obtain ⟨c0, e0⟩ := list_of hl 0 (by omega)
  obtain ⟨c1, e1⟩ := list_of hl 1 (by omega)
  obtain ⟨a0, rfl⟩ := bool_field Try.underlying42 h 0 0 rfl e0
  obtain ⟨a1, rfl, w1⟩ := int_field Try.underlying42 h 1 1 rfl e1
  refine ⟨⟨a0, a1⟩, ⟨w1⟩, ?_⟩
  apply List.ext_getElem?
  intro i
  match i with
  | 0 => exact e0
  | 1 => exact e1
  | i + 2 => rw [List.getElem?_eq_none (by omega), List.getElem?_eq_none (by simp [cRdg])]
/-- a point -/
structure Pnt where
  a : Int
  b : Int
def cPnt (x : Pnt) : List Value := [.int .i64 x.a, .int .i64 x.b]
structure PntOk (x : Pnt) : Prop where
  a : I64 x.a
  b : I64 x.b
theorem one_Pnt {H : Type} {enc : TypeId × Value → H} {W : World} {base : Nat} {spare : Nat → Bool} {held : Bool} (n : Nat) (cs : List Value) (y : DataW H × List MemPlace) (h : DataW.trod enc Try.prog W base spare held n 49 cs = some y) (hl : cs.length = 2) : ∃ x, PntOk x ∧ cs = cPnt x := by
  obtain ⟨c0, e0⟩ := list_of hl 0 (by omega)
  obtain ⟨c1, e1⟩ := list_of hl 1 (by omega)
  obtain ⟨a0, rfl, w0⟩ := int_field Try.underlying49 h 0 0 rfl e0
  obtain ⟨a1, rfl, w1⟩ := int_field Try.underlying49 h 1 1 rfl e1
  refine ⟨⟨a0, a1⟩, ⟨w0, w1⟩, ?_⟩
  apply List.ext_getElem?
  intro i
  match i with
  | 0 => exact e0
  | 1 => exact e1
  | i + 2 => rw [List.getElem?_eq_none (by omega), List.getElem?_eq_none (by simp [cPnt])]
/-- a tick of a battery -/
structure Uss where
  tk : Int
  of : Int
  td : Bool
def cUss (x : Uss) : List Value := [.int .i64 x.tk, .int .i64 x.of, .bool x.td]
structure UssOk (x : Uss) : Prop where
  tk : I64 x.tk
  of : I64 x.of
theorem one_Uss {H : Type} {enc : TypeId × Value → H} {W : World} {base : Nat} {spare : Nat → Bool} {held : Bool} (n : Nat) (cs : List Value) (y : DataW H × List MemPlace) (h : DataW.trod enc Try.prog W base spare held n 58 cs = some y) (hl : cs.length = 3) : ∃ x, UssOk x ∧ cs = cUss x := by
  obtain ⟨c0, e0⟩ := list_of hl 0 (by omega)
  obtain ⟨c1, e1⟩ := list_of hl 1 (by omega)
  obtain ⟨c2, e2⟩ := list_of hl 2 (by omega)
  obtain ⟨a0, rfl, w0⟩ := int_field Try.underlying58 h 0 0 rfl e0
  obtain ⟨a1, rfl, w1⟩ := int_field Try.underlying58 h 1 1 rfl e1
  obtain ⟨a2, rfl⟩ := bool_field Try.underlying58 h 2 2 rfl e2
  refine ⟨⟨a0, a1, a2⟩, ⟨w0, w1⟩, ?_⟩
  apply List.ext_getElem?
  intro i
  match i with
  | 0 => exact e0
  | 1 => exact e1
  | 2 => exact e2
  | i + 3 => rw [List.getElem?_eq_none (by omega), List.getElem?_eq_none (by simp [cUss])]
theorem cells_rdg : Try.prog.cellsOf 42 = 2 := by kernel_rfl
theorem open_read {H : Type} {enc : TypeId × Value → H} {W : World} {v : Value} {d : DataW H} {p : List MemPlace} {r : Reach} {b0 : Nat} (hok : Value.okWide Try.prog W r b0 42 v) (h : DataW.Trod enc Try.prog W 0 (fun _ => true) true 42 v d p) (_ : ∀ q ∈ DataW.weights Try.prog 42 d, q ≤ reachBytes) : ∃ o x, v = rdV o x := by
  obtain ⟨cs, rfl, hsz⟩ := okWide_strG Try.underlying42 hok
  obtain ⟨fuel, hf⟩ := h
  have hl : cs.toList.length = 2 := by rw [Array.length_toList, hsz]; exact cells_rdg
  obtain ⟨m, _, hq⟩ := one_Rdg fuel cs.toList _ hf hl
  refine ⟨m.o, m.x, ?_⟩
  have : cs = #[.bool m.o, .int .i64 m.x] := by apply Array.ext'; exact hq
  rw [this]
theorem open_reads {H : Type} {enc : TypeId × Value → H} {W : World} {v : Value} {d : DataW H} {p : List MemPlace} {r : Reach} {b0 : Nat} (hok : Value.okWide Try.prog W r b0 23 v) (h : DataW.Trod enc Try.prog W 0 (fun _ => true) true 23 v d p) (_ : ∀ q ∈ DataW.weights Try.prog 23 d, q ≤ reachBytes) : ∃ L, (∀ x ∈ L, RdgOk x) ∧ Rws W v 2 cRdg L := by
  obtain ⟨ad, ln, cp, rfl⟩ := okWide_slice Try.underlying23 hok
  obtain ⟨fuel, hf⟩ := h
  obtain ⟨L, h1, h2, _⟩ := open_rws (k := 2) (cel := cRdg) (ok := RdgOk) (by omega) (fun _ => rfl) Try.underlying23 (by kernel_rfl) (fun n cs y h hl => one_Rdg n cs y h hl) hf
  exact ⟨L, h1, h2⟩
theorem open_pnts {H : Type} {enc : TypeId × Value → H} {W : World} {v : Value} {d : DataW H} {p : List MemPlace} {r : Reach} {b0 : Nat} (hok : Value.okWide Try.prog W r b0 24 v) (h : DataW.Trod enc Try.prog W 0 (fun _ => true) true 24 v d p) (_ : ∀ q ∈ DataW.weights Try.prog 24 d, q ≤ reachBytes) : ∃ L, (∀ x ∈ L, PntOk x) ∧ Rws W v 2 cPnt L := by
  obtain ⟨ad, ln, cp, rfl⟩ := okWide_slice Try.underlying24 hok
  obtain ⟨fuel, hf⟩ := h
  obtain ⟨L, h1, h2, _⟩ := open_rws (k := 2) (cel := cPnt) (ok := PntOk) (by omega) (fun _ => rfl) Try.underlying24 (by kernel_rfl) (fun n cs y h hl => one_Pnt n cs y h hl) hf
  exact ⟨L, h1, h2⟩
theorem open_uses {H : Type} {enc : TypeId × Value → H} {W : World} {v : Value} {d : DataW H} {p : List MemPlace} {r : Reach} {b0 : Nat} (hok : Value.okWide Try.prog W r b0 52 v) (h : DataW.Trod enc Try.prog W 0 (fun _ => true) true 52 v d p) (_ : ∀ q ∈ DataW.weights Try.prog 52 d, q ≤ reachBytes) : ∃ L, (∀ x ∈ L, UssOk x) ∧ Rws W v 3 cUss L := by
  obtain ⟨ad, ln, cp, rfl⟩ := okWide_slice Try.underlying52 hok
  obtain ⟨fuel, hf⟩ := h
  obtain ⟨L, h1, h2, _⟩ := open_rws (k := 3) (cel := cUss) (ok := UssOk) (by omega) (fun _ => rfl) Try.underlying52 (by kernel_rfl) (fun n cs y h hl => one_Uss n cs y h hl) hf
  exact ⟨L, h1, h2⟩
end Go.Proofs.Ytnofpcoohbmnpaa
