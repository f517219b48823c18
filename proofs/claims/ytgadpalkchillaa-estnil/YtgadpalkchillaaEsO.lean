/- A measure that came in. -/
import Derived.Test.YtgadpalkchillaaEs7
import Derived.SizedLaws
import Derived.Deep.Strs
import Derived.OpenShut
namespace Go.Proofs.Ytgadpalkchillaa
open Go.RowKit Go.Great Go.Deep Go.WideShapes Go.ChangeShapes

theorem cells_int : Try.prog.cellsOf 3 = 1 := by kernel_rfl
theorem cells_bool : Try.prog.cellsOf 4 = 1 := by kernel_rfl
theorem cells_mea : Try.prog.cellsOf 38 = 3 := by kernel_rfl
theorem list3 {l : List Value} (h : l.length = 3) : ∃ a b c, l = [a, b, c] := by
  match l, h with
  | [a, b, c], _ => exact ⟨a, b, c, rfl⟩
theorem trod_mea {H : Type} {enc : TypeId × Value → H} {W : World} {base : Nat} {spare : Nat → Bool} {held : Bool} {n : Nat} {c0 c1 c2 : Value} {y : DataW H × List MemPlace} (h : DataW.trod enc Try.prog W base spare held n 38 [c0, c1, c2] = some y) : ∃ m : Mea, c0 = .bool m.o ∧ c1 = .int .i64 m.x ∧ c2 = .int .i64 m.e ∧ MOk m := by
  obtain ⟨y0, y1, y2, k, hx, _, h0, h1, h2⟩ := trod_struct3 Try.underlying38 h
  simp only [cells_int, cells_bool, List.drop_zero, List.take_succ_cons, List.take_zero, List.drop_succ_cons] at h0 h1 h2
  obtain ⟨a, e0, _⟩ := DataW.trod_bool Try.underlying4 h0
  obtain ⟨b, e1, _, w1⟩ := DataW.trod_int Try.underlying3 h1
  obtain ⟨c, e2, _, w2⟩ := DataW.trod_int Try.underlying3 h2
  simp at e0 e1 e2
  exact ⟨⟨a, b, c⟩, e0, e1, e2, wf_i64 w1, wf_i64 w2⟩
theorem okWide_str {W : World} {r : Reach} {b0 : Nat} {t : TypeId} {fs : Array Field} {v : Value} (ht : Try.prog.underlying t = some (.struct fs)) (h : Value.okWide Try.prog W r b0 t v) : ∃ cs : Array Value, v = .agg cs ∧ cs.size = Try.prog.cellsOf t := by
  simp only [Value.okWide, ht] at h
  obtain ⟨cs, h1, h2, _⟩ := h
  exact ⟨cs, h1, h2⟩
theorem open_mea {H : Type} {enc : TypeId × Value → H} {W : World} {v : Value} {d : DataW H} {p : List MemPlace} {r : Reach} {b0 : Nat} (hok : Value.okWide Try.prog W r b0 38 v) (h : DataW.Trod enc Try.prog W 0 (fun _ => true) true 38 v d p) (_ : ∀ q ∈ DataW.weights Try.prog 38 d, q ≤ reachBytes) : ∃ m, v = mV m ∧ MOk m := by
  obtain ⟨cs, rfl, hsz⟩ := okWide_str Try.underlying38 hok
  obtain ⟨fuel, hf⟩ := h
  have hl : cs.toList.length = 3 := by rw [Array.length_toList, hsz]; exact cells_mea
  obtain ⟨a, b, c, hq⟩ := list3 hl
  have hf' : DataW.trod enc Try.prog W 0 (fun _ => true) true fuel 38 cs.toList = _ := hf
  rw [hq] at hf'
  obtain ⟨m, rfl, rfl, rfl, hm⟩ := trod_mea hf'
  refine ⟨m, ?_, hm⟩
  have : cs = #[.bool m.o, .int .i64 m.x, .int .i64 m.e] := by apply Array.ext'; exact hq
  rw [this]
end Go.Proofs.Ytgadpalkchillaa
