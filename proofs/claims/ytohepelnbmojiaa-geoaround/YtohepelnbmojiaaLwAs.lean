/- GeoAround. -/
import Derived.Test.YtohepelnbmojiaaLwAr
import Derived.Test.YtohepelnbmojiaaGf4
namespace Go.Proofs.Ytohepelnbmojiaa
open Go.RowKit Go.Great Go.Deep Go.WideShapes Go.ChangeShapes

theorem open_turn {H : Type} {enc : TypeId × Value → H} {W : World} {v : Value} {d : DataW H} {p : List MemPlace} {r : Reach} {b0 : Nat} (hok : Value.okWide Try.prog W r b0 52 v) (h : DataW.Trod enc Try.prog W 0 (fun _ => true) true 52 v d p) (_ : ∀ q ∈ DataW.weights Try.prog 52 d, q ≤ reachBytes) : ∃ (k : Int) (back : Bool), v = .agg #[.int .i64 k, .bool back] := by
  obtain ⟨c0, c1, y0, y1, m, rfl, rfl, rfl, h0, h1⟩ := Joins.open_agg2 Try.underlying52 (by kernel_rfl) (by kernel_rfl) hok h
  obtain ⟨k, e0, _, _⟩ := DataW.trod_int Try.underlying3 h0
  obtain ⟨b, e1, _⟩ := DataW.trod_bool Try.underlying4 h1
  simp at e0 e1
  subst e0 e1
  exact ⟨k, b, rfl⟩
theorem GeoAround_walk (v : Value) (p0 p1 : Int) (v2 : Value) (w : World) (h0 : ∃ l, PtsIn w v l) (h2 : ∃ (k : Int) (back : Bool), v2 = .agg #[.int .i64 k, .bool back]) : Calls Try.prog 10 #[v, .agg #[.int .i64 p0, .int .i64 p1], v2] w fun e w' => e = .returned (.bool true) ∧ Below w.heap.size w w' := by
  obtain ⟨l, hl⟩ := h0
  obtain ⟨k, back, rfl⟩ := h2
  exact around_walk ara_not0 l v p0 p1 k back w hl
end Go.Proofs.Ytohepelnbmojiaa
