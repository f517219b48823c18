/- Segments, rectangles and polygons that came in. -/
import Derived.Test.YtohepelnbmojiaaGeL
import Derived.Lib.SmallJoins
import Derived.SizedLaws
namespace Go.Proofs.Ytohepelnbmojiaa
open Go.RowKit Go.Great Go.Deep Go.WideShapes Go.ChangeShapes

theorem cells_pt : Try.prog.cellsOf 23 = 2 := by kernel_rfl
theorem cells_sp : Try.prog.cellsOf 44 = 2 := by kernel_rfl
theorem cells_int : Try.prog.cellsOf 3 = 1 := by kernel_rfl
section
variable {H : Type} {enc : TypeId × Value → H} {W : World} {base : Nat} {spare : Nat → Bool} {held : Bool}
theorem open_pair {n : Nat} {c0 c1 : Value} {y : DataW H × List MemPlace} (h : DataW.trod enc Try.prog W base spare held n 23 [c0, c1] = some y) : ∃ p : Pt, c0 = .int .i64 p.1 ∧ c1 = .int .i64 p.2 := by
  obtain ⟨y0, y1, k, hx, _, h0, h1⟩ := trod_struct2 Try.underlying23 h
  simp only [cells_int, List.drop_zero, List.take_succ_cons, List.take_zero, List.drop_succ_cons] at h0 h1
  obtain ⟨a, e0, _, _⟩ := DataW.trod_int Try.underlying3 h0
  obtain ⟨b, e1, _, _⟩ := DataW.trod_int Try.underlying3 h1
  simp at e0 e1
  exact ⟨(a, b), e0, e1⟩
theorem open_spair {n : Nat} {c0 c1 : Value} {y : DataW H × List MemPlace} (h : DataW.trod enc Try.prog W base spare held n 44 [c0, c1] = some y) : ∃ p : Pt, c0 = .int .i64 p.1 ∧ c1 = .int .i64 p.2 := by
  obtain ⟨y0, y1, k, hx, _, h0, h1⟩ := trod_struct2 Try.underlying44 h
  simp only [cells_int, List.drop_zero, List.take_succ_cons, List.take_zero, List.drop_succ_cons] at h0 h1
  obtain ⟨a, e0, _, _⟩ := DataW.trod_int Try.underlying3 h0
  obtain ⟨b, e1, _, _⟩ := DataW.trod_int Try.underlying3 h1
  simp at e0 e1
  exact ⟨(a, b), e0, e1⟩
end
theorem open_seg {H : Type} {enc : TypeId × Value → H} {W : World} {v : Value} {d : DataW H} {p : List MemPlace} {r : Reach} {b0 : Nat} (hok : Value.okWide Try.prog W r b0 31 v) (h : DataW.Trod enc Try.prog W 0 (fun _ => true) true 31 v d p) (_ : ∀ q ∈ DataW.weights Try.prog 31 d, q ≤ reachBytes) : ∃ a b : Pt, v = sV a b := by
  obtain ⟨cs, rfl, hsz⟩ := okWide_struct Try.underlying31 hok
  obtain ⟨c0, c1, c2, c3, rfl⟩ := Joins.array4 (hsz.trans (by kernel_rfl))
  obtain ⟨fuel, hf⟩ := h
  obtain ⟨y0, y1, n, hx, _, h0, h1⟩ := trod_struct2 Try.underlying31 hf
  simp only [cells_pt, Value.cells, List.drop_zero, List.take_succ_cons, List.take_zero, List.drop_succ_cons] at h0 h1
  obtain ⟨a, rfl, rfl⟩ := open_pair h0
  obtain ⟨b, rfl, rfl⟩ := open_pair h1
  exact ⟨a, b, rfl⟩
theorem open_rect {H : Type} {enc : TypeId × Value → H} {W : World} {v : Value} {d : DataW H} {p : List MemPlace} {r : Reach} {b0 : Nat} (hok : Value.okWide Try.prog W r b0 46 v) (h : DataW.Trod enc Try.prog W 0 (fun _ => true) true 46 v d p) (_ : ∀ q ∈ DataW.weights Try.prog 46 d, q ≤ reachBytes) : ∃ x y : Pt, v = sV x y := by
  obtain ⟨cs, rfl, hsz⟩ := okWide_struct Try.underlying46 hok
  obtain ⟨c0, c1, c2, c3, rfl⟩ := Joins.array4 (hsz.trans (by kernel_rfl))
  obtain ⟨fuel, hf⟩ := h
  obtain ⟨y0, y1, n, hx, _, h0, h1⟩ := trod_struct2 Try.underlying46 hf
  simp only [cells_sp, Value.cells, List.drop_zero, List.take_succ_cons, List.take_zero, List.drop_succ_cons] at h0 h1
  obtain ⟨a, rfl, rfl⟩ := open_spair h0
  obtain ⟨b, rfl, rfl⟩ := open_spair h1
  exact ⟨a, b, rfl⟩
end Go.Proofs.Ytohepelnbmojiaa
