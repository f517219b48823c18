/- Fences, boxes and ways that came in. -/
import Derived.Test.YtnenbbkkhnlgbaaLwF1
import Derived.Deep.Strs
namespace Go.Proofs.Ytnenbbkkhnlgbaa
open Go.RowKit Go.Great Go.Deep Go.WideShapes Go.ChangeShapes

set_option maxRecDepth 100000 in
theorem open_pts {H : Type} {enc : TypeId × Value → H} {W : World} {u : Value} {y : DataW H × List MemPlace} {n : Nat} (h : DataW.trod enc Try.prog W 0 (fun _ => true) true n 22 [u] = some y) (hw : ∀ q ∈ y.1.weights Try.prog 22, q ≤ reachBytes) : ∃ l, PtsIn W u l := by
  have hb16 : Try.prog.bytesOf 39 = 16 := by kernel_rfl
  rcases open_slice Try.underlying22 h with ⟨hcs, _⟩ | ⟨a, len, cap, m, n, D, Pl, hcs, hb, hl, hmax, hm, hx, hel⟩
  · injection hcs with hcs _
    subst hcs
    exact ⟨[], ⟨none, 0, rfl, fun h => absurd h (by simp)⟩, fun n c e => by injection e with _ _ e; exact e.symm, by simp⟩
  · injection hcs with hcs _
    subst hcs
    simp only [if_true] at hm
    subst hm
    have hwt := hw ((len + (m - len)) * 16) (by rw [hx]; simp [DataW.weights, Try.underlying22, hb16])
    have hwt' : m * 16 ≤ 140737488351232 := by
      have : (len + (m - len)) = m := by omega
      rw [this] at hwt
      exact hwt
    have each : ∀ i, i < len → ∃ f : Pt, W.cell? ((a.add (i * 2)).add 0) = some (.int .i64 f.1) ∧ W.cell? ((a.add (i * 2)).add 1) = some (.int .i64 f.2) := by
      intro i hi
      obtain ⟨cs, hc1, hc2⟩ := hel i (by omega)
      rw [cells_pt] at hc1
      obtain ⟨x, y, rfl, c0, c1⟩ := cells2 hc1
      obtain ⟨q, rfl, rfl⟩ := open_pair hc2
      exact ⟨q, c0, c1⟩
    obtain ⟨F, hF⟩ := choose_lt each
    refine ⟨(List.range len).map F, ⟨some a, m, by rw [List.length_map, List.length_range], ?_⟩, fun n c e => (by injection e with e; cases e), by rw [List.length_map, List.length_range]; omega⟩
    intro h0
    rw [List.length_map, List.length_range] at h0
    have hp := hF 0 h0
    have ha : a.add (0 * 2) = a := by simp [Addr.add]
    have ha0 : a.add 0 = a := by simp [Addr.add]
    rw [ha, ha0] at hp
    obtain ⟨e, hbl⟩ := plain_of hp.1
    refine ⟨a.block, a.off, by rw [← e], hbl, fun i hi => ?_⟩
    rw [List.length_map, List.length_range] at hi
    have hq := hF i hi
    rw [e, add_add', add_add', Nat.add_zero] at hq
    rw [hq.1, hq.2]
    simp [hi]
set_option maxRecDepth 100000 in
theorem open_fence {H : Type} {enc : TypeId × Value → H} {W : World} {v : Value} {d : DataW H} {p : List MemPlace} {r : Reach} {b0 : Nat} (hok : Value.okWide Try.prog W r b0 24 v) (h : DataW.Trod enc Try.prog W 0 (fun _ => true) true 24 v d p) (hw : ∀ q ∈ d.weights Try.prog 24, q ≤ reachBytes) : FenIn W v := by
  obtain ⟨c0, c1, c2, c3, y0, y1, y2, y3, m, rfl, rfl, rfl, h0, h1, h2, h3⟩ := Joins.open_agg4 Try.underlying24 (by kernel_rfl) (by kernel_rfl) hok h
  obtain ⟨fl, e1, _, _⟩ := DataW.trod_int Try.underlying3 h1
  obtain ⟨ce, e2, _, _⟩ := DataW.trod_int Try.underlying3 h2
  simp at e1 e2
  subst e1 e2
  obtain ⟨P, hP⟩ := open_pts h0 (fun q hq => hw q (by simp [DataW.weights, DataW.weightsEach, Try.underlying24]; exact .inl hq))
  obtain ⟨R, hR⟩ := open_pts h3 (fun q hq => hw q (by simp [DataW.weights, DataW.weightsEach, Try.underlying24]; exact .inr (.inr (.inr hq))))
  exact ⟨P, R, fl, ce, c0, c3, rfl, hP, hR⟩
theorem array5 {α : Type} {cs : Array α} (h : cs.size = 5) : ∃ c0 c1 c2 c3 c4, cs = #[c0, c1, c2, c3, c4] := by
  rcases cs with ⟨l⟩
  match l, h with
  | [c0, c1, c2, c3, c4], _ => exact ⟨c0, c1, c2, c3, c4, rfl⟩
theorem array6 {α : Type} {cs : Array α} (h : cs.size = 6) : ∃ c0 c1 c2 c3 c4 c5, cs = #[c0, c1, c2, c3, c4, c5] := by
  rcases cs with ⟨l⟩
  match l, h with
  | [c0, c1, c2, c3, c4, c5], _ => exact ⟨c0, c1, c2, c3, c4, c5, rfl⟩
set_option maxRecDepth 100000 in
theorem open_box {H : Type} {enc : TypeId × Value → H} {W : World} {v : Value} {d : DataW H} {p : List MemPlace} {r : Reach} {b0 : Nat} (hok : Value.okWide Try.prog W r b0 34 v) (h : DataW.Trod enc Try.prog W 0 (fun _ => true) true 34 v d p) (_ : ∀ q ∈ DataW.weights Try.prog 34 d, q ≤ reachBytes) : ∃ x y z : Pt, v = bV x y z := by
  obtain ⟨cs, rfl, hsz⟩ := okWide_struct Try.underlying34 hok
  obtain ⟨c0, c1, c2, c3, c4, c5, rfl⟩ := array6 (hsz.trans (by kernel_rfl))
  obtain ⟨fuel, hf⟩ := h
  obtain ⟨y0, y1, y2, n, hx, _, h0, h1, h2⟩ := trod_struct3 Try.underlying34 hf
  simp only [cells_sp, Value.cells, List.drop_zero, List.take_succ_cons, List.take_zero, List.drop_succ_cons] at h0 h1 h2
  obtain ⟨a, rfl, rfl⟩ := open_spair h0
  obtain ⟨b, rfl, rfl⟩ := open_spair h1
  obtain ⟨c, rfl, rfl⟩ := open_spair h2
  exact ⟨a, b, c, rfl⟩
/-- a way, as the model has it -/
def wV (a b : Pt) (r : Int) : Value := .agg #[.int .i64 a.1, .int .i64 a.2, .int .i64 b.1, .int .i64 b.2, .int .i64 r]
set_option maxRecDepth 100000 in
theorem open_way {H : Type} {enc : TypeId × Value → H} {W : World} {v : Value} {d : DataW H} {p : List MemPlace} {r : Reach} {b0 : Nat} (hok : Value.okWide Try.prog W r b0 41 v) (h : DataW.Trod enc Try.prog W 0 (fun _ => true) true 41 v d p) (_ : ∀ q ∈ DataW.weights Try.prog 41 d, q ≤ reachBytes) : ∃ (a b : Pt) (r : Int), v = wV a b r := by
  obtain ⟨cs, rfl, hsz⟩ := okWide_struct Try.underlying41 hok
  obtain ⟨c0, c1, c2, c3, c4, rfl⟩ := array5 (hsz.trans (by kernel_rfl))
  obtain ⟨fuel, hf⟩ := h
  obtain ⟨y0, y1, y2, n, hx, _, h0, h1, h2⟩ := trod_struct3 Try.underlying41 hf
  simp only [cells_pt, cells_int, Value.cells, List.drop_zero, List.take_succ_cons, List.take_zero, List.drop_succ_cons] at h0 h1 h2
  obtain ⟨a, rfl, rfl⟩ := open_pair h0
  obtain ⟨b, rfl, rfl⟩ := open_pair h1
  obtain ⟨c, e2, _, _⟩ := DataW.trod_int Try.underlying3 h2
  simp at e2
  subst e2
  exact ⟨a, b, c, rfl⟩
end Go.Proofs.Ytnenbbkkhnlgbaa
