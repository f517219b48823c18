/- Units, rows of ticks, and histories that came in. -/
import Derived.Test.YtmglcmhofcejiaaVo5
import Derived.SizedLaws
import Derived.Deep.Strs
import Derived.OpenShut
namespace Go.Proofs.Ytmglcmhofcejiaa
open Go.RowKit Go.Great Go.Deep Go.WideShapes Go.ChangeShapes

theorem plain_ad {w : World} {a : Addr} {v : Value} (h : w.cell? a = some v) : a = ⟨a.block, a.off, none⟩ ∧ a.block < w.heap.size := by
  obtain ⟨b, o, s⟩ := a
  have hb : b < w.heap.size := by
    refine Decidable.byContradiction fun hn => ?_
    unfold World.cell? at h
    rw [Array.getElem?_eq_none (by simpa using hn)] at h
    simp at h
  cases s with
  | none => exact ⟨rfl, hb⟩
  | some q =>
    exfalso
    unfold World.cell? at h
    split at h
    · simp at h
    · cases h
theorem add_add' (a : Addr) (i j : Nat) : ((⟨a.block, a.off, none⟩ : Addr).add i).add j = ⟨a.block, a.off + i + j, none⟩ := by rw [add_plain', add_plain']
theorem cells_at {w : World} {a : Addr} : ∀ (n : Nat) {cs : List Value}, w.cells? 0 a n = some cs → cs.length = n ∧ ∀ i, i < n → w.cell? (a.add i) = cs[i]? := by
  intro n cs h
  unfold World.cells? at h
  rw [if_pos (Nat.zero_le _)] at h
  have hl := mapM_some_length h
  rw [List.length_range] at hl
  refine ⟨hl, fun i hi => ?_⟩
  have := mapM_some_get h i i (by simp [hi])
  exact this
theorem okWide_arrU {W : World} {r : Reach} {b0 n : Nat} {t e : TypeId} {v : Value} (ht : Try.prog.underlying t = some (.array n e)) (h : Value.okWide Try.prog W r b0 t v) : ∃ cs : Array Value, v = .agg cs ∧ cs.size = Try.prog.cellsOf t := by
  simp only [Value.okWide, ht] at h
  obtain ⟨cs, h1, h2, _⟩ := h
  exact ⟨cs, h1, h2⟩
/-- three readings -/
abbrev Tri := (Bool × Int) × (Bool × Int) × (Bool × Int)
def unT (q : Tri) : Un := un3 q.1.1 q.1.2 q.2.1.1 q.2.1.2 q.2.2.1 q.2.2.2
theorem cells_rd : Try.prog.cellsOf 36 = 2 := by kernel_rfl
theorem cells_un : Try.prog.cellsOf 38 = 6 := by kernel_rfl
theorem cells_i : Try.prog.cellsOf 3 = 1 := by kernel_rfl
theorem cells_b : Try.prog.cellsOf 4 = 1 := by kernel_rfl
section
variable {H : Type} {enc : TypeId × Value → H} {W : World} {base : Nat} {spare : Nat → Bool} {held : Bool}
theorem open_rd {n : Nat} {c0 c1 : Value} {y : DataW H × List MemPlace} (h : DataW.trod enc Try.prog W base spare held n 36 [c0, c1] = some y) : ∃ p : Bool × Int, c0 = .bool p.1 ∧ c1 = .int .i64 p.2 ∧ I64 p.2 := by
  obtain ⟨y0, y1, k, hx, _, h0, h1⟩ := trod_struct2 Try.underlying36 h
  simp only [cells_i, cells_b, List.drop_zero, List.take_succ_cons, List.take_zero, List.drop_succ_cons] at h0 h1
  obtain ⟨a, e0, _⟩ := DataW.trod_bool Try.underlying4 h0
  obtain ⟨b, e1, _, w1⟩ := DataW.trod_int Try.underlying3 h1
  simp at e0 e1
  exact ⟨(a, b), e0, e1, wf_i64 w1⟩
theorem open_un {n : Nat} {c0 c1 c2 c3 c4 c5 : Value} {y : DataW H × List MemPlace} (h : DataW.trod enc Try.prog W base spare held n 38 [c0, c1, c2, c3, c4, c5] = some y) : ∃ q : Tri, c0 = .bool q.1.1 ∧ c1 = .int .i64 q.1.2 ∧ c2 = .bool q.2.1.1 ∧ c3 = .int .i64 q.2.1.2 ∧ c4 = .bool q.2.2.1 ∧ c5 = .int .i64 q.2.2.2 ∧ UOk (unT q) := by
  obtain ⟨xs, m, _, _, _, hl, hel⟩ := DataW.trod_array Try.underlying38 h
  have g : ∀ i (hi : i < 3), ∃ z, xs[i]? = some z := fun i hi => ⟨xs[i]'(by omega), by simp [hl, hi]⟩
  obtain ⟨z0, g0⟩ := g 0 (by omega)
  obtain ⟨z1, g1⟩ := g 1 (by omega)
  obtain ⟨z2, g2⟩ := g 2 (by omega)
  have h0 := hel 0 (by omega)
  have h1 := hel 1 (by omega)
  have h2 := hel 2 (by omega)
  rw [g0] at h0
  rw [g1] at h1
  rw [g2] at h2
  simp only [cells_rd, Nat.zero_mul, Nat.one_mul, Nat.reduceMul, List.drop_zero, List.take_succ_cons, List.take_zero, List.drop_succ_cons] at h0 h1 h2
  obtain ⟨a, rfl, rfl, ha⟩ := open_rd h0
  obtain ⟨b, rfl, rfl, hb⟩ := open_rd h1
  obtain ⟨c, rfl, rfl, hc⟩ := open_rd h2
  exact ⟨(a, b, c), rfl, rfl, rfl, rfl, rfl, rfl, un3_ok ha hb hc⟩
end
theorem list6 {l : List Value} (h : l.length = 6) : ∃ a b c d e f, l = [a, b, c, d, e, f] := by
  match l, h with
  | [a, b, c, d, e, f], _ => exact ⟨a, b, c, d, e, f, rfl⟩
theorem open_units {H : Type} {enc : TypeId × Value → H} {W : World} {v : Value} {d : DataW H} {p : List MemPlace} {r : Reach} {b0 : Nat} (hok : Value.okWide Try.prog W r b0 38 v) (h : DataW.Trod enc Try.prog W 0 (fun _ => true) true 38 v d p) (_ : ∀ q ∈ DataW.weights Try.prog 38 d, q ≤ reachBytes) : ∃ u, v = uV u ∧ UOk u := by
  obtain ⟨cs, rfl, hsz⟩ := okWide_arrU Try.underlying38 hok
  obtain ⟨fuel, hf⟩ := h
  have hl : cs.toList.length = 6 := by rw [Array.length_toList, hsz]; exact cells_un
  obtain ⟨a, b, c, d, e, f, hq⟩ := list6 hl
  have hf' : DataW.trod enc Try.prog W 0 (fun _ => true) true fuel 38 cs.toList = _ := hf
  rw [hq] at hf'
  obtain ⟨q, rfl, rfl, rfl, rfl, rfl, rfl, hu⟩ := open_un hf'
  refine ⟨unT q, ?_, hu⟩
  have : cs = #[.bool q.1.1, .int .i64 q.1.2, .bool q.2.1.1, .int .i64 q.2.1.2, .bool q.2.2.1, .int .i64 q.2.2.2] := by
    apply Array.ext'
    exact hq
  rw [this]
  rfl
/-- a row of ticks, as it reads -/
def Tks (w : World) (v : Value) (L : List Un) : Prop :=
  (∀ u ∈ L, UOk u) ∧ L.length ≤ maxLen ∧ ∃ a cap, v = .slice a L.length cap ∧ (0 < L.length → ∃ g o, a = some ⟨g, o, none⟩ ∧ g < w.heap.size ∧ ∀ i u, L[i]? = some u → w.cell? ⟨g, o + i * 6, none⟩ = some (.bool (u.o 0)) ∧ w.cell? ⟨g, o + i * 6 + 1, none⟩ = some (.int .i64 (u.x 0)) ∧ w.cell? ⟨g, o + i * 6 + 2, none⟩ = some (.bool (u.o 1)) ∧ w.cell? ⟨g, o + i * 6 + 3, none⟩ = some (.int .i64 (u.x 1)) ∧ w.cell? ⟨g, o + i * 6 + 4, none⟩ = some (.bool (u.o 2)) ∧ w.cell? ⟨g, o + i * 6 + 5, none⟩ = some (.int .i64 (u.x 2)))
set_option maxRecDepth 100000 in
theorem open_tks {H : Type} {enc : TypeId × Value → H} {W : World} {u : Value} {y : DataW H × List MemPlace} {n : Nat} (h : DataW.trod enc Try.prog W 0 (fun _ => true) true n 22 [u] = some y) : ∃ L, Tks W u L := by
  rcases open_slice Try.underlying22 h with ⟨hcs, _⟩ | ⟨a, len, cap, m, n, D, Pl, hcs, hb, hl, hmax, hm, hx, hel⟩
  · injection hcs with hcs _
    subst hcs
    exact ⟨[], by simp, by simp, none, 0, rfl, fun h => absurd h (by simp)⟩
  · injection hcs with hcs _
    subst hcs
    simp only [if_true] at hm
    have each : ∀ i, i < len → ∃ q : Tri, UOk (unT q) ∧ W.cell? ((a.add (i * 6)).add 0) = some (.bool q.1.1) ∧ W.cell? ((a.add (i * 6)).add 1) = some (.int .i64 q.1.2) ∧ W.cell? ((a.add (i * 6)).add 2) = some (.bool q.2.1.1) ∧ W.cell? ((a.add (i * 6)).add 3) = some (.int .i64 q.2.1.2) ∧ W.cell? ((a.add (i * 6)).add 4) = some (.bool q.2.2.1) ∧ W.cell? ((a.add (i * 6)).add 5) = some (.int .i64 q.2.2.2) := by
      intro i hi
      obtain ⟨cs, hc1, hc2⟩ := hel i (by omega)
      rw [cells_un] at hc1
      obtain ⟨hl6, hc⟩ := cells_at 6 hc1
      obtain ⟨c0, c1, c2, c3, c4, c5, rfl⟩ := list6 hl6
      obtain ⟨q, rfl, rfl, rfl, rfl, rfl, rfl, hu⟩ := open_un hc2
      exact ⟨q, hu, hc 0 (by omega), hc 1 (by omega), hc 2 (by omega), hc 3 (by omega), hc 4 (by omega), hc 5 (by omega)⟩
    obtain ⟨F, hF⟩ := choose_lt each
    refine ⟨(List.range len).map fun i => unT (F i), ?_, ?_, some a, cap, by rw [List.length_map, List.length_range], ?_⟩
    · intro u hu
      rw [List.mem_map] at hu
      obtain ⟨i, hi, rfl⟩ := hu
      exact (hF i (List.mem_range.1 hi)).1
    · rw [List.length_map, List.length_range]; omega
    · intro h0
      rw [List.length_map, List.length_range] at h0
      have hp := (hF 0 h0).2.1
      have ha : a.add (0 * 6) = a := by simp [Addr.add]
      have ha0 : a.add 0 = a := by simp [Addr.add]
      rw [ha, ha0] at hp
      obtain ⟨e, hbl⟩ := plain_ad hp
      refine ⟨a.block, a.off, by rw [← e], hbl, fun i u hi => ?_⟩
      rw [List.getElem?_map] at hi
      have hlt : i < len := by
        refine Decidable.byContradiction fun hn => ?_
        rw [List.getElem?_eq_none (by simpa using hn)] at hi
        cases hi
      rw [List.getElem?_range hlt] at hi
      simp only [Option.map_some, Option.some.injEq] at hi
      subst hi
      have hq := (hF i hlt).2
      rw [e] at hq
      simp only [add_add', Nat.add_zero] at hq
      exact hq
theorem open_ticks {H : Type} {enc : TypeId × Value → H} {W : World} {v : Value} {d : DataW H} {p : List MemPlace} {r : Reach} {b0 : Nat} (hok : Value.okWide Try.prog W r b0 22 v) (h : DataW.Trod enc Try.prog W 0 (fun _ => true) true 22 v d p) (_ : ∀ q ∈ DataW.weights Try.prog 22 d, q ≤ reachBytes) : ∃ L, Tks W v L := by
  obtain ⟨ad, ln, cp, rfl⟩ := okWide_slice Try.underlying22 hok
  obtain ⟨fuel, hf⟩ := h
  exact open_tks hf
set_option maxRecDepth 100000 in
theorem open_hist {H : Type} {enc : TypeId × Value → H} {W : World} {v : Value} {d : DataW H} {p : List MemPlace} {r : Reach} {b0 : Nat} (hok : Value.okWide Try.prog W r b0 41 v) (h : DataW.Trod enc Try.prog W 0 (fun _ => true) true 41 v d p) (_ : ∀ q ∈ DataW.weights Try.prog 41 d, q ≤ reachBytes) : ∃ s tv L, v = .agg #[.int .i64 s, tv] ∧ I64 s ∧ Tks W tv L := by
  obtain ⟨c0, c1, y0, y1, m, rfl, rfl, rfl, h0, h1⟩ := Joins.open_agg2 Try.underlying41 (by kernel_rfl) (by kernel_rfl) hok h
  obtain ⟨s, e0, _, w0⟩ := DataW.trod_int Try.underlying3 h0
  simp at e0
  subst e0
  obtain ⟨L, hL⟩ := open_tks h1
  exact ⟨s, c1, L, rfl, wf_i64 w0, hL⟩
end Go.Proofs.Ytmglcmhofcejiaa
