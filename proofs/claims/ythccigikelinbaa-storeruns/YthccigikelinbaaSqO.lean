/- A script of calls that came in, opened. -/
import Derived.Test.YthccigikelinbaaSoO
import Derived.Lib.SmallJoins
namespace Go.Proofs.Ythccigikelinbaa
open Go.RowKit Go.Great Go.Deep Go.WideShapes Go.ChangeShapes

theorem cells3 {w : World} {a : Addr} {cs : List Value} (h : w.cells? 0 a 3 = some cs) : ∃ x y z, cs = [x, y, z] ∧ w.cell? (a.add 0) = some x ∧ w.cell? (a.add 1) = some y ∧ w.cell? (a.add 2) = some z := by
  unfold World.cells? at h
  rw [if_pos (Nat.zero_le _)] at h
  simp [List.range_succ] at h
  cases h0 : w.cell? (a.add 0) with
  | none => simp [h0] at h
  | some x =>
    cases h1 : w.cell? (a.add 1) with
    | none => simp [h0, h1] at h
    | some y =>
      cases h2 : w.cell? (a.add 2) with
      | none => simp [h0, h1, h2] at h
      | some z =>
        simp [h0, h1, h2] at h
        exact ⟨x, y, z, h.symm, rfl, rfl, rfl⟩
/-- a call: What, N, Value -/
abbrev Cl7 := Int × Int × ByteArray
/-- a slice of calls that came in -/
def CallsL7 (w : World) (v : Value) (cs : List Cl7) : Prop :=
  cs.length ≤ maxLen ∧ (∃ a cap, v = .slice a cs.length cap ∧ (0 < cs.length → ∃ g o, a = some ⟨g, o, none⟩ ∧ g < w.heap.size ∧ ∀ (i : Nat) (h : i < cs.length), w.cell? ⟨g, o + i * 3, none⟩ = some (.int .i64 cs[i].1) ∧ w.cell? ⟨g, o + i * 3 + 1, none⟩ = some (.int .i64 cs[i].2.1) ∧ w.cell? ⟨g, o + i * 3 + 2, none⟩ = some (.string cs[i].2.2))) ∧
  ∀ c ∈ cs, I64 c.1 ∧ I64 c.2.1 ∧ c.2.2.size ≤ 140737488351232
set_option maxRecDepth 100000 in
theorem open_calls {H : Type} {enc : TypeId × Value → H} {W : World} {v : Value} {d : DataW H} {p : List MemPlace} {r : Reach} {b0 : Nat} (hok : Value.okWide Try.prog W r b0 22 v) (h : DataW.Trod enc Try.prog W 0 (fun _ => true) true 22 v d p) (hw : ∀ q ∈ d.weights Try.prog 22, q ≤ reachBytes) : ∃ cs, CallsL7 W v cs := by
  obtain ⟨ad, ln, cp, rfl⟩ := okWide_slice Try.underlying22 hok
  obtain ⟨fuel, hf⟩ := h
  have e1 : (Value.slice ad ln cp).cells.toList = [.slice ad ln cp] := rfl
  rw [e1] at hf
  have hC : Try.prog.cellsOf 34 = 3 := by kernel_rfl
  rcases open_slice Try.underlying22 hf with ⟨hcs, _⟩ | ⟨a, len, cap, m, n, D, Pl, hcs, hb, hl, hmax, hm, hx, hel⟩
  · injection hcs with hcs _
    injection hcs with h1 h2 h3
    subst h1 h2 h3
    exact ⟨[], by simp, ⟨none, 0, rfl, fun h => absurd h (by simp)⟩, fun m hm => by simp at hm⟩
  · injection hcs with hcs _
    injection hcs with h1 h2 h3
    subst h1 h2 h3
    simp only [if_true] at hm
    have hd : d = .slice ((List.range ln).map D) ((List.range (m - ln)).map fun j => D (ln + j)) := congrArg Prod.fst hx
    have each : ∀ i, i < ln → ∃ f : Cl7, W.cell? ((a.add (i * 3)).add 0) = some (.int .i64 f.1) ∧ W.cell? ((a.add (i * 3)).add 1) = some (.int .i64 f.2.1) ∧ W.cell? ((a.add (i * 3)).add 2) = some (.string f.2.2) ∧ I64 f.1 ∧ I64 f.2.1 ∧ f.2.2.size ≤ 140737488351232 := by
      intro i hi
      obtain ⟨cs, hc1, hc2⟩ := hel i (by omega)
      rw [hC] at hc1
      obtain ⟨x, y, z, rfl, c0, c1, c2⟩ := cells3 hc1
      obtain ⟨y0, y1, y2, k, hxx, _, t0, t1, t2⟩ := trod_struct3 Try.underlying34 hc2
      have t0' : DataW.trod enc Try.prog W 0 (fun _ => true) true k 3 [x] = some y0 := t0
      have t1' : DataW.trod enc Try.prog W 0 (fun _ => true) true k 3 [y] = some y1 := t1
      have t2' : DataW.trod enc Try.prog W 0 (fun _ => true) true k 9 [z] = some y2 := t2
      obtain ⟨u0, q0, _, v0⟩ := DataW.trod_int Try.underlying3 t0'
      obtain ⟨u1, q1, _, v1⟩ := DataW.trod_int Try.underlying3 t1'
      obtain ⟨u2, q2, p2, _⟩ := DataW.trod_string Try.underlying9 t2'
      simp at q0 q1 q2
      subst q0 q1 q2
      have hD : D i = .agg [y0.1, y1.1, y2.1] := congrArg Prod.fst hxx
      have hz : u2.data.toList.length ≤ reachBytes := hw _ (by
        rw [hd]
        simp only [DataW.weights, Try.underlying22]
        refine List.mem_cons_of_mem _ (List.mem_append.2 (.inl (weights_all (d := D i) (List.mem_map.2 ⟨i, List.mem_range.2 hi, rfl⟩) ?_)))
        rw [hD, p2]
        simp [DataW.weights, DataW.weightsEach, Try.underlying34])
      rw [list_size] at hz
      exact ⟨(u0, u1, u2), c0, c1, c2, wf_i64 v0, wf_i64 v1, hz⟩
    obtain ⟨F, hF⟩ := choose_lt each
    refine ⟨(List.range ln).map F, ?_, ⟨some a, cp, ?_, ?_⟩, ?_⟩
    · rw [List.length_map, List.length_range]; omega
    · rw [List.length_map, List.length_range]
    · intro h0
      rw [List.length_map, List.length_range] at h0
      have hp := hF 0 h0
      have ha : a.add (0 * 3) = a := by simp [Addr.add]
      have ha0 : a.add 0 = a := by simp [Addr.add]
      rw [ha, ha0] at hp
      obtain ⟨e, hbl⟩ := plain_cell hp.1
      refine ⟨a.block, a.off, by rw [← e], hbl, fun i hi => ?_⟩
      rw [List.length_map, List.length_range] at hi
      have hq := hF i hi
      rw [e, add_two, add_two, add_two, Nat.add_zero] at hq
      simp only [List.getElem_map, List.getElem_range]
      exact ⟨hq.1, hq.2.1, hq.2.2.1⟩
    · intro f hf
      rw [List.mem_map] at hf
      obtain ⟨i, hi, rfl⟩ := hf
      exact (hF i (List.mem_range.1 hi)).2.2.2
end Go.Proofs.Ythccigikelinbaa
