/- A script of calls that came in, opened. -/
import Derived.Test.YtjfajonedckggaaNoD
import Derived.Deep.Strs
import Derived.WideShapes
import Derived.Lib.SmallJoins
namespace Go.Proofs.Ytjfajonedckggaa
open Go.RowKit Go.Great Go.Deep Go.WideShapes Go.ChangeShapes

/-- a call: What, At, N, Data -/
abbrev Cl := Int × Int × Int × ByteArray
theorem plain_cell {w : World} {a : Addr} {v : Value} (h : w.cell? a = some v) : a = ⟨a.block, a.off, none⟩ ∧ a.block < w.heap.size := by
  obtain ⟨b, o, s⟩ := a
  have hb : b < w.heap.size := World.block_lt_of_cell? w _ h
  cases s with
  | none => exact ⟨rfl, hb⟩
  | some q =>
    exfalso
    unfold World.cell? at h
    split at h
    · simp at h
    · cases h
theorem cells4 {w : World} {a : Addr} {cs : List Value} (h : w.cells? 0 a 4 = some cs) : ∃ x y z u, cs = [x, y, z, u] ∧ w.cell? (a.add 0) = some x ∧ w.cell? (a.add 1) = some y ∧ w.cell? (a.add 2) = some z ∧ w.cell? (a.add 3) = some u := by
  unfold World.cells? at h
  rw [if_pos (Nat.zero_le _)] at h
  simp [List.range_succ] at h
  cases h0 : w.cell? (a.add 0) with
  | none => simp [h0] at h
  | some x =>
    cases h1 : w.cell? (a.add 1) with
    | none => simp [h0, h1] at h
    | some y =>
      cases h2 : w.cell? (a.add 2) with
      | none => simp [h0, h1, h2] at h
      | some z =>
        cases h3 : w.cell? (a.add 3) with
        | none => simp [h0, h1, h2, h3] at h
        | some u =>
          simp [h0, h1, h2, h3] at h
          exact ⟨x, y, z, u, h.symm, rfl, rfl, rfl, rfl⟩
/-- a slice of calls that came in -/
def CallsL (w : World) (v : Value) (cs : List Cl) : Prop :=
  cs.length ≤ maxLen ∧ (∃ a cap, v = .slice a cs.length cap ∧ (0 < cs.length → ∃ g o, a = some ⟨g, o, none⟩ ∧ g < w.heap.size ∧ ∀ (i : Nat) (h : i < cs.length), w.cell? ⟨g, o + i * 4, none⟩ = some (.int .i64 cs[i].1) ∧ w.cell? ⟨g, o + i * 4 + 1, none⟩ = some (.int .i64 cs[i].2.1) ∧ w.cell? ⟨g, o + i * 4 + 2, none⟩ = some (.int .i64 cs[i].2.2.1) ∧ w.cell? ⟨g, o + i * 4 + 3, none⟩ = some (.string cs[i].2.2.2))) ∧
  ∀ c ∈ cs, I64 c.1 ∧ I64 c.2.1 ∧ c.2.2.2.size ≤ 140737488351232
theorem weights_all {H : Type} {P : Program} {e : TypeId} {q : Nat} {d : DataW H} : ∀ {l : List (DataW H)}, d ∈ l → q ∈ d.weights P e → q ∈ DataW.weightsAll P e l
  | [], h, _ => by simp at h
  | x :: r, h, hq => by
    simp only [DataW.weightsAll, List.mem_append]
    rcases List.mem_cons.1 h with rfl | h
    · exact .inl hq
    · exact .inr (weights_all h hq)
theorem add_two (a : Addr) (i j : Nat) : ((⟨a.block, a.off, none⟩ : Addr).add i).add j = ⟨a.block, a.off + i + j, none⟩ := by rw [Addr.addi, Addr.addi]
theorem open_calls {H : Type} {enc : TypeId × Value → H} {W : World} {v : Value} {d : DataW H} {p : List MemPlace} {r : Reach} {b0 : Nat} (hok : Value.okWide Try.prog W r b0 22 v) (h : DataW.Trod enc Try.prog W 0 (fun _ => true) true 22 v d p) (hw : ∀ q ∈ d.weights Try.prog 22, q ≤ reachBytes) : ∃ cs, CallsL W v cs := by
  obtain ⟨ad, ln, cp, rfl⟩ := okWide_slice Try.underlying22 hok
  obtain ⟨fuel, hf⟩ := h
  have e1 : (Value.slice ad ln cp).cells.toList = [.slice ad ln cp] := rfl
  rw [e1] at hf
  have hC : Try.prog.cellsOf 30 = 4 := by kernel_rfl
  rcases open_slice Try.underlying22 hf with ⟨hcs, _⟩ | ⟨a, len, cap, m, n, D, Pl, hcs, hb, hl, hmax, hm, hx, hel⟩
  · injection hcs with hcs _
    injection hcs with h1 h2 h3
    subst h1 h2 h3
    exact ⟨[], by simp, ⟨none, 0, rfl, fun h => absurd h (by simp)⟩, fun m hm => by simp at hm⟩
  · injection hcs with hcs _
    injection hcs with h1 h2 h3
    subst h1 h2 h3
    simp only [if_true] at hm
    have hd : d = .slice ((List.range ln).map D) ((List.range (m - ln)).map fun j => D (ln + j)) := congrArg Prod.fst hx
    have each : ∀ i, i < ln → ∃ f : Cl, W.cell? ((a.add (i * 4)).add 0) = some (.int .i64 f.1) ∧ W.cell? ((a.add (i * 4)).add 1) = some (.int .i64 f.2.1) ∧ W.cell? ((a.add (i * 4)).add 2) = some (.int .i64 f.2.2.1) ∧ W.cell? ((a.add (i * 4)).add 3) = some (.string f.2.2.2) ∧ I64 f.1 ∧ I64 f.2.1 ∧ f.2.2.2.size ≤ 140737488351232 := by
      intro i hi
      obtain ⟨cs, hc1, hc2⟩ := hel i (by omega)
      rw [hC] at hc1
      obtain ⟨x, y, z, u, rfl, c0, c1, c2, c3⟩ := cells4 hc1
      obtain ⟨y0, y1, y2, y3, k, hxx, _, t0, t1, t2, t3⟩ := Joins.trod_struct4 Try.underlying30 hc2
      have t0' : DataW.trod enc Try.prog W 0 (fun _ => true) true k 3 [x] = some y0 := t0
      have t1' : DataW.trod enc Try.prog W 0 (fun _ => true) true k 3 [y] = some y1 := t1
      have t2' : DataW.trod enc Try.prog W 0 (fun _ => true) true k 3 [z] = some y2 := t2
      have t3' : DataW.trod enc Try.prog W 0 (fun _ => true) true k 9 [u] = some y3 := t3
      obtain ⟨u0, q0, _, v0⟩ := DataW.trod_int Try.underlying3 t0'
      obtain ⟨u1, q1, _, v1⟩ := DataW.trod_int Try.underlying3 t1'
      obtain ⟨u2, q2, _, _⟩ := DataW.trod_int Try.underlying3 t2'
      obtain ⟨u3, q3, p3, _⟩ := DataW.trod_string Try.underlying9 t3'
      simp at q0 q1 q2 q3
      subst q0 q1 q2 q3
      have hD : D i = .agg [y0.1, y1.1, y2.1, y3.1] := congrArg Prod.fst hxx
      have hz : u3.data.toList.length ≤ reachBytes := hw _ (by
        rw [hd]
        simp only [DataW.weights, Try.underlying22]
        refine List.mem_cons_of_mem _ (List.mem_append.2 (.inl (weights_all (d := D i) (List.mem_map.2 ⟨i, List.mem_range.2 hi, rfl⟩) ?_)))
        rw [hD, p3]
        simp [DataW.weights, DataW.weightsEach, Try.underlying30])
      rw [list_size] at hz
      exact ⟨(u0, u1, u2, u3), c0, c1, c2, c3, wf_i64 v0, wf_i64 v1, hz⟩
    obtain ⟨F, hF⟩ := choose_lt each
    refine ⟨(List.range ln).map F, ?_, ⟨some a, cp, ?_, ?_⟩, ?_⟩
    · rw [List.length_map, List.length_range]; omega
    · rw [List.length_map, List.length_range]
    · intro h0
      rw [List.length_map, List.length_range] at h0
      have hp := hF 0 h0
      have ha : a.add (0 * 4) = a := by simp [Addr.add]
      have ha0 : a.add 0 = a := by simp [Addr.add]
      rw [ha, ha0] at hp
      obtain ⟨e, hbl⟩ := plain_cell hp.1
      refine ⟨a.block, a.off, by rw [← e], hbl, fun i hi => ?_⟩
      rw [List.length_map, List.length_range] at hi
      have hq := hF i hi
      rw [e, add_two, add_two, add_two, add_two, Nat.add_zero] at hq
      simp only [List.getElem_map, List.getElem_range]
      exact ⟨hq.1, hq.2.1, hq.2.2.1, hq.2.2.2.1⟩
    · intro f hf
      rw [List.mem_map] at hf
      obtain ⟨i, hi, rfl⟩ := hf
      exact (hF i (List.mem_range.1 hi)).2.2.2.2
end Go.Proofs.Ytjfajonedckggaa
