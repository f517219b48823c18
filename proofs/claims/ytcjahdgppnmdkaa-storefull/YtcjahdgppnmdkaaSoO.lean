/- Cuts that came in, opened. -/
import Derived.Test.YtcjahdgppnmdkaaSoRa
import Derived.Deep.Strs
import Derived.WideShapes
import Derived.Lib.SmallJoins
import Derived.SizedLaws
set_option maxRecDepth 100000
namespace Go.Proofs.Ytcjahdgppnmdkaa
open Go.RowKit Go.Great Go.Deep Go.WideShapes Go.ChangeShapes

theorem plain_cell {w : World} {a : Addr} {v : Value} (h : w.cell? a = some v) : a = ⟨a.block, a.off, none⟩ ∧ a.block < w.heap.size := by
  obtain ⟨b, o, s⟩ := a
  have hb : b < w.heap.size := World.block_lt_of_cell? w _ h
  cases s with
  | none => exact ⟨rfl, hb⟩
  | some q =>
    exfalso
    unfold World.cell? at h
    split at h
    · simp at h
    · cases h
theorem cells2 {w : World} {a : Addr} {cs : List Value} (h : w.cells? 0 a 2 = some cs) : ∃ x y, cs = [x, y] ∧ w.cell? (a.add 0) = some x ∧ w.cell? (a.add 1) = some y := by
  unfold World.cells? at h
  rw [if_pos (Nat.zero_le _)] at h
  simp [List.range_succ] at h
  cases h0 : w.cell? (a.add 0) with
  | none => simp [h0] at h
  | some x =>
    cases h1 : w.cell? (a.add 1) with
    | none => simp [h0, h1] at h
    | some y =>
      simp [h0, h1] at h
      exact ⟨x, y, h.symm, rfl, rfl⟩
theorem add_plain' (b o i : Nat) : Addr.add ⟨b, o, none⟩ i = ⟨b, o + i, none⟩ := by
  unfold Addr.add
  split
  · subst_vars; rfl
  · rfl
theorem add_two (a : Addr) (i j : Nat) : ((⟨a.block, a.off, none⟩ : Addr).add i).add j = ⟨a.block, a.off + i + j, none⟩ := by rw [add_plain', add_plain']
theorem weights_all {H : Type} {P : Program} {e : TypeId} {q : Nat} {d : DataW H} : ∀ {l : List (DataW H)}, d ∈ l → q ∈ d.weights P e → q ∈ DataW.weightsAll P e l
  | [], h, _ => by simp at h
  | x :: r, h, hq => by
    simp only [DataW.weightsAll, List.mem_append]
    rcases List.mem_cons.1 h with rfl | h
    · exact .inl hq
    · exact .inr (weights_all h hq)
/-- a slice of cuts that came in -/
def CutsIn (w : World) (v : Value) (cs : List Ct) : Prop :=
  cs.length ≤ maxLen ∧ ∃ a cap, v = .slice a cs.length cap ∧ (∀ i, i < cs.length → (cs.getD i ctz).2.size ≤ 9223372036854775807) ∧ (0 < cs.length → ∃ g o, a = some ⟨g, o, none⟩ ∧ g < w.heap.size ∧ ∀ i, i < cs.length → w.cell? ⟨g, o + i * 2, none⟩ = some (.int .i64 (cs.getD i ctz).1) ∧ w.cell? ⟨g, o + i * 2 + 1, none⟩ = some (.string (cs.getD i ctz).2))
theorem CutsIn.cuts {w w' : World} {v : Value} {cs : List Ct} {R : Nat} (h : CutsIn w v cs) (hb : Below w.heap.size w w') (hR : w.heap.size ≤ R) : Cuts w' v cs R := by
  obtain ⟨_, a, cap, e, hz, hc⟩ := h
  refine ⟨a, cap, e, hz, fun h0 => ?_⟩
  obtain ⟨g, o, e2, hg, hcc⟩ := hc h0
  have hs := hb.size
  exact ⟨g, o, e2, by omega, by omega, fun i hi => ⟨(hb.cell (p := ⟨g, o + i * 2, none⟩) hg).trans (hcc i hi).1, (hb.cell (p := ⟨g, o + i * 2 + 1, none⟩) hg).trans (hcc i hi).2⟩⟩
set_option maxRecDepth 100000 in
theorem open_cuts {H : Type} {enc : TypeId × Value → H} {W : World} {u : Value} {y : DataW H × List MemPlace} {n : Nat} (h : DataW.trod enc Try.prog W 0 (fun _ => true) true n 45 [u] = some y) (hw : ∀ q ∈ y.1.weights Try.prog 45, q ≤ reachBytes) : ∃ cs, CutsIn W u cs := by
  have hC : Try.prog.cellsOf 44 = 2 := by kernel_rfl
  rcases open_slice (x := y) Try.underlying45 h with ⟨hcs, _⟩ | ⟨a, ln, cp, m, n, D, Pl, hcs, hb, hl, hmax, hm, hx, hel⟩
  · injection hcs with hcs _
    subst hcs
    exact ⟨[], by simp, none, 0, rfl, fun i h => absurd h (by simp), fun h => absurd h (by simp)⟩
  · injection hcs with hcs _
    subst hcs
    simp only [if_true] at hm
    have hd : y.1 = .slice ((List.range ln).map D) ((List.range (m - ln)).map fun j => D (ln + j)) := congrArg Prod.fst hx
    have each : ∀ i, i < ln → ∃ f : Ct, W.cell? ((a.add (i * 2)).add 0) = some (.int .i64 f.1) ∧ W.cell? ((a.add (i * 2)).add 1) = some (.string f.2) ∧ f.2.size ≤ 140737488351232 := by
      intro i hi
      obtain ⟨cs, hc1, hc2⟩ := hel i (by omega)
      rw [hC] at hc1
      obtain ⟨x, z, rfl, c0, c1⟩ := cells2 hc1
      obtain ⟨y0, y1, k, hxx, _, t0, t1⟩ := trod_struct2 Try.underlying44 hc2
      have t0' : DataW.trod enc Try.prog W 0 (fun _ => true) true k 3 [x] = some y0 := t0
      have t1' : DataW.trod enc Try.prog W 0 (fun _ => true) true k 9 [z] = some y1 := t1
      obtain ⟨u0, q0, _, v0⟩ := DataW.trod_int Try.underlying3 t0'
      obtain ⟨u1, q1, p1, _⟩ := DataW.trod_string Try.underlying9 t1'
      simp at q0 q1
      subst q0 q1
      have hD : D i = .agg [y0.1, y1.1] := congrArg Prod.fst hxx
      have hz : u1.data.toList.length ≤ reachBytes := hw _ (by
        rw [hd]
        simp only [DataW.weights, Try.underlying45]
        refine List.mem_cons_of_mem _ (List.mem_append.2 (.inl (weights_all (d := D i) (List.mem_map.2 ⟨i, List.mem_range.2 hi, rfl⟩) ?_)))
        rw [hD, p1]
        simp [DataW.weights, DataW.weightsEach, Try.underlying44])
      rw [list_size] at hz
      exact ⟨(u0, u1), c0, c1, hz⟩
    obtain ⟨F, hF⟩ := choose_lt each
    have hget : ∀ i, i < ln → ((List.range ln).map F).getD i ctz = F i := fun i hi => by
      rw [List.getD, List.getElem?_map, List.getElem?_range hi]; rfl
    refine ⟨(List.range ln).map F, ?_, some a, cp, ?_, ?_, ?_⟩
    · rw [List.length_map, List.length_range]; omega
    · rw [List.length_map, List.length_range]
    · intro i hi
      rw [List.length_map, List.length_range] at hi
      rw [hget i hi]
      have := (hF i hi).2.2
      omega
    · intro h0
      rw [List.length_map, List.length_range] at h0
      have hp := hF 0 h0
      have ha : a.add (0 * 2) = a := by simp [Addr.add]
      have ha0 : a.add 0 = a := by simp [Addr.add]
      rw [ha, ha0] at hp
      obtain ⟨e, hbl⟩ := plain_cell hp.1
      refine ⟨a.block, a.off, by rw [← e], hbl, fun i hi => ?_⟩
      rw [List.length_map, List.length_range] at hi
      have hq := hF i hi
      rw [e, add_two, add_two, Nat.add_zero] at hq
      rw [hget i hi]
      exact ⟨hq.1, hq.2.1⟩
set_option maxRecDepth 100000 in
/-- the same, from an argument's reading -/
theorem open_cutsA {H : Type} {enc : TypeId × Value → H} {W : World} {v : Value} {d : DataW H} {p : List MemPlace} {r : Reach} {b0 : Nat} (hok : Value.okWide Try.prog W r b0 45 v) (h : DataW.Trod enc Try.prog W 0 (fun _ => true) true 45 v d p) (hw : ∀ q ∈ d.weights Try.prog 45, q ≤ reachBytes) : ∃ cs, CutsIn W v cs := by
  obtain ⟨ad, ln, cp, rfl⟩ := okWide_slice Try.underlying45 hok
  obtain ⟨m, hm⟩ := h
  have e1 : (Value.slice ad ln cp).cells.toList = [.slice ad ln cp] := rfl
  rw [e1] at hm
  exact open_cuts hm hw
end Go.Proofs.Ytcjahdgppnmdkaa
