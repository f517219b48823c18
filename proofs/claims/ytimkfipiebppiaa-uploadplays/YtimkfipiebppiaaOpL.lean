/- Lists of lists of ints that came in (out of FlL, over Op0). -/
import Derived.Test.YtimkfipiebppiaaOp0
namespace Go.Proofs.Ytimkfipiebppiaa
open Go.RowKit Go.Great Go.Deep Go.WideShapes Go.ChangeShapes

set_option maxRecDepth 100000 in
theorem weightsAll_mem {H : Type} {P : Program} {e : TypeId} {q : Nat} {d : DataW H} : ∀ {l : List (DataW H)}, d ∈ l → q ∈ d.weights P e → q ∈ DataW.weightsAll P e l
  | [], h, _ => by simp at h
  | x :: r, h, hq => by
    simp only [DataW.weightsAll, List.mem_append]
    rcases List.mem_cons.1 h with rfl | h
    · exact .inl hq
    · exact .inr (weightsAll_mem h hq)
/-- a list of lists that came in -/
def LstsIn (w : World) (v : Value) (L : List (List Int)) : Prop :=
  L.length * 24 + 64 ≤ 140737488355328 ∧ ∃ a cap, v = .slice a L.length cap ∧ (0 < L.length → ∃ g o, a = some ⟨g, o, none⟩ ∧ g < w.heap.size ∧ ∀ i, i < L.length → ∃ u, w.cell? ⟨g, o + i, none⟩ = some u ∧ IntsIn w u (L.getD i []))
set_option maxRecDepth 100000 in
theorem open_lists {H : Type} {enc : TypeId × Value → H} {W : World} {v : Value} {d : DataW H} {p : List MemPlace} {r : Reach} {b0 : Nat} (hok : Value.okWide Try.prog W r b0 27 v) (h : DataW.Trod enc Try.prog W 0 (fun _ => true) true 27 v d p) (hw : ∀ q ∈ d.weights Try.prog 27, q ≤ reachBytes) : ∃ L, LstsIn W v L := by
  obtain ⟨ad, ln, cp, rfl⟩ := okWide_slice Try.underlying27 hok
  obtain ⟨fuel, hf⟩ := h
  have e1 : (Value.slice ad ln cp).cells.toList = [.slice ad ln cp] := rfl
  rw [e1] at hf
  have hC : Try.prog.cellsOf 36 = 1 := by kernel_rfl
  have hb24 : Try.prog.bytesOf 36 = 24 := by kernel_rfl
  rcases open_slice Try.underlying27 hf with ⟨hcs, _⟩ | ⟨a, len, cap, m, n, D, Pl, hcs, hb, hl, hmax, hm, hx, hel⟩
  · injection hcs with hcs _
    injection hcs with h1 h2 h3
    subst h1 h2 h3
    exact ⟨[], by simp, none, 0, rfl, fun h => absurd h (by simp)⟩
  · injection hcs with hcs _
    injection hcs with h1 h2 h3
    subst h1 h2 h3
    simp only [if_true] at hm
    have hd : d = .slice ((List.range ln).map D) ((List.range (m - ln)).map fun j => D (ln + j)) := congrArg Prod.fst hx
    have hwt := hw ((ln + (m - ln)) * 24) (by rw [hd]; simp [DataW.weights, Try.underlying27, hb24])
    have hwt' : m * 24 ≤ 140737488351232 := by
      have : (ln + (m - ln)) = m := by omega
      rw [this] at hwt
      exact hwt
    have each : ∀ i, i < ln → ∃ f : Value × List Int, W.cell? ((a.add (i * 1)).add 0) = some f.1 ∧ IntsIn W f.1 f.2 := by
      intro i hi
      obtain ⟨cs, hc1, hc2⟩ := hel i (by omega)
      rw [hC] at hc1
      obtain ⟨x, rfl, c0⟩ := cells1 hc1
      obtain ⟨ns, hns⟩ := open_ints hc2 (fun q hq => hw q (by
        rw [hd]
        simp only [DataW.weights, Try.underlying27]
        refine List.mem_cons_of_mem _ (List.mem_append.2 (.inl (weightsAll_mem (d := D i) (List.mem_map.2 ⟨i, List.mem_range.2 hi, rfl⟩) ?_)))
        exact hq))
      exact ⟨(x, ns), c0, hns⟩
    obtain ⟨F, hF⟩ := choose_lt each
    refine ⟨(List.range ln).map fun i => (F i).2, ?_, some a, cp, ?_, ?_⟩
    · rw [List.length_map, List.length_range]; omega
    · rw [List.length_map, List.length_range]
    · intro h0
      rw [List.length_map, List.length_range] at h0
      have hp := (hF 0 h0).1
      have ha : a.add (0 * 1) = a := by simp [Addr.add]
      have ha0 : a.add 0 = a := by simp [Addr.add]
      rw [ha, ha0] at hp
      obtain ⟨e, hbl⟩ := plain_of hp
      refine ⟨a.block, a.off, by rw [← e], hbl, fun i hi => ?_⟩
      rw [List.length_map, List.length_range] at hi
      have hq := hF i hi
      rw [e, add_add', Nat.mul_one, Nat.add_zero] at hq
      refine ⟨(F i).1, hq.1, ?_⟩
      have eg : ((List.range ln).map fun i => (F i).2).getD i [] = (F i).2 := by simp [hi]
      rw [eg]
      exact hq.2
end Go.Proofs.Ytimkfipiebppiaa
