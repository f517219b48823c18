/- For every layer: structs and rows of structs that came in, with the reach of what they hold. -/
import Derived.Test.YtimkfipiebppiaaGnO
import Derived.Test.YtimkfipiebppiaaOpL
namespace Go.Proofs.Ytimkfipiebppiaa
open Go.RowKit Go.Great Go.Deep Go.WideShapes Go.ChangeShapes

set_option maxRecDepth 100000 in
theorem sub_fieldW {H : Type} {enc : TypeId × Value → H} {W : World} {base : Nat} {spare : Nat → Bool} {held : Bool} {t : TypeId} {fs : Array Field} {fuel : Nat} {cs : List Value} {x : DataW H × List MemPlace} (ht : Try.prog.underlying t = some (.struct fs)) (h : DataW.trod enc Try.prog W base spare held fuel t cs = some x) (i : Nat) (ft : TypeId) (o k : Nat) (hf : (fs[i]?).map (fun f => (f.type, f.offset)) = some (ft, o)) (hk : Try.prog.cellsOf ft = k) : ∃ n y, DataW.trod enc Try.prog W base spare held n ft ((cs.drop o).take k) = some y ∧ ∀ q ∈ y.1.weights Try.prog ft, q ∈ x.1.weights Try.prog t := by
  obtain ⟨xs, n, _, hx, _, hlen, hel⟩ := DataW.trod_struct ht h
  cases hfi : fs[i]? with
  | none => rw [hfi] at hf; cases hf
  | some f =>
    rw [hfi] at hf
    simp only [Option.map_some, Option.some.injEq, Prod.mk.injEq] at hf
    obtain ⟨e1, e2⟩ := hf
    have h1 := hel i f hfi
    rw [e1, e2, hk] at h1
    have hi : i < xs.length := by
      have := (Array.getElem?_eq_some_iff.1 hfi).1
      omega
    rw [List.getElem?_eq_getElem hi] at h1
    refine ⟨n, _, h1, fun q hq => ?_⟩
    rw [hx]
    show q ∈ DataW.weights Try.prog t (.agg _)
    unfold DataW.weights
    simp only [ht]
    refine DataW.weights_mem_each (j := i) (t := ft) (d := xs[i].1) ?_ ?_ q hq
    · rw [List.getElem?_map, Array.getElem?_toList, hfi, Option.map_some, e1]
    · rw [List.getElem?_map, List.getElem?_eq_getElem hi]; rfl
set_option maxRecDepth 100000 in
theorem open_rwsW {α : Type} {cel : α → List Value} {ok : α → Prop} {H : Type} {enc : TypeId × Value → H} {W : World} {t et : TypeId} {k : Nat} (hk0 : 0 < k) (hlen : ∀ x, (cel x).length = k) (ht : Try.prog.underlying t = some (.slice et)) (hk : Try.prog.cellsOf et = k)
    (one : ∀ (n : Nat) (cs : List Value) (y : DataW H × List MemPlace), DataW.trod enc Try.prog W 0 (fun _ => true) true n et cs = some y → cs.length = k → (∀ q ∈ y.1.weights Try.prog et, q ≤ reachBytes) → ∃ x, ok x ∧ cs = cel x)
    {u : Value} {y : DataW H × List MemPlace} {n : Nat} (h : DataW.trod enc Try.prog W 0 (fun _ => true) true n t [u] = some y) (hw : ∀ q ∈ y.1.weights Try.prog t, q ≤ reachBytes) : ∃ L : List α, (∀ x ∈ L, ok x) ∧ Rws W u k cel L ∧ L.length * Try.prog.bytesOf et ≤ reachBytes := by
  rcases open_slice ht h with ⟨hcs, _⟩ | ⟨a, len, cap, m, n, D, Pl, hcs, hb, hl, hmax, hm, hx, hel⟩
  · injection hcs with hcs _
    subst hcs
    exact ⟨[], by simp, ⟨by simp, none, 0, rfl, fun h => absurd h (by simp)⟩, by simp⟩
  · injection hcs with hcs _
    subst hcs
    simp only [if_true] at hm
    have hd : y.1 = .slice ((List.range len).map D) ((List.range (m - len)).map fun j => D (len + j)) := congrArg Prod.fst hx
    have each : ∀ i, i < len → ∃ x : α, ok x ∧ ∀ j u, (cel x)[j]? = some u → W.cell? ((a.add (i * k)).add j) = some u := by
      intro i hi
      obtain ⟨cs, hc1, hc2⟩ := hel i (by omega)
      rw [hk] at hc1
      obtain ⟨hl6, hc⟩ := cells_each k hc1
      obtain ⟨x, hx1, rfl⟩ := one n cs _ hc2 hl6 (fun q hq => hw q (by
        rw [hd]
        simp only [DataW.weights, ht]
        exact List.mem_cons_of_mem _ (List.mem_append.2 (.inl (weightsAll_mem (d := D i) (List.mem_map.2 ⟨i, List.mem_range.2 hi, rfl⟩) hq)))))
      refine ⟨x, hx1, fun j u hu => ?_⟩
      have hj : j < k := by
        obtain ⟨hlt, _⟩ := List.getElem?_eq_some_iff.1 hu
        omega
      rw [hc j hj]
      exact hu
    obtain ⟨F, hF⟩ : ∃ F : Nat → Option α, ∀ i, i < len → ∃ x, F i = some x ∧ ok x ∧ ∀ j u, (cel x)[j]? = some u → W.cell? ((a.add (i * k)).add j) = some u := by
      refine ⟨fun i => if hi : i < len then some (Classical.choose (each i hi)) else none, fun i hi => ⟨Classical.choose (each i hi), by simp [hi], Classical.choose_spec (each i hi)⟩⟩
    have hlenL : ((List.range len).filterMap F).length = len ∧ ∀ i, i < len → ((List.range len).filterMap F)[i]? = F i := by
      have key : ∀ l : List Nat, (∀ i ∈ l, i < len) → (l.filterMap F).length = l.length ∧ ∀ i, i < l.length → (l.filterMap F)[i]? = (l[i]?).bind F := by
        intro l
        induction l with
        | nil => intro _; exact ⟨rfl, fun i hi => absurd hi (by simp)⟩
        | cons q r ih =>
          intro hq
          obtain ⟨i1, i2⟩ := ih (fun i hi => hq i (List.mem_cons_of_mem _ hi))
          obtain ⟨x, hx1, _⟩ := hF q (hq q (List.mem_cons_self ..))
          rw [List.filterMap_cons_some hx1]
          refine ⟨by simp [i1], fun i hi => ?_⟩
          cases i with
          | zero => simp [hx1]
          | succ i => simpa using i2 i (by simpa using hi)
      obtain ⟨k1, k2⟩ := key (List.range len) (fun i hi => List.mem_range.1 hi)
      rw [List.length_range] at k1 k2
      exact ⟨k1, fun i hi => by rw [k2 i hi, List.getElem?_range hi]; rfl⟩
    refine ⟨(List.range len).filterMap F, ?_, ⟨?_, some a, cap, by rw [hlenL.1], ?_⟩, ?_⟩
    · intro x hx
      rw [List.mem_filterMap] at hx
      obtain ⟨i, hi, hx⟩ := hx
      obtain ⟨x', hx1, hx2, _⟩ := hF i (List.mem_range.1 hi)
      rw [hx] at hx1
      injection hx1 with hx1
      rw [hx1]
      exact hx2
    · rw [hlenL.1]; omega
    · intro h0
      rw [hlenL.1] at h0
      obtain ⟨x0, _, _, hp⟩ := hF 0 h0
      have hc0 : ∃ u, (cel x0)[0]? = some u := ⟨(cel x0)[0]'(by rw [hlen]; exact hk0), by simp [hlen, hk0]⟩
      obtain ⟨u0, hu0⟩ := hc0
      have hp := hp 0 u0 hu0
      have ha : a.add (0 * k) = a := by simp [Addr.add]
      have ha0 : a.add 0 = a := by simp [Addr.add]
      rw [ha, ha0] at hp
      obtain ⟨e, hbl⟩ := plain_adr hp
      refine ⟨a.block, a.off, by rw [← e], hbl, fun i x hi j u hu => ?_⟩
      have hlt : i < len := by
        obtain ⟨hlt, _⟩ := List.getElem?_eq_some_iff.1 hi
        rw [hlenL.1] at hlt
        exact hlt
      rw [hlenL.2 i hlt] at hi
      obtain ⟨x', hx1, _, hq⟩ := hF i hlt
      rw [hi] at hx1
      injection hx1 with hx1
      subst hx1
      have hq := hq j u hu
      rw [e, add_addr] at hq
      exact hq
    · rw [hlenL.1]
      have hwt := hw ((len + (m - len)) * Try.prog.bytesOf et) (by rw [hd]; simp [DataW.weights, ht])
      exact Nat.le_trans (Nat.mul_le_mul_right _ (by omega)) hwt
end Go.Proofs.Ytimkfipiebppiaa
