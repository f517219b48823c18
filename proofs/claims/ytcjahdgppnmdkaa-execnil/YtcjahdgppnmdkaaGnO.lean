/- For every layer: structs and rows of structs that came in, field by field. -/
import Derived.Test.YtcjahdgppnmdkaaGn0
import Derived.SizedLaws
import Derived.Deep.Strs
import Derived.OpenShut
set_option maxRecDepth 100000
namespace Go.Proofs.Ytcjahdgppnmdkaa
open Go.RowKit Go.Great Go.Deep Go.WideShapes Go.ChangeShapes

section
variable {H : Type} {enc : TypeId × Value → H} {W : World} {base : Nat} {spare : Nat → Bool} {held : Bool}
theorem sub_field {t : TypeId} {fs : Array Field} {fuel : Nat} {cs : List Value} {x : DataW H × List MemPlace} (ht : Try.prog.underlying t = some (.struct fs)) (h : DataW.trod enc Try.prog W base spare held fuel t cs = some x) (i : Nat) (ft : TypeId) (o k : Nat) (hf : (fs[i]?).map (fun f => (f.type, f.offset)) = some (ft, o)) (hk : Try.prog.cellsOf ft = k) : ∃ n y, DataW.trod enc Try.prog W base spare held n ft ((cs.drop o).take k) = some y := by
  obtain ⟨xs, n, _, _, _, hlen, hel⟩ := DataW.trod_struct ht h
  cases hfi : fs[i]? with
  | none => rw [hfi] at hf; cases hf
  | some f =>
    rw [hfi] at hf
    simp only [Option.map_some, Option.some.injEq, Prod.mk.injEq] at hf
    obtain ⟨e1, e2⟩ := hf
    have h1 := hel i f hfi
    have hlt : i < xs.length := by rw [hlen]; exact (Array.getElem?_eq_some_iff.1 hfi).1
    rw [List.getElem?_eq_getElem hlt, e1, e2, hk] at h1
    exact ⟨n, _, h1⟩
theorem one_of (cs : List Value) (o : Nat) (c : Value) (h : cs[o]? = some c) : (cs.drop o).take 1 = [c] := by
  obtain ⟨hlt, e⟩ := List.getElem?_eq_some_iff.1 h
  rw [List.drop_eq_getElem_cons hlt, e]
  rfl
theorem cells_int : Try.prog.cellsOf 3 = 1 := by kernel_rfl
theorem cells_bool : Try.prog.cellsOf 4 = 1 := by kernel_rfl
theorem int_field {t : TypeId} {fs : Array Field} {fuel : Nat} {cs : List Value} {x : DataW H × List MemPlace} (ht : Try.prog.underlying t = some (.struct fs)) (h : DataW.trod enc Try.prog W base spare held fuel t cs = some x) (i o : Nat) (hf : (fs[i]?).map (fun f => (f.type, f.offset)) = some (3, o)) {c : Value} (hc : cs[o]? = some c) : ∃ a, c = .int .i64 a ∧ I64 a := by
  obtain ⟨n, y, h1⟩ := sub_field ht h i 3 o 1 hf cells_int
  rw [one_of cs o c hc] at h1
  obtain ⟨b, e1, _, w1⟩ := DataW.trod_int Try.underlying3 h1
  simp at e1
  exact ⟨b, e1, wf_i64 w1⟩
theorem bool_field {t : TypeId} {fs : Array Field} {fuel : Nat} {cs : List Value} {x : DataW H × List MemPlace} (ht : Try.prog.underlying t = some (.struct fs)) (h : DataW.trod enc Try.prog W base spare held fuel t cs = some x) (i o : Nat) (hf : (fs[i]?).map (fun f => (f.type, f.offset)) = some (4, o)) {c : Value} (hc : cs[o]? = some c) : ∃ a, c = .bool a := by
  obtain ⟨n, y, h1⟩ := sub_field ht h i 4 o 1 hf cells_bool
  rw [one_of cs o c hc] at h1
  obtain ⟨b, e1, _⟩ := DataW.trod_bool Try.underlying4 h1
  simp at e1
  exact ⟨b, e1⟩
end
theorem plain_adr {w : World} {a : Addr} {v : Value} (h : w.cell? a = some v) : a = ⟨a.block, a.off, none⟩ ∧ a.block < w.heap.size := by
  obtain ⟨b, o, s⟩ := a
  have hb : b < w.heap.size := by
    refine Decidable.byContradiction fun hn => ?_
    unfold World.cell? at h
    rw [Array.getElem?_eq_none (by simpa using hn)] at h
    simp at h
  cases s with
  | none => exact ⟨rfl, hb⟩
  | some q =>
    exfalso
    unfold World.cell? at h
    split at h
    · simp at h
    · cases h
theorem add_addr (a : Addr) (i j : Nat) : ((⟨a.block, a.off, none⟩ : Addr).add i).add j = ⟨a.block, a.off + i + j, none⟩ := by rw [add_plain', add_plain']
theorem cells_each {w : World} {a : Addr} (n : Nat) {cs : List Value} (h : w.cells? 0 a n = some cs) : cs.length = n ∧ ∀ i, i < n → w.cell? (a.add i) = cs[i]? := by
  unfold World.cells? at h
  rw [if_pos (Nat.zero_le _)] at h
  have hl := mapM_some_length h
  rw [List.length_range] at hl
  exact ⟨hl, fun i hi => mapM_some_get h i i (by simp [hi])⟩
/-- a row of structs of k cells, as it reads -/
def Rws {α : Type} (w : World) (v : Value) (k : Nat) (cel : α → List Value) (L : List α) : Prop :=
  L.length ≤ maxLen ∧ ∃ a cap, v = .slice a L.length cap ∧ (0 < L.length → ∃ g o, a = some ⟨g, o, none⟩ ∧ g < w.heap.size ∧ ∀ i x, L[i]? = some x → ∀ j u, (cel x)[j]? = some u → w.cell? ⟨g, o + i * k + j, none⟩ = some u)
theorem Rws.below {α : Type} {w w' : World} {v : Value} {k : Nat} {cel : α → List Value} {L : List α} (h : Rws w v k cel L) (hb : Below w.heap.size w w') : Rws w' v k cel L := by
  obtain ⟨h0, a, cap, e, h1⟩ := h
  refine ⟨h0, a, cap, e, fun hp => ?_⟩
  obtain ⟨g, o, e2, hg, hc⟩ := h1 hp
  exact ⟨g, o, e2, Nat.lt_of_lt_of_le hg hb.size, fun i x hx j u hu => (hb.cell (p := ⟨g, _, none⟩) hg).trans (hc i x hx j u hu)⟩
/-- one struct of a row -/
theorem Rws.get {α : Type} {w : World} {v : Value} {k : Nat} {cel : α → List Value} {L : List α} (h : Rws w v k cel L) (i : Nat) (hi : i < L.length) : ∃ g o cap x, v = .slice (some ⟨g, o, none⟩) L.length cap ∧ g < w.heap.size ∧ L[i]? = some x ∧ ∀ w', Below w.heap.size w w' → ∀ j u, (cel x)[j]? = some u → w'.cell? ⟨g, o + i * k + j, none⟩ = some u := by
  obtain ⟨_, a, cap, e, h1⟩ := h
  obtain ⟨g, o, e2, hg, hc⟩ := h1 (by omega)
  exact ⟨g, o, cap, L[i], by rw [e, e2], hg, by simp [hi], fun w' hb j u hu => (hb.cell (p := ⟨g, _, none⟩) hg).trans (hc i _ (by simp [hi]) j u hu)⟩
set_option maxRecDepth 100000 in
theorem open_rws {α : Type} {cel : α → List Value} {ok : α → Prop} {H : Type} {enc : TypeId × Value → H} {W : World} {t et : TypeId} {k : Nat} (hk0 : 0 < k) (hlen : ∀ x, (cel x).length = k) (ht : Try.prog.underlying t = some (.slice et)) (hk : Try.prog.cellsOf et = k)
    (one : ∀ (n : Nat) (cs : List Value) (y : DataW H × List MemPlace), DataW.trod enc Try.prog W 0 (fun _ => true) true n et cs = some y → cs.length = k → ∃ x, ok x ∧ cs = cel x)
    {u : Value} {y : DataW H × List MemPlace} {n : Nat} (h : DataW.trod enc Try.prog W 0 (fun _ => true) true n t [u] = some y) : ∃ L : List α, (∀ x ∈ L, ok x) ∧ Rws W u k cel L ∧ (L = [] ∨ ∃ l r : List (DataW H), y.1 = .slice l r ∧ l.length = L.length) := by
  rcases open_slice ht h with ⟨hcs, _⟩ | ⟨a, len, cap, m, n, D, Pl, hcs, hb, hl, hmax, hm, hx, hel⟩
  · injection hcs with hcs _
    subst hcs
    exact ⟨[], by simp, ⟨by simp, none, 0, rfl, fun h => absurd h (by simp)⟩, .inl rfl⟩
  · injection hcs with hcs _
    subst hcs
    simp only [if_true] at hm
    have each : ∀ i, i < len → ∃ x : α, ok x ∧ ∀ j u, (cel x)[j]? = some u → W.cell? ((a.add (i * k)).add j) = some u := by
      intro i hi
      obtain ⟨cs, hc1, hc2⟩ := hel i (by omega)
      rw [hk] at hc1
      obtain ⟨hl6, hc⟩ := cells_each k hc1
      obtain ⟨x, hx1, rfl⟩ := one n cs _ hc2 hl6
      refine ⟨x, hx1, fun j u hu => ?_⟩
      have hj : j < k := by
        obtain ⟨hlt, _⟩ := List.getElem?_eq_some_iff.1 hu
        omega
      rw [hc j hj]
      exact hu
    obtain ⟨F, hF⟩ : ∃ F : Nat → Option α, ∀ i, i < len → ∃ x, F i = some x ∧ ok x ∧ ∀ j u, (cel x)[j]? = some u → W.cell? ((a.add (i * k)).add j) = some u := by
      refine ⟨fun i => if hi : i < len then some (Classical.choose (each i hi)) else none, fun i hi => ⟨Classical.choose (each i hi), by simp [hi], Classical.choose_spec (each i hi)⟩⟩
    have hlenL : ((List.range len).filterMap F).length = len ∧ ∀ i, i < len → ((List.range len).filterMap F)[i]? = F i := by
      have key : ∀ l : List Nat, (∀ i ∈ l, i < len) → (l.filterMap F).length = l.length ∧ ∀ i, i < l.length → (l.filterMap F)[i]? = (l[i]?).bind F := by
        intro l
        induction l with
        | nil => intro _; exact ⟨rfl, fun i hi => absurd hi (by simp)⟩
        | cons q r ih =>
          intro hq
          obtain ⟨i1, i2⟩ := ih (fun i hi => hq i (List.mem_cons_of_mem _ hi))
          obtain ⟨x, hx1, _⟩ := hF q (hq q (List.mem_cons_self ..))
          rw [List.filterMap_cons_some hx1]
          refine ⟨by simp [i1], fun i hi => ?_⟩
          cases i with
          | zero => simp [hx1]
          | succ i => simpa using i2 i (by simpa using hi)
      obtain ⟨k1, k2⟩ := key (List.range len) (fun i hi => List.mem_range.1 hi)
      rw [List.length_range] at k1 k2
      exact ⟨k1, fun i hi => by rw [k2 i hi, List.getElem?_range hi]; rfl⟩
    refine ⟨(List.range len).filterMap F, ?_, ⟨?_, some a, cap, by rw [hlenL.1], ?_⟩, ?_⟩
    · intro x hx
      rw [List.mem_filterMap] at hx
      obtain ⟨i, hi, hx⟩ := hx
      obtain ⟨x', hx1, hx2, _⟩ := hF i (List.mem_range.1 hi)
      rw [hx] at hx1
      injection hx1 with hx1
      rw [hx1]
      exact hx2
    · rw [hlenL.1]; omega
    · intro h0
      rw [hlenL.1] at h0
      obtain ⟨x0, _, _, hp⟩ := hF 0 h0
      have hc0 : ∃ u, (cel x0)[0]? = some u := ⟨(cel x0)[0]'(by rw [hlen]; exact hk0), by simp [hlen, hk0]⟩
      obtain ⟨u0, hu0⟩ := hc0
      have hp := hp 0 u0 hu0
      have ha : a.add (0 * k) = a := by simp [Addr.add]
      have ha0 : a.add 0 = a := by simp [Addr.add]
      rw [ha, ha0] at hp
      obtain ⟨e, hbl⟩ := plain_adr hp
      refine ⟨a.block, a.off, by rw [← e], hbl, fun i x hi j u hu => ?_⟩
      have hlt : i < len := by
        obtain ⟨hlt, _⟩ := List.getElem?_eq_some_iff.1 hi
        rw [hlenL.1] at hlt
        exact hlt
      rw [hlenL.2 i hlt] at hi
      obtain ⟨x', hx1, _, hq⟩ := hF i hlt
      rw [hi] at hx1
      injection hx1 with hx1
      subst hx1
      have hq := hq j u hu
      rw [e, add_addr] at hq
      exact hq
    · refine .inr ⟨(List.range len).map D, (List.range (m - len)).map fun j => D (len + j), ?_, by rw [hlenL.1, List.length_map, List.length_range]⟩
      rw [hx]
theorem list_of {l : List Value} {n : Nat} (h : l.length = n) : ∀ i, i < n → ∃ c, l[i]? = some c := fun i hi => ⟨l[i]'(by omega), by simp [h, hi]⟩
set_option maxRecDepth 100000 in
theorem okWide_strG {W : World} {r : Reach} {b0 : Nat} {t : TypeId} {fs : Array Field} {v : Value} (ht : Try.prog.underlying t = some (.struct fs)) (h : Value.okWide Try.prog W r b0 t v) : ∃ cs : Array Value, v = .agg cs ∧ cs.size = Try.prog.cellsOf t := by
  simp only [Value.okWide, ht] at h
  obtain ⟨cs, h1, h2, _⟩ := h
  exact ⟨cs, h1, h2⟩
end Go.Proofs.Ytcjahdgppnmdkaa
