/- A slice of frames that came in, opened. -/
import Derived.Test.YtgdjphiicgiegaaFrSa
import Derived.Deep.Strs
import Derived.WideShapes
namespace Go.Proofs.Ytgdjphiicgiegaa
open Go.RowKit Go.Great Go.Deep Go.WideShapes

theorem plain_of {w : World} {a : Addr} {v : Value} (h : w.cell? a = some v) : a = ⟨a.block, a.off, none⟩ ∧ a.block < w.heap.size := by
  obtain ⟨b, o, s⟩ := a
  have hb : b < w.heap.size := by
    refine Decidable.byContradiction fun hn => ?_
    unfold World.cell? at h
    rw [Array.getElem?_eq_none (by simpa using hn)] at h
    simp at h
  cases s with
  | none => exact ⟨rfl, hb⟩
  | some q =>
    exfalso
    unfold World.cell? at h
    split at h
    · simp at h
    · cases h
theorem add_plain' (b o i : Nat) : Addr.add ⟨b, o, none⟩ i = ⟨b, o + i, none⟩ := by
  unfold Addr.add
  split
  · subst_vars; rfl
  · rfl
theorem cells3 {w : World} {a : Addr} {cs : List Value} (h : w.cells? 0 a 3 = some cs) : ∃ x y z, cs = [x, y, z] ∧ w.cell? (a.add 0) = some x ∧ w.cell? (a.add 1) = some y ∧ w.cell? (a.add 2) = some z := by
  unfold World.cells? at h
  rw [if_pos (Nat.zero_le _)] at h
  simp [List.range_succ] at h
  cases h0 : w.cell? (a.add 0) with
  | none => simp [h0] at h
  | some x =>
    cases h1 : w.cell? (a.add 1) with
    | none => simp [h0, h1] at h
    | some y =>
      cases h2 : w.cell? (a.add 2) with
      | none => simp [h0, h1, h2] at h
      | some z =>
        simp [h0, h1, h2] at h
        exact ⟨x, y, z, h.symm, rfl, rfl, rfl⟩
/-- a slice of frames that came in -/
def FrsIn (w : World) (v : Value) (fs : List Fr) : Prop :=
  fs.length ≤ maxLen ∧ ∃ a cap, v = .slice a fs.length cap ∧ (0 < fs.length → ∃ g o, a = some ⟨g, o, none⟩ ∧ g < w.heap.size ∧ ∀ (i : Nat) (h : i < fs.length), w.cell? ⟨g, o + i * 3, none⟩ = some (.int .i64 fs[i].1) ∧ w.cell? ⟨g, o + i * 3 + 1, none⟩ = some (.int .i64 fs[i].2.1) ∧ w.cell? ⟨g, o + i * 3 + 2, none⟩ = some (.string fs[i].2.2))
theorem open_frames {H : Type} {enc : TypeId × Value → H} {W : World} {v : Value} {d : DataW H} {p : List MemPlace} {r : Reach} {b0 : Nat} (hok : Value.okWide Try.prog W r b0 47 v) (h : DataW.Trod enc Try.prog W 0 (fun _ => true) true 47 v d p) : ∃ fs, FrsIn W v fs := by
  obtain ⟨ad, ln, cp, rfl⟩ := okWide_slice Try.underlying47 hok
  obtain ⟨fuel, hf⟩ := h
  have e1 : (Value.slice ad ln cp).cells.toList = [.slice ad ln cp] := rfl
  rw [e1] at hf
  have hC : Try.prog.cellsOf 28 = 3 := by kernel_rfl
  rcases open_slice Try.underlying47 hf with ⟨hcs, _⟩ | ⟨a, len, cap, m, n, D, Pl, hcs, hb, hl, hmax, hm, _, hel⟩
  · injection hcs with hcs _
    injection hcs with h1 h2 h3
    subst h1 h2 h3
    exact ⟨[], by simp, none, 0, rfl, fun h => absurd h (by simp)⟩
  · injection hcs with hcs _
    injection hcs with h1 h2 h3
    subst h1 h2 h3
    simp only [if_true] at hm
    have each : ∀ i, i < ln → ∃ f : Fr, W.cell? ((a.add (i * 3)).add 0) = some (.int .i64 f.1) ∧ W.cell? ((a.add (i * 3)).add 1) = some (.int .i64 f.2.1) ∧ W.cell? ((a.add (i * 3)).add 2) = some (.string f.2.2) := by
      intro i hi
      obtain ⟨cs, hc1, hc2⟩ := hel i (by omega)
      rw [hC] at hc1
      obtain ⟨x, y, z, rfl, c0, c1, c2⟩ := cells3 hc1
      obtain ⟨y0, y1, y2, k, _, _, t0, t1, t2⟩ := trod_struct3 Try.underlying28 hc2
      have t0' : DataW.trod enc Try.prog W 0 (fun _ => true) true k 3 [x] = some y0 := t0
      have t1' : DataW.trod enc Try.prog W 0 (fun _ => true) true k 3 [y] = some y1 := t1
      have t2' : DataW.trod enc Try.prog W 0 (fun _ => true) true k 9 [z] = some y2 := t2
      obtain ⟨u0, q0, _, _⟩ := DataW.trod_int Try.underlying3 t0'
      obtain ⟨u1, q1, _, _⟩ := DataW.trod_int Try.underlying3 t1'
      obtain ⟨u2, q2, _, _⟩ := DataW.trod_string Try.underlying9 t2'
      simp at q0 q1 q2
      subst q0 q1 q2
      exact ⟨(u0, u1, u2), c0, c1, c2⟩
    obtain ⟨F, hF⟩ := choose_lt each
    refine ⟨(List.range ln).map F, ?_, some a, cp, ?_, ?_⟩
    · rw [List.length_map, List.length_range]; omega
    · rw [List.length_map, List.length_range]
    · intro h0
      rw [List.length_map, List.length_range] at h0
      have hp := hF 0 h0
      have ha : a.add (0 * 3) = a := by simp [Addr.add]
      have ha0 : a.add 0 = a := by simp [Addr.add]
      rw [ha, ha0] at hp
      obtain ⟨e, hbl⟩ := plain_of hp.1
      refine ⟨a.block, a.off, by rw [← e], hbl, fun i hi => ?_⟩
      rw [List.length_map, List.length_range] at hi
      have hq := hF i hi
      rw [e, add_plain', add_plain', add_plain', add_plain'] at hq
      simp only [List.getElem_map, List.getElem_range]
      exact hq
end Go.Proofs.Ytgdjphiicgiegaa
