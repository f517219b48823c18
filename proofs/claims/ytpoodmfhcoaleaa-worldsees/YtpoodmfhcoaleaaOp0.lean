/- Lists of ints that came in, opened. -/
import Derived.Test.YtpoodmfhcoaleaaIn0
import Derived.Lib.SmallJoins
import Derived.SizedLaws
namespace Go.Proofs.Ytpoodmfhcoaleaa
open Go.RowKit Go.Great Go.Deep Go.WideShapes Go.ChangeShapes

set_option maxRecDepth 100000 in
theorem plain_of {w : World} {a : Addr} {v : Value} (h : w.cell? a = some v) : a = ⟨a.block, a.off, none⟩ ∧ a.block < w.heap.size := by
  obtain ⟨b, o, s⟩ := a
  have hb : b < w.heap.size := by
    refine Decidable.byContradiction fun hn => ?_
    unfold World.cell? at h
    rw [Array.getElem?_eq_none (by simpa using hn)] at h
    simp at h
  cases s with
  | none => exact ⟨rfl, hb⟩
  | some q =>
    exfalso
    unfold World.cell? at h
    split at h
    · simp at h
    · cases h
/-- a list of ints that came in -/
def IntsIn (w : World) (u : Value) (ns : List Int) : Prop := Ints w u ns ∧ (∀ n c, u = .slice none n c → c = 0) ∧ ns.length * 8 + 32 ≤ 140737488355328
set_option maxRecDepth 100000 in
theorem cells1 {w : World} {a : Addr} {cs : List Value} (h : w.cells? 0 a 1 = some cs) : ∃ x, cs = [x] ∧ w.cell? (a.add 0) = some x := by
  unfold World.cells? at h
  rw [if_pos (Nat.zero_le _)] at h
  simp [List.range_succ] at h
  cases h0 : w.cell? (a.add 0) with
  | none => simp [h0] at h
  | some x =>
    simp [h0] at h
    exact ⟨x, h.symm, rfl⟩
set_option maxRecDepth 100000 in
theorem cells2 {w : World} {a : Addr} {cs : List Value} (h : w.cells? 0 a 2 = some cs) : ∃ x y, cs = [x, y] ∧ w.cell? (a.add 0) = some x ∧ w.cell? (a.add 1) = some y := by
  unfold World.cells? at h
  rw [if_pos (Nat.zero_le _)] at h
  simp [List.range_succ] at h
  cases h0 : w.cell? (a.add 0) with
  | none => simp [h0] at h
  | some x =>
    cases h1 : w.cell? (a.add 1) with
    | none => simp [h0, h1] at h
    | some y =>
      simp [h0, h1] at h
      exact ⟨x, y, h.symm, rfl, rfl⟩
set_option maxRecDepth 100000 in
theorem add_add' (a : Addr) (i j : Nat) : ((⟨a.block, a.off, none⟩ : Addr).add i).add j = ⟨a.block, a.off + i + j, none⟩ := by rw [add_plain', add_plain']
set_option maxRecDepth 100000 in
theorem open_ints {H : Type} {enc : TypeId × Value → H} {W : World} {u : Value} {y : DataW H × List MemPlace} {n : Nat} (h : DataW.trod enc Try.prog W 0 (fun _ => true) true n 34 [u] = some y) (hw : ∀ q ∈ y.1.weights Try.prog 34, q ≤ reachBytes) : ∃ ns, IntsIn W u ns := by
  have hC : Try.prog.cellsOf 3 = 1 := by kernel_rfl
  have hb8 : Try.prog.bytesOf 3 = 8 := by kernel_rfl
  rcases open_slice Try.underlying34 h with ⟨hcs, _⟩ | ⟨a, len, cap, m, n, D, Pl, hcs, hb, hl, hmax, hm, hx, hel⟩
  · injection hcs with hcs _
    subst hcs
    exact ⟨[], Ints.nil _, fun n c e => by injection e with _ _ e; exact e.symm, by simp⟩
  · injection hcs with hcs _
    subst hcs
    simp only [if_true] at hm
    subst hm
    have hwt := hw ((len + (m - len)) * 8) (by rw [hx]; simp [DataW.weights, Try.underlying34, hb8])
    have hwt' : m * 8 ≤ 140737488351232 := by
      have : (len + (m - len)) = m := by omega
      rw [this] at hwt
      exact hwt
    have each : ∀ i, i < len → ∃ x : Int, W.cell? ((a.add (i * 1)).add 0) = some (.int .i64 x) := by
      intro i hi
      obtain ⟨cs, hc1, hc2⟩ := hel i (by omega)
      rw [hC] at hc1
      obtain ⟨x, rfl, c0⟩ := cells1 hc1
      obtain ⟨u0, q0, _, _⟩ := DataW.trod_int Try.underlying3 hc2
      simp at q0
      subst q0
      exact ⟨u0, c0⟩
    obtain ⟨F, hF⟩ := choose_lt each
    refine ⟨(List.range len).map F, ⟨some a, m, by rw [List.length_map, List.length_range], ?_⟩, fun n c e => (by injection e with e; cases e), by rw [List.length_map, List.length_range]; omega⟩
    intro h0
    rw [List.length_map, List.length_range] at h0
    have hp := hF 0 h0
    have ha : a.add (0 * 1) = a := by simp [Addr.add]
    have ha0 : a.add 0 = a := by simp [Addr.add]
    rw [ha, ha0] at hp
    obtain ⟨e, hbl⟩ := plain_of hp
    refine ⟨a.block, a.off, by rw [← e], hbl, fun i hi => ?_⟩
    rw [List.length_map, List.length_range] at hi
    have hq := hF i hi
    rw [e, add_add', Nat.mul_one, Nat.add_zero] at hq
    rw [hq]
    simp [hi]
set_option maxRecDepth 100000 in
/-- the same, from an argument's reading -/
theorem open_list {H : Type} {enc : TypeId × Value → H} {W : World} {v : Value} {d : DataW H} {p : List MemPlace} {r : Reach} {b0 : Nat} (hok : Value.okWide Try.prog W r b0 34 v) (h : DataW.Trod enc Try.prog W 0 (fun _ => true) true 34 v d p) (hw : ∀ q ∈ d.weights Try.prog 34, q ≤ reachBytes) : ∃ ns, IntsIn W v ns := by
  obtain ⟨ad, ln, cp, rfl⟩ := okWide_slice Try.underlying34 hok
  obtain ⟨m, hm⟩ := h
  exact open_ints (y := (d, p)) hm hw
end Go.Proofs.Ytpoodmfhcoaleaa
