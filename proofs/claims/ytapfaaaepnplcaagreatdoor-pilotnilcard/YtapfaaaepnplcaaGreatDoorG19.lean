/- Op0, Pa7. -/
import Derived.Test.YtapfaaaepnplcaaGreatDoorG03
import Derived.Lib.SmallJoins
import Derived.SizedLaws
import Derived.Test.YtapfaaaepnplcaaGreatDoorG18
set_option maxRecDepth 100000
namespace Go.Proofs.YtapfaaaepnplcaaGreatDoor
open Go.RowKit Go.Great Go.Deep Go.WideShapes Go.ChangeShapes
theorem plain_of {w : World} {a : Addr} {v : Value} (h : w.cell? a = some v) : a = ⟨a.block, a.off, none⟩ ∧ a.block < w.heap.size := by
  obtain ⟨b, o, s⟩ := a
  have hb : b < w.heap.size := by
    refine Decidable.byContradiction fun hn => ?_
    unfold World.cell? at h
    rw [Array.getElem?_eq_none (by simpa using hn)] at h
    simp at h
  cases s with
  | none => exact ⟨rfl, hb⟩
  | some q =>
    exfalso
    unfold World.cell? at h
    split at h
    · simp at h
    · cases h
/-- a list of ints that came in -/
def IntsIn (w : World) (u : Value) (ns : List Int) : Prop := Ints w u ns ∧ (∀ n c, u = .slice none n c → c = 0) ∧ ns.length * 8 + 32 ≤ 140737488355328
theorem cells1 {w : World} {a : Addr} {cs : List Value} (h : w.cells? 0 a 1 = some cs) : ∃ x, cs = [x] ∧ w.cell? (a.add 0) = some x := by
  unfold World.cells? at h
  rw [if_pos (Nat.zero_le _)] at h
  simp [List.range_succ] at h
  cases h0 : w.cell? (a.add 0) with
  | none => simp [h0] at h
  | some x =>
    simp [h0] at h
    exact ⟨x, h.symm, rfl⟩
theorem cells2 {w : World} {a : Addr} {cs : List Value} (h : w.cells? 0 a 2 = some cs) : ∃ x y, cs = [x, y] ∧ w.cell? (a.add 0) = some x ∧ w.cell? (a.add 1) = some y := by
  unfold World.cells? at h
  rw [if_pos (Nat.zero_le _)] at h
  simp [List.range_succ] at h
  cases h0 : w.cell? (a.add 0) with
  | none => simp [h0] at h
  | some x =>
    cases h1 : w.cell? (a.add 1) with
    | none => simp [h0, h1] at h
    | some y =>
      simp [h0, h1] at h
      exact ⟨x, y, h.symm, rfl, rfl⟩
theorem add_add' (a : Addr) (i j : Nat) : ((⟨a.block, a.off, none⟩ : Addr).add i).add j = ⟨a.block, a.off + i + j, none⟩ := by rw [add_plain', add_plain']
theorem open_ints {H : Type} {enc : TypeId × Value → H} {W : World} {u : Value} {y : DataW H × List MemPlace} {n : Nat} (h : DataW.trod enc Tryz.prog W 0 (fun _ => true) true n 48 [u] = some y) (hw : ∀ q ∈ y.1.weights Tryz.prog 48, q ≤ reachBytes) : ∃ ns, IntsIn W u ns := by
  have hC : Tryz.prog.cellsOf 3 = 1 := by kernel_rfl
  have hb8 : Tryz.prog.bytesOf 3 = 8 := by kernel_rfl
  rcases open_slice Tryz.underlying48 h with ⟨hcs, _⟩ | ⟨a, len, cap, m, n, D, Pl, hcs, hb, hl, hmax, hm, hx, hel⟩
  · injection hcs with hcs _
    subst hcs
    exact ⟨[], Ints.nil _, fun n c e => by injection e with _ _ e; exact e.symm, by simp⟩
  · injection hcs with hcs _
    subst hcs
    simp only [if_true] at hm
    subst hm
    have hwt := hw ((len + (m - len)) * 8) (by rw [hx]; simp [DataW.weights, Tryz.underlying48, hb8])
    have hwt' : m * 8 ≤ 140737488351232 := by
      have : (len + (m - len)) = m := by omega
      rw [this] at hwt
      exact hwt
    have each : ∀ i, i < len → ∃ x : Int, W.cell? ((a.add (i * 1)).add 0) = some (.int .i64 x) := by
      intro i hi
      obtain ⟨cs, hc1, hc2⟩ := hel i (by omega)
      rw [hC] at hc1
      obtain ⟨x, rfl, c0⟩ := cells1 hc1
      obtain ⟨u0, q0, _, _⟩ := DataW.trod_int Tryz.underlying3 hc2
      simp at q0
      subst q0
      exact ⟨u0, c0⟩
    obtain ⟨F, hF⟩ := choose_lt each
    refine ⟨(List.range len).map F, ⟨some a, m, by rw [List.length_map, List.length_range], ?_⟩, fun n c e => (by injection e with e; cases e), by rw [List.length_map, List.length_range]; omega⟩
    intro h0
    rw [List.length_map, List.length_range] at h0
    have hp := hF 0 h0
    have ha : a.add (0 * 1) = a := by simp [Addr.add]
    have ha0 : a.add 0 = a := by simp [Addr.add]
    rw [ha, ha0] at hp
    obtain ⟨e, hbl⟩ := plain_of hp
    refine ⟨a.block, a.off, by rw [← e], hbl, fun i hi => ?_⟩
    rw [List.length_map, List.length_range] at hi
    have hq := hF i hi
    rw [e, add_add', Nat.mul_one, Nat.add_zero] at hq
    rw [hq]
    simp [hi]
/-- the same, from an argument's reading -/
theorem open_list {H : Type} {enc : TypeId × Value → H} {W : World} {v : Value} {d : DataW H} {p : List MemPlace} {r : Reach} {b0 : Nat} (hok : Value.okWide Tryz.prog W r b0 48 v) (h : DataW.Trod enc Tryz.prog W 0 (fun _ => true) true 48 v d p) (hw : ∀ q ∈ d.weights Tryz.prog 48, q ≤ reachBytes) : ∃ ns, IntsIn W v ns := by
  obtain ⟨ad, ln, cp, rfl⟩ := okWide_slice Tryz.underlying48 hok
  obtain ⟨m, hm⟩ := h
  exact open_ints (y := (d, p)) hm hw
end Go.Proofs.YtapfaaaepnplcaaGreatDoor
set_option maxRecDepth 100000
set_option maxHeartbeats 2000000
namespace Go.Proofs.YtapfaaaepnplcaaGreatDoor
open Go.RowKit Go.Great
theorem deL_mar : marE deL = ⟨58, 12, 258, 16398, 701, 4⟩ := by kernel_rfl
theorem deL_land : landE deL 0 = (959, 0) := by decide +kernel
theorem chk_nil : chk [] = 3 := by decide +kernel
theorem chk_deL : chk deL = 0 := by decide +kernel
theorem IRow.slice {w : World} {base : Nat} {v : Value} {l : List Int} (h : IRow w base v l) : ∃ a cap, v = .slice a l.length cap := h.shape
end Go.Proofs.YtapfaaaepnplcaaGreatDoor
