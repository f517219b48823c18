/- The tables of widths. -/
import Derived.Test.YtgdjphiicgiegaaMs1
namespace Go.Proofs.Ytgdjphiicgiegaa
open Go.RowKit Go.Great

/-- a slice of ints, as it reads -/
def Ints (w : World) (v : Value) (l : List Int) : Prop :=
  ∃ a cap, v = .slice a l.length cap ∧ (0 < l.length → ∃ g o, a = some ⟨g, o, none⟩ ∧ g < w.heap.size ∧ ∀ i, i < l.length → w.cell? ⟨g, o + i, none⟩ = some (.int .i64 (l.getD i 0)))
theorem Ints.nil (w : World) : Ints w (.slice none 0 0) [] := ⟨none, 0, rfl, fun h => absurd h (by simp)⟩
theorem Ints.below {w w' : World} {v : Value} {l : List Int} (h : Ints w v l) (hb : Below w.heap.size w w') : Ints w' v l := by
  obtain ⟨a, cap, e, h1⟩ := h
  refine ⟨a, cap, e, fun h0 => ?_⟩
  obtain ⟨g, o, e2, hg, hc⟩ := h1 h0
  have hs := hb.size
  exact ⟨g, o, e2, by omega, fun i hi => (hb.cell (p := ⟨g, o + i, none⟩) hg).trans (hc i hi)⟩
/-- a new slice of these numbers -/
def rowI (l : List Int) : Array Value := (l.map (Value.int .i64)).toArray
theorem ints_row {w : World} {g : Nat} {l : List Int} {t : TypeId} (h : w.heap[g]? = some (.cells (rowI l) t)) (n c : Nat) (hn : n = l.length) : Ints w (.slice (some ⟨g, 0, none⟩) n c) l := by
  subst hn
  refine ⟨_, c, rfl, fun _ => ⟨g, 0, rfl, lt_of_block h, fun i hi => ?_⟩⟩
  rw [cell_of_row _ _ (0 + i) (rowI l) t (0, 0) h]
  unfold rowI
  rw [List.getElem?_toArray, Nat.zero_add, List.getElem?_map, List.getElem?_eq_getElem hi, List.getD, List.getElem?_eq_getElem hi]
  rfl
set_option maxHeartbeats 1000000 in
theorem rwidths_any (k : Int) (h0 : 0 ≤ k) (h1 : k ≤ 255) (w : World) : Calls Try.prog 23 #[.int .u8 k] w fun e w' => ∃ v, e = .returned v ∧ Ints w' v (wsK k) ∧ Below w.heap.size w w' := by
  rcases wsK_cases k with (h | h | h | h | h | h | h | h | h | h | h) | ⟨hk, h⟩
  · subst h
    go_enter Try.func23, Try.ntmps23
    go_wp2
    go_ret
    exact ⟨_, rfl, ints_row (l := wsK 1) (heap_alloc_new _ _) _ _ rfl, below_alloc _ _⟩
  · subst h
    go_enter Try.func23, Try.ntmps23
    go_wp2
    go_ret
    exact ⟨_, rfl, ints_row (l := wsK 2) (heap_alloc_new _ _) _ _ rfl, below_alloc _ _⟩
  · subst h
    go_enter Try.func23, Try.ntmps23
    go_wp2
    go_ret
    exact ⟨_, rfl, ints_row (l := wsK 3) (heap_alloc_new _ _) _ _ rfl, below_alloc _ _⟩
  · subst h
    go_enter Try.func23, Try.ntmps23
    go_wp2
    go_ret
    exact ⟨_, rfl, ints_row (l := wsK 4) (heap_alloc_new _ _) _ _ rfl, below_alloc _ _⟩
  · subst h
    go_enter Try.func23, Try.ntmps23
    go_wp2
    go_ret
    exact ⟨_, rfl, ints_row (l := wsK 5) (heap_alloc_new _ _) _ _ rfl, below_alloc _ _⟩
  · subst h
    go_enter Try.func23, Try.ntmps23
    go_wp2
    go_ret
    exact ⟨_, rfl, ints_row (l := wsK 6) (heap_alloc_new _ _) _ _ rfl, below_alloc _ _⟩
  · subst h
    go_enter Try.func23, Try.ntmps23
    go_wp2
    go_ret
    exact ⟨_, rfl, ints_row (l := wsK 7) (heap_alloc_new _ _) _ _ rfl, below_alloc _ _⟩
  · subst h
    go_enter Try.func23, Try.ntmps23
    go_wp2
    go_ret
    exact ⟨_, rfl, ints_row (l := wsK 8) (heap_alloc_new _ _) _ _ rfl, below_alloc _ _⟩
  · subst h
    go_enter Try.func23, Try.ntmps23
    go_wp2
    go_ret
    exact ⟨_, rfl, ints_row (l := wsK 9) (heap_alloc_new _ _) _ _ rfl, below_alloc _ _⟩
  · subst h
    go_enter Try.func23, Try.ntmps23
    go_wp2
    go_ret
    exact ⟨_, rfl, ints_row (l := wsK 10) (heap_alloc_new _ _) _ _ rfl, below_alloc _ _⟩
  · subst h
    go_enter Try.func23, Try.ntmps23
    go_wp2
    go_ret
    exact ⟨_, rfl, ints_row (l := wsK 11) (heap_alloc_new _ _) _ _ rfl, below_alloc _ _⟩
  · rw [h]
    have t1 : (k == 1) = false := by simp; omega
    have t2 : (k == 2) = false := by simp; omega
    have t3 : (k == 3) = false := by simp; omega
    have t4 : (k == 4) = false := by simp; omega
    have t5 : (k == 5) = false := by simp; omega
    have t6 : (k == 6) = false := by simp; omega
    have t7 : (k == 7) = false := by simp; omega
    have t8 : (k == 8) = false := by simp; omega
    have t9 : (k == 9) = false := by simp; omega
    have t10 : (k == 10) = false := by simp; omega
    have t11 : (k == 11) = false := by simp; omega
    clear h hk h0 h1
    go_enter Try.func23, Try.ntmps23
    go_wp2
    go_ret
    exact ⟨_, rfl, Ints.nil _, Below.refl _ _⟩
/-- the program's widths: bits -/
def wpK (k : Int) : List Int := (wsK k).map fun w => 8 * w
theorem heap_alloc_at (w : World) (o : Obj) (g : Nat) (hg : g = w.heap.size) : (w.alloc o).heap[g]? = some o := by subst hg; exact heap_alloc_new _ _
end Go.Proofs.Ytgdjphiicgiegaa
