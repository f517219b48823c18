/- Lists that share no memory: what the marks are (Kr3 for one list). -/
import Derived.Test.YtcjahdgppnmdkaaKq2
import Derived.Test.YtcjahdgppnmdkaaGn0
set_option maxRecDepth 100000
namespace Go.Proofs.Ytcjahdgppnmdkaa
open Go.RowKit Go.Great

/-- the marks in a list, and behind it -/
def mkM (j n : Nat) : List Int := (List.range n).map fun (k : Nat) => (j : Int) * 1000003 + (k : Int)
def mkN (j t : Nat) : List Int := (List.range t).map fun (k : Nat) => -(j : Int) * 1000003 - (k : Int) - 1
theorem mkM_len (j n : Nat) : (mkM j n).length = n := by simp [mkM]
theorem mkN_len (j n : Nat) : (mkN j n).length = n := by simp [mkN]
theorem mkM_at (j n k : Nat) (h : k < n) : (mkM j n).getD k 0 = (j : Int) * 1000003 + (k : Int) := by
  simp [mkM, List.getD, h]
theorem mkN_succ (j t : Nat) : mkN j (t + 1) = mkN j t ++ [-(j : Int) * 1000003 - (t : Int) - 1] := by
  simp [mkN, List.range_succ]
theorem mkMN_at (j n t k : Nat) : (k < n → (mkM j n ++ mkN j t).getD k 0 = (j : Int) * 1000003 + (k : Int)) ∧ (k < t → (mkM j n ++ mkN j t).getD (n + k) 0 = -(j : Int) * 1000003 - (k : Int) - 1) := by
  simp only [List.getD]
  constructor
  · intro h
    rw [List.getElem?_append_left (by rw [mkM_len]; exact h)]
    exact mkM_at j n k h
  · intro h
    rw [List.getElem?_append_right (by rw [mkM_len]; omega), mkM_len, Nat.add_sub_cancel_left]
    simp [mkN, h]
/-- a block of one list -/
def Two2 (w : World) (L : Nat) (x : Value) : Prop := w.heap[L]? = some (.cells #[x] 72 (0, 0))
theorem Two2.at {w : World} {L : Nat} {f : Nat → Value} (h : Two2 w L (f 0)) (i : Nat) (hi : i < 1) : w.cell? ⟨L, i, none⟩ = some (f i) := by
  unfold Two2 at h
  obtain rfl : i = 0 := by omega
  simp [World.cell?, h]
theorem Two2.fz {w : World} {L : Nat} {x : Value} (h : Two2 w L x) (i : Nat) : w.frozen? ⟨L, i, none⟩ = false := by
  unfold Two2 at h; simp [World.frozen?, h]
theorem Two2.lt {w : World} {L : Nat} {x : Value} (h : Two2 w L x) : L < w.heap.size := lt_of_block h
/-- a row of ints is no block of lists -/
theorem IRow.ne2 {w : World} {base L : Nat} {v : Value} {l : List Int} {x : Value} (h : IRow w base v l) (h2 : Two2 w L x) : v.ownBlock ≠ some L := by
  intro e
  rcases h.2 with ⟨rfl, _⟩ | ⟨g, cap, cur, rfl, _, hh, _⟩
  · cases e
  · simp [Value.ownBlock] at e
    subst e
    unfold Two2 at h2
    rw [hh] at h2
    simp at h2
def updF (f : Nat → Value) (i : Nat) (x : Value) : Nat → Value := fun j => if j = i then x else f j
theorem Two2.set {w : World} {L : Nat} {f : Nat → Value} (h : Two2 w L (f 0)) (i : Nat) (hi : i < 1) (x : Value) : Two2 (w.setCell ⟨L, i, none⟩ x) L (updF f i x 0) := by
  have := heap_set h i x
  obtain rfl : i = 0 := by omega
  simpa [Two2, updF] using this
theorem Two2.grown {w w' : World} {L : Nat} {x : Value} {row : Option Nat} (h : Two2 w L x) (g : w.grownBy w' row) (hr : row ≠ some L) : Two2 w' L x := by
  unfold Two2 at h ⊢; rw [g.block L (lt_of_block h) (fun e => hr e.symm), h]
theorem IRow.grown {w w' : World} {base : Nat} {v : Value} {l : List Int} {row : Option Nat} (h : IRow w base v l) (g : w.grownBy w' row) (hne : row = none ∨ v.ownBlock ≠ row) : IRow w' base v l := by
  refine World.ownsRow.kept h g ?_
  rcases hne with e | e
  · rw [e]; cases v.ownBlock <;> simp
  · exact .inr e
theorem Ints.grown {w w' : World} {v : Value} {l : List Int} {row : Option Nat} (h : Ints w v l) (g : w.grownBy w' row) (hne : row = none ∨ v.ownBlock ≠ row) : Ints w' v l := by
  obtain ⟨a, cap, rfl, h1⟩ := h
  refine ⟨a, cap, rfl, fun h0 => ?_⟩
  obtain ⟨b, o, rfl, hb, hc⟩ := h1 h0
  refine ⟨b, o, rfl, Nat.lt_of_lt_of_le hb g.size, fun i hi => ?_⟩
  rw [World.cell?_of_block (a := ⟨b, o + i, none⟩) (g.block b hb ?_)]
  · exact hc i hi
  · rcases hne with e | e
    · rw [e]; simp
    · intro e2; exact e (by rw [← e2]; rfl)
end Go.Proofs.Ytcjahdgppnmdkaa
