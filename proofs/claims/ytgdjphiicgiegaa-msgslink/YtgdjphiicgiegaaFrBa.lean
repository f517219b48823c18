/- FrameBack. -/
import Derived.Test.YtgdjphiicgiegaaFrB0
import Derived.Test.YtgdjphiicgiegaaFrQ
import Derived.Test.YtgdjphiicgiegaaFrO
namespace Go.Proofs.Ytgdjphiicgiegaa
open Go.RowKit Go.Great

/-- frames one behind the other, a text ahead of each -/
def joinL (c : List UInt8) (gs : List Fr) : List UInt8 := gs.flatMap fun g => c ++ encF g
theorem joinL_snoc (c : List UInt8) (gs : List Fr) (f : Fr) : joinL c (gs ++ [f]) = joinL c gs ++ c ++ encF f := by simp [joinL]
theorem joinL_cons (c : List UInt8) (gs : List Fr) (f : Fr) : joinL c (f :: gs) = c ++ (encF f ++ joinL c gs) := by simp [joinL]
theorem joinL_len (c : List UInt8) (gs : List Fr) : 6 * gs.length ≤ (joinL c gs).length ∧ (gs = [] ∨ c.length + 6 ≤ (joinL c gs).length) := by
  induction gs with
  | nil => exact ⟨by simp, .inl rfl⟩
  | cons f gs ih =>
    have hl := encF_length f
    rw [joinL_cons, List.length_append, List.length_append]
    exact ⟨by simp; omega, .inr (by omega)⟩
theorem rd_join (c : List UInt8) (hc : ∀ x ∈ c, x ≠ 253) (gs : List Fr) (hg : ∀ g ∈ gs, Right g) : rd (joinL c gs) = (gs, 0, []) := by
  induction gs with
  | nil => exact rd_stop rfl
  | cons f gs ih =>
    rw [joinL_cons, rd_clean _ _ hc, rd_enc (hg f (by simp)), ih (fun g h => hg g (by simp [h]))]
theorem cleanL_free (l : List UInt8) : ∀ x ∈ cleanL l, x ≠ 253 := by
  intro x hx
  unfold cleanL at hx
  rw [List.mem_filter] at hx
  simpa using hx.2
/-- how far the frames have been written -/
def BackRel (w : World) (c : List UInt8) (vb vw : Value) (wx : World) : Prop :=
  ∃ gs : List Fr, (∀ g ∈ gs, Right g) ∧ BRow wx w.heap.size vb (joinL c gs) ∧ wx.ownsRow w.heap.size 28 3 vw gs.length (cellsF gs) ∧ Below w.heap.size w wx ∧ (joinL c gs).length ≤ 281474976710656 ∧ gs.length ≤ 1048576
end Go.Proofs.Ytgdjphiicgiegaa
