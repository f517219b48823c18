/- The rest of a slice of frames; a slice of strings that came in. -/
import Derived.Test.YtijdobhdjmmgmaaFrB0
import Derived.Test.YtijdobhdjmmgmaaFrO
namespace Go.Proofs.Ytijdobhdjmmgmaa
open Go.RowKit Go.Great Go.Deep Go.WideShapes

theorem slice_run (a : Option Addr) (n cap l : Nat) (hl : l ≤ n) (wx : World) : (Instr.slice 33 (.slice a n cap) (some (.int .i64 l)) none none).run Try.prog wx = .ok (sliced a l n cap 3) wx := by
  have ht : Try.prog.underlying 33 = some (.slice (Try.prog.elem 33)) := by kernel_rfl
  have hs : (sizeOf (Try.prog.elem 33)).run Try.prog wx = .ok 3 wx := Try.sizeOf23 wx
  rw [run_slice_l wx 33 a n cap ht .i64 l (by omega) (by omega), hs]
  simp [Result.andThen]
/-- the frames behind the first ones -/
theorem tail_run {w : World} {base : Nat} {v : Value} (fs gs : List Fr) (hO : w.ownsRow base 23 3 v (fs ++ gs).length (cellsF (fs ++ gs))) : ∃ u, (∀ wx, (Instr.slice 33 v (some (.int .i64 (fs.length : Int))) none none).run Try.prog wx = .ok u wx) ∧ ∀ w', w'.ownsRow base 23 3 v (fs ++ gs).length (cellsF (fs ++ gs)) → Frs w' u gs := by
  have hl : (fs ++ gs).length = fs.length + gs.length := List.length_append
  rcases hO.2 with ⟨rfl, h0⟩ | ⟨g, cap, cur, rfl, hb, hh, hcap, _⟩
  · have h1 : fs.length = 0 := by omega
    refine ⟨_, fun wx => slice_run none 0 0 fs.length (by omega) wx, fun w' _ => ?_⟩
    have h2 : gs.length = 0 := by omega
    refine ⟨none, 0, ?_, fun h => by omega⟩
    rw [h1, h2]
    rfl
  · refine ⟨_, fun wx => slice_run _ _ cap fs.length (by omega) wx, fun w' hO' => ?_⟩
    by_cases hg : gs.length = 0
    · have hn : (fs ++ gs).length - fs.length = gs.length := by omega
      unfold sliced
      rw [hn]
      exact ⟨_, _, rfl, fun h => by omega⟩
    · have hne : ¬ cap = fs.length := by omega
      have hn : (fs ++ gs).length - fs.length = gs.length := by omega
      unfold sliced
      rw [hn]
      refine ⟨_, _, rfl, fun _ => ⟨g, fs.length * 3, ?_, fun i hi => ?_⟩⟩
      · simp [hne, add_plain']
      · obtain ⟨c0, c1, c2⟩ := cellsF_at (fs ++ gs) (fs.length + i) (by omega)
        have e : (fs ++ gs)[fs.length + i]'(by omega) = gs[i] := by
          rw [List.getElem_append_right (by omega)]
          simp
        rw [e] at c0 c1 c2
        rw [show fs.length * 3 + i * 3 = (fs.length + i) * 3 by omega]
        exact ⟨(hO'.cellAt _ (by omega)).trans c0, (hO'.cellAt _ (by omega)).trans c1, (hO'.cellAt _ (by omega)).trans c2⟩
/-- a slice of strings that came in -/
def StrsIn (w : World) (v : Value) (ss : List ByteArray) : Prop :=
  ss.length ≤ maxLen ∧ (∀ s ∈ ss, s.size ≤ 1048576) ∧ ∃ a cap, v = .slice a ss.length cap ∧ (0 < ss.length → ∃ g o, a = some ⟨g, o, none⟩ ∧ g < w.heap.size ∧ ∀ (i : Nat) (h : i < ss.length), w.cell? ⟨g, o + i, none⟩ = some (.string ss[i]))
end Go.Proofs.Ytijdobhdjmmgmaa
