/- MixerLimits. -/
import Derived.Test.YtpoodmfhcoaleaaMxE
namespace Go.Proofs.Ytpoodmfhcoaleaa
open Go.RowKit Go.Great

theorem clamp_same {x lo hi : Int} (h : lo ≤ x ∧ x ≤ hi) : clamp x lo hi = x := by
  unfold clamp
  rw [if_neg (by omega), if_neg (by omega)]
theorem mxV_is (d l x y t : Int) : ∃ a b c e f g h k : Int, mxV d l x y t = eV a b c e f g h k := by
  unfold mxV
  split
  · exact ⟨_, _, _, _, _, _, _, _, rfl⟩
  · exact ⟨_, _, _, _, _, _, _, _, rfl⟩
end Go.Proofs.Ytpoodmfhcoaleaa
