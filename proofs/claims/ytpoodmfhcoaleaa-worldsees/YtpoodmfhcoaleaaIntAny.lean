/- A whole number as an int, whatever it is. -/
import Derived.Test.YtpoodmfhcoaleaaIntNeg
namespace Go.Proofs.Ytpoodmfhcoaleaa
open Go.RowKit

theorem int_yes (va : Value) (a : Int) (L : Nat) (w : World) (ha : Whole w va a L) (hL : L ≤ 1000000) (h : I64 a) :
    Calls Try.prog 51 #[va] w fun e w' => e = .returned (.tuple #[.int .i64 a, .bool true]) ∧ Below w.heap.size w w' := by
  unfold I64 at h
  by_cases g : 0 ≤ a
  · exact int_pos va a L w ha hL ⟨g, h.2⟩
  · exact int_neg va a L w ha hL ⟨h.1, by omega⟩
theorem int_no (va : Value) (a : Int) (L : Nat) (w : World) (ha : Whole w va a L) (hL : L ≤ 1000000) (h : ¬ I64 a) :
    Calls Try.prog 51 #[va] w fun e w' => e = .returned (.tuple #[.int .i64 0, .bool false]) ∧ Below w.heap.size w w' := by
  unfold I64 at h
  by_cases g : a < -9223372036854775808
  · exact int_low va a L w ha hL g
  · exact int_high va a L w ha hL (by omega)
theorem below_step {B : Nat} {w w1 w2 : World} (h : Below B w w1) (hB : B ≤ w.heap.size) (h2 : Below w1.heap.size w1 w2) : Below B w w2 := h.trans (h2.mono (by have := h.size; omega))
end Go.Proofs.Ytpoodmfhcoaleaa
