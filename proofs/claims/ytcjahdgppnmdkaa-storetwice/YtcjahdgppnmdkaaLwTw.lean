/- StoreTwice. -/
import Derived.Test.YtcjahdgppnmdkaaSoO
set_option maxRecDepth 100000
namespace Go.Proofs.Ytcjahdgppnmdkaa
open Go.RowKit Go.Great

theorem val_int {k : IntKind} {a b : Int} (h : a = b) : Value.int k a = .int k b := by rw [h]
/-- the world within StoreTwice -/
structure TwW (w : World) (R S T : Nat) (τ : St) (s : Sv) (wx : World) : Prop where
  bel : Below w.heap.size w wx
  fl : Fl wx R τ
  s1 : So wx S (fp R) s.ac s.tu s.en s.k
  s2 : So wx T (fp R) s.ac s.tu s.en s.k
theorem TwW.next {w : World} {R S T : Nat} {τ : St} {s : Sv} {wx wy : World} (h : TwW w R S T τ s wx) (hb : Below wx.heap.size wx wy) : TwW w R S T τ s wy :=
  ⟨below_next h.bel (Nat.le_refl _) hb, h.fl.below hb, h.s1.below hb, h.s2.below hb⟩
end Go.Proofs.Ytcjahdgppnmdkaa
