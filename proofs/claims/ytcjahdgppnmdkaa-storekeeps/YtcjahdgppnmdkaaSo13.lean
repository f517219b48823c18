/- Package store: Boot. -/
import Derived.Test.YtcjahdgppnmdkaaSo11
import Derived.Test.YtcjahdgppnmdkaaSo12
set_option maxRecDepth 100000
namespace Go.Proofs.Ytcjahdgppnmdkaa
open Go.RowKit Go.Great

theorem boot_nil (w : World) : Calls Try.prog 27 #[.pointer none] w fun e w' => e = .returned (.tuple #[.pointer none, .int .i64 2]) ∧ w' = w := by
  go_enter Try.func27, Try.ntmps27
  go_wp2_with fail
  refine (read_nil w 0 8192).mono ?_
  rintro e w1 ⟨rfl, rfl⟩
  go_wp2_with fail
  go_ret2
  exact ⟨rfl, rfl⟩
/-- what Boot leaves -/
def BootEnd (x : St × Option Sv) (R : Nat) (w : World) (e : Ending) (w' : World) : Prop :=
  ∃ (ok : Bool) (τ : St) (s' : Sv) (S : Nat), e = .returned (.tuple #[if ok then fp S else .pointer none, .int .i64 (if ok then 0 else 60)]) ∧ x = (τ, if ok then some s' else none) ∧ Fl w' R τ ∧ (ok = true → So w' S (fp R) s'.ac s'.tu s'.en s'.k) ∧ w.heap.size ≤ S ∧ Kept R w w'
theorem so_zero (w : World) (p : Value) : So (w.alloc (.cells #[p, .int .i64 0, .int .i64 0, .int .i64 0, .bool false, .int .i64 0, .int .i64 0, .bool false, .int .i64 0, .int .i64 0, .bool false, .int .i64 0, .int .i64 0] 108)) w.heap.size p 0 0 0 kz := ⟨heap_alloc_new _ _⟩
theorem kep_new {w w1 w2 : World} {R : Nat} (b : Below w.heap.size w w1) (g : Kep2 R w.heap.size w1 w2) : Kept R w w2 :=
  ⟨g.os.trans b.os, g.tape.trans b.tape, g.output.trans b.output, Nat.le_trans b.size g.size, fun k hk h1 => (g.block k (Nat.lt_of_lt_of_le hk b.size) (fun e => h1 (by rw [e])) (Nat.ne_of_lt hk)).trans (b.block k hk)⟩
end Go.Proofs.Ytcjahdgppnmdkaa
