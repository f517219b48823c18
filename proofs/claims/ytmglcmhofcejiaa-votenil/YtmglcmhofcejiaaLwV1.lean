/- VoteNil. -/
import Derived.Test.YtmglcmhofcejiaaVoO
namespace Go.Proofs.Ytmglcmhofcejiaa
open Go.RowKit Go.Great

set_option maxHeartbeats 1000000 in
theorem VoteNil_walk (v : Value) (w : World) (hv : ∃ u, v = uV u ∧ UOk u) : Calls Try.prog 8 #[v] w fun e w' => e = .returned (.bool true) ∧ Below w.heap.size w w' := by
  obtain ⟨u, rfl, _⟩ := hv
  have ea := eql_arr
  unfold uV
  obtain ⟨W0, hW0⟩ : ∃ W0, w.alloc (.cells #[.bool (u.o 0), .int .i64 (u.x 0), .bool (u.o 1), .int .i64 (u.x 1), .bool (u.o 2), .int .i64 (u.x 2)] 38) = W0 := ⟨_, rfl⟩
  have U0 : Blk W0 w.heap.size #[.bool (u.o 0), .int .i64 (u.x 0), .bool (u.o 1), .int .i64 (u.x 1), .bool (u.o 2), .int .i64 (u.x 2)] 38 := by rw [← hW0]; exact Blk.new _ _ _
  have Hb : Hid (Below w.heap.size w W0) := hide (by rw [← hW0]; exact below_alloc _ _)
  go_enter Try.func8, Try.ntmps8
  go_wp2_with (go_at_call 11; refine (awakeV W0).mono ?_; rintro e w1 ⟨rfl, hb⟩; replace Hb := hide (below_next Hb.out (Nat.le_refl _) hb); have U1 := U0.after hb; have q0 : w1.cell? ⟨w.heap.size, 0, none⟩ = some (.bool (u.o 0)) := U1.cell 0 rfl; have q1 : w1.cell? ⟨w.heap.size, 1, none⟩ = some (.int .i64 (u.x 0)) := U1.cell 1 rfl; have q2 : w1.cell? ⟨w.heap.size, 2, none⟩ = some (.bool (u.o 1)) := U1.cell 2 rfl; have q3 : w1.cell? ⟨w.heap.size, 3, none⟩ = some (.int .i64 (u.x 1)) := U1.cell 3 rfl; have q4 : w1.cell? ⟨w.heap.size, 4, none⟩ = some (.bool (u.o 2)) := U1.cell 4 rfl; have q5 : w1.cell? ⟨w.heap.size, 5, none⟩ = some (.int .i64 (u.x 2)) := U1.cell 5 rfl; clear hb U0 U1)
  go_wp2_with (first
    | (go_at_call 14; refine (step_nil _ u).mono ?_; rintro e wn ⟨rfl, hb⟩; replace Hb := hide (below_next Hb.out (Nat.le_refl _) hb); clear hb)
    | (go_at_call 12; refine (ages_nil _).mono ?_; rintro e wn ⟨rfl, hb⟩; replace Hb := hide (below_next Hb.out (Nat.le_refl _) hb); clear hb)
    | (go_at_call 13; refine (splits_nil _).mono ?_; rintro e wn ⟨rfl, hwn⟩; obtain rfl := hwn.symm))
  go_ret
  exact ⟨rfl, Hb.out⟩
end Go.Proofs.Ytmglcmhofcejiaa
