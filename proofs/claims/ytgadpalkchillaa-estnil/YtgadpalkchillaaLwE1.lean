/- EstNil. -/
import Derived.Test.YtgadpalkchillaaEsO
namespace Go.Proofs.Ytgadpalkchillaa
open Go.RowKit Go.Great

set_option maxHeartbeats 1000000 in
theorem EstNil_walk (v : Value) (w : World) (hv : ∃ m, v = mV m ∧ MOk m) : Calls Try.prog 6 #[v] w fun e w' => e = .returned (.bool true) ∧ Below w.heap.size w w' := by
  obtain ⟨m, rfl, _⟩ := hv
  obtain ⟨W0, hW0⟩ : ∃ W0, w.alloc (.cells #[.bool m.o, .int .i64 m.x, .int .i64 m.e] 38) = W0 := ⟨_, rfl⟩
  have U0 : Hid (Blk W0 w.heap.size #[.bool m.o, .int .i64 m.x, .int .i64 m.e] 38) := hide (by rw [← hW0]; exact Blk.new _ _ _)
  have Hb : Hid (Below w.heap.size w W0) := hide (by rw [← hW0]; exact below_alloc _ _)
  have c0 : W0.cell? ⟨w.heap.size, 0, none⟩ = some (.bool m.o) := U0.out.cell 0 rfl
  have c1 : W0.cell? ⟨w.heap.size, 1, none⟩ = some (.int .i64 m.x) := U0.out.cell 1 rfl
  have c2 : W0.cell? ⟨w.heap.size, 2, none⟩ = some (.int .i64 m.e) := U0.out.cell 2 rfl
  go_enter Try.func6, Try.ntmps6
  go_wp2_with fail
  refine (step_nilF W0 m.x m.e m.o m m).mono ?_
  rintro e w1 ⟨rfl, hb⟩
  replace U0 := hide (U0.out.after hb)
  replace Hb := hide (below_next Hb.out (Nat.le_refl _) hb)
  clear c0 c1 c2 hW0 hb
  have c0 : w1.cell? ⟨w.heap.size, 0, none⟩ = some (.bool m.o) := U0.out.cell 0 rfl
  have c1 : w1.cell? ⟨w.heap.size, 1, none⟩ = some (.int .i64 m.x) := U0.out.cell 1 rfl
  have c2 : w1.cell? ⟨w.heap.size, 2, none⟩ = some (.int .i64 m.e) := U0.out.cell 2 rfl
  go_wp2_with fail
  refine (step_nilC w1 m m).mono ?_
  rintro e w2 ⟨rfl, hb⟩
  replace Hb := hide (below_next Hb.out (Nat.le_refl _) hb)
  clear c0 c1 c2 hb U0
  go_wp2_with (first
    | (go_at_call 12; refine (middle_nil _).mono ?_; rintro e wn ⟨rfl, hb⟩; replace Hb := hide (below_next Hb.out (Nat.le_refl _) hb); clear hb)
    | (go_at_call 14; refine (axis_nil _).mono ?_; rintro e wn ⟨rfl, hb⟩; replace Hb := hide (below_next Hb.out (Nat.le_refl _) hb); clear hb)
    | (go_at_call 22; refine (heading_nil _).mono ?_; rintro e wn ⟨rfl, hwn⟩; obtain rfl := hwn.symm)
    | (go_at_call 15; refine (good_nil _).mono ?_; rintro e wn ⟨rfl, hwn⟩; obtain rfl := hwn.symm)
    | (go_at_call 17; refine (jumps_nil _).mono ?_; rintro e wn ⟨rfl, hwn⟩; obtain rfl := hwn.symm)
    | (go_at_call 9; refine (awakeE _).mono ?_; rintro e wn ⟨rfl, hb⟩; replace Hb := hide (below_next Hb.out (Nat.le_refl _) hb); clear hb))
  go_ret
  exact ⟨rfl, Hb.out⟩
end Go.Proofs.Ytgadpalkchillaa
