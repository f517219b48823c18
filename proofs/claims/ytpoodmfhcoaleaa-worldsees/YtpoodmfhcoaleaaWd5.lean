/- '==' of worlds, where both are alike; the examples that each statement of layer 23 looks at ('awake'). -/
import Derived.Test.YtpoodmfhcoaleaaWd4
import Derived.Laws.StructEq
namespace Go.Proofs.Ytpoodmfhcoaleaa
open Go.RowKit Go.Great

theorem eqA_same (a b c : Int) (w : World) : (Op.equalIn 9999 22 (.agg #[.int .i64 a, .int .i64 b, .int .i64 c]) (.agg #[.int .i64 a, .int .i64 b, .int .i64 c])).run Try.prog w = .ok true w := by
  have h := eqA 9997 a b c a b c w
  rw [show (a == a && (b == b && c == c)) = true by simp] at h
  exact h
theorem eqlWo (o : Wo) (w : World) : (binOp .eql 24 (woV o) (woV o)).run Try.prog w = .ok (.bool true) w := by
  simp [go_sem, eqA_same, Result.andThen]
theorem neqWo (o : Wo) (w : World) : (binOp .neq 24 (woV o) (woV o)).run Try.prog w = .ok (.bool false) w := by
  simp [go_sem, eqA_same, Result.andThen]
theorem i64_lit {x : Int} (h : -9223372036854775808 ≤ x ∧ x ≤ 9223372036854775807) : I64 x := h
theorem aw_st1 (w : World) : Calls Try.prog 7 #[woV ⟨0, 0, 0, 0, 0, 0, 0, 0, 100⟩, eV 0 0 0 0 0 0 0 0, .int .i64 0, tV 0 0 0, .int .i64 1] w fun e w' => e = .returned (.tuple #[woV ⟨0, 0, 0, 0, 0, 0, 0, 0, 99⟩, .int .i64 0]) ∧ Below w.heap.size w w' := by
  have h := step_any ⟨0, 0, 0, 0, 0, 0, 0, 0, 100⟩ 0 0 0 0 1 0 0 0 0 0 0 0 0 0 0 0 0 w ⟨i64_0, i64_0, i64_0, i64_0, i64_0, i64_0, i64_0, i64_0, i64_of (by decide)⟩ (by decide) i64_0 i64_0 i64_0 (i64_of (by decide)) (by kernel_rfl)
  rw [show stepS ⟨0, 0, 0, 0, 0, 0, 0, 0, 100⟩ 0 0 0 0 0 0 0 1 = ⟨0, 0, 0, 0, 0, 0, 0, 0, 99⟩ by kernel_rfl] at h
  exact h
theorem aw_st2 (w : World) : Calls Try.prog 7 #[woV ⟨0, 0, 0, 0, 0, 0, 0, 0, 99⟩, eV 200 200 200 200 200 200 200 200, .int .i64 0, tV 3 (-2) 1, .int .i64 0] w fun e w' => e = .returned (.tuple #[woV ⟨3, -2, 9, 3, -2, 9, 0, 0, 99⟩, .int .i64 0]) ∧ Below w.heap.size w w' := by
  have h := step_any ⟨0, 0, 0, 0, 0, 0, 0, 0, 99⟩ 0 3 (-2) 1 0 400 0 0 0 200 200 200 200 200 200 200 200 w ⟨i64_0, i64_0, i64_0, i64_0, i64_0, i64_0, i64_0, i64_0, i64_of (by decide)⟩ (by decide) (i64_of (by decide)) (i64_of (by decide)) (i64_of (by decide)) i64_0 (by kernel_rfl)
  rw [show stepS ⟨0, 0, 0, 0, 0, 0, 0, 0, 99⟩ 400 0 0 0 3 (-2) 1 0 = ⟨3, -2, 9, 3, -2, 9, 0, 0, 99⟩ by kernel_rfl] at h
  exact h
theorem aw_cur (w : World) : Calls Try.prog 16 #[eV 196 196 196 196 196 196 196 196, .int .i64 1, .int .i64 2] w fun e w' => e = .returned (.int .i64 4) ∧ Below w.heap.size w w' := by
  have h := curve_any 196 196 196 196 196 196 196 196 1 2 w (i64_of (by decide)) (i64_of (by decide))
  rw [show crv 1 2 (clamp 196 0 600 + clamp 196 0 600 + clamp 196 0 600 + clamp 196 0 600 + clamp 196 0 600 + clamp 196 0 600 + clamp 196 0 600 + clamp 196 0 600) = 4 by kernel_rfl] at h
  exact h
set_option maxHeartbeats 2000000 in
theorem awakeW (w : World) : Calls Try.prog 9 #[] w fun e w' => e = .returned (.bool true) ∧ Below w.heap.size w w' := by
  have E1 := eqlWo ⟨0, 0, 0, 0, 0, 0, 0, 0, 99⟩
  have E2 := eqlWo ⟨3, -2, 9, 3, -2, 9, 0, 0, 99⟩
  have AC := hide aw_cur
  go_enter Try.func9, Try.ntmps9
  go_upto_region 2 with (go_at_call 7; refine (aw_st1 _).mono ?_; rintro e w1 ⟨rfl, hb1⟩; have Hb1 := hide hb1; clear hb1)
  have HA := hide (Blk.new w1 (woC 0 0 0 0 0 0 0 0 99) 24)
  have Hb2 := hide (Hb1.out.alloc Hb1.out.size (.cells (woC 0 0 0 0 0 0 0 0 99) 24))
  generalize w1.alloc (.cells (woC 0 0 0 0 0 0 0 0 99) 24) = W2 at *
  generalize w1.heap.size = g1 at *
  obtain ⟨a0, a1, a2, a3, a4, a5, a6, a7, a8⟩ := nine_cells HA.out
  go_upto_region 3 with (go_at_call 7; refine (aw_st2 _).mono ?_; rintro e w3 ⟨rfl, hb3⟩; have Hb3 := hide hb3; clear hb3)
  replace HA := hide (HA.out.after Hb3.out)
  have Hb4 := hide (below_next Hb2.out (Nat.le_refl _) Hb3.out)
  replace HA := hide (HA.out.alloc (.cells (woC 3 (-2) 9 3 (-2) 9 0 0 99) 24))
  have HB := hide (Blk.new w3 (woC 3 (-2) 9 3 (-2) 9 0 0 99) 24)
  have Hb5 := hide (Hb4.out.alloc Hb4.out.size (.cells (woC 3 (-2) 9 3 (-2) 9 0 0 99) 24))
  clear a0 a1 a2 a3 a4 a5 a6 a7 a8
  generalize w3.alloc (.cells (woC 3 (-2) 9 3 (-2) 9 0 0 99) 24) = W5 at *
  generalize w3.heap.size = g3 at *
  obtain ⟨a0, a1, a2, a3, a4, a5, a6, a7, a8⟩ := nine_cells HA.out
  obtain ⟨b0, b1, b2, b3, b4, b5, b6, b7, b8⟩ := nine_cells HB.out
  go_wp2_with (go_at_call 16; refine (AC.out _).mono ?_; rintro e w6 ⟨rfl, hb6⟩; have Hb6 := hide hb6; clear hb6)
  go_ret
  exact ⟨rfl, below_next Hb5.out (Nat.le_refl _) Hb6.out⟩
end Go.Proofs.Ytpoodmfhcoaleaa
