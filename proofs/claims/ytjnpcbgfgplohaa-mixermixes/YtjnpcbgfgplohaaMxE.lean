/- '==' of wrenches and of eight motors, where both are alike; the examples that each statement looks at. -/
import Derived.Test.YtjnpcbgfgplohaaMx6
import Derived.Laws.StructEq
namespace Go.Proofs.Ytjnpcbgfgplohaa
open Go.RowKit Go.Great

theorem part8 (a b c d e f g h : Value) (w : World) : (part 3 #[a, b, c, d, e, f, g, h] 0).run Try.prog w = .ok a w ∧ (part 3 #[a, b, c, d, e, f, g, h] 1).run Try.prog w = .ok b w ∧ (part 3 #[a, b, c, d, e, f, g, h] 2).run Try.prog w = .ok c w ∧ (part 3 #[a, b, c, d, e, f, g, h] 3).run Try.prog w = .ok d w ∧ (part 3 #[a, b, c, d, e, f, g, h] 4).run Try.prog w = .ok e w ∧ (part 3 #[a, b, c, d, e, f, g, h] 5).run Try.prog w = .ok f w ∧ (part 3 #[a, b, c, d, e, f, g, h] 6).run Try.prog w = .ok g w ∧ (part 3 #[a, b, c, d, e, f, g, h] 7).run Try.prog w = .ok h w := ⟨by kernel_rfl, by kernel_rfl, by kernel_rfl, by kernel_rfl, by kernel_rfl, by kernel_rfl, by kernel_rfl, by kernel_rfl⟩
theorem eqI (d : Nat) (a b : Int) (w : World) : (Op.equalIn (d + 1) 3 (.int .i64 a) (.int .i64 b)).run Try.prog w = .ok (a == b) w := by
  simp only [Op.equalIn, Sem.run_bind, run_underlying Try.underlying3, Result.andThen_ok]
  simp
theorem eq8 (n : Nat) (a b c d e f g h : Int) (w : World) : (Op.equalIn (n + 2) 24 (eV a b c d e f g h) (eV a b c d e f g h)).run Try.prog w = .ok true w := by
  have hs : (sizeOf 3).run Try.prog w = .ok 1 w := by kernel_rfl
  obtain ⟨P0, P1, P2, P3, P4, P5, P6, P7⟩ := part8 (.int .i64 a) (.int .i64 b) (.int .i64 c) (.int .i64 d) (.int .i64 e) (.int .i64 f) (.int .i64 g) (.int .i64 h) w
  rw [Op.equalIn]
  simp only [Sem.run_bind, run_underlying Try.underlying24, Result.andThen_ok, hs]
  simp [Std.Legacy.Range.forIn_eq_forIn_range', List.range', eqI, P0, P1, P2, P3, P4, P5, P6, P7, Sem.run_bind]
theorem eql8 (a b c d e f g h : Int) (w : World) : (binOp .eql 24 (eV a b c d e f g h) (eV a b c d e f g h)).run Try.prog w = .ok (.bool true) w := by
  have H := eq8 (Op.maxDepth - 2) a b c d e f g h w
  have E : Op.maxDepth - 2 + 2 = Op.maxDepth := by decide
  rw [E] at H
  simp [binOp, Op.equal, H]
theorem eqlW (a b c d : Int) (w : World) : (binOp .eql 23 (wV a b c d) (wV a b c d)).run Try.prog w = .ok (.bool true) w := by
  simp [go_sem]
theorem aw_mix0 (w : World) : Calls Try.prog 7 #[wV 392 0 0 0, .int .i64 0] w fun e w' => e = .returned (.tuple #[eV 196 196 196 196 196 196 196 196, .int .i64 0]) ∧ Below w.heap.size w w' := by
  have h := mix_any 392 0 0 0 0 w (by decide)
  have e : mxV 0 (clamp 392 328 456) (clamp 0 (-64) 64) (clamp 0 (-64) 64) (clamp 0 (-100) 100) = eV 196 196 196 196 196 196 196 196 := by kernel_rfl
  rw [e] at h
  exact h
theorem aw_mix1 (w : World) : Calls Try.prog 7 #[wV 392 0 0 0, .int .i64 1] w fun e w' => e = .returned (.tuple #[eV 0 392 261 131 261 131 261 131, .int .i64 0]) ∧ Below w.heap.size w w' := by
  have h := mix_any 392 0 0 0 1 w (by decide)
  have e : mxV 1 (clamp 392 328 456) (clamp 0 (-64) 64) (clamp 0 (-64) 64) (clamp 0 (-100) 100) = eV 0 392 261 131 261 131 261 131 := by kernel_rfl
  rw [e] at h
  exact h
theorem aw_work (w : World) : Calls Try.prog 11 #[eV 196 196 196 196 196 196 196 196] w fun e w' => e = .returned (wV 392 0 0 0) ∧ Below w.heap.size w w' := by
  have h := work_any 196 196 196 196 196 196 196 196 w
  have e : wkV (clamp 196 0 600) (clamp 196 0 600) (clamp 196 0 600) (clamp 196 0 600) (clamp 196 0 600) (clamp 196 0 600) (clamp 196 0 600) (clamp 196 0 600) = wV 392 0 0 0 := by kernel_rfl
  rw [e] at h
  exact h
set_option maxHeartbeats 1000000 in
theorem awakeX (w : World) : Calls Try.prog 13 #[] w fun e w' => e = .returned (.bool true) ∧ Below w.heap.size w w' := by
  have E8 := eql8
  have EW := eqlW
  go_enter Try.func13, Try.ntmps13
  go_upto_region 2 with (first | (go_at_call 7; refine (aw_mix0 _).mono ?_; rintro e w1 ⟨rfl, hb1⟩))
  have HA := hide (Blk.new w1 (eC 196 196 196 196 196 196 196 196) 24)
  have Hb := hide (hb1.alloc hb1.size (.cells (eC 196 196 196 196 196 196 196 196) 24))
  clear hb1
  generalize w1.alloc (.cells (eC 196 196 196 196 196 196 196 196) 24) = W1 at *
  generalize w1.heap.size = g at *
  go_upto_region 3 with (first | (go_at_call 7; refine (aw_mix1 _).mono ?_; rintro e w2 ⟨rfl, hb2⟩))
  have HB := hide (Blk.new w2 (eC 0 392 261 131 261 131 261 131) 24)
  replace HA := hide ((HA.out.after hb2).alloc (.cells (eC 0 392 261 131 261 131 261 131) 24))
  replace Hb := hide (below_next Hb.out (Nat.le_refl _) hb2)
  replace Hb := hide (Hb.out.alloc Hb.out.size (.cells (eC 0 392 261 131 261 131 261 131) 24))
  clear hb2
  generalize w2.alloc (.cells (eC 0 392 261 131 261 131 261 131) 24) = W2 at *
  generalize w2.heap.size = k at *
  obtain ⟨a0, a1, a2, a3, a4, a5, a6, a7⟩ := eight_cells HA.out
  obtain ⟨b0, b1, b2, b3, b4, b5, b6, b7⟩ := eight_cells HB.out
  go_wp2_with (first | (go_at_call 11; refine (aw_work _).mono ?_; rintro e w3 ⟨rfl, hb3⟩))
  go_ret
  exact ⟨rfl, below_next Hb.out (Nat.le_refl _) hb3⟩
end Go.Proofs.Ytjnpcbgfgplohaa
