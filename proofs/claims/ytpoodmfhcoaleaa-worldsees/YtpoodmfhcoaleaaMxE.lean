/- '==' of wrenches and of eight motors, where both are alike; the examples that each statement looks at. -/
import Derived.Test.YtpoodmfhcoaleaaMx6
import Derived.Laws.StructEq
namespace Go.Proofs.Ytpoodmfhcoaleaa
open Go.RowKit Go.Great

theorem part8 (a b c d e f g h : Value) (w : World) : (part 3 #[a, b, c, d, e, f, g, h] 0).run Try.prog w = .ok a w ∧ (part 3 #[a, b, c, d, e, f, g, h] 1).run Try.prog w = .ok b w ∧ (part 3 #[a, b, c, d, e, f, g, h] 2).run Try.prog w = .ok c w ∧ (part 3 #[a, b, c, d, e, f, g, h] 3).run Try.prog w = .ok d w ∧ (part 3 #[a, b, c, d, e, f, g, h] 4).run Try.prog w = .ok e w ∧ (part 3 #[a, b, c, d, e, f, g, h] 5).run Try.prog w = .ok f w ∧ (part 3 #[a, b, c, d, e, f, g, h] 6).run Try.prog w = .ok g w ∧ (part 3 #[a, b, c, d, e, f, g, h] 7).run Try.prog w = .ok h w := ⟨by kernel_rfl, by kernel_rfl, by kernel_rfl, by kernel_rfl, by kernel_rfl, by kernel_rfl, by kernel_rfl, by kernel_rfl⟩
theorem eqI8 (d : Nat) (a b : Int) (w : World) : (Op.equalIn (d + 1) 3 (.int .i64 a) (.int .i64 b)).run Try.prog w = .ok (a == b) w := by
  simp only [Op.equalIn, Sem.run_bind, run_underlying Try.underlying3, Result.andThen_ok]
  simp
theorem eq8 (n : Nat) (a b c d e f g h : Int) (w : World) : (Op.equalIn (n + 2) 26 (eV a b c d e f g h) (eV a b c d e f g h)).run Try.prog w = .ok true w := by
  have hs : (sizeOf 3).run Try.prog w = .ok 1 w := by kernel_rfl
  obtain ⟨P0, P1, P2, P3, P4, P5, P6, P7⟩ := part8 (.int .i64 a) (.int .i64 b) (.int .i64 c) (.int .i64 d) (.int .i64 e) (.int .i64 f) (.int .i64 g) (.int .i64 h) w
  rw [Op.equalIn]
  simp only [Sem.run_bind, run_underlying Try.underlying26, Result.andThen_ok, hs]
  simp [Std.Legacy.Range.forIn_eq_forIn_range', List.range', eqI8, P0, P1, P2, P3, P4, P5, P6, P7, Sem.run_bind]
theorem eql8 (a b c d e f g h : Int) (w : World) : (binOp .eql 26 (eV a b c d e f g h) (eV a b c d e f g h)).run Try.prog w = .ok (.bool true) w := by
  have H := eq8 (Op.maxDepth - 2) a b c d e f g h w
  have E : Op.maxDepth - 2 + 2 = Op.maxDepth := by decide
  rw [E] at H
  simp [binOp, Op.equal, H]
theorem eqlW (a b c d : Int) (w : World) : (binOp .eql 46 (wV a b c d) (wV a b c d)).run Try.prog w = .ok (.bool true) w := by
  simp [go_sem]
theorem aw_mix0 (w : World) : Calls Try.prog 18 #[wV 392 0 0 0, .int .i64 0] w fun e w' => e = .returned (.tuple #[eV 196 196 196 196 196 196 196 196, .int .i64 0]) ∧ Below w.heap.size w w' := by
  have h := mix_any 392 0 0 0 0 w (by decide)
  have e : mxV 0 (clamp 392 328 456) (clamp 0 (-64) 64) (clamp 0 (-64) 64) (clamp 0 (-100) 100) = eV 196 196 196 196 196 196 196 196 := by kernel_rfl
  rw [e] at h
  exact h
theorem aw_mix1 (w : World) : Calls Try.prog 18 #[wV 392 0 0 0, .int .i64 1] w fun e w' => e = .returned (.tuple #[eV 0 392 261 131 261 131 261 131, .int .i64 0]) ∧ Below w.heap.size w w' := by
  have h := mix_any 392 0 0 0 1 w (by decide)
  have e : mxV 1 (clamp 392 328 456) (clamp 0 (-64) 64) (clamp 0 (-64) 64) (clamp 0 (-100) 100) = eV 0 392 261 131 261 131 261 131 := by kernel_rfl
  rw [e] at h
  exact h
theorem aw_work (w : World) : Calls Try.prog 21 #[eV 196 196 196 196 196 196 196 196] w fun e w' => e = .returned (wV 392 0 0 0) ∧ Below w.heap.size w w' := by
  have h := work_any 196 196 196 196 196 196 196 196 w
  have e : wkV (clamp 196 0 600) (clamp 196 0 600) (clamp 196 0 600) (clamp 196 0 600) (clamp 196 0 600) (clamp 196 0 600) (clamp 196 0 600) (clamp 196 0 600) = wV 392 0 0 0 := by kernel_rfl
  rw [e] at h
  exact h
end Go.Proofs.Ytpoodmfhcoaleaa
