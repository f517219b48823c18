/- '==' and '!=' of arrays of three ints. -/
import Derived.Test.YtmglcmhofcejiaaVo4
namespace Go.Proofs.Ytmglcmhofcejiaa
open Go.RowKit Go.Great

theorem part3 (a b c : Value) (w : World) : (part 3 #[a, b, c] 0).run Try.prog w = .ok a w ∧ (part 3 #[a, b, c] 1).run Try.prog w = .ok b w ∧ (part 3 #[a, b, c] 2).run Try.prog w = .ok c w := ⟨by kernel_rfl, by kernel_rfl, by kernel_rfl⟩
theorem eqI (d : Nat) (a b : Int) (w : World) : (Op.equalIn (d + 1) 3 (.int .i64 a) (.int .i64 b)).run Try.prog w = .ok (a == b) w := by
  simp only [Op.equalIn, Sem.run_bind, run_underlying Try.underlying3, Result.andThen_ok]
  simp
theorem eqA (d : Nat) (a b c x y z : Int) (w : World) : (Op.equalIn (d + 2) 27 (.agg #[.int .i64 a, .int .i64 b, .int .i64 c]) (.agg #[.int .i64 x, .int .i64 y, .int .i64 z])).run Try.prog w = .ok (a == x && (b == y && c == z)) w := by
  have hs : (sizeOf 3).run Try.prog w = .ok 1 w := by kernel_rfl
  rw [Op.equalIn]
  simp only [Sem.run_bind, run_underlying Try.underlying27, Result.andThen_ok, hs]
  simp [Std.Legacy.Range.forIn_eq_forIn_range', List.range', eqI, (part3 _ _ _ _).1, (part3 _ _ _ _).2.1, (part3 _ _ _ _).2.2, Sem.run_bind]
  by_cases h1 : a = x <;> by_cases h2 : b = y <;> by_cases h3 : c = z <;> simp [h1, h2, h3]
theorem eql_arr (a b c x y z : Int) (w : World) : (binOp .eql 27 (.agg #[.int .i64 a, .int .i64 b, .int .i64 c]) (.agg #[.int .i64 x, .int .i64 y, .int .i64 z])).run Try.prog w = .ok (.bool (a == x && (b == y && c == z))) w := by
  have h := eqA (Op.maxDepth - 2) a b c x y z w
  have e : Op.maxDepth - 2 + 2 = Op.maxDepth := by decide
  rw [e] at h
  simp [binOp, Op.equal, h]
theorem neq_arr (a b c x y z : Int) (w : World) : (binOp .neq 27 (.agg #[.int .i64 a, .int .i64 b, .int .i64 c]) (.agg #[.int .i64 x, .int .i64 y, .int .i64 z])).run Try.prog w = .ok (.bool (!(a == x && (b == y && c == z)))) w := by
  have h := eqA (Op.maxDepth - 2) a b c x y z w
  have e : Op.maxDepth - 2 + 2 = Op.maxDepth := by decide
  rw [e] at h
  simp [binOp, Op.equal, h]
end Go.Proofs.Ytmglcmhofcejiaa
