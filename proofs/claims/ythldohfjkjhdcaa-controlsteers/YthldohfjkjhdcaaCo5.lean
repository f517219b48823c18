/- '==' and '!=' of three ints; the examples that each statement of layer 17 looks at ('awake'). -/
import Derived.Test.YthldohfjkjhdcaaCo4
namespace Go.Proofs.Ythldohfjkjhdcaa
open Go.RowKit Go.Great

theorem part3 (a b c : Value) (w : World) : (part 3 #[a, b, c] 0).run Try.prog w = .ok a w ∧ (part 3 #[a, b, c] 1).run Try.prog w = .ok b w ∧ (part 3 #[a, b, c] 2).run Try.prog w = .ok c w := ⟨by kernel_rfl, by kernel_rfl, by kernel_rfl⟩
theorem eqI (d : Nat) (a b : Int) (w : World) : (Op.equalIn (d + 1) 3 (.int .i64 a) (.int .i64 b)).run Try.prog w = .ok (a == b) w := by
  simp only [Op.equalIn, Sem.run_bind, run_underlying Try.underlying3, Result.andThen_ok]
  simp
theorem eqA (d : Nat) (a b c x y z : Int) (w : World) : (Op.equalIn (d + 2) 36 (.agg #[.int .i64 a, .int .i64 b, .int .i64 c]) (.agg #[.int .i64 x, .int .i64 y, .int .i64 z])).run Try.prog w = .ok (a == x && (b == y && c == z)) w := by
  have hs : (sizeOf 3).run Try.prog w = .ok 1 w := by kernel_rfl
  rw [Op.equalIn]
  simp only [Sem.run_bind, run_underlying Try.underlying36, Result.andThen_ok, hs]
  simp [Std.Legacy.Range.forIn_eq_forIn_range', List.range', eqI, (part3 _ _ _ _).1, (part3 _ _ _ _).2.1, (part3 _ _ _ _).2.2, Sem.run_bind]
  by_cases h1 : a = x <;> by_cases h2 : b = y <;> by_cases h3 : c = z <;> simp [h1, h2, h3]
theorem eql_arr (a b c x y z : Int) (w : World) : (binOp .eql 36 (.agg #[.int .i64 a, .int .i64 b, .int .i64 c]) (.agg #[.int .i64 x, .int .i64 y, .int .i64 z])).run Try.prog w = .ok (.bool (a == x && (b == y && c == z))) w := by
  have h := eqA (Op.maxDepth - 2) a b c x y z w
  have e : Op.maxDepth - 2 + 2 = Op.maxDepth := by decide
  rw [e] at h
  simp [binOp, Op.equal, h]
theorem neq_arr (a b c x y z : Int) (w : World) : (binOp .neq 36 (.agg #[.int .i64 a, .int .i64 b, .int .i64 c]) (.agg #[.int .i64 x, .int .i64 y, .int .i64 z])).run Try.prog w = .ok (.bool (!(a == x && (b == y && c == z)))) w := by
  have h := eqA (Op.maxDepth - 2) a b c x y z w
  have e : Op.maxDepth - 2 + 2 = Op.maxDepth := by decide
  rw [e] at h
  simp [binOp, Op.equal, h]
theorem i64_of {x : Int} (h : -9223372036854775808 ≤ x ∧ x ≤ 9223372036854775807) : I64 x := h
theorem i64_0 : I64 0 := i64_of (by decide)
theorem acc_deL : acc deL = 12 := by decide +kernel
theorem aw_step (w : World) (B : Nat) (hB : Str w B 12 0 0 0) : Calls Try.prog 20 #[sP B, .agg #[.bool false, .int .i64 0, .int .i64 30, .bool true, .int .i64 6400000, .int .i64 16000, .bool false, .int .i64 0, .int .i64 0], tV 0 0 0, tV 0 0 0] w fun e w' => e = .returned (tV 12 12 0) ∧ Str w' B 12 12 12 0 ∧ w.grownBy w' (some B) := by
  have h := step_any w B 12 0 0 0 ⟨false, 0, 30⟩ ⟨true, 6400000, 16000⟩ ⟨false, 0, 0⟩ 0 0 0 0 0 0 hB (i64_of (by decide)) i64_0 i64_0 i64_0 ⟨i64_0, i64_of (by decide)⟩ ⟨i64_of (by decide), i64_of (by decide)⟩ ⟨i64_0, i64_0⟩ i64_0 i64_0 i64_0 i64_0 i64_0 i64_0
  have e0 : nx 0 12 ⟨false, 0, 30⟩ 0 = 12 := by decide +kernel
  have e1 : nx 0 12 ⟨true, 6400000, 16000⟩ 0 = 12 := by decide +kernel
  have e2 : nx 0 12 ⟨false, 0, 0⟩ 0 = 0 := by decide +kernel
  rw [e0, e1, e2] at h
  exact h
theorem aw_law (w : World) : Calls Try.prog 9 #[.int .i64 (-64000), .int .i64 10000, .int .i64 12] w fun e w' => e = .returned (.int .i64 (-876)) ∧ w' = w := by
  have h := law_any (-64000) 10000 12 w (i64_of (by decide)) (i64_of (by decide)) (i64_of (by decide))
  rw [show lawS (-64000) 10000 12 = -876 by decide +kernel] at h
  exact h
theorem aw_twist (w : World) : Calls Try.prog 11 #[.int .i64 640, .int .i64 0, .int .i64 800] w fun e w' => e = .returned (.int .i64 (-2)) ∧ w' = w := by
  have h := twist_any 640 0 800 w i64_0 (i64_of (by decide))
  rw [show twG 640 0 800 = -2 by decide +kernel] at h
  exact h
set_option maxHeartbeats 2000000 in
theorem awakeC (w : World) : Calls Try.prog 13 #[] w fun e w' => e = .returned (.bool true) ∧ Below w.heap.size w w' := by
  have NO : Hid (∀ W, Calls Try.prog 15 #[.slice none 0 0] W fun e w' => e = .returned (.tuple #[.pointer none, .int .i64 3]) ∧ Below W.heap.size W w') := by
    intro W
    have := newS_no W [] _ (Ints.nil W) (by rw [chk_nil]; omega)
    rw [chk_nil] at this
    exact this
  have EQ := eql_arr 12 12 0 12 12 0
  have LA := hide aw_law
  have TW := hide aw_twist
  go_enter Try.func13, Try.ntmps13
  go_wp2_with fail
  refine (defaults_any w).mono ?_
  rintro e w1 ⟨v1, rfl, hR1, hb1⟩
  have HI1 := hide hR1.ints
  have Hb1 := hide hb1
  clear hR1 hb1
  go_wp2_with fail
  refine (newS_any w1 deL v1 HI1.out deL_sound).mono ?_
  rintro e w2 ⟨B, rfl, hB2, hb2, hBw⟩
  rw [acc_deL] at hB2
  have HB2 := hide hB2
  have hBB : w.heap.size ≤ B := Nat.le_trans Hb1.out.size hBw
  have Hb2 := hide (below_next Hb1.out (Nat.le_refl _) hb2)
  clear hB2 hb2 HI1 Hb1 hBw
  go_wp2_with fail
  refine (NO.out _).mono ?_
  rintro e w3 ⟨rfl, hb3⟩
  have HB3 := hide (HB2.out.after hb3)
  have Hb3 := hide (below_next Hb2.out (Nat.le_refl _) hb3)
  clear hb3 HB2 Hb2 NO
  go_wp2_with fail
  refine (aw_step w3 B HB3.out).mono ?_
  rintro e w4 ⟨rfl, hB4, hG4⟩
  have HB4 := hide (hB4.alloc (.cells (tC 12 12 0) 36))
  have Hb4 := hide (below_next (below_grown Hb3.out hG4 (fun q e => by injection e with e; omega)) (Nat.le_refl _) (below_alloc w4 (.cells (tC 12 12 0) 36)))
  have HD := hide (Blk.new w4 (tC 12 12 0) 36)
  clear hB4 hG4 HB3 Hb3
  go_upto_region 6 with fail
  generalize w4.heap.size = d at *
  generalize w4.alloc (.cells (tC 12 12 0) 36) = W4 at *
  obtain ⟨c0, c1, c2⟩ := three_cells HD.out
  go_wp2_with fail
  refine (refs_any W4 B 12 12 12 0 HB4.out).mono ?_
  rintro e w5 ⟨rfl, hb5⟩
  have Hb5 := hide (below_next Hb4.out (Nat.le_refl _) hb5)
  clear hb5 HB4 Hb4
  go_wp2_with (first
    | (go_at_call 9; refine (LA.out _).mono ?_; rintro e w6 ⟨rfl, hw⟩; obtain rfl := hw.symm)
    | (go_at_call 11; refine (TW.out _).mono ?_; rintro e w6 ⟨rfl, hw⟩; obtain rfl := hw.symm))
  go_ret
  exact ⟨rfl, Hb5.out⟩
end Go.Proofs.Ythldohfjkjhdcaa
