/- '==' of boxes, where both are alike; the examples that each statement of layer 18 looks at ('awake'). -/
import Derived.Test.YtjinfjibodoflaaGu4
import Derived.Laws.StructEq
namespace Go.Proofs.Ytjinfjibodoflaa
open Go.RowKit Go.Great

theorem eqlBx (a b c d e f : Int) (w : World) : (binOp .eql 36 (bxV a b c d e f) (bxV a b c d e f)).run Try.prog w = .ok (.bool true) w := by
  simp [go_sem]
theorem aw_step1 (w : World) (B : Nat) (hB : Bup w B 0) : Calls Try.prog 17 #[bP B, .bool false, tV 100 (-10) 70, .int .i64 8000] w fun e w' => e = .returned (tV (-64) 10 (-64)) ∧ Bup w' B 0 ∧ w.grownBy w' (some B) := by
  have h := stepB_any w B 0 false 100 (-10) 70 8000 hB i64_0 (i64_of (by decide)) (i64_of (by decide)) (i64_of (by decide)) (i64_of (by decide))
  have e0 : fnx 0 false 8000 = 0 := by decide +kernel
  have e1 : ask 0 100 = -64 := by decide +kernel
  have e2 : ask 0 (-10) = 10 := by decide +kernel
  have e3 : ask 0 70 = -64 := by decide +kernel
  unfold BEnd at h
  rw [e0, e1, e2, e3] at h
  exact h
theorem aw_step2 (w : World) (B : Nat) (hB : Bup w B 0) : Calls Try.prog 17 #[bP B, .bool true, tV 0 0 0, .int .i64 8000] w fun e w' => e = .returned (tV 0 0 (-32)) ∧ Bup w' B (-32) ∧ w.grownBy w' (some B) := by
  have h := stepB_any w B 0 true 0 0 0 8000 hB i64_0 i64_0 i64_0 i64_0 (i64_of (by decide))
  have e0 : fnx 0 true 8000 = -32 := by decide +kernel
  have e1 : ask 0 0 = 0 := by decide +kernel
  have e2 : ask (-32) 0 = -32 := by decide +kernel
  unfold BEnd at h
  rw [e0, e1, e2] at h
  exact h
theorem aw_reach (w : World) : Calls Try.prog 13 #[axsV ⟨0, 0, 0, 0⟩ ⟨0, 0, 0, 0⟩ ⟨0, 0, 0, 0⟩, tV 0 0 0, mgV ⟨58, 0, 0, 0, 0, 0⟩] w fun e w' => e = .returned (bxV (-1) 1 (-1) 1 0 1) ∧ Below w.heap.size w w' := by
  have ok : AOk ⟨0, 0, 0, 0⟩ := ⟨i64_0, i64_0, i64_0, i64_0⟩
  have h := reach_any ⟨0, 0, 0, 0⟩ ⟨0, 0, 0, 0⟩ ⟨0, 0, 0, 0⟩ 0 0 0 ⟨58, 0, 0, 0, 0, 0⟩ w ok ok ok i64_0 i64_0 i64_0 (i64_of (by decide)) i64_0
  have e0 : rlo 0 0 0 58 0 / 6400 = -1 := by decide +kernel
  have e1 : upm (rhi 0 0 0 58 0) = 1 := by decide +kernel
  simp only at h
  rw [e0, e1] at h
  exact h
theorem aw_stop (w : World) : Calls Try.prog 10 #[.int .i64 120, .int .i64 58] w fun e w' => e = .returned (.int .i64 66) ∧ ∃ n, w' = w.drewN n := by
  have h := stop_any 120 58 w (i64_of (by decide)) (i64_of (by decide))
  rw [show stp 120 58 = 66 by decide +kernel] at h
  exact h
theorem aw_slow1 (w : World) : Calls Try.prog 20 #[tV 64 (-64) 0] w fun e w' => e = .returned (.bool true) ∧ Below w.heap.size w w' := by
  have h := slow_any 64 (-64) 0 w
  rw [show slw 64 (-64) 0 = true by decide +kernel] at h
  exact h
theorem aw_slow2 (w : World) : Calls Try.prog 20 #[tV 65 0 0] w fun e w' => e = .returned (.bool false) ∧ Below w.heap.size w w' := by
  have h := slow_any 65 0 0 w
  rw [show slw 65 0 0 = false by decide +kernel] at h
  exact h
set_option maxHeartbeats 2000000 in
theorem awakeU (w : World) : Calls Try.prog 12 #[] w fun e w' => e = .returned (.bool true) ∧ Below w.heap.size w w' := by
  have E1 := eql_arr (-64) 10 (-64) (-64) 10 (-64)
  have E2 := eql_arr 0 0 (-32) 0 0 (-32)
  have EB := eqlBx (-1) 1 (-1) 1 0 1
  have ST := hide aw_stop
  have L1 := hide aw_slow1
  have L2 := hide aw_slow2
  go_enter Try.func12, Try.ntmps12
  go_wp2_with fail
  refine (newBk_any w).mono ?_
  rintro e w1 ⟨B, rfl, hB1, hb1, hBw⟩
  have HB := hide hB1
  have Hb := hide hb1
  clear hB1 hb1
  go_wp2_with fail
  refine (aw_step1 w1 B HB.out).mono ?_
  rintro e w2 ⟨rfl, hB2, hG2⟩
  replace HB := hide (hB2.alloc (.cells (tC (-64) 10 (-64)) 30))
  replace Hb := hide (below_next (below_grown Hb.out hG2 (fun q e => by injection e with e; omega)) (Nat.le_refl _) (below_alloc w2 (.cells (tC (-64) 10 (-64)) 30)))
  have HC := hide (Blk.new w2 (tC (-64) 10 (-64)) 30)
  have hne : B < w2.heap.size := hB2.lt
  clear hB2 hG2
  go_upto_region 5 with fail
  generalize w2.heap.size = g at *
  generalize w2.alloc (.cells (tC (-64) 10 (-64)) 30) = W2 at *
  go_wp2_with fail
  refine (aw_step2 W2 B HB.out).mono ?_
  rintro e w3 ⟨rfl, hB3, hG3⟩
  replace HC := hide ((HC.out.grown hG3 (by intro e; injection e with e; omega)).alloc (.cells (tC 0 0 (-32)) 30))
  replace Hb := hide (below_next (below_grown Hb.out hG3 (fun q e => by injection e with e; omega)) (Nat.le_refl _) (below_alloc w3 (.cells (tC 0 0 (-32)) 30)))
  have HD := hide (Blk.new w3 (tC 0 0 (-32)) 30)
  clear hB3 hG3 HB hne hBw
  go_upto_region 6 with fail
  generalize w3.heap.size = d at *
  generalize w3.alloc (.cells (tC 0 0 (-32)) 30) = W3 at *
  go_wp2_with fail
  refine (aw_reach W3).mono ?_
  rintro e w4 ⟨rfl, hb4⟩
  replace HC := hide ((HC.out.after hb4).alloc (.cells (bxC (-1) 1 (-1) 1 0 1) 36))
  replace HD := hide ((HD.out.after hb4).alloc (.cells (bxC (-1) 1 (-1) 1 0 1) 36))
  replace Hb := hide (below_next (below_next Hb.out (Nat.le_refl _) hb4) (Nat.le_refl _) (below_alloc w4 (.cells (bxC (-1) 1 (-1) 1 0 1) 36)))
  have HE := hide (Blk.new w4 (bxC (-1) 1 (-1) 1 0 1) 36)
  clear hb4
  go_upto_region 7 with fail
  generalize w4.heap.size = k at *
  generalize w4.alloc (.cells (bxC (-1) 1 (-1) 1 0 1) 36) = W4 at *
  replace HC := hide (HC.out.alloc (.cells #[.int .i64 (-1), .int .i64 1] 26))
  replace HD := hide (HD.out.alloc (.cells #[.int .i64 (-1), .int .i64 1] 26))
  replace HE := hide (HE.out.alloc (.cells #[.int .i64 (-1), .int .i64 1] 26))
  replace Hb := hide (below_next Hb.out (Nat.le_refl _) (below_alloc W4 (.cells #[.int .i64 (-1), .int .i64 1] 26)))
  have HF := hide (Blk.new W4 #[.int .i64 (-1), .int .i64 1] 26)
  go_upto_region 8 with fail
  generalize W4.heap.size = m at *
  generalize W4.alloc (.cells #[.int .i64 (-1), .int .i64 1] 26) = W5 at *
  obtain ⟨c0, c1, c2⟩ := three_cells HC.out
  obtain ⟨d0, d1, d2⟩ := three_cells HD.out
  clear HC HD
  go_wp2_with fail
  refine (ST.out _).mono ?_
  rintro e w6 ⟨rfl, n, hw⟩
  have HE6 : Hid (Blk w6 k (bxC (-1) 1 (-1) 1 0 1) 36) := by rw [hw]; exact hide (blk_drewN HE.out n)
  have HF6 : Hid (Blk w6 m #[.int .i64 (-1), .int .i64 1] 26) := by rw [hw]; exact hide (blk_drewN HF.out n)
  have Hb6 : Hid (Below w.heap.size w w6) := by rw [hw]; exact hide (below_drewN Hb.out n)
  clear hw HE HF Hb c0 c1 c2 d0 d1 d2
  obtain ⟨p0, p1, p2, p3, p4, p5⟩ := six_cells HE6.out
  obtain ⟨q0, q1⟩ := two_cellsG HF6.out
  clear HE6 HF6
  go_wp2_with fail
  refine (L1.out _).mono ?_
  rintro e w7 ⟨rfl, hb7⟩
  replace Hb6 := hide (below_next Hb6.out (Nat.le_refl _) hb7)
  clear hb7
  go_wp2_with fail
  refine (L2.out _).mono ?_
  rintro e w8 ⟨rfl, hb8⟩
  replace Hb6 := hide (below_next Hb6.out (Nat.le_refl _) hb8)
  clear hb8
  go_wp2_with fail
  go_ret
  exact ⟨rfl, Hb6.out⟩
end Go.Proofs.Ytjinfjibodoflaa
