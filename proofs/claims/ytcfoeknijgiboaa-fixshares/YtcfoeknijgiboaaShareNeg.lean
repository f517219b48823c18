/- What FixShares answers where the divisor is below 0 and the share is at no end. -/
import Derived.Test.YtcfoeknijgiboaaRefShare
import Derived.Test.YtcfoeknijgiboaaAwake
import Derived.Test.YtcfoeknijgiboaaSatC
namespace Go.Proofs.Ytcfoeknijgiboaa
open Go.RowKit

theorem share_math_neg (P D q : Int) (hD : 0 < D) (hs : sat (P / D) = q) (q1 : q ≤ 9223372036854775806) (q2 : -9223372036854775807 ≤ q) : cmpI (q * D) P ≤ 0 ∧ 0 < cmpI ((q + 1) * D) P := by
  have hfl := Int.mul_ediv_add_emod P D
  have hf1 := Int.emod_nonneg P (show D ≠ 0 by omega)
  have hf2 := Int.emod_lt_of_pos P hD
  have hq : P / D = q := by
    rcases sat_cases (P / D) with ⟨_, g⟩ | ⟨_, g⟩ | ⟨_, _, g⟩
    · rw [g] at hs; omega
    · rw [g] at hs; omega
    · rw [g] at hs; exact hs
  rw [hq, Int.mul_comm D q] at hfl
  refine ⟨(cmpI_in (q * D) P).2.2.1 ?_, (cmpI_in ((q + 1) * D) P).2.2.2.1 ?_⟩
  · generalize q * D = X at *
    omega
  · rw [Int.add_mul, Int.one_mul]
    generalize q * D = X at *
    omega
set_option maxHeartbeats 16000000 in
set_option maxRecDepth 100000 in
theorem share_neg (a b c q : Int) (HA : Hid (I64 a)) (HB : Hid (I64 b)) (HC : Hid (I64 c)) (SQ : Hid (sat (floorOf a b c) = q))
    (M1 : Hid (∀ W : World, Calls Try.prog 12 #[.int .i64 a, .int .i64 b, .int .i64 c] W fun e w' => e = .returned (.tuple #[.int .i64 q, .int .i64 0]) ∧ ∃ n, w' = W.drewN n))
    (M2 : Hid (∀ W : World, Calls Try.prog 13 #[.int .i64 a, .int .i64 b, .int .i64 c] W fun e w' => e = .returned (.tuple #[.int .i64 q, .int .i64 0]) ∧ Below W.heap.size W w'))
    (z : (c == 0) = false) (qa : (q == 9223372036854775807) = false) (qb : (q == -9223372036854775808) = false) (q1 : q ≤ 9223372036854775806) (q2 : -9223372036854775807 ≤ q) (neg : c < 0) (w : World) :
    Calls Try.prog 3 #[.int .i64 a, .int .i64 b, .int .i64 c] w fun e w' => e = .returned (.bool true) ∧ Below w.heap.size w w' := by
  have used := And.intro z (And.intro qa qb)
  clear used
  have c0 : c ≠ 0 := by simpa using z
  have sm := share_math_neg (0 - a * b) (0 - c) q (by omega) (by rw [← SQ.out]; unfold floorOf; rw [if_pos neg, Int.zero_sub, Int.zero_sub]) q1 q2
  obtain ⟨xa, CA⟩ : ∃ x, Hid (cmpI (q * (0 - c)) (0 - a * b) = x) := ⟨_, rfl⟩
  obtain ⟨xb, CB⟩ : ∃ x, Hid (cmpI ((q + 1) * (0 - c)) (0 - a * b) = x) := ⟨_, rfl⟩
  rw [CA.out, CB.out] at sm
  have da : decide (xa ≤ 0) = true := by simpa using sm.1
  have db : decide (0 < xb) = true := by simpa using sm.2
  have qq : (q == q) = true := by simp
  have IQ : Hid (I64 q) := by show I64 q; unfold I64; omega
  have IR : Hid (I64 (q + 1)) := by show I64 (q + 1); unfold I64; omega
  have I0 : Hid (I64 0) := by show I64 0; unfold I64; omega
  have wr : IntKind.i64.wrap (q + 1) = q + 1 := by rw [IntKind.wrap_i64]; omega
  clear sm c0
  go_enter Try.func3, Try.ntmps3
  go_wp2_with fail
  refine (M1.out _).mono ?_
  rintro e w' ⟨rfl, n, rfl⟩
  go_wp2_with fail
  refine (M2.out _).mono ?_
  rintro e w0 ⟨rfl, h00⟩
  have H0 := hide (show Below w.heap.size w w0 from ⟨h00.os, h00.tape, h00.output, h00.size, h00.block⟩); clear h00
  go_wp2_with fail
  refine (of_any a _ HA.out).mono ?_
  rintro e w1 ⟨v1, rfl, h1, k1⟩
  have H1 := hide h1; have K1 := hide k1; clear h1 k1
  go_wp2_with fail
  refine (of_any b _ HB.out).mono ?_
  rintro e w2 ⟨v2, rfl, h2, k2⟩
  have H2 := hide h2; have K2 := hide k2; clear h2 k2
  go_wp2_with fail
  refine (times_any _ _ a b 3 3 6 _ (K1.out.below H2.out) K2.out (by omega) (by omega) (by omega)).mono ?_
  rintro e w3 ⟨v3, rfl, h3, k3⟩
  obtain ⟨s1, p1, l1, c1, rfl⟩ := whole_agg k3
  have H3 := hide (below_step (below_step (below_step H0.out (Nat.le_refl _) H1.out) (Nat.le_refl _) H2.out) (Nat.le_refl _) h3); have K3 := hide k3; clear h3 k3 H1 K1 H2 K2
  go_wp2_with fail
  refine (of_any c _ HC.out).mono ?_
  rintro e w4 ⟨v4, rfl, h4, k4⟩
  obtain ⟨s2, p2, l2, c2, rfl⟩ := whole_agg k4
  have tt := two_mk (t2 := 28) H3.out K3.out h4 k4
  have ka := tt.a0
  have kb := tt.a1
  have kc := tt.d0
  have kd := tt.d1
  have fa := tt.f0
  have fb := tt.f1
  have fc := tt.g0
  have fd := tt.g1
  have HT := hide tt
  have H4 := hide h4; clear h4 k4 tt H4 H3 K3
  go_wp2_with fail
  go_cut [] (fun wx => ∃ s p l c', TwoV w wx w3.heap.size w4.heap.size s p l c' s2 p2 l2 c2 (0 - a * b) c 7 3)
  case first =>
    go_region_with (first
      | (go_at_call 16; refine (of_any 0 _ I0.out).mono ?_; rintro e wa ⟨v, rfl, h, k⟩; obtain ⟨sx, px, lx, cx, rfl⟩ := whole_agg k; have tt := HT.out.below (show Below _ _ wa from ⟨h.os, h.tape, h.output, h.size, h.block⟩); have ka := tt.a0; have kb := tt.a1; have kc := tt.d0; have kd := tt.d1; have fa := tt.f0; have fb := tt.f1; have fc := tt.g0; have fd := tt.g1; have HT := hide tt; have HW := hide k; clear h k tt)
      | (go_at_call 17; refine (minus_any _ _ 0 (a * b) 3 6 7 _ HW.out HT.out.wp (by omega) (by omega) (by omega)).mono ?_; rintro e wb ⟨v, rfl, h, k⟩; obtain ⟨sy, py, ly, cy, rfl⟩ := whole_agg k; have tt := HT.out.below h; have ka := tt.a0; have kb := tt.a1; have kc := tt.d0; have kd := tt.d1; have fa := tt.f0; have fb := tt.f1; have fc := tt.g0; have fd := tt.g1; have HT := hide tt; have HW := hide k; clear h k tt))
    all_goals
      go_wp2_with fail
      go_meet
      exact ⟨_, _, _, _, HT.out.setP HW.out⟩
  case rest =>
    clear HT ka kb kc kd fa fb fc fd
    obtain ⟨s5, p5, l5, c5, tt⟩ := hcut
    have ka := tt.a0
    have kb := tt.a1
    have kc := tt.d0
    have kd := tt.d1
    have fa := tt.f0
    have fb := tt.f1
    have fc := tt.g0
    have fd := tt.g1
    have HT := hide tt
    clear tt
    go_wp2_with fail
    go_cut [] (fun wx => ∃ s p l c', TwoV w wx w3.heap.size w4.heap.size s5 p5 l5 c5 s p l c' (0 - a * b) (0 - c) 7 4)
    case first =>
      go_region_with (first
        | (go_at_call 16; refine (of_any 0 _ I0.out).mono ?_; rintro e wa ⟨v, rfl, h, k⟩; obtain ⟨sx, px, lx, cx, rfl⟩ := whole_agg k; have tt := HT.out.below (show Below _ _ wa from ⟨h.os, h.tape, h.output, h.size, h.block⟩); have ka := tt.a0; have kb := tt.a1; have kc := tt.d0; have kd := tt.d1; have fa := tt.f0; have fb := tt.f1; have fc := tt.g0; have fd := tt.g1; have HT := hide tt; have HW := hide k; clear h k tt)
        | (go_at_call 17; refine (minus_any _ _ 0 (c) 3 3 4 _ HW.out HT.out.wd (by omega) (by omega) (by omega)).mono ?_; rintro e wb ⟨v, rfl, h, k⟩; obtain ⟨sy, py, ly, cy, rfl⟩ := whole_agg k; have tt := HT.out.below h; have ka := tt.a0; have kb := tt.a1; have kc := tt.d0; have kd := tt.d1; have fa := tt.f0; have fb := tt.f1; have fc := tt.g0; have fd := tt.g1; have HT := hide tt; have HW := hide k; clear h k tt))
      all_goals
        go_wp2_with fail
        go_meet
        exact ⟨_, _, _, _, HT.out.setD HW.out⟩
    case rest =>
      clear HT ka kb kc kd fa fb fc fd
      obtain ⟨s6, p6, l6, c6, tt⟩ := hcut
      have ka := tt.a0
      have kb := tt.a1
      have kc := tt.d0
      have kd := tt.d1
      have fa := tt.f0
      have fb := tt.f1
      have fc := tt.g0
      have fd := tt.g1
      have HT := hide tt
      clear tt
      go_wp2_with fail
      go_cut [13] (fun v wx => v = .bool true ∧ TwoV w wx w3.heap.size w4.heap.size s5 p5 l5 c5 s6 p6 l6 c6 (0 - a * b) (0 - c) 7 4)
      case first =>
        go_region_with (first
          | (go_at_call 16; refine (of_any (q) _ IQ.out).mono ?_; rintro e wa ⟨v, rfl, h, k⟩; obtain ⟨sx, px, lx, cx, rfl⟩ := whole_agg k; have tt := HT.out.below (show Below _ _ wa from ⟨h.os, h.tape, h.output, h.size, h.block⟩); have ka := tt.a0; have kb := tt.a1; have kc := tt.d0; have kd := tt.d1; have fa := tt.f0; have fb := tt.f1; have fc := tt.g0; have fd := tt.g1; have HT := hide tt; have HW := hide k; clear h k tt)
          | (go_at_call 15; refine (times_any _ _ (q) (0 - c) 3 4 7 _ HW.out HT.out.wd (by omega) (by omega) (by omega)).mono ?_; rintro e wb ⟨v, rfl, h, k⟩; obtain ⟨sy, py, ly, cy, rfl⟩ := whole_agg k; have tt := HT.out.below h; have ka := tt.a0; have kb := tt.a1; have kc := tt.d0; have kd := tt.d1; have fa := tt.f0; have fb := tt.f1; have fc := tt.g0; have fd := tt.g1; have HT := hide tt; have HW := hide k; clear h k tt)
          | (go_at_call 18; refine (cmp_any _ _ ((q) * (0 - c)) (0 - a * b) 7 7 _ HW.out HT.out.wp (by omega)).mono ?_; rintro e wz ⟨rfl, h⟩; rw [CA.out]; have tt := HT.out.below h; have ka := tt.a0; have kb := tt.a1; have kc := tt.d0; have kd := tt.d1; have fa := tt.f0; have fb := tt.f1; have fc := tt.g0; have fd := tt.g1; have HT := hide tt; clear h tt))
        all_goals
          go_wp2_with fail
          go_meet
          exact ⟨rfl, HT.out⟩
      case rest =>
        clear HT ka kb kc kd fa fb fc fd M1 M2 HA HB HC SQ z qa qb qq CA da IQ H0
        obtain ⟨rfl, tt⟩ := hcut
        have ka := tt.a0
        have kb := tt.a1
        have kc := tt.d0
        have kd := tt.d1
        have fa := tt.f0
        have fb := tt.f1
        have fc := tt.g0
        have fd := tt.g1
        have HT := hide tt
        clear tt
        go_wp2_with fail
        go_cut [14] (fun v wx => v = .bool true ∧ TwoV w wx w3.heap.size w4.heap.size s5 p5 l5 c5 s6 p6 l6 c6 (0 - a * b) (0 - c) 7 4)
        case first =>
          go_region_with (first
            | (go_at_call 16; refine (of_any (q + 1) _ IR.out).mono ?_; rintro e wa ⟨v, rfl, h, k⟩; obtain ⟨sx, px, lx, cx, rfl⟩ := whole_agg k; have tt := HT.out.below (show Below _ _ wa from ⟨h.os, h.tape, h.output, h.size, h.block⟩); have ka := tt.a0; have kb := tt.a1; have kc := tt.d0; have kd := tt.d1; have fa := tt.f0; have fb := tt.f1; have fc := tt.g0; have fd := tt.g1; have HT := hide tt; have HW := hide k; clear h k tt)
            | (go_at_call 15; refine (times_any _ _ (q + 1) (0 - c) 3 4 7 _ HW.out HT.out.wd (by omega) (by omega) (by omega)).mono ?_; rintro e wb ⟨v, rfl, h, k⟩; obtain ⟨sy, py, ly, cy, rfl⟩ := whole_agg k; have tt := HT.out.below h; have ka := tt.a0; have kb := tt.a1; have kc := tt.d0; have kd := tt.d1; have fa := tt.f0; have fb := tt.f1; have fc := tt.g0; have fd := tt.g1; have HT := hide tt; have HW := hide k; clear h k tt)
            | (go_at_call 18; refine (cmp_any _ _ ((q + 1) * (0 - c)) (0 - a * b) 7 7 _ HW.out HT.out.wp (by omega)).mono ?_; rintro e wz ⟨rfl, h⟩; rw [CB.out]; have tt := HT.out.below h; have ka := tt.a0; have kb := tt.a1; have kc := tt.d0; have kd := tt.d1; have fa := tt.f0; have fb := tt.f1; have fc := tt.g0; have fd := tt.g1; have HT := hide tt; clear h tt))
          all_goals
            go_wp2_with fail
            go_meet
            exact ⟨rfl, HT.out⟩
        case rest =>
          clear HT ka kb kc kd fa fb fc fd
          obtain ⟨rfl, tt⟩ := hcut
          have HT := hide tt
          clear tt
          go_wp2_with fail
          refine (awake_any _).mono ?_
          rintro e wq ⟨rfl, n2, rfl⟩
          go_wp2_with fail
          go_ret
          exact ⟨rfl, below_draw HT.out.bel _⟩
end Go.Proofs.Ytcfoeknijgiboaa
