/- The reference's answer for a product over a number: the walk of MulDiv of windhoverref01. -/
import Derived.Test.YtcfoeknijgiboaaOverRest
import Derived.Test.YtcfoeknijgiboaaTwo
import Derived.Test.YtcfoeknijgiboaaMulDiv
namespace Go.Proofs.Ytcfoeknijgiboaa
open Go.RowKit

theorem over_any (va vb : Value) (a b : Int) (L M : Nat) (w : World) (ha : Whole w va a L) (hb : Whole w vb b M) (hL : L ≤ 1000) (hM : M ≤ 1000) (hb0 : 0 < b) :
    Calls Try.prog 32 #[va, vb] w fun e w' => e = .returned (.int .i64 (sat (a / b))) ∧ Below w.heap.size w w' := by
  by_cases h : 9223372036854775807 * b ≤ a
  · refine (over_high va vb a b L M w ha hb hL hM h).mono ?_
    rintro e w' ⟨rfl, hw⟩
    refine ⟨ret_int ?_, hw⟩
    have := (Int.le_ediv_iff_mul_le hb0).2 h
    unfold sat
    split <;> (try split) <;> omega
  · exact over_rest va vb a b L M w ha hb hL hM (by omega) hb0
set_option maxHeartbeats 1000000 in
theorem ref_muldiv_no (a b : Int) (w : World) : Calls Try.prog 13 #[.int .i64 a, .int .i64 b, .int .i64 0] w fun e w' => e = .returned (.tuple #[.int .i64 0, .int .i64 1]) ∧ w' = w := by
  go_enter Try.func13, Try.ntmps13
  go_wp2
  go_ret2
  exact ⟨rfl, rfl⟩
set_option maxHeartbeats 8000000 in
theorem ref_muldiv_any (a b c : Int) (w : World) (ha : I64 a) (hb : I64 b) (hc : I64 c) (h0 : c ≠ 0) :
    Calls Try.prog 13 #[.int .i64 a, .int .i64 b, .int .i64 c] w fun e w' => e = .returned (.tuple #[.int .i64 (sat (floorOf a b c)), .int .i64 0]) ∧ Below w.heap.size w w' := by
  have HA := hide ha
  have HB := hide hb
  have HC := hide hc
  have I0 : Hid (I64 0) := by show I64 0; unfold I64; omega
  have z : (c == 0) = false := by rw [beq_eq_false_iff_ne]; exact h0
  clear ha hb hc
  by_cases neg : c < 0
  · have F : Hid (floorOf a b c = (0 - a * b) / (0 - c)) := by show _ = _; unfold floorOf; rw [if_pos neg, Int.zero_sub, Int.zero_sub]
    obtain ⟨fr, FR⟩ : ∃ r, Hid (sat ((0 - a * b) / (0 - c)) = r) := ⟨_, rfl⟩
    go_enter Try.func13, Try.ntmps13
    go_wp2_with fail
    refine (of_any a _ HA.out).mono ?_
    rintro e w1 ⟨v1, rfl, h1, k1⟩
    have H1 := hide h1; have K1 := hide k1; clear h1 k1
    go_wp2_with fail
    refine (of_any b _ HB.out).mono ?_
    rintro e w2 ⟨v2, rfl, h2, k2⟩
    have H2 := hide h2; have K2 := hide k2; clear h2 k2
    go_wp2_with fail
    refine (times_any _ _ a b 3 3 6 _ (K1.out.below H2.out) K2.out (by omega) (by omega) (by omega)).mono ?_
    rintro e w3 ⟨v3, rfl, h3, k3⟩
    obtain ⟨s1, p1, l1, c1, rfl⟩ := whole_agg k3
    have H3 := hide (below_step (below_step H1.out (Nat.le_refl _) H2.out) (Nat.le_refl _) h3); have K3 := hide k3; clear h3 k3 H1 K1 H2 K2
    go_wp2_with fail
    refine (of_any c _ HC.out).mono ?_
    rintro e w4 ⟨v4, rfl, h4, k4⟩
    obtain ⟨s2, p2, l2, c2, rfl⟩ := whole_agg k4
    have tt := two_mk (t2 := 28) H3.out K3.out h4 k4
    have ka := tt.a0
    have kb := tt.a1
    have kc := tt.d0
    have kd := tt.d1
    have fa := tt.f0
    have fb := tt.f1
    have fc := tt.g0
    have fd := tt.g1
    have HT := hide tt
    have H4 := hide h4; clear h4 k4 tt H4 H3 K3
    go_wp2_with fail
    go_cut [] (fun wx => ∃ s p l c', TwoV w wx w3.heap.size w4.heap.size s p l c' s2 p2 l2 c2 (0 - a * b) c 7 3)
    case first =>
      go_region_with (first
        | (go_at_call 16; refine (of_any 0 _ I0.out).mono ?_; rintro e wa ⟨v, rfl, h, k⟩; obtain ⟨sx, px, lx, cx, rfl⟩ := whole_agg k; have tt := HT.out.below (show Below _ _ wa from ⟨h.os, h.tape, h.output, h.size, h.block⟩); have ka := tt.a0; have kb := tt.a1; have kc := tt.d0; have kd := tt.d1; have fa := tt.f0; have fb := tt.f1; have fc := tt.g0; have fd := tt.g1; have HT := hide tt; have HW := hide k; clear h k tt)
        | (go_at_call 17; refine (minus_any _ _ 0 (a * b) 3 6 7 _ HW.out HT.out.wp (by omega) (by omega) (by omega)).mono ?_; rintro e wb ⟨v, rfl, h, k⟩; obtain ⟨sy, py, ly, cy, rfl⟩ := whole_agg k; have tt := HT.out.below h; have ka := tt.a0; have kb := tt.a1; have kc := tt.d0; have kd := tt.d1; have fa := tt.f0; have fb := tt.f1; have fc := tt.g0; have fd := tt.g1; have HT := hide tt; have HW := hide k; clear h k tt))
      all_goals
        go_wp2_with fail
        go_meet
        exact ⟨_, _, _, _, HT.out.setP HW.out⟩
    case rest =>
      clear HT ka kb kc kd fa fb fc fd
      obtain ⟨s5, p5, l5, c5, tt⟩ := hcut
      have ka := tt.a0
      have kb := tt.a1
      have kc := tt.d0
      have kd := tt.d1
      have fa := tt.f0
      have fb := tt.f1
      have fc := tt.g0
      have fd := tt.g1
      have HT := hide tt
      clear tt
      go_wp2_with fail
      go_cut [] (fun wx => ∃ s p l c', TwoV w wx w3.heap.size w4.heap.size s5 p5 l5 c5 s p l c' (0 - a * b) (0 - c) 7 4)
      case first =>
        go_region_with (first
          | (go_at_call 16; refine (of_any 0 _ I0.out).mono ?_; rintro e wa ⟨v, rfl, h, k⟩; obtain ⟨sx, px, lx, cx, rfl⟩ := whole_agg k; have tt := HT.out.below (show Below _ _ wa from ⟨h.os, h.tape, h.output, h.size, h.block⟩); have ka := tt.a0; have kb := tt.a1; have kc := tt.d0; have kd := tt.d1; have fa := tt.f0; have fb := tt.f1; have fc := tt.g0; have fd := tt.g1; have HT := hide tt; have HW := hide k; clear h k tt)
          | (go_at_call 17; refine (minus_any _ _ 0 (c) 3 3 4 _ HW.out HT.out.wd (by omega) (by omega) (by omega)).mono ?_; rintro e wb ⟨v, rfl, h, k⟩; obtain ⟨sy, py, ly, cy, rfl⟩ := whole_agg k; have tt := HT.out.below h; have ka := tt.a0; have kb := tt.a1; have kc := tt.d0; have kd := tt.d1; have fa := tt.f0; have fb := tt.f1; have fc := tt.g0; have fd := tt.g1; have HT := hide tt; have HW := hide k; clear h k tt))
        all_goals
          go_wp2_with fail
          go_meet
          exact ⟨_, _, _, _, HT.out.setD HW.out⟩
      case rest =>
        clear HT ka kb kc kd fa fb fc fd
        obtain ⟨s6, p6, l6, c6, tt⟩ := hcut
        have ka := tt.a0
        have kb := tt.a1
        have kc := tt.d0
        have kd := tt.d1
        have fa := tt.f0
        have fb := tt.f1
        have fc := tt.g0
        have fd := tt.g1
        have HT := hide tt
        clear tt
        go_wp2_with fail
        refine (over_any _ _ (0 - a * b) (0 - c) 7 4 _ HT.out.wp HT.out.wd (by omega) (by omega) (by omega)).mono ?_
        rintro e w9 ⟨rfl, h9⟩
        rw [FR.out]
        have H9 := hide h9; clear h9
        go_wp2_with fail
        go_ret2
        exact ⟨ret_two (by rw [F.out]; exact FR.out.symm) rfl, below_step HT.out.bel (Nat.le_refl _) H9.out⟩
  · have F : Hid (floorOf a b c = a * b / c) := by show _ = _; unfold floorOf; rw [if_neg neg]
    obtain ⟨fr, FR⟩ : ∃ r, Hid (sat (a * b / c) = r) := ⟨_, rfl⟩
    go_enter Try.func13, Try.ntmps13
    go_wp2_with fail
    refine (of_any a _ HA.out).mono ?_
    rintro e w1 ⟨v1, rfl, h1, k1⟩
    have H1 := hide h1; have K1 := hide k1; clear h1 k1
    go_wp2_with fail
    refine (of_any b _ HB.out).mono ?_
    rintro e w2 ⟨v2, rfl, h2, k2⟩
    have H2 := hide h2; have K2 := hide k2; clear h2 k2
    go_wp2_with fail
    refine (times_any _ _ a b 3 3 6 _ (K1.out.below H2.out) K2.out (by omega) (by omega) (by omega)).mono ?_
    rintro e w3 ⟨v3, rfl, h3, k3⟩
    obtain ⟨s1, p1, l1, c1, rfl⟩ := whole_agg k3
    have H3 := hide (below_step (below_step H1.out (Nat.le_refl _) H2.out) (Nat.le_refl _) h3); have K3 := hide k3; clear h3 k3 H1 K1 H2 K2
    go_wp2_with fail
    refine (of_any c _ HC.out).mono ?_
    rintro e w4 ⟨v4, rfl, h4, k4⟩
    obtain ⟨s2, p2, l2, c2, rfl⟩ := whole_agg k4
    have tt := two_mk (t2 := 28) H3.out K3.out h4 k4
    have ka := tt.a0
    have kb := tt.a1
    have kc := tt.d0
    have kd := tt.d1
    have fa := tt.f0
    have fb := tt.f1
    have fc := tt.g0
    have fd := tt.g1
    have HT := hide tt
    have H4 := hide h4; clear h4 k4 tt H4 H3 K3
    go_wp2_with fail
    refine (over_any _ _ (a * b) c 6 3 _ HT.out.wp HT.out.wd (by omega) (by omega) (by omega)).mono ?_
    rintro e w9 ⟨rfl, h9⟩
    rw [FR.out]
    have H9 := hide h9; clear h9
    go_wp2_with fail
    go_ret2
    exact ⟨ret_two (by rw [F.out]; exact FR.out.symm) rfl, below_step HT.out.bel (Nat.le_refl _) H9.out⟩
end Go.Proofs.Ytcfoeknijgiboaa
