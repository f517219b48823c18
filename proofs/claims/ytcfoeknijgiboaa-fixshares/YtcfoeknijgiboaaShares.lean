/- What FixShares answers: true, at every three numbers. -/
import Derived.Test.YtcfoeknijgiboaaSharePos
import Derived.Test.YtcfoeknijgiboaaShareNeg
import Derived.Test.YtcfoeknijgiboaaAwake
import Derived.Test.YtcfoeknijgiboaaSatC
namespace Go.Proofs.Ytcfoeknijgiboaa
open Go.RowKit

set_option maxHeartbeats 16000000 in
theorem FixShares_walk (a b c : Int) (ha : I64 a) (hb : I64 b) (hc : I64 c) (w : World) : Calls Try.prog 3 #[.int .i64 a, .int .i64 b, .int .i64 c] w fun e w' => e = .returned (.bool true) ∧ Below w.heap.size w w' := by
  have HA := hide ha
  have HB := hide hb
  have HC := hide hc
  by_cases h0 : c = 0
  · subst h0
    clear ha hb hc
    go_enter Try.func3, Try.ntmps3
    go_wp2_with fail
    refine (muldiv_no a b _).mono ?_
    rintro e w' ⟨rfl, rfl⟩
    go_wp2_with fail
    refine (ref_muldiv_no a b _).mono ?_
    rintro e w' ⟨rfl, rfl⟩
    go_wp2_with fail
    refine (awake_any _).mono ?_
    rintro e w' ⟨rfl, n, rfl⟩
    go_wp2_with fail
    go_ret
    exact ⟨rfl, below_draw (Below.refl _ _) _⟩
  · have M1 := hide (fun (W : World) => muldiv_any a b c W ha hb hc h0)
    have M2 := hide (fun (W : World) => ref_muldiv_any a b c W ha hb hc h0)
    obtain ⟨q, SQ⟩ : ∃ q, Hid (sat (floorOf a b c) = q) := ⟨_, rfl⟩
    rw [SQ.out] at M1 M2
    have qi : -9223372036854775808 ≤ q ∧ q ≤ 9223372036854775807 := by rcases sat_cases (floorOf a b c) with g | g | g <;> have := SQ.out <;> omega
    have z : (c == 0) = false := by rw [beq_eq_false_iff_ne]; exact h0
    have qq : (q == q) = true := by simp
    clear ha hb hc
    cases qa : (q == 9223372036854775807)
    · cases qb : (q == -9223372036854775808)
      · have q1 : q ≤ 9223372036854775806 := by have : q ≠ 9223372036854775807 := by simpa using qa
                                                omega
        have q2 : -9223372036854775807 ≤ q := by have : q ≠ -9223372036854775808 := by simpa using qb
                                                 omega
        by_cases neg : c < 0
        · exact share_neg a b c q HA HB HC SQ M1 M2 z qa qb q1 q2 neg w
        · exact share_pos a b c q HA HB HC SQ M1 M2 z qa qb q1 q2 neg w
      · go_enter Try.func3, Try.ntmps3
        go_wp2_with fail
        refine (M1.out _).mono ?_
        rintro e w' ⟨rfl, n, rfl⟩
        go_wp2_with fail
        refine (M2.out _).mono ?_
        rintro e w0 ⟨rfl, h00⟩
        have H0 := hide (show Below w.heap.size w w0 from ⟨h00.os, h00.tape, h00.output, h00.size, h00.block⟩); clear h00
        go_wp2_with fail
        refine (awake_any _).mono ?_
        rintro e wq ⟨rfl, n2, rfl⟩
        go_wp2_with fail
        go_ret
        exact ⟨rfl, below_draw H0.out _⟩
    · go_enter Try.func3, Try.ntmps3
      go_wp2_with fail
      refine (M1.out _).mono ?_
      rintro e w' ⟨rfl, n, rfl⟩
      go_wp2_with fail
      refine (M2.out _).mono ?_
      rintro e w0 ⟨rfl, h00⟩
      have H0 := hide (show Below w.heap.size w w0 from ⟨h00.os, h00.tape, h00.output, h00.size, h00.block⟩); clear h00
      go_wp2_with fail
      refine (awake_any _).mono ?_
      rintro e wq ⟨rfl, n2, rfl⟩
      go_wp2_with fail
      go_ret
      exact ⟨rfl, below_draw H0.out _⟩
end Go.Proofs.Ytcfoeknijgiboaa
