/- A product over a number, rounded down: what fix.MulDiv answers. -/
import Derived.Test.YtjinfjibodoflaaDiv
namespace Go.Proofs.Ytjinfjibodoflaa
open Go.RowKit

theorem div64_any (hi lo y : Int) (h1 : 0 ≤ hi) (h2 : hi < y) (h3 : y ≤ 18446744073709551615) (h4 : 0 ≤ lo) (h5 : lo ≤ 18446744073709551615) (w : World) :
    Calls Try.prog 38 #[.int .u64 hi, .int .u64 lo, .int .u64 y] w fun e w' => e = .returned (.tuple #[.int .u64 ((hi * 18446744073709551616 + lo) / y), .int .u64 ((hi * 18446744073709551616 + lo) % y)]) ∧ ∃ n, w' = w.drewN n := by
  by_cases g : hi = 0
  · subst g
    refine (div64_small lo y h4 h5 (by omega) h3 w).mono ?_
    rintro e w' ⟨rfl, hn⟩
    rw [Int.zero_mul, Int.zero_add]
    exact ⟨rfl, hn⟩
  · refine (div64_wide hi lo y (by omega) h2 h3 h4 h5 w).mono ?_
    rintro e w' ⟨rfl, rfl⟩
    exact ⟨rfl, 0, rfl⟩

/-- a * b over c, rounded down -/
def floorOf (a b c : Int) : Int := if c < 0 then -(a * b) / -c else a * b / c
theorem neg_floor (P d : Int) (hd : 1 ≤ d) : (P % d = 0 → -P / d = -(P / d)) ∧ (0 < P % d → -P / d = -(P / d) - 1) := by
  have e := Int.mul_ediv_add_emod P d
  have l := Int.emod_lt_of_pos P (show 0 < d by omega)
  refine ⟨fun g => ?_, fun g => ?_⟩
  · refine ((Int.ediv_emod_unique (a := -P) (b := d) (q := -(P / d)) (r := 0) (by omega)).2 ⟨?_, by omega, by omega⟩).1
    rw [Int.mul_neg]; omega
  · refine ((Int.ediv_emod_unique (a := -P) (b := d) (q := -(P / d) - 1) (r := d - P % d) (by omega)).2 ⟨?_, by omega, by omega⟩).1
    rw [Int.mul_sub, Int.mul_neg]; omega
theorem floor_pos (a b c : Int) (h : (!(!(decide (a < 0) == decide (b < 0)) == decide (c < 0))) = false) : floorOf a b c = (a.natAbs : Int) * (b.natAbs : Int) / (c.natAbs : Int) := by
  unfold floorOf
  rcases natAbs_mul a b with ⟨e, g⟩ | ⟨e, g⟩
  · have h1 : decide (a < 0) = decide (b < 0) := by rw [decide_eq_decide]; omega
    rw [h1] at h
    have h2 : ¬ c < 0 := by simpa using h
    rw [if_neg h2, e, show (c.natAbs : Int) = c by omega]
  · have h1 : decide (a < 0) = !decide (b < 0) := by
      rcases g with ⟨g1, g2⟩ | ⟨g1, g2⟩
      · simp [g1, show ¬ b < 0 by omega]
      · simp [show ¬ a < 0 by omega, g2]
    rw [h1] at h
    have h2 : c < 0 := by cases hb : decide (b < 0) <;> simpa [hb] using h
    rw [if_pos h2, e, show (c.natAbs : Int) = -c by omega]
theorem floor_neg (a b c : Int) (h : (!(!(decide (a < 0) == decide (b < 0)) == decide (c < 0))) = true) : floorOf a b c = -((a.natAbs : Int) * (b.natAbs : Int)) / (c.natAbs : Int) := by
  unfold floorOf
  rcases natAbs_mul a b with ⟨e, g⟩ | ⟨e, g⟩
  · have h1 : decide (a < 0) = decide (b < 0) := by rw [decide_eq_decide]; omega
    rw [h1] at h
    have h2 : c < 0 := by simpa using h
    rw [if_pos h2, e, show (c.natAbs : Int) = -c by omega]
  · have h1 : decide (a < 0) = !decide (b < 0) := by
      rcases g with ⟨g1, g2⟩ | ⟨g1, g2⟩
      · simp [g1, show ¬ b < 0 by omega]
      · simp [show ¬ a < 0 by omega, g2]
    rw [h1] at h
    have h2 : ¬ c < 0 := by cases hb : decide (b < 0) <;> simpa [hb] using h
    rw [if_neg h2, e, Int.neg_neg, show (c.natAbs : Int) = c by omega]
set_option maxHeartbeats 1000000 in
theorem muldiv_no (a b : Int) (w : World) : Calls Try.prog 22 #[.int .i64 a, .int .i64 b, .int .i64 0] w fun e w' => e = .returned (.tuple #[.int .i64 0, .int .i64 1]) ∧ w' = w := by
  go_enter Try.func22, Try.ntmps22
  go_wp2
  go_ret2
  exact ⟨rfl, rfl⟩
theorem big_quot (P d : Int) (hd : 1 ≤ d) (h : d ≤ P / 18446744073709551616) : 18446744073709551616 ≤ P / d := by
  refine (Int.le_ediv_iff_mul_le (by omega)).2 ?_
  omega

set_option maxHeartbeats 4000000 in
theorem muldiv_any (a b c : Int) (w : World) (ha : I64 a) (hb : I64 b) (hc : I64 c) (h0 : c ≠ 0) :
    Calls Try.prog 22 #[.int .i64 a, .int .i64 b, .int .i64 c] w fun e w' => e = .returned (.tuple #[.int .i64 (sat (floorOf a b c)), .int .i64 0]) ∧ ∃ n, w' = w.drewN n := by
  have S1 := hide (fun (W : World) => size_any a W ha)
  have S2 := hide (fun (W : World) => size_any b W hb)
  have S3 := hide (fun (W : World) => size_any c W hc)
  have z : (c == 0) = false := by rw [beq_eq_false_iff_ne]; exact h0
  have na : 0 ≤ (a.natAbs : Int) ∧ (a.natAbs : Int) ≤ 9223372036854775808 := by unfold I64 at ha; omega
  have nb : 0 ≤ (b.natAbs : Int) ∧ (b.natAbs : Int) ≤ 9223372036854775808 := by unfold I64 at hb; omega
  have nc : 1 ≤ (c.natAbs : Int) ∧ (c.natAbs : Int) ≤ 9223372036854775808 := by unfold I64 at hc; omega
  have f1 := floor_pos a b c
  have f2 := floor_neg a b c
  have hP : 0 ≤ (a.natAbs : Int) * (b.natAbs : Int) := Int.mul_nonneg na.1 nb.1
  have M1 := hide (fun (W : World) => mul64_any (a.natAbs : Int) (b.natAbs : Int) na.1 (by omega) nb.1 (by omega) W)
  generalize (a.natAbs : Int) * (b.natAbs : Int) = P at *
  generalize (a.natAbs : Int) = x at *
  generalize (b.natAbs : Int) = y at *
  generalize (c.natAbs : Int) = d at *
  have hn := neg_floor P d nc.1
  have hQ0 : 0 ≤ P / d := Int.ediv_nonneg hP (by omega)
  have hR0 : 0 ≤ P % d := Int.emod_nonneg P (by omega)
  have hbig := big_quot P d nc.1
  have DD := hide (fun (W : World) (h : P / 18446744073709551616 < d) => div64_any (P / 18446744073709551616) (P % 18446744073709551616) d (by omega) h (by omega) (by omega) (by omega) W)
  rw [show P / 18446744073709551616 * 18446744073709551616 + P % 18446744073709551616 = P by omega] at DD
  generalize hT : floorOf a b c = T at *
  clear ha hb hc na nb hT
  generalize hQ : P / d = Q at *
  generalize hR : P % d = R at *
  clear hQ hR
  have HN := hide hn
  have HB := hide hbig
  clear hn hbig
  cases hneg : (!(!(decide (a < 0) == decide (b < 0)) == decide (c < 0)))
  · have e0 := f1 hneg
    have E0 := hide e0
    clear f1 f2 e0 HN
    cases hda : decide (a < 0) <;> cases hdb : decide (b < 0) <;> cases hdc : decide (c < 0) <;> rw [hda, hdb, hdc] at hneg <;> first | (exact absurd hneg (by decide)) | skip
    all_goals
      clear hneg
      by_cases c1 : d ≤ P / 18446744073709551616
      · have hs : Hid (sat T = 9223372036854775807) := by have := E0.out; have := HB.out c1; show sat T = _; unfold sat; split <;> (try split) <;> omega
        go_enter Try.func22, Try.ntmps22
        go_wp2_with fail
        refine (S1.out _).mono ?_
        rintro e w' ⟨rfl, rfl⟩
        go_wp2_with fail
        refine (S2.out _).mono ?_
        rintro e w' ⟨rfl, rfl⟩
        go_wp2_with fail
        refine (M1.out _).mono ?_
        rintro e w' ⟨rfl, rfl⟩
        go_wp2_with fail
        refine (S3.out _).mono ?_
        rintro e w' ⟨rfl, rfl⟩
        go_wp2_with fail
        refine (end_any _ _).mono ?_
        rintro e w' ⟨rfl, rfl⟩
        go_wp2_with fail
        go_ret2
        exact ⟨ret_two hs.out.symm rfl, 0, rfl⟩
      · by_cases c2 : 9223372036854775807 < Q
        · have hs : Hid (sat T = 9223372036854775807) := by have := E0.out; show sat T = _; unfold sat; split <;> (try split) <;> omega
          go_enter Try.func22, Try.ntmps22
          go_wp2_with fail
          refine (S1.out _).mono ?_
          rintro e w' ⟨rfl, rfl⟩
          go_wp2_with fail
          refine (S2.out _).mono ?_
          rintro e w' ⟨rfl, rfl⟩
          go_wp2_with fail
          refine (M1.out _).mono ?_
          rintro e w' ⟨rfl, rfl⟩
          go_wp2_with fail
          refine (S3.out _).mono ?_
          rintro e w' ⟨rfl, rfl⟩
          go_wp2_with fail
          refine (DD.out _ (by omega)).mono ?_
          rintro e w' ⟨rfl, n, rfl⟩
          go_wp2_with fail
          refine (end_any _ _).mono ?_
          rintro e w' ⟨rfl, rfl⟩
          go_wp2_with fail
          go_ret2
          exact ⟨ret_two hs.out.symm rfl, n, rfl⟩
        · have hs : Hid (sat T = Q) := by have := E0.out; show sat T = _; unfold sat; split <;> (try split) <;> omega
          go_enter Try.func22, Try.ntmps22
          go_wp2_with fail
          refine (S1.out _).mono ?_
          rintro e w' ⟨rfl, rfl⟩
          go_wp2_with fail
          refine (S2.out _).mono ?_
          rintro e w' ⟨rfl, rfl⟩
          go_wp2_with fail
          refine (M1.out _).mono ?_
          rintro e w' ⟨rfl, rfl⟩
          go_wp2_with fail
          refine (S3.out _).mono ?_
          rintro e w' ⟨rfl, rfl⟩
          go_wp2_with fail
          refine (DD.out _ (by omega)).mono ?_
          rintro e w' ⟨rfl, n, rfl⟩
          go_wp2_with fail
          go_ret2
          exact ⟨ret_two hs.out.symm rfl, n, rfl⟩
  · have e0 := f2 hneg
    have E0 := hide e0
    clear f1 f2 e0
    cases hda : decide (a < 0) <;> cases hdb : decide (b < 0) <;> cases hdc : decide (c < 0) <;> rw [hda, hdb, hdc] at hneg <;> first | (exact absurd hneg (by decide)) | skip
    all_goals
      clear hneg
      by_cases c1 : d ≤ P / 18446744073709551616
      · have hs : Hid (sat T = -9223372036854775808) := by
          have k1 := E0.out; have k2 := HB.out c1; have k3 := HN.out
          show sat T = _
          rw [← k1] at k3
          unfold sat; split <;> (try split) <;> omega
        go_enter Try.func22, Try.ntmps22
        go_wp2_with fail
        refine (S1.out _).mono ?_
        rintro e w' ⟨rfl, rfl⟩
        go_wp2_with fail
        refine (S2.out _).mono ?_
        rintro e w' ⟨rfl, rfl⟩
        go_wp2_with fail
        refine (M1.out _).mono ?_
        rintro e w' ⟨rfl, rfl⟩
        go_wp2_with fail
        refine (S3.out _).mono ?_
        rintro e w' ⟨rfl, rfl⟩
        go_wp2_with fail
        refine (end_any _ _).mono ?_
        rintro e w' ⟨rfl, rfl⟩
        go_wp2_with fail
        go_ret2
        exact ⟨ret_two hs.out.symm rfl, 0, rfl⟩
      · by_cases c2 : 9223372036854775807 < Q
        · have hs : Hid (sat T = -9223372036854775808) := by
            have k1 := E0.out; have k3 := HN.out
            show sat T = _
            rw [← k1] at k3
            unfold sat; split <;> (try split) <;> omega
          go_enter Try.func22, Try.ntmps22
          go_wp2_with fail
          refine (S1.out _).mono ?_
          rintro e w' ⟨rfl, rfl⟩
          go_wp2_with fail
          refine (S2.out _).mono ?_
          rintro e w' ⟨rfl, rfl⟩
          go_wp2_with fail
          refine (M1.out _).mono ?_
          rintro e w' ⟨rfl, rfl⟩
          go_wp2_with fail
          refine (S3.out _).mono ?_
          rintro e w' ⟨rfl, rfl⟩
          go_wp2_with fail
          refine (DD.out _ (by omega)).mono ?_
          rintro e w' ⟨rfl, n, rfl⟩
          go_wp2_with fail
          refine (end_any _ _).mono ?_
          rintro e w' ⟨rfl, rfl⟩
          go_wp2_with fail
          go_ret2
          exact ⟨ret_two hs.out.symm rfl, n, rfl⟩
        · by_cases c3 : 0 < R
          · have hs : Hid (sat T = -Q - 1) := by
              have k1 := E0.out; have k3 := HN.out
              show sat T = _
              rw [← k1] at k3
              unfold sat; split <;> (try split) <;> omega
            go_enter Try.func22, Try.ntmps22
            go_wp2_with fail
            refine (S1.out _).mono ?_
            rintro e w' ⟨rfl, rfl⟩
            go_wp2_with fail
            refine (S2.out _).mono ?_
            rintro e w' ⟨rfl, rfl⟩
            go_wp2_with fail
            refine (M1.out _).mono ?_
            rintro e w' ⟨rfl, rfl⟩
            go_wp2_with fail
            refine (S3.out _).mono ?_
            rintro e w' ⟨rfl, rfl⟩
            go_wp2_with fail
            refine (DD.out _ (by omega)).mono ?_
            rintro e w' ⟨rfl, n, rfl⟩
            go_wp2_with fail
            go_ret2
            exact ⟨ret_two hs.out.symm rfl, n, rfl⟩
          · have hs : Hid (sat T = -Q) := by
              have k1 := E0.out; have k3 := HN.out
              show sat T = _
              rw [← k1] at k3
              unfold sat; split <;> (try split) <;> omega
            go_enter Try.func22, Try.ntmps22
            go_wp2_with fail
            refine (S1.out _).mono ?_
            rintro e w' ⟨rfl, rfl⟩
            go_wp2_with fail
            refine (S2.out _).mono ?_
            rintro e w' ⟨rfl, rfl⟩
            go_wp2_with fail
            refine (M1.out _).mono ?_
            rintro e w' ⟨rfl, rfl⟩
            go_wp2_with fail
            refine (S3.out _).mono ?_
            rintro e w' ⟨rfl, rfl⟩
            go_wp2_with fail
            refine (DD.out _ (by omega)).mono ?_
            rintro e w' ⟨rfl, n, rfl⟩
            go_wp2_with fail
            go_ret2
            exact ⟨ret_two hs.out.symm rfl, n, rfl⟩
end Go.Proofs.Ytjinfjibodoflaa
