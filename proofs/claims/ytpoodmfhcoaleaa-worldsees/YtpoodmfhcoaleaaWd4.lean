/- Package world, walked: Curve; the document's Floor, Mul, Curve. -/
import Derived.Test.YtpoodmfhcoaleaaWd3
import Derived.Test.YtpoodmfhcoaleaaMr2
import Derived.Test.YtpoodmfhcoaleaaTimesAny
import Derived.Test.YtpoodmfhcoaleaaKept
namespace Go.Proofs.Ytpoodmfhcoaleaa
open Go.RowKit Go.Great

set_option maxHeartbeats 1000000 in
theorem rfloorW16 (a : Int) (w : World) (ha : I64 a) : Calls Try.prog 30 #[.int .i64 a, .int .i64 16] w fun e w' => e = .returned (.int .i64 (a / 16)) ∧ w' = w := by
  unfold I64 at ha
  have h1 := Int.mul_tdiv_add_tmod a 16
  have h2 := Int.tmod_lt_of_pos a (show (0 : Int) < 16 by omega)
  have h3 := Int.tmod_lt_of_pos (-a) (show (0 : Int) < 16 by omega)
  rw [Int.neg_tmod] at h3
  by_cases g : a.tmod 16 < 0
  · have E : Hid (a.tdiv 16 - 1 = a / 16) := hide (by omega)
    have hd : -9223372036854775807 ≤ a.tdiv 16 ∧ a.tdiv 16 ≤ 9223372036854775807 := by omega
    clear h1 h2 h3
    go_enter Try.func30, Try.ntmps30
    go_wp2
    go_ret
    exact ⟨ret_int E.out, rfl⟩
  · have h4 : 0 ≤ a.tmod 16 := by omega
    have E : Hid (a.tdiv 16 = a / 16) := hide (by
      by_cases ga : 0 ≤ a
      · exact Int.tdiv_eq_ediv_of_nonneg ga
      · have hz : a.tmod 16 = 0 := by
          have := Int.tmod_nonneg (a := -a) 16 (by omega)
          rw [Int.neg_tmod] at this
          omega
        omega)
    clear h1 h2 h3 h4
    go_enter Try.func30, Try.ntmps30
    go_wp2
    go_ret
    exact ⟨ret_int E.out, rfl⟩
set_option maxHeartbeats 1000000 in
theorem rfloorW1024 (a : Int) (w : World) (ha : I64 a) : Calls Try.prog 30 #[.int .i64 a, .int .i64 1024] w fun e w' => e = .returned (.int .i64 (a / 1024)) ∧ w' = w := by
  unfold I64 at ha
  have h1 := Int.mul_tdiv_add_tmod a 1024
  have h2 := Int.tmod_lt_of_pos a (show (0 : Int) < 1024 by omega)
  have h3 := Int.tmod_lt_of_pos (-a) (show (0 : Int) < 1024 by omega)
  rw [Int.neg_tmod] at h3
  by_cases g : a.tmod 1024 < 0
  · have E : Hid (a.tdiv 1024 - 1 = a / 1024) := hide (by omega)
    have hd : -9223372036854775807 ≤ a.tdiv 1024 ∧ a.tdiv 1024 ≤ 9223372036854775807 := by omega
    clear h1 h2 h3
    go_enter Try.func30, Try.ntmps30
    go_wp2
    go_ret
    exact ⟨ret_int E.out, rfl⟩
  · have h4 : 0 ≤ a.tmod 1024 := by omega
    have E : Hid (a.tdiv 1024 = a / 1024) := hide (by
      by_cases ga : 0 ≤ a
      · exact Int.tdiv_eq_ediv_of_nonneg ga
      · have hz : a.tmod 1024 = 0 := by
          have := Int.tmod_nonneg (a := -a) 1024 (by omega)
          rw [Int.neg_tmod] at this
          omega
        omega)
    clear h1 h2 h3 h4
    go_enter Try.func30, Try.ntmps30
    go_wp2
    go_ret
    exact ⟨ret_int E.out, rfl⟩
set_option maxHeartbeats 1000000 in
theorem rfloorW6400 (a : Int) (w : World) (ha : I64 a) : Calls Try.prog 30 #[.int .i64 a, .int .i64 6400] w fun e w' => e = .returned (.int .i64 (a / 6400)) ∧ w' = w := by
  unfold I64 at ha
  have h1 := Int.mul_tdiv_add_tmod a 6400
  have h2 := Int.tmod_lt_of_pos a (show (0 : Int) < 6400 by omega)
  have h3 := Int.tmod_lt_of_pos (-a) (show (0 : Int) < 6400 by omega)
  rw [Int.neg_tmod] at h3
  by_cases g : a.tmod 6400 < 0
  · have E : Hid (a.tdiv 6400 - 1 = a / 6400) := hide (by omega)
    have hd : -9223372036854775807 ≤ a.tdiv 6400 ∧ a.tdiv 6400 ≤ 9223372036854775807 := by omega
    clear h1 h2 h3
    go_enter Try.func30, Try.ntmps30
    go_wp2
    go_ret
    exact ⟨ret_int E.out, rfl⟩
  · have h4 : 0 ≤ a.tmod 6400 := by omega
    have E : Hid (a.tdiv 6400 = a / 6400) := hide (by
      by_cases ga : 0 ≤ a
      · exact Int.tdiv_eq_ediv_of_nonneg ga
      · have hz : a.tmod 6400 = 0 := by
          have := Int.tmod_nonneg (a := -a) 6400 (by omega)
          rw [Int.neg_tmod] at this
          omega
        omega)
    clear h1 h2 h3 h4
    go_enter Try.func30, Try.ntmps30
    go_wp2
    go_ret
    exact ⟨ret_int E.out, rfl⟩
set_option maxHeartbeats 1000000 in
theorem rmulW_any (a b : Int) (w : World) (ha : I64 a) (hb : I64 b) : Calls Try.prog 35 #[.int .i64 a, .int .i64 b] w fun e w' => e = .returned (.int .i64 (sat (a * b))) ∧ Below w.heap.size w w' := by
  have HA := hide ha
  have HB := hide hb
  clear ha hb
  go_enter Try.func35, Try.ntmps35
  go_wp2_with fail
  refine (of_any a _ HA.out).mono ?_
  rintro e w1 ⟨v1, rfl, h1, k1⟩
  go_wp2_with fail
  refine (of_any b _ HB.out).mono ?_
  rintro e w2 ⟨v2, rfl, h2, k2⟩
  go_wp2_with fail
  refine (times_any _ _ a b 3 3 6 _ (k1.below h2) k2 (by omega) (by omega) (by omega)).mono ?_
  rintro e w3 ⟨v3, rfl, h3, k3⟩
  go_wp2_with fail
  refine (kept_any _ (a * b) 6 _ k3 (by omega)).mono ?_
  rintro e w4 ⟨rfl, h4⟩
  go_wp2_with fail
  go_ret
  exact ⟨rfl, below_step (below_step (below_step h1 (Nat.le_refl _) h2) (Nat.le_refl _) h3) (Nat.le_refl _) h4⟩
/-- the first i commands, added up -/
def pW (c0 c1 c2 c3 c4 c5 c6 c7 : Int) : Nat → Int
  | 0 => 0
  | 1 => c0
  | 2 => c0 + c1
  | 3 => c0 + c1 + c2
  | 4 => c0 + c1 + c2 + c3
  | 5 => c0 + c1 + c2 + c3 + c4
  | 6 => c0 + c1 + c2 + c3 + c4 + c5
  | 7 => c0 + c1 + c2 + c3 + c4 + c5 + c6
  | _ => c0 + c1 + c2 + c3 + c4 + c5 + c6 + c7
theorem pW_0 {c0 c1 c2 c3 c4 c5 c6 c7 v : Int} (h : v = 0 + c0) : Value.int .i64 v = .int .i64 (pW c0 c1 c2 c3 c4 c5 c6 c7 1) := by rw [h]; show Value.int .i64 (0 + c0) = .int .i64 c0; rw [Int.zero_add]
theorem pW_1 {c0 c1 c2 c3 c4 c5 c6 c7 v : Int} (h : v = c0 + c1) : Value.int .i64 v = .int .i64 (pW c0 c1 c2 c3 c4 c5 c6 c7 2) := by rw [h]; rfl
theorem pW_2 {c0 c1 c2 c3 c4 c5 c6 c7 v : Int} (h : v = c0 + c1 + c2) : Value.int .i64 v = .int .i64 (pW c0 c1 c2 c3 c4 c5 c6 c7 3) := by rw [h]; rfl
theorem pW_3 {c0 c1 c2 c3 c4 c5 c6 c7 v : Int} (h : v = c0 + c1 + c2 + c3) : Value.int .i64 v = .int .i64 (pW c0 c1 c2 c3 c4 c5 c6 c7 4) := by rw [h]; rfl
theorem pW_4 {c0 c1 c2 c3 c4 c5 c6 c7 v : Int} (h : v = c0 + c1 + c2 + c3 + c4) : Value.int .i64 v = .int .i64 (pW c0 c1 c2 c3 c4 c5 c6 c7 5) := by rw [h]; rfl
theorem pW_5 {c0 c1 c2 c3 c4 c5 c6 c7 v : Int} (h : v = c0 + c1 + c2 + c3 + c4 + c5) : Value.int .i64 v = .int .i64 (pW c0 c1 c2 c3 c4 c5 c6 c7 6) := by rw [h]; rfl
theorem pW_6 {c0 c1 c2 c3 c4 c5 c6 c7 v : Int} (h : v = c0 + c1 + c2 + c3 + c4 + c5 + c6) : Value.int .i64 v = .int .i64 (pW c0 c1 c2 c3 c4 c5 c6 c7 7) := by rw [h]; rfl
theorem pW_7 {c0 c1 c2 c3 c4 c5 c6 c7 v : Int} (h : v = c0 + c1 + c2 + c3 + c4 + c5 + c6 + c7) : Value.int .i64 v = .int .i64 (pW c0 c1 c2 c3 c4 c5 c6 c7 8) := by rw [h]; rfl
theorem ix8_0 (a b c d e f g h : Value) (w : World) : (Instr.index 26 (.agg #[a, b, c, d, e, f, g, h]) (.int .i64 0)).run Try.prog w = .ok a w := by kernel_rfl
theorem ix8_1 (a b c d e f g h : Value) (w : World) : (Instr.index 26 (.agg #[a, b, c, d, e, f, g, h]) (.int .i64 1)).run Try.prog w = .ok b w := by kernel_rfl
theorem ix8_2 (a b c d e f g h : Value) (w : World) : (Instr.index 26 (.agg #[a, b, c, d, e, f, g, h]) (.int .i64 2)).run Try.prog w = .ok c w := by kernel_rfl
theorem ix8_3 (a b c d e f g h : Value) (w : World) : (Instr.index 26 (.agg #[a, b, c, d, e, f, g, h]) (.int .i64 3)).run Try.prog w = .ok d w := by kernel_rfl
theorem ix8_4 (a b c d e f g h : Value) (w : World) : (Instr.index 26 (.agg #[a, b, c, d, e, f, g, h]) (.int .i64 4)).run Try.prog w = .ok e w := by kernel_rfl
theorem ix8_5 (a b c d e f g h : Value) (w : World) : (Instr.index 26 (.agg #[a, b, c, d, e, f, g, h]) (.int .i64 5)).run Try.prog w = .ok f w := by kernel_rfl
theorem ix8_6 (a b c d e f g h : Value) (w : World) : (Instr.index 26 (.agg #[a, b, c, d, e, f, g, h]) (.int .i64 6)).run Try.prog w = .ok g w := by kernel_rfl
theorem ix8_7 (a b c d e f g h : Value) (w : World) : (Instr.index 26 (.agg #[a, b, c, d, e, f, g, h]) (.int .i64 7)).run Try.prog w = .ok h w := by kernel_rfl
/-- what motors take, at most -/
def crv (b m s : Int) : Int := sat (b + sat (m * s) / 1024)
set_option maxHeartbeats 4000000 in
set_option maxRecDepth 100000 in
theorem curve_any (m0 m1 m2 m3 m4 m5 m6 m7 b m : Int) (w : World) (hb : I64 b) (hm : I64 m) : Calls Try.prog 16 #[eV m0 m1 m2 m3 m4 m5 m6 m7, .int .i64 b, .int .i64 m] w fun e w' => e = .returned (.int .i64 (crv b m (clamp m0 0 600 + clamp m1 0 600 + clamp m2 0 600 + clamp m3 0 600 + clamp m4 0 600 + clamp m5 0 600 + clamp m6 0 600 + clamp m7 0 600))) ∧ Below w.heap.size w w' := by
  have C0 := hide (fun W => clamp_any m0 0 600 W)
  have hc0 : 0 ≤ clamp m0 0 600 ∧ clamp m0 0 600 ≤ 600 := clamp_in (by decide)
  generalize clamp m0 0 600 = c0 at *
  have C1 := hide (fun W => clamp_any m1 0 600 W)
  have hc1 : 0 ≤ clamp m1 0 600 ∧ clamp m1 0 600 ≤ 600 := clamp_in (by decide)
  generalize clamp m1 0 600 = c1 at *
  have C2 := hide (fun W => clamp_any m2 0 600 W)
  have hc2 : 0 ≤ clamp m2 0 600 ∧ clamp m2 0 600 ≤ 600 := clamp_in (by decide)
  generalize clamp m2 0 600 = c2 at *
  have C3 := hide (fun W => clamp_any m3 0 600 W)
  have hc3 : 0 ≤ clamp m3 0 600 ∧ clamp m3 0 600 ≤ 600 := clamp_in (by decide)
  generalize clamp m3 0 600 = c3 at *
  have C4 := hide (fun W => clamp_any m4 0 600 W)
  have hc4 : 0 ≤ clamp m4 0 600 ∧ clamp m4 0 600 ≤ 600 := clamp_in (by decide)
  generalize clamp m4 0 600 = c4 at *
  have C5 := hide (fun W => clamp_any m5 0 600 W)
  have hc5 : 0 ≤ clamp m5 0 600 ∧ clamp m5 0 600 ≤ 600 := clamp_in (by decide)
  generalize clamp m5 0 600 = c5 at *
  have C6 := hide (fun W => clamp_any m6 0 600 W)
  have hc6 : 0 ≤ clamp m6 0 600 ∧ clamp m6 0 600 ≤ 600 := clamp_in (by decide)
  generalize clamp m6 0 600 = c6 at *
  have C7 := hide (fun W => clamp_any m7 0 600 W)
  have hc7 : 0 ≤ clamp m7 0 600 ∧ clamp m7 0 600 ≤ 600 := clamp_in (by decide)
  generalize clamp m7 0 600 = c7 at *
  obtain ⟨s, HS⟩ : ∃ s, Hid (c0 + c1 + c2 + c3 + c4 + c5 + c6 + c7 = s) := ⟨_, hide rfl⟩
  rw [HS.out]
  have hs : I64 s := by rw [← HS.out]; unfold I64; omega
  have MU := hide (fun W => mul_any m s W hm hs)
  have FL := hide (fun W => overW_any (sat (m * s)) 1024 W (sat_any _) (by decide))
  have hq : I64 (sat (m * s) / 1024) := by have := sat_any (m * s); unfold I64 at this ⊢; omega
  have AD := hide (fun W => add_any b (sat (m * s) / 1024) W hb hq)
  unfold crv
  generalize sat (b + sat (m * s) / 1024) = z at *
  generalize sat (m * s) / 1024 = y at *
  generalize sat (m * s) = x at *
  clear hb hm hs hq
  have HM := hide (Blk.new w (eC m0 m1 m2 m3 m4 m5 m6 m7) 26)
  have Hb := hide (below_alloc w (.cells (eC m0 m1 m2 m3 m4 m5 m6 m7) 26))
  go_enter Try.func16, Try.ntmps16
  go_upto_region 1 with fail
  generalize w.alloc (.cells (eC m0 m1 m2 m3 m4 m5 m6 m7) 26) = W0 at *
  obtain ⟨a0, a1, a2, a3, a4, a5, a6, a7⟩ := eight_cells HM.out
  go_wp2_with fail
  go_loopw [7, 11] (fun vs v wr => ∃ i : Nat, vs = .int .i64 (pW c0 c1 c2 c3 c4 c5 c6 c7 i) ∧ v = .int .i64 (i : Int) ∧ i ≤ 8 ∧ wr = W0) (fun _ v _ => 8 - (intOf v).toNat)
  case atStart => exact ⟨0, rfl, rfl, by omega, rfl⟩
  case round =>
    obtain ⟨i, hvs, rfl, hi, rfl⟩ := hrel
    obtain rfl | rfl | rfl | rfl | rfl | rfl | rfl | rfl | rfl : i = 0 ∨ i = 1 ∨ i = 2 ∨ i = 3 ∨ i = 4 ∨ i = 5 ∨ i = 6 ∨ i = 7 ∨ i = 8 := by omega
    · have hvs2 : _ = Value.int .i64 (0) := hvs
      subst hvs2
      clear MU FL AD
      have IX := fun w => ix8_0 (.int .i64 m0) (.int .i64 m1) (.int .i64 m2) (.int .i64 m3) (.int .i64 m4) (.int .i64 m5) (.int .i64 m6) (.int .i64 m7) w
      go_wp2_with (go_at_call 31; refine (C0.out _).mono ?_; rintro e w2 ⟨rfl, hw⟩; obtain rfl := hw.symm)
      go_roundw
      case rel => exact ⟨1, pW_0 (by omega), by go_num, by omega, trivial⟩
      case measure => simp [intOf]
    · have hvs2 : _ = Value.int .i64 (c0) := hvs
      subst hvs2
      clear MU FL AD
      have IX := fun w => ix8_1 (.int .i64 m0) (.int .i64 m1) (.int .i64 m2) (.int .i64 m3) (.int .i64 m4) (.int .i64 m5) (.int .i64 m6) (.int .i64 m7) w
      go_wp2_with (go_at_call 31; refine (C1.out _).mono ?_; rintro e w2 ⟨rfl, hw⟩; obtain rfl := hw.symm)
      go_roundw
      case rel => exact ⟨2, pW_1 (by omega), by go_num, by omega, trivial⟩
      case measure => simp [intOf]
    · have hvs2 : _ = Value.int .i64 (c0 + c1) := hvs
      subst hvs2
      clear MU FL AD
      have IX := fun w => ix8_2 (.int .i64 m0) (.int .i64 m1) (.int .i64 m2) (.int .i64 m3) (.int .i64 m4) (.int .i64 m5) (.int .i64 m6) (.int .i64 m7) w
      go_wp2_with (go_at_call 31; refine (C2.out _).mono ?_; rintro e w2 ⟨rfl, hw⟩; obtain rfl := hw.symm)
      go_roundw
      case rel => exact ⟨3, pW_2 (by omega), by go_num, by omega, trivial⟩
      case measure => simp [intOf]
    · have hvs2 : _ = Value.int .i64 (c0 + c1 + c2) := hvs
      subst hvs2
      clear MU FL AD
      have IX := fun w => ix8_3 (.int .i64 m0) (.int .i64 m1) (.int .i64 m2) (.int .i64 m3) (.int .i64 m4) (.int .i64 m5) (.int .i64 m6) (.int .i64 m7) w
      go_wp2_with (go_at_call 31; refine (C3.out _).mono ?_; rintro e w2 ⟨rfl, hw⟩; obtain rfl := hw.symm)
      go_roundw
      case rel => exact ⟨4, pW_3 (by omega), by go_num, by omega, trivial⟩
      case measure => simp [intOf]
    · have hvs2 : _ = Value.int .i64 (c0 + c1 + c2 + c3) := hvs
      subst hvs2
      clear MU FL AD
      have IX := fun w => ix8_4 (.int .i64 m0) (.int .i64 m1) (.int .i64 m2) (.int .i64 m3) (.int .i64 m4) (.int .i64 m5) (.int .i64 m6) (.int .i64 m7) w
      go_wp2_with (go_at_call 31; refine (C4.out _).mono ?_; rintro e w2 ⟨rfl, hw⟩; obtain rfl := hw.symm)
      go_roundw
      case rel => exact ⟨5, pW_4 (by omega), by go_num, by omega, trivial⟩
      case measure => simp [intOf]
    · have hvs2 : _ = Value.int .i64 (c0 + c1 + c2 + c3 + c4) := hvs
      subst hvs2
      clear MU FL AD
      have IX := fun w => ix8_5 (.int .i64 m0) (.int .i64 m1) (.int .i64 m2) (.int .i64 m3) (.int .i64 m4) (.int .i64 m5) (.int .i64 m6) (.int .i64 m7) w
      go_wp2_with (go_at_call 31; refine (C5.out _).mono ?_; rintro e w2 ⟨rfl, hw⟩; obtain rfl := hw.symm)
      go_roundw
      case rel => exact ⟨6, pW_5 (by omega), by go_num, by omega, trivial⟩
      case measure => simp [intOf]
    · have hvs2 : _ = Value.int .i64 (c0 + c1 + c2 + c3 + c4 + c5) := hvs
      subst hvs2
      clear MU FL AD
      have IX := fun w => ix8_6 (.int .i64 m0) (.int .i64 m1) (.int .i64 m2) (.int .i64 m3) (.int .i64 m4) (.int .i64 m5) (.int .i64 m6) (.int .i64 m7) w
      go_wp2_with (go_at_call 31; refine (C6.out _).mono ?_; rintro e w2 ⟨rfl, hw⟩; obtain rfl := hw.symm)
      go_roundw
      case rel => exact ⟨7, pW_6 (by omega), by go_num, by omega, trivial⟩
      case measure => simp [intOf]
    · have hvs2 : _ = Value.int .i64 (c0 + c1 + c2 + c3 + c4 + c5 + c6) := hvs
      subst hvs2
      clear MU FL AD
      have IX := fun w => ix8_7 (.int .i64 m0) (.int .i64 m1) (.int .i64 m2) (.int .i64 m3) (.int .i64 m4) (.int .i64 m5) (.int .i64 m6) (.int .i64 m7) w
      go_wp2_with (go_at_call 31; refine (C7.out _).mono ?_; rintro e w2 ⟨rfl, hw⟩; obtain rfl := hw.symm)
      go_roundw
      case rel => exact ⟨8, pW_7 (by omega), by go_num, by omega, trivial⟩
      case measure => simp [intOf]
    · have hvs2 : _ = Value.int .i64 (c0 + c1 + c2 + c3 + c4 + c5 + c6 + c7) := hvs
      rw [HS.out] at hvs2
      subst hvs2
      clear hc0 hc1 hc2 hc3 hc4 hc5 hc6 hc7 HS C0 C1 C2 C3 C4 C5 C6 C7 a0 a1 a2 a3 a4 a5 a6 a7
      go_wp2_with (first
        | (go_at_call 33; refine (MU.out _).mono ?_; rintro e w2 ⟨rfl, hw⟩; obtain rfl := hw.symm)
        | (go_at_call 32; refine (FL.out _).mono ?_; rintro e w2 ⟨rfl, hw⟩; obtain rfl := hw.symm)
        | (go_at_call 29; refine (AD.out _).mono ?_; rintro e w2 ⟨rfl, hw⟩; obtain rfl := hw.symm))
      go_ret
      exact ⟨rfl, Hb.out⟩
set_option maxHeartbeats 4000000 in
set_option maxRecDepth 100000 in
theorem rcurve_any (m0 m1 m2 m3 m4 m5 m6 m7 b m : Int) (w : World) (hb : I64 b) (hm : I64 m) : Calls Try.prog 17 #[eV m0 m1 m2 m3 m4 m5 m6 m7, .int .i64 b, .int .i64 m] w fun e w' => e = .returned (.int .i64 (crv b m (clamp m0 0 600 + clamp m1 0 600 + clamp m2 0 600 + clamp m3 0 600 + clamp m4 0 600 + clamp m5 0 600 + clamp m6 0 600 + clamp m7 0 600))) ∧ Below w.heap.size w w' := by
  have C0 := hide (fun W => rclampX m0 0 600 W)
  have hc0 : 0 ≤ clamp m0 0 600 ∧ clamp m0 0 600 ≤ 600 := clamp_in (by decide)
  generalize clamp m0 0 600 = c0 at *
  have C1 := hide (fun W => rclampX m1 0 600 W)
  have hc1 : 0 ≤ clamp m1 0 600 ∧ clamp m1 0 600 ≤ 600 := clamp_in (by decide)
  generalize clamp m1 0 600 = c1 at *
  have C2 := hide (fun W => rclampX m2 0 600 W)
  have hc2 : 0 ≤ clamp m2 0 600 ∧ clamp m2 0 600 ≤ 600 := clamp_in (by decide)
  generalize clamp m2 0 600 = c2 at *
  have C3 := hide (fun W => rclampX m3 0 600 W)
  have hc3 : 0 ≤ clamp m3 0 600 ∧ clamp m3 0 600 ≤ 600 := clamp_in (by decide)
  generalize clamp m3 0 600 = c3 at *
  have C4 := hide (fun W => rclampX m4 0 600 W)
  have hc4 : 0 ≤ clamp m4 0 600 ∧ clamp m4 0 600 ≤ 600 := clamp_in (by decide)
  generalize clamp m4 0 600 = c4 at *
  have C5 := hide (fun W => rclampX m5 0 600 W)
  have hc5 : 0 ≤ clamp m5 0 600 ∧ clamp m5 0 600 ≤ 600 := clamp_in (by decide)
  generalize clamp m5 0 600 = c5 at *
  have C6 := hide (fun W => rclampX m6 0 600 W)
  have hc6 : 0 ≤ clamp m6 0 600 ∧ clamp m6 0 600 ≤ 600 := clamp_in (by decide)
  generalize clamp m6 0 600 = c6 at *
  have C7 := hide (fun W => rclampX m7 0 600 W)
  have hc7 : 0 ≤ clamp m7 0 600 ∧ clamp m7 0 600 ≤ 600 := clamp_in (by decide)
  generalize clamp m7 0 600 = c7 at *
  obtain ⟨s, HS⟩ : ∃ s, Hid (c0 + c1 + c2 + c3 + c4 + c5 + c6 + c7 = s) := ⟨_, hide rfl⟩
  rw [HS.out]
  have hs : I64 s := by rw [← HS.out]; unfold I64; omega
  have MU := hide (fun W => rmulW_any m s W hm hs)
  have FL := hide (fun W => rfloorW1024 (sat (m * s)) W (sat_any _))
  have hq : I64 (sat (m * s) / 1024) := by have := sat_any (m * s); unfold I64 at this ⊢; omega
  have AD := hide (fun W => ref_add_any b (sat (m * s) / 1024) W hb hq)
  unfold crv
  generalize sat (b + sat (m * s) / 1024) = z at *
  generalize sat (m * s) / 1024 = y at *
  generalize sat (m * s) = x at *
  clear hb hm hs hq
  have HM := hide (Blk.new w (eC m0 m1 m2 m3 m4 m5 m6 m7) 26)
  have Hb := hide (below_alloc w (.cells (eC m0 m1 m2 m3 m4 m5 m6 m7) 26))
  go_enter Try.func17, Try.ntmps17
  go_upto_region 1 with fail
  generalize w.alloc (.cells (eC m0 m1 m2 m3 m4 m5 m6 m7) 26) = W0 at *
  obtain ⟨a0, a1, a2, a3, a4, a5, a6, a7⟩ := eight_cells HM.out
  go_wp2_with fail
  go_loopw [7, 8] (fun vs v wr => ∃ i : Nat, vs = .int .i64 (pW c0 c1 c2 c3 c4 c5 c6 c7 i) ∧ v = .int .i64 (i : Int) ∧ i ≤ 8 ∧ wr = W0) (fun _ v _ => 8 - (intOf v).toNat)
  case atStart => exact ⟨0, rfl, rfl, by omega, rfl⟩
  case round =>
    obtain ⟨i, hvs, rfl, hi, rfl⟩ := hrel
    obtain rfl | rfl | rfl | rfl | rfl | rfl | rfl | rfl | rfl : i = 0 ∨ i = 1 ∨ i = 2 ∨ i = 3 ∨ i = 4 ∨ i = 5 ∨ i = 6 ∨ i = 7 ∨ i = 8 := by omega
    · have hvs2 : _ = Value.int .i64 (0) := hvs
      subst hvs2
      clear MU FL AD
      go_wp2_with (go_at_call 34; refine (C0.out _).mono ?_; rintro e w2 ⟨rfl, hw⟩; obtain rfl := hw.symm)
      go_roundw
      case rel => exact ⟨1, pW_0 (by omega), by go_num, by omega, trivial⟩
      case measure => simp [intOf]
    · have hvs2 : _ = Value.int .i64 (c0) := hvs
      subst hvs2
      clear MU FL AD
      go_wp2_with (go_at_call 34; refine (C1.out _).mono ?_; rintro e w2 ⟨rfl, hw⟩; obtain rfl := hw.symm)
      go_roundw
      case rel => exact ⟨2, pW_1 (by omega), by go_num, by omega, trivial⟩
      case measure => simp [intOf]
    · have hvs2 : _ = Value.int .i64 (c0 + c1) := hvs
      subst hvs2
      clear MU FL AD
      go_wp2_with (go_at_call 34; refine (C2.out _).mono ?_; rintro e w2 ⟨rfl, hw⟩; obtain rfl := hw.symm)
      go_roundw
      case rel => exact ⟨3, pW_2 (by omega), by go_num, by omega, trivial⟩
      case measure => simp [intOf]
    · have hvs2 : _ = Value.int .i64 (c0 + c1 + c2) := hvs
      subst hvs2
      clear MU FL AD
      go_wp2_with (go_at_call 34; refine (C3.out _).mono ?_; rintro e w2 ⟨rfl, hw⟩; obtain rfl := hw.symm)
      go_roundw
      case rel => exact ⟨4, pW_3 (by omega), by go_num, by omega, trivial⟩
      case measure => simp [intOf]
    · have hvs2 : _ = Value.int .i64 (c0 + c1 + c2 + c3) := hvs
      subst hvs2
      clear MU FL AD
      go_wp2_with (go_at_call 34; refine (C4.out _).mono ?_; rintro e w2 ⟨rfl, hw⟩; obtain rfl := hw.symm)
      go_roundw
      case rel => exact ⟨5, pW_4 (by omega), by go_num, by omega, trivial⟩
      case measure => simp [intOf]
    · have hvs2 : _ = Value.int .i64 (c0 + c1 + c2 + c3 + c4) := hvs
      subst hvs2
      clear MU FL AD
      go_wp2_with (go_at_call 34; refine (C5.out _).mono ?_; rintro e w2 ⟨rfl, hw⟩; obtain rfl := hw.symm)
      go_roundw
      case rel => exact ⟨6, pW_5 (by omega), by go_num, by omega, trivial⟩
      case measure => simp [intOf]
    · have hvs2 : _ = Value.int .i64 (c0 + c1 + c2 + c3 + c4 + c5) := hvs
      subst hvs2
      clear MU FL AD
      go_wp2_with (go_at_call 34; refine (C6.out _).mono ?_; rintro e w2 ⟨rfl, hw⟩; obtain rfl := hw.symm)
      go_roundw
      case rel => exact ⟨7, pW_6 (by omega), by go_num, by omega, trivial⟩
      case measure => simp [intOf]
    · have hvs2 : _ = Value.int .i64 (c0 + c1 + c2 + c3 + c4 + c5 + c6) := hvs
      subst hvs2
      clear MU FL AD
      go_wp2_with (go_at_call 34; refine (C7.out _).mono ?_; rintro e w2 ⟨rfl, hw⟩; obtain rfl := hw.symm)
      go_roundw
      case rel => exact ⟨8, pW_7 (by omega), by go_num, by omega, trivial⟩
      case measure => simp [intOf]
    · have hvs2 : _ = Value.int .i64 (c0 + c1 + c2 + c3 + c4 + c5 + c6 + c7) := hvs
      rw [HS.out] at hvs2
      subst hvs2
      clear hc0 hc1 hc2 hc3 hc4 hc5 hc6 hc7 HS C0 C1 C2 C3 C4 C5 C6 C7 a0 a1 a2 a3 a4 a5 a6 a7
      go_wp2_with fail
      refine (MU.out _).mono ?_
      rintro e w1 ⟨rfl, h1⟩
      have H1 := hide (below_next Hb.out (Nat.le_refl _) h1)
      clear h1
      go_wp2_with fail
      refine (FL.out _).mono ?_
      rintro e w2 ⟨rfl, hw⟩
      obtain rfl := hw.symm
      go_wp2_with fail
      refine (AD.out _).mono ?_
      rintro e w3 ⟨rfl, h3⟩
      have H3 := hide (below_next H1.out (Nat.le_refl _) h3)
      clear h3
      go_wp2_with fail
      go_ret
      exact ⟨rfl, H3.out⟩
end Go.Proofs.Ytpoodmfhcoaleaa
