/- What trig.Atan2 answers: at every input. -/
import Derived.Test.YtcfoeknijgiboaaTrigS
import Derived.Test.YtcfoeknijgiboaaMulDiv
namespace Go.Proofs.Ytcfoeknijgiboaa
open Go.RowKit

theorem tsize_any (a : Int) (w : World) (ha : I64 a) : Calls Try.prog 53 #[.int .i64 a] w fun e w' => e = .returned (.int .u64 (a.natAbs : Int)) ∧ w' = w := by
  unfold I64 at ha
  go_enter Try.func53, Try.ntmps53
  go_wp2
  all_goals (go_ret; refine ⟨ret_int ?_, rfl⟩)
  · rw [IntKind.wrap_u64, IntKind.wrap_u64]; omega
  · omega
theorem quot_in (l g : Int) (h0 : 0 ≤ l) (h1 : l ≤ g) (h2 : 0 < g) : 0 ≤ l * 16384 / g ∧ l * 16384 / g ≤ 16384 ∧ l * 16384 / 18446744073709551616 < g := by
  refine ⟨Int.ediv_nonneg (by omega) (by omega), Int.ediv_le_of_le_mul h2 (by omega), ?_⟩
  omega
theorem quot_nat (l g : Int) (h0 : 0 ≤ l) (h1 : 0 ≤ g) : (l * 16384 / g).toNat = l.toNat * 16384 / g.toNat := by
  obtain ⟨L, rfl⟩ := Int.eq_ofNat_of_zero_le h0
  obtain ⟨G, rfl⟩ := Int.eq_ofNat_of_zero_le h1
  have : (L : Int) * 16384 / (G : Int) = ((L * 16384 / G : Nat) : Int) := by rw [Int.natCast_ediv, Int.natCast_mul]; rfl
  rw [this, Int.toNat_natCast, Int.toNat_natCast, Int.toNat_natCast]
theorem stp_flat (s c : Nat) (h : s ≤ c) : stp s c = tab aN (s * 16384 / c) := by
  unfold stp
  rw [show Nat.ble s c = true from Nat.ble_eq_true_of_le h, cond_true]
theorem stp_steep (s c : Nat) (h : c < s) : stp s c = 16384 - tab aN (c * 16384 / s) := by
  unfold stp
  rw [show Nat.ble s c = false from Bool.eq_false_iff.2 (fun e => by have := Nat.le_of_ble_eq_true e; omega), cond_false]
set_option maxHeartbeats 1000000 in
theorem below_undraw {B : Nat} {w w' : World} {n : Nat} (h : Below B (w.drewN n) w') : Below B w w' := ⟨h.os, h.tape, h.output, h.size, h.block⟩
set_option maxHeartbeats 1000000 in
theorem steep_any (y x : Int) (y0 : 0 ≤ y) (y1 : y ≤ 9223372036854775808) (x0 : 0 ≤ x) (x1 : x ≤ 9223372036854775808) (hz : 0 < y ∨ 0 < x) (w : World) :
    Calls Try.prog 52 #[.int .u64 y, .int .u64 x] w fun e w' => e = .returned (.int .i64 ((stp y.toNat x.toNat : Nat) : Int)) ∧ Below w.heap.size w w' := by
  by_cases c : y < x
  · have cc : decide (x < y) = false := by simp; omega
    have hp := quot_in y x (by omega) (by omega) (by omega)
    have M := fun W => mul64_any y 16384 (by omega) (by omega) (by omega) (by omega) W
    have D := fun W => div64_any (y * 16384 / 18446744073709551616) (y * 16384 % 18446744073709551616) x (by omega) hp.2.2 (by omega) (by omega) (by omega) W
    rw [show y * 16384 / 18446744073709551616 * 18446744073709551616 + y * 16384 % 18446744073709551616 = y * 16384 by omega] at D
    rw [stp_flat _ _ (by omega), ← quot_nat y x (by omega) (by omega)]
    obtain ⟨t, ht⟩ : ∃ t, y * 16384 / x = t := ⟨_, rfl⟩
    rw [ht] at hp D ⊢
    have hv := tab_le aTab t.toNat (by omega)
    obtain ⟨v, HV⟩ : ∃ v : Int, Hid (((tab aN t.toNat : Nat) : Int) = v) := ⟨_, rfl⟩
    have hv' : 0 ≤ v ∧ v ≤ 16384 := by rw [← HV.out]; omega
    rw [HV.out]
    have HM := hide M
    have HD := hide D
    have B := hide (fun W => between_tab aTab t hp.1 hp.2.1 W)
    rw [HV.out] at B
    clear M D ht hv
    go_enter Try.func52, Try.ntmps52
    go_wp2_with fail
    refine (HM.out _).mono ?_; rintro e w' ⟨rfl, rfl⟩
    go_wp2_with fail
    refine (HD.out _).mono ?_; rintro e w' ⟨rfl, n, rfl⟩
    go_wp2_with fail
    refine (angles_any _).mono ?_; rintro e w' ⟨rfl, rfl⟩
    go_wp2_with fail
    refine (B.out _).mono ?_; rintro e w' ⟨rfl, h⟩
    go_wp2_with fail
    go_ret
    exact ⟨rfl, below_undraw (below_over h)⟩
  by_cases d : y = x
  · subst d
    have cc : decide (y < y) = false := by simp
    have hp := quot_in y y (by omega) (by omega) (by omega)
    have M := fun W => mul64_any y 16384 (by omega) (by omega) (by omega) (by omega) W
    have D := fun W => div64_any (y * 16384 / 18446744073709551616) (y * 16384 % 18446744073709551616) y (by omega) hp.2.2 (by omega) (by omega) (by omega) W
    rw [show y * 16384 / 18446744073709551616 * 18446744073709551616 + y * 16384 % 18446744073709551616 = y * 16384 by omega] at D
    rw [stp_flat _ _ (by omega), ← quot_nat y y (by omega) (by omega)]
    obtain ⟨t, ht⟩ : ∃ t, y * 16384 / y = t := ⟨_, rfl⟩
    rw [ht] at hp D ⊢
    have hv := tab_le aTab t.toNat (by omega)
    obtain ⟨v, HV⟩ : ∃ v : Int, Hid (((tab aN t.toNat : Nat) : Int) = v) := ⟨_, rfl⟩
    have hv' : 0 ≤ v ∧ v ≤ 16384 := by rw [← HV.out]; omega
    rw [HV.out]
    have HM := hide M
    have HD := hide D
    have B := hide (fun W => between_tab aTab t hp.1 hp.2.1 W)
    rw [HV.out] at B
    clear M D ht hv
    go_enter Try.func52, Try.ntmps52
    go_wp2_with fail
    refine (HM.out _).mono ?_; rintro e w' ⟨rfl, rfl⟩
    go_wp2_with fail
    refine (HD.out _).mono ?_; rintro e w' ⟨rfl, n, rfl⟩
    go_wp2_with fail
    refine (angles_any _).mono ?_; rintro e w' ⟨rfl, rfl⟩
    go_wp2_with fail
    refine (B.out _).mono ?_; rintro e w' ⟨rfl, h⟩
    go_wp2_with fail
    go_ret
    exact ⟨rfl, below_undraw (below_over h)⟩
  · have d : x < y := by omega
    have cc : decide (x < y) = true := by simp; omega
    have hp := quot_in x y (by omega) (by omega) (by omega)
    have M := fun W => mul64_any x 16384 (by omega) (by omega) (by omega) (by omega) W
    have D := fun W => div64_any (x * 16384 / 18446744073709551616) (x * 16384 % 18446744073709551616) y (by omega) hp.2.2 (by omega) (by omega) (by omega) W
    rw [show x * 16384 / 18446744073709551616 * 18446744073709551616 + x * 16384 % 18446744073709551616 = x * 16384 by omega] at D
    rw [stp_steep _ _ (by omega), ← quot_nat x y (by omega) (by omega)]
    obtain ⟨t, ht⟩ : ∃ t, x * 16384 / y = t := ⟨_, rfl⟩
    rw [ht] at hp D ⊢
    have hv := tab_le aTab t.toNat (by omega)
    rw [Int.ofNat_sub hv]
    obtain ⟨v, HV⟩ : ∃ v : Int, Hid (((tab aN t.toNat : Nat) : Int) = v) := ⟨_, rfl⟩
    have hv' : 0 ≤ v ∧ v ≤ 16384 := by rw [← HV.out]; omega
    rw [HV.out]
    have HM := hide M
    have HD := hide D
    have B := hide (fun W => between_tab aTab t hp.1 hp.2.1 W)
    rw [HV.out] at B
    clear M D ht hv
    go_enter Try.func52, Try.ntmps52
    go_wp2_with fail
    refine (HM.out _).mono ?_; rintro e w' ⟨rfl, rfl⟩
    go_wp2_with fail
    refine (HD.out _).mono ?_; rintro e w' ⟨rfl, n, rfl⟩
    go_wp2_with fail
    refine (angles_any _).mono ?_; rintro e w' ⟨rfl, rfl⟩
    go_wp2_with fail
    refine (B.out _).mono ?_; rintro e w' ⟨rfl, h⟩
    go_wp2_with fail
    go_ret
    exact ⟨rfl, below_undraw (below_over h)⟩
/-- the angle of a direction -/
def atanI (y x : Int) : Int :=
  if 0 ≤ y ∧ 0 ≤ x then ((stp y.natAbs x.natAbs : Nat) : Int) else if 0 ≤ y then 32768 - ((stp y.natAbs x.natAbs : Nat) : Int)
  else if x < 0 then 32768 + ((stp y.natAbs x.natAbs : Nat) : Int) else (65536 - ((stp y.natAbs x.natAbs : Nat) : Int)) % 65536
theorem stp_le (s c : Nat) : stp s c ≤ 16384 := by
  by_cases h : s ≤ c
  · rw [stp_flat s c h]
    by_cases z : c = 0
    · subst z; rw [Nat.div_zero]; exact tab_le aTab 0 (by omega)
    · exact tab_le aTab _ (Nat.div_le_of_le_mul (by have := Nat.mul_le_mul_right 16384 h; omega))
  · rw [stp_steep s c (by omega)]; omega
theorem atan_none (w : World) : Calls Try.prog 24 #[.int .i64 0, .int .i64 0] w fun e w' => e = .returned (.tuple #[.int .i64 0, .bool false]) ∧ w' = w := by
  go_enter Try.func24, Try.ntmps24
  go_wp2
  go_ret2
  exact ⟨rfl, rfl⟩
theorem ret_ib {k : IntKind} {a b : Int} {c : Bool} (h : a = b) : Ending.returned (.tuple #[.int k a, .bool c]) = .returned (.tuple #[.int k b, .bool c]) := by rw [h]
set_option maxHeartbeats 1000000 in
theorem atan_any (y x : Int) (hy : I64 y) (hx : I64 x) (hz : ¬ (y = 0 ∧ x = 0)) (w : World) : Calls Try.prog 24 #[.int .i64 y, .int .i64 x] w fun e w' => e = .returned (.tuple #[.int .i64 (atanI y x), .bool true]) ∧ Below w.heap.size w w' := by
  have S := fun W => steep_any (y.natAbs : Int) (x.natAbs : Int) (by omega) (by unfold I64 at hy; omega) (by omega) (by unfold I64 at hx; omega) (by omega) W
  rw [Int.toNat_natCast, Int.toNat_natCast] at S
  unfold atanI
  have hb := stp_le y.natAbs x.natAbs
  have HY := hide (fun W => tsize_any y W hy)
  have HX := hide (fun W => tsize_any x W hx)
  obtain ⟨b, HB⟩ : ∃ b : Int, Hid (((stp y.natAbs x.natAbs : Nat) : Int) = b) := ⟨_, rfl⟩
  have hb' : 0 ≤ b ∧ b ≤ 16384 := by rw [← HB.out]; omega
  rw [HB.out] at S ⊢
  clear HB hb
  obtain ⟨sy, hsy⟩ : ∃ s : Int, (y.natAbs : Int) = s := ⟨_, rfl⟩
  obtain ⟨sx, hsx⟩ : ∃ s : Int, (x.natAbs : Int) = s := ⟨_, rfl⟩
  rw [hsy] at HY S
  rw [hsx] at HX S
  clear hsx hsy
  have P := fun W => place_any (65536 - b) W
  obtain ⟨m, hm⟩ : ∃ m, (65536 - b) % 65536 = m := ⟨_, rfl⟩
  rw [hm] at P ⊢
  clear hm
  have HS := hide S
  have HP := hide P
  have hI := hide (And.intro hy hx)
  clear S P hy hx
  rcases Int.lt_trichotomy y 0 with h | h | h
  · have yz : (y == 0) = false := by simp; omega
    rw [if_neg (by omega), if_neg (by omega)]
    by_cases g : x < 0
    · rw [if_pos g]
      clear HP
      go_enter Try.func24, Try.ntmps24
      go_wp2_with fail
      refine (HY.out _).mono ?_; rintro e w' ⟨rfl, rfl⟩
      go_wp2_with fail
      refine (HX.out _).mono ?_; rintro e w' ⟨rfl, rfl⟩
      go_wp2_with fail
      refine (HS.out _).mono ?_; rintro e w' ⟨rfl, h⟩
      go_wp2_with fail
      go_ret2
      exact ⟨rfl, h⟩
    · rw [if_neg g]
      go_enter Try.func24, Try.ntmps24
      go_wp2_with fail
      refine (HY.out _).mono ?_; rintro e w' ⟨rfl, rfl⟩
      go_wp2_with fail
      refine (HX.out _).mono ?_; rintro e w' ⟨rfl, rfl⟩
      go_wp2_with fail
      refine (HS.out _).mono ?_; rintro e w' ⟨rfl, h⟩
      go_wp2_with fail
      refine (HP.out _).mono ?_; rintro e w' ⟨rfl, rfl⟩
      go_wp2_with fail
      go_ret2
      exact ⟨rfl, h⟩
  · subst h
    clear HP
    by_cases g : x < 0
    · have xz : (x == 0) = false := by simp; omega
      rw [if_neg (by omega), if_pos (by omega)]
      go_enter Try.func24, Try.ntmps24
      go_wp2_with fail
      refine (HY.out _).mono ?_; rintro e w' ⟨rfl, rfl⟩
      go_wp2_with fail
      refine (HX.out _).mono ?_; rintro e w' ⟨rfl, rfl⟩
      go_wp2_with fail
      refine (HS.out _).mono ?_; rintro e w' ⟨rfl, h⟩
      go_wp2_with fail
      go_ret2
      exact ⟨rfl, h⟩
    · have xz : (x == 0) = false := by simp; omega
      rw [if_pos (by omega)]
      go_enter Try.func24, Try.ntmps24
      go_wp2_with fail
      refine (HY.out _).mono ?_; rintro e w' ⟨rfl, rfl⟩
      go_wp2_with fail
      refine (HX.out _).mono ?_; rintro e w' ⟨rfl, rfl⟩
      go_wp2_with fail
      refine (HS.out _).mono ?_; rintro e w' ⟨rfl, h⟩
      go_wp2_with fail
      go_ret2
      exact ⟨rfl, h⟩
  · have yz : (y == 0) = false := by simp; omega
    clear HP
    by_cases g : x < 0
    · rw [if_neg (by omega), if_pos (by omega)]
      go_enter Try.func24, Try.ntmps24
      go_wp2_with fail
      refine (HY.out _).mono ?_; rintro e w' ⟨rfl, rfl⟩
      go_wp2_with fail
      refine (HX.out _).mono ?_; rintro e w' ⟨rfl, rfl⟩
      go_wp2_with fail
      refine (HS.out _).mono ?_; rintro e w' ⟨rfl, h⟩
      go_wp2_with fail
      go_ret2
      exact ⟨rfl, h⟩
    · rw [if_pos (by omega)]
      go_enter Try.func24, Try.ntmps24
      go_wp2_with fail
      refine (HY.out _).mono ?_; rintro e w' ⟨rfl, rfl⟩
      go_wp2_with fail
      refine (HX.out _).mono ?_; rintro e w' ⟨rfl, rfl⟩
      go_wp2_with fail
      refine (HS.out _).mono ?_; rintro e w' ⟨rfl, h⟩
      go_wp2_with fail
      go_ret2
      exact ⟨rfl, h⟩
end Go.Proofs.Ytcfoeknijgiboaa
