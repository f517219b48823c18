/- The examples that each statement of layer 2 looks at beside its own words ('awake') come out true; TrigWays: the way between any two angles is the document's. -/
import Derived.Test.YtcfoeknijgiboaaTrigA
namespace Go.Proofs.Ytcfoeknijgiboaa
open Go.RowKit
theorem sin_ex : sinI 8192 = 11585 := by decide +kernel
theorem cos_ex : cosI 5461 = 14189 := by decide +kernel
theorem atan_ex : atanI 1 2 = 4836 := by decide +kernel
theorem way_ex : wayI 65000 100 = 636 := by decide +kernel
theorem below_next {B : Nat} {w w1 w2 : World} (h : Below B w w1) (hB : B ≤ w.heap.size) (h2 : Below w1.heap.size w1 w2) : Below B w w2 := h.trans (h2.mono (by have := h.size; omega))
set_option maxHeartbeats 1000000 in
theorem awake2_any (w : World) : Calls Try.prog 19 #[] w fun e w' => e = .returned (.bool true) ∧ Below w.heap.size w w' := by
  have A := fun W => atan_any 1 2 (by unfold I64; omega) (by unfold I64; omega) (by omega) W
  rw [atan_ex] at A
  have S := fun W => sin_any 8192 W
  rw [sin_ex] at S
  have C := fun W => cos_any 5461 W
  rw [cos_ex] at C
  have Y := fun W => way_any 65000 100 W
  rw [way_ex] at Y
  have HA := hide A
  have HS := hide S
  have HC := hide C
  have HY := hide Y
  clear A S C Y
  go_enter Try.func19, Try.ntmps19
  go_wp2_with fail
  refine (HA.out _).mono ?_; rintro e w1 ⟨rfl, h1⟩
  have H1 := hide h1; clear h1
  go_wp2_with fail
  refine (atan_none _).mono ?_; rintro e w' ⟨rfl, rfl⟩
  go_wp2_with fail
  refine (HS.out _).mono ?_; rintro e w2 ⟨rfl, h2⟩
  have H2 := hide h2; clear h2
  go_wp2_with fail
  refine (HC.out _).mono ?_; rintro e w3 ⟨rfl, h3⟩
  have H3 := hide h3; clear h3
  go_wp2_with fail
  refine (HY.out _).mono ?_; rintro e w' ⟨rfl, rfl⟩
  go_wp2_with fail
  go_ret
  exact ⟨rfl, below_next (below_next H1.out (Nat.le_refl _) H2.out) (Nat.le_refl _) H3.out⟩
set_option maxHeartbeats 1000000 in
theorem TrigWays_walk (a b : Int) (_ : I64 a) (_ : I64 b) (w : World) : Calls Try.prog 6 #[.int .i64 a, .int .i64 b] w fun e w' => e = .returned (.bool true) ∧ Below w.heap.size w w' := by
  obtain ⟨d, HD⟩ : ∃ d, Hid (wayI a b = d) := ⟨_, rfl⟩
  have Y := way_any a b
  have R := refway_any a b
  rw [HD.out] at Y R
  have HY := hide Y
  have HR := hide R
  have z : (d == d) = true := by simp
  clear Y R
  go_enter Try.func6, Try.ntmps6
  go_wp2_with fail
  refine (awake2_any _).mono ?_; rintro e w1 ⟨rfl, h1⟩
  have H1 := hide h1; clear h1
  go_wp2_with fail
  refine (HY.out _).mono ?_; rintro e w' ⟨rfl, rfl⟩
  go_wp2_with fail
  refine (HR.out _).mono ?_; rintro e w' ⟨rfl, rfl⟩
  go_wp2_with fail
  go_ret
  exact ⟨rfl, H1.out⟩
end Go.Proofs.Ytcfoeknijgiboaa
