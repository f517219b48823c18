/- TrigAtans: the angle of any direction is the document's: at every input. -/
import Derived.Test.YtcfoeknijgiboaaTrigTa
import Derived.Test.YtcfoeknijgiboaaTrigTb
import Derived.Test.YtcfoeknijgiboaaTrigTc
namespace Go.Proofs.Ytcfoeknijgiboaa
open Go.RowKit

theorem refatan_any (y x : Int) (hy : I64 y) (hx : I64 x) (hz : ¬ (y = 0 ∧ x = 0)) (w : World) : Calls Try.prog 25 #[.int .i64 y, .int .i64 x] w fun e w' => e = .returned (.tuple #[.int .i64 (atanI y x), .bool true]) ∧ Below w.heap.size w w' := by
  by_cases s : y.natAbs ≤ x.natAbs
  · exact refatan_flat y x hy hx s (by omega) w
  · by_cases z : x = 0
    · exact refatan_zero y x hy hx (by omega) z w
    · exact refatan_steep y x hy hx (by omega) z w
set_option maxHeartbeats 1000000 in
theorem TrigAtans_walk (y x : Int) (hy : I64 y) (hx : I64 x) (w : World) : Calls Try.prog 5 #[.int .i64 y, .int .i64 x] w fun e w' => e = .returned (.bool true) ∧ Below w.heap.size w w' := by
  by_cases z : y = 0 ∧ x = 0
  · obtain ⟨rfl, rfl⟩ := z
    clear hy hx
    go_enter Try.func5, Try.ntmps5
    go_wp2_with fail
    refine (atan_none _).mono ?_; rintro e wq ⟨rfl, rfl⟩
    go_wp2_with fail
    refine (refatan_none _).mono ?_; rintro e wq ⟨rfl, rfl⟩
    go_wp2_with fail
    refine (awake2_any _).mono ?_; rintro e w1 ⟨rfl, h1⟩
    have H1 := hide h1; clear h1
    go_wp2_with fail
    go_ret
    exact ⟨rfl, H1.out⟩
  · have A := hide (fun W => atan_any y x hy hx z W)
    have B := hide (fun W => refatan_any y x hy hx z W)
    obtain ⟨r, HR⟩ : ∃ r, Hid (atanI y x = r) := ⟨_, rfl⟩
    rw [HR.out] at A B
    have t1 : (r == r) = true := by simp
    clear hy hx z HR
    go_enter Try.func5, Try.ntmps5
    go_wp2_with fail
    refine (A.out _).mono ?_; rintro e w1 ⟨rfl, h1⟩
    have H1 := hide h1; clear h1
    go_wp2_with fail
    refine (B.out _).mono ?_; rintro e w2 ⟨rfl, h2⟩
    have H2 := hide h2; clear h2
    go_wp2_with fail
    refine (awake2_any _).mono ?_; rintro e w3 ⟨rfl, h3⟩
    have H3 := hide h3; clear h3
    go_wp2_with fail
    go_ret
    exact ⟨rfl, (below_next (below_next H1.out (Nat.le_refl _) H2.out) (Nat.le_refl _) H3.out)⟩
end Go.Proofs.Ytcfoeknijgiboaa
