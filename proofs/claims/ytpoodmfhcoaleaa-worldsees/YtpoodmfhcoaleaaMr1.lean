/- The document's mixer, walked: Limit, an arm's push. -/
import Derived.Test.YtpoodmfhcoaleaaMxP
namespace Go.Proofs.Ytpoodmfhcoaleaa
open Go.RowKit Go.Great

set_option maxHeartbeats 400000 in
theorem rclampX (x lo hi : Int) (w : World) : Calls Try.prog 34 #[.int .i64 x, .int .i64 lo, .int .i64 hi] w fun e w' => e = .returned (.int .i64 (clamp x lo hi)) ∧ w' = w := by
  go_enter Try.func34, Try.ntmps34
  go_wp2
  all_goals (go_ret; refine ⟨ret_int ?_, rfl⟩; unfold clamp; split <;> (try split) <;> omega)
set_option maxHeartbeats 400000 in
theorem rfloorX (a b : Int) (w : World) (ha : -1000000 ≤ a ∧ a ≤ 1000000) (h : 1 ≤ b) : Calls Try.prog 30 #[.int .i64 a, .int .i64 b] w fun e w' => e = .returned (.int .i64 (a / b)) ∧ w' = w := by
  have hi := ediv_in a b h
  by_cases g : a.tmod b < 0
  · have f := (fl a b h).1 g
    have hd : -1000000 ≤ a.tdiv b ∧ a.tdiv b ≤ 1000001 := by omega
    have F : Hid (a.tdiv b - 1 = a / b) := f
    clear f hi
    go_enter Try.func30, Try.ntmps30
    go_wp2
    go_ret
    exact ⟨ret_int F.out, rfl⟩
  · have f := (fl a b h).2 (by omega)
    have hd : -1000000 ≤ a.tdiv b ∧ a.tdiv b ≤ 1000001 := by omega
    have F : Hid (a.tdiv b = a / b) := f
    clear f hi
    go_enter Try.func30, Try.ntmps30
    go_wp2
    go_ret
    exact ⟨ret_int F.out, rfl⟩
end Go.Proofs.Ytpoodmfhcoaleaa
