/- What the small functions of package msgs, and of the reference for it, answer of one width. -/
import Derived.Test.YtgdjphiicgiegaaMsM
import Derived.Test.YtgdjphiicgiegaaFrB0
import Derived.Test.YtgdjphiicgiegaaFrO
namespace Go.Proofs.Ytgdjphiicgiegaa
open Go.RowKit Go.Great

theorem signed_any (w : Int) (h : Wid w) (x : Int) (hx : x = 8 * w) (W : World) : Calls Try.prog 49 #[.int .i64 x] W fun e w' => e = .returned (.bool (decide (w < 0))) ∧ w' = W := by
  rcases h with rfl | rfl | rfl | rfl | rfl <;> subst hx
  all_goals
    go_enter Try.func49, Try.ntmps49
    go_wp2
    go_ret
    exact ⟨rfl, rfl⟩
theorem bits_any (w : Int) (h : Wid w) (x : Int) (hx : x = 8 * w) (W : World) : Calls Try.prog 50 #[.int .i64 x] W fun e w' => e = .returned (.int .i64 (8 * (szW w : Int))) ∧ w' = W := by
  rcases h with rfl | rfl | rfl | rfl | rfl <;> subst hx
  all_goals
    go_enter Try.func50, Try.ntmps50
    go_wp2
    go_ret
    exact ⟨rfl, rfl⟩
theorem wbytes_any (w : Int) (h : Wid w) (x : Int) (hx : x = 8 * w) (W : World) : Calls Try.prog 43 #[.int .i64 x] W fun e w' => e = .returned (.int .i64 (szW w : Int)) ∧ w' = W := by
  have hb := fun W => bits_any w h x hx W
  rcases h with rfl | rfl | rfl | rfl | rfl <;> subst hx
  all_goals
    simp only [show (8 * (szW 1 : Int)) = 8 from rfl, show (8 * (szW 2 : Int)) = 16 from rfl, show (8 * (szW 4 : Int)) = 32 from rfl, show (8 * (szW (-2) : Int)) = 16 from rfl, show (8 * (szW (-4) : Int)) = 32 from rfl] at hb
    go_enter Try.func43, Try.ntmps43
    go_wp2_with fail
    refine (hb _).mono ?_
    rintro e w1 ⟨rfl, rfl⟩
    go_wp2_with fail
    go_ret
    exact ⟨rfl, rfl⟩
theorem least_any (w : Int) (h : Wid w) (x : Int) (hx : x = 8 * w) (W : World) : Calls Try.prog 41 #[.int .i64 x] W fun e w' => e = .returned (.int .i64 (leW w)) ∧ w' = W := by
  have hs := fun W => signed_any w h x hx W
  have hb := fun W => bits_any w h x hx W
  rcases h with rfl | rfl | rfl | rfl | rfl <;> subst hx
  all_goals
    simp only [show (8 * (szW 1 : Int)) = 8 from rfl, show (8 * (szW 2 : Int)) = 16 from rfl, show (8 * (szW 4 : Int)) = 32 from rfl, show (8 * (szW (-2) : Int)) = 16 from rfl, show (8 * (szW (-4) : Int)) = 32 from rfl] at hb
    simp only [show decide ((1 : Int) < 0) = false from rfl, show decide ((2 : Int) < 0) = false from rfl, show decide ((4 : Int) < 0) = false from rfl, show decide ((-2 : Int) < 0) = true from rfl, show decide ((-4 : Int) < 0) = true from rfl] at hs
    go_enter Try.func41, Try.ntmps41
    go_wp2_with fail
    refine (hs _).mono ?_
    rintro e w1 ⟨rfl, rfl⟩
    go_wp2_with fail
    try (refine (hb _).mono ?_; rintro e w2 ⟨rfl, rfl⟩; go_wp2_with fail)
    go_ret
    exact ⟨rfl, rfl⟩
theorem greatest_any (w : Int) (h : Wid w) (x : Int) (hx : x = 8 * w) (W : World) : Calls Try.prog 42 #[.int .i64 x] W fun e w' => e = .returned (.int .i64 (grW w)) ∧ w' = W := by
  have hs := fun W => least_any w h x hx W
  have hb := fun W => bits_any w h x hx W
  rcases h with rfl | rfl | rfl | rfl | rfl <;> subst hx
  all_goals
    simp only [show (8 * (szW 1 : Int)) = 8 from rfl, show (8 * (szW 2 : Int)) = 16 from rfl, show (8 * (szW 4 : Int)) = 32 from rfl, show (8 * (szW (-2) : Int)) = 16 from rfl, show (8 * (szW (-4) : Int)) = 32 from rfl] at hb
    simp only [show leW 1 = 0 from rfl, show leW 2 = 0 from rfl, show leW 4 = 0 from rfl, show leW (-2) = -32768 from rfl, show leW (-4) = -2147483648 from rfl] at hs
    go_enter Try.func42, Try.ntmps42
    go_wp2_with fail
    refine (hs _).mono ?_
    rintro e w1 ⟨rfl, rfl⟩
    go_wp2_with fail
    refine (hb _).mono ?_
    rintro e w2 ⟨rfl, rfl⟩
    go_wp2_with fail
    go_ret
    exact ⟨rfl, rfl⟩
theorem rsize_any (w : Int) (h : Wid w) (W : World) : Calls Try.prog 29 #[.int .i64 w] W fun e w' => e = .returned (.int .i64 (szW w : Int)) ∧ w' = W := by
  rcases h with rfl | rfl | rfl | rfl | rfl
  all_goals
    go_enter Try.func29, Try.ntmps29
    go_wp2
    go_ret
    exact ⟨rfl, rfl⟩
theorem all_any (w : Int) (h : Wid w) (W : World) : Calls Try.prog 28 #[.int .i64 w] W fun e w' => e = .returned (.int .i64 (256 ^ szW w)) ∧ w' = W := by
  have hz := wid_sz h
  have hs := fun W => rsize_any w h W
  obtain ⟨m, hm⟩ : ∃ m, szW w = m := ⟨_, rfl⟩
  rw [hm] at hz hs
  rw [hm]
  clear hm h
  go_enter Try.func28, Try.ntmps28
  go_wp2_with fail
  go_loopw [3, 4] (fun n i wx => ∃ k : Nat, k ≤ m ∧ n = .int .i64 (256 ^ k) ∧ i = .int .i64 k ∧ wx = W) (fun _ i _ => m - (intOf i).toNat)
  case atStart => exact ⟨0, by omega, rfl, rfl, rfl⟩
  case round =>
    obtain ⟨k, hk, rfl, rfl, rfl⟩ := hrel
    by_cases hlt : k < m
    · obtain ⟨q, HQ⟩ : ∃ q : Int, Hid ((256 : Int) ^ k = q) := ⟨_, rfl⟩
      have hq : 0 < q ∧ q ≤ 16777216 := by
        rw [← HQ.out]
        have : k = 0 ∨ k = 1 ∨ k = 2 ∨ k = 3 := by omega
        rcases this with rfl | rfl | rfl | rfl <;> decide
      rw [HQ.out]
      go_wp2_with fail
      refine (hs _).mono ?_
      rintro e w1 ⟨rfl, rfl⟩
      go_wp2_with fail
      go_roundw
      case rel => exact ⟨k + 1, by omega, by rw [p256, HQ.out], by go_num, trivial⟩
      case measure => simp [intOf]; omega
    · obtain rfl : k = m := by omega
      obtain ⟨q, HQ⟩ : ∃ q : Int, Hid ((256 : Int) ^ k = q) := ⟨_, rfl⟩
      rw [HQ.out]
      go_wp2_with fail
      refine (hs _).mono ?_
      rintro e w1 ⟨rfl, rfl⟩
      go_wp2_with fail
      go_ret
      exact ⟨ret_int HQ.out.symm, rfl⟩
theorem fits_any (w n : Int) (h : Wid w) (W : World) : Calls Try.prog 27 #[.int .i64 n, .int .i64 w] W fun e w' => e = .returned (.bool (fitB w n)) ∧ w' = W := by
  have ha := fun W => all_any w h W
  by_cases hs : w < 0
  · have hc : ∃ p : Int, 256 ^ szW w = 2 * p ∧ 0 < p ∧ p ≤ 2147483648 ∧ leW w = -p ∧ grW w = p - 1 := by
      rcases h with rfl | rfl | rfl | rfl | rfl
      · omega
      · omega
      · omega
      · exact ⟨32768, by decide⟩
      · exact ⟨2147483648, by decide⟩
    obtain ⟨p, h1, h2, h3, h4, h5⟩ := hc
    have HF : Hid (fitB w n = (decide (-p ≤ n) && decide (n < p))) := by
      show _ = _
      unfold fitB; rw [h4, h5]; congr 1; simp; omega
    rw [HF.out]
    have q1 : (-(2 * p)).tdiv 2 = -p := by rw [Int.neg_tdiv, Int.mul_tdiv_cancel_left _ (by decide)]
    have q2 : (2 * p).tdiv 2 = p := by rw [Int.mul_tdiv_cancel_left _ (by decide)]
    rw [h1] at ha
    clear h1 h4 h5 HF h
    by_cases hn : -p ≤ n
    · go_enter Try.func27, Try.ntmps27
      go_wp2_with fail
      refine (ha _).mono ?_
      rintro e w1 ⟨rfl, rfl⟩
      go_wp2_with fail
      refine (ha _).mono ?_
      rintro e w1 ⟨rfl, rfl⟩
      go_wp2_with fail
      go_ret
      exact ⟨ret_bool (by simp [hn]), rfl⟩
    · go_enter Try.func27, Try.ntmps27
      go_wp2_with fail
      refine (ha _).mono ?_
      rintro e w1 ⟨rfl, rfl⟩
      go_wp2_with fail
      go_ret
      exact ⟨ret_bool (by simp; omega), rfl⟩
  · have hc : ∃ p : Int, 256 ^ szW w = p ∧ 0 < p ∧ p ≤ 4294967296 ∧ leW w = 0 ∧ grW w = p - 1 := by
      rcases h with rfl | rfl | rfl | rfl | rfl
      · exact ⟨256, by decide⟩
      · exact ⟨65536, by decide⟩
      · exact ⟨4294967296, by decide⟩
      · omega
      · omega
    obtain ⟨p, h1, h2, h3, h4, h5⟩ := hc
    have HF : Hid (fitB w n = (decide (0 ≤ n) && decide (n < p))) := by
      show _ = _
      unfold fitB; rw [h4, h5]; congr 1; simp; omega
    rw [HF.out]
    rw [h1] at ha
    clear h1 h4 h5 HF h
    by_cases hn : 0 ≤ n
    · go_enter Try.func27, Try.ntmps27
      go_wp2_with fail
      refine (ha _).mono ?_
      rintro e w1 ⟨rfl, rfl⟩
      go_wp2_with fail
      go_ret
      exact ⟨ret_bool (by simp [hn]), rfl⟩
    · go_enter Try.func27, Try.ntmps27
      go_wp2_with fail
      go_ret
      exact ⟨ret_bool (by simp; omega), rfl⟩
end Go.Proofs.Ytgdjphiicgiegaa
