/- The statements' own closed examples; ParamsChecks. -/
import Derived.Test.YtfhcfngogfefjaaPa6
import Derived.Test.YtfhcfngogfefjaaOp0
namespace Go.Proofs.Ytfhcfngogfefjaa
open Go.RowKit Go.Great

theorem deL_mar : marE deL = ⟨58, 12, 258, 16398, 701, 4⟩ := by kernel_rfl
theorem deL_land : landE deL 0 = (959, 0) := by decide +kernel
theorem chk_nil : chk [] = 3 := by decide +kernel
theorem chk_deL : chk deL = 0 := by decide +kernel
theorem IRow.slice {w : World} {base : Nat} {v : Value} {l : List Int} (h : IRow w base v l) : ∃ a cap, v = .slice a l.length cap := h.shape
set_option maxHeartbeats 2000000 in
theorem awake_any (w : World) : Calls Try.prog 15 #[] w fun e w' => e = .returned (.bool true) ∧ Below w.heap.size w w' := by
  have HD := hide defaults_any
  have HM : Hid (∀ v W, Ints W v deL → Calls Try.prog 24 #[v] W fun e w' => e = .returned (.tuple #[.agg #[.int .i64 58, .int .i64 12, .int .i64 258, .int .i64 16398, .int .i64 701, .int .i64 4], .int .i64 0]) ∧ Below W.heap.size W w') := by
    intro v W hv
    have := margins_any deL v W hv
    rw [deL_mar, chk_deL] at this
    exact this
  have HL : Hid (∀ v W, Ints W v deL → Calls Try.prog 26 #[v, .int .i64 0] W fun e w' => e = .returned (.tuple #[.int .i64 959, .int .i64 0]) ∧ Below W.heap.size W w') := by
    intro v W hv
    have := landTicks_any deL 0 v W hv
    rw [deL_land] at this
    exact this
  have HC0 : Hid (∀ W, Calls Try.prog 12 #[.slice none 0 0] W fun e w' => e = .returned (.int .i64 3) ∧ Below W.heap.size W w') := by
    intro W
    have := check_any [] _ W (Ints.nil W)
    rw [chk_nil] at this
    exact this
  have HC1 : Hid (∀ v W, Ints W v deL → Calls Try.prog 12 #[v] W fun e w' => e = .returned (.int .i64 0) ∧ Below W.heap.size W w') := by
    intro v W hv
    have := check_any deL v W hv
    rw [chk_deL] at this
    exact this
  go_enter Try.func15, Try.ntmps15
  go_wp2_with fail
  refine (HD.out _).mono ?_
  rintro e w1 ⟨v1, rfl, hR1, hB1⟩
  have HI1 := hide hR1.ints
  have HB1 := hide hB1
  clear hR1 hB1
  go_wp2_with fail
  refine (HM.out _ _ HI1.out).mono ?_
  rintro e w2 ⟨rfl, hB2⟩
  have HB2 : Hid (Below w.heap.size w w2) := below_next HB1.out (Nat.le_refl _) hB2
  clear hB2 HB1 HI1
  go_wp2_with fail
  refine (HD.out _).mono ?_
  rintro e w3 ⟨v3, rfl, hR3, hB3⟩
  have HI3 := hide hR3.ints
  have HB3 : Hid (Below w.heap.size w w3) := below_next (HB2.out.alloc HB2.out.size _) (Nat.le_refl _) hB3
  have HM3 : Hid (Mb w3 w2.heap.size #[.int .i64 58, .int .i64 12, .int .i64 258, .int .i64 16398, .int .i64 701, .int .i64 4]) := Mb.below (show Mb (w2.alloc (.cells #[.int .i64 58, .int .i64 12, .int .i64 258, .int .i64 16398, .int .i64 701, .int .i64 4] 41)) w2.heap.size _ from heap_alloc_new _ _) hB3
  clear hR3 hB3 HB2
  generalize w2.heap.size = N at HM3 ⊢
  go_wp2_with fail
  refine (HL.out _ _ HI3.out).mono ?_
  rintro e w4 ⟨rfl, hB4⟩
  have HB4 : Hid (Below w.heap.size w w4) := below_next HB3.out (Nat.le_refl _) hB4
  have HM4 := hide (HM3.out.below hB4)
  have f3 := HM4.out.at 3 _ rfl
  have f4 := HM4.out.at 4 _ rfl
  clear hB4 HB3 HM3 HI3
  go_wp2_with fail
  refine (HC0.out _).mono ?_
  rintro e w5 ⟨rfl, hB5⟩
  have HB5 : Hid (Below w.heap.size w w5) := below_next HB4.out (Nat.le_refl _) hB5
  clear hB5 HB4 f3 f4 HM4
  go_wp2_with fail
  refine (HD.out _).mono ?_
  rintro e w6 ⟨v6, rfl, hR6, hB6⟩
  have HI6 := hide hR6.ints
  have HB6 : Hid (Below w.heap.size w w6) := below_next HB5.out (Nat.le_refl _) hB6
  clear hR6 hB6 HB5
  go_wp2_with fail
  refine (HC1.out _ _ HI6.out).mono ?_
  rintro e w7 ⟨rfl, hB7⟩
  have HB7 : Hid (Below w.heap.size w w7) := below_next HB6.out (Nat.le_refl _) hB7
  clear hB7 HB6
  go_wp2_with fail
  go_ret
  exact ⟨rfl, HB7.out⟩
set_option maxHeartbeats 2000000 in
theorem checks_walk (l : List Int) (v : Value) (w : World) (hi : IntsIn w v l) : Calls Try.prog 3 #[v] w fun e w' => e = .returned (.bool true) ∧ Below w.heap.size w w' := by
  obtain ⟨hv, hn, hlen⟩ := hi
  have HV := hide hv
  have hL := lent_any l v w hv hn hlen
  have HC := hide (check_any l)
  have HR := hide (rcheck_any l)
  have HK := hide (fun v w base g hR hv => kept_true l v w base g hR hv (by omega))
  have HA := hide awake_any
  obtain ⟨a, cap, rfl, _⟩ := hv
  obtain ⟨n, hN⟩ : ∃ n, l.length = n := ⟨_, rfl⟩
  rw [hN] at hL HV HK ⊢
  have HN := hide hN
  generalize chk l = c at HC HR
  have hcc : (c == c) = true := by simp
  clear hN hn hlen
  go_enter Try.func3, Try.ntmps3
  go_wp2_with fail
  refine hL.mono ?_
  rintro e w1 ⟨rfl, hR1, hB1⟩
  have HB1 := hide hB1
  have HR1 := hide hR1
  have HI1 : Hid (Ints w1 (.slice (some ⟨w.heap.size, 0, none⟩) n (n + 4)) l) := by
    have := lent_ints (l := l) (w := w1) (base := w.heap.size) (g := w.heap.size) (c := n + 4) (by rw [HN.out]; exact hR1)
    rw [HN.out] at this
    exact this
  clear hR1 hB1 hL
  go_wp2_with fail
  refine (HC.out _ _ HI1.out).mono ?_
  rintro e w2 ⟨rfl, hB2⟩
  have HB2 : Hid (Below w.heap.size w w2) := below_next HB1.out (Nat.le_refl _) hB2
  have HR2 := hide (HR1.out.below hB2)
  have HV2 := hide (HV.out.below HB2.out)
  clear hB2 HB1 HR1 HI1
  go_wp2_with fail
  refine (HK.out _ _ _ _ HR2.out HV2.out).mono ?_
  rintro e w3 ⟨rfl, q, hw3⟩
  have HB3 : Hid (Below w.heap.size w w3) := by rw [hw3]; exact below_drewN HB2.out q
  have HV3 : Hid (Ints w3 (.slice a n cap) l) := HV.out.below HB3.out
  clear hw3 HB2 HR2 HV2
  go_wp2_with fail
  refine (HR.out _ _ HV3.out).mono ?_
  rintro e w4 ⟨rfl, hB4⟩
  have HB4 : Hid (Below w.heap.size w w4) := below_next HB3.out (Nat.le_refl _) hB4
  clear hB4 HB3
  go_wp2_with fail
  refine (HA.out _).mono ?_
  rintro e w5 ⟨rfl, hB5⟩
  have HB5 : Hid (Below w.heap.size w w5) := below_next HB4.out (Nat.le_refl _) hB5
  clear hB5 HB4
  go_wp2_with fail
  go_ret
  exact ⟨rfl, HB5.out⟩
theorem ParamsChecks_walk (v : Value) (w : World) (h : ∃ l, IntsIn w v l) : Calls Try.prog 3 #[v] w fun e w' => e = .returned (.bool true) ∧ Below w.heap.size w w' := by
  obtain ⟨l, hl⟩ := h
  exact checks_walk l v w hl
end Go.Proofs.Ytfhcfngogfefjaa
