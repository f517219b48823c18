/- ParamsMargins, ParamsTimes. -/
import Derived.Test.YtfhcfngogfefjaaPr5
namespace Go.Proofs.Ytfhcfngogfefjaa
open Go.RowKit Go.Great

set_option maxRecDepth 100000 in
set_option maxHeartbeats 4000000 in
theorem pmargins_walk (l : List Int) (v : Value) (w : World) (hv : Ints w v l) : Calls Try.prog 6 #[v] w fun e w' => e = .returned (.bool true) ∧ Below w.heap.size w w' := by
  have H1 := fun W hW => hide (margins_any l v W hW)
  have H2 := fun W hW => hide (rmargins_any l v W hW)
  have HA := hide awake_any
  have HV := hide hv
  generalize marE l = m at H1 H2
  generalize chk l = c at H1 H2
  have hcc : (c == c) = true := by simp
  obtain ⟨m0, m1, m2, m3, m4, m5⟩ := m
  have h0 : (m0 == m0) = true := by simp
  have h1 : (m1 == m1) = true := by simp
  have h2 : (m2 == m2) = true := by simp
  have h3 : (m3 == m3) = true := by simp
  have h4 : (m4 == m4) = true := by simp
  have h5 : (m5 == m5) = true := by simp
  unfold marV at H1 H2
  simp only at H1 H2
  obtain ⟨a, cap, rfl, _⟩ := hv
  generalize l.length = n at H1 H2 HV ⊢
  go_enter Try.func6, Try.ntmps6
  go_wp2_with fail
  refine (H1 _ HV.out).out.mono ?_
  rintro e w1 ⟨rfl, hB1⟩
  have HB1 := hide hB1
  have HV1 := hide (HV.out.below hB1)
  clear hB1 HV
  go_upto_region 2 with fail
  have HB2 := hide (HB1.out.alloc HB1.out.size (.cells #[.int .i64 m0, .int .i64 m1, .int .i64 m2, .int .i64 m3, .int .i64 m4, .int .i64 m5] 41))
  have HM2 : Hid (Mb (w1.alloc (.cells #[.int .i64 m0, .int .i64 m1, .int .i64 m2, .int .i64 m3, .int .i64 m4, .int .i64 m5] 41)) w1.heap.size #[.int .i64 m0, .int .i64 m1, .int .i64 m2, .int .i64 m3, .int .i64 m4, .int .i64 m5]) := heap_alloc_new _ _
  have HV2 := hide (HV1.out.below (below_alloc w1 (.cells #[.int .i64 m0, .int .i64 m1, .int .i64 m2, .int .i64 m3, .int .i64 m4, .int .i64 m5] 41)))
  generalize w1.alloc (.cells #[.int .i64 m0, .int .i64 m1, .int .i64 m2, .int .i64 m3, .int .i64 m4, .int .i64 m5] 41) = w2 at HB2 HM2 HV2 ⊢
  generalize w1.heap.size = N at HM2 ⊢
  go_wp2_with fail
  refine (H2 _ HV2.out).out.mono ?_
  rintro e w3 ⟨rfl, hB3⟩
  have HB3 : Hid (Below w.heap.size w w3) := below_next HB2.out (Nat.le_refl _) hB3
  have HM3 := hide ((HM2.out.below hB3).below (below_alloc w3 (.cells #[.int .i64 m0, .int .i64 m1, .int .i64 m2, .int .i64 m3, .int .i64 m4, .int .i64 m5] 41)))
  have HN3 : Hid (Mb (w3.alloc (.cells #[.int .i64 m0, .int .i64 m1, .int .i64 m2, .int .i64 m3, .int .i64 m4, .int .i64 m5] 41)) w3.heap.size #[.int .i64 m0, .int .i64 m1, .int .i64 m2, .int .i64 m3, .int .i64 m4, .int .i64 m5]) := heap_alloc_new _ _
  have HB4 := hide (HB3.out.alloc HB3.out.size (.cells #[.int .i64 m0, .int .i64 m1, .int .i64 m2, .int .i64 m3, .int .i64 m4, .int .i64 m5] 41))
  clear hB3 HB2 HM2 HB3
  go_upto_region 3 with fail
  generalize w3.alloc (.cells #[.int .i64 m0, .int .i64 m1, .int .i64 m2, .int .i64 m3, .int .i64 m4, .int .i64 m5] 41) = w4 at HB4 HM3 HN3 ⊢
  generalize w3.heap.size = N2 at HN3 ⊢
  have y0 := HM3.out.at 0 (.int .i64 m0) rfl
  have y1 := HM3.out.at 1 (.int .i64 m1) rfl
  have y2 := HM3.out.at 2 (.int .i64 m2) rfl
  have y3 := HM3.out.at 3 (.int .i64 m3) rfl
  have y4 := HM3.out.at 4 (.int .i64 m4) rfl
  have y5 := HM3.out.at 5 (.int .i64 m5) rfl
  have z0 := HN3.out.at 0 (.int .i64 m0) rfl
  have z1 := HN3.out.at 1 (.int .i64 m1) rfl
  have z2 := HN3.out.at 2 (.int .i64 m2) rfl
  have z3 := HN3.out.at 3 (.int .i64 m3) rfl
  have z4 := HN3.out.at 4 (.int .i64 m4) rfl
  have z5 := HN3.out.at 5 (.int .i64 m5) rfl
  go_wp2_with fail
  refine (HA.out _).mono ?_
  rintro e w5 ⟨rfl, hB5⟩
  have HB5 : Hid (Below w.heap.size w w5) := below_next HB4.out (Nat.le_refl _) hB5
  clear hB5 y0 y1 y2 y3 y4 y5 z0 z1 z2 z3 z4 z5
  go_wp2_with fail
  go_ret
  exact ⟨rfl, HB5.out⟩
theorem ParamsMargins_walk (v : Value) (w : World) (h : ∃ l, IntsIn w v l) : Calls Try.prog 6 #[v] w fun e w' => e = .returned (.bool true) ∧ Below w.heap.size w w' := by
  obtain ⟨l, hl⟩ := h
  exact pmargins_walk l v w hl.1
set_option maxRecDepth 100000 in
set_option maxHeartbeats 4000000 in
theorem times_walk (l : List Int) (v : Value) (h d : Int) (w : World) (hv : Ints w v l) : Calls Try.prog 7 #[v, .int .i64 h, .int .i64 d] w fun e w' => e = .returned (.bool true) ∧ Below w.heap.size w w' := by
  have L1 := fun W hW => hide (landTicks_any l h v W hW)
  have L2 := fun W hW => hide (rlandTicks_any l h v W hW)
  have R1 := fun W hW => hide (returnTicks_any l h d v W hW)
  have R2 := fun W hW => hide (rreturnTicks_any l h d v W hW)
  have S1 := fun W hW => hide (slack_any l h v W hW)
  have S2 := fun W hW => hide (rslack_any l h v W hW)
  have HA := hide awake_any
  have HV0 := hide hv
  have HB0 := hide (Below.refl w.heap.size w)
  generalize landE l h = p1 at L1 L2
  generalize retE l h d = p2 at R1 R2
  generalize slackE l h = p3 at S1 S2
  obtain ⟨a, e1⟩ := p1
  obtain ⟨b, e2⟩ := p2
  obtain ⟨c, e3⟩ := p3
  simp only at L1 L2 R1 R2 S1 S2
  have h1 : (a == a) = true := by simp
  have h2 : (b == b) = true := by simp
  have h3 : (c == c) = true := by simp
  have h4 : (e1 == e1) = true := by simp
  have h5 : (e2 == e2) = true := by simp
  have h6 : (e3 == e3) = true := by simp
  obtain ⟨av, cap, rfl, _⟩ := hv
  generalize l.length = n at L1 L2 R1 R2 S1 S2 HV0 ⊢
  go_enter Try.func7, Try.ntmps7
  go_wp2_with fail
  refine (L1 _ HV0.out).out.mono ?_
  rintro e w1 ⟨rfl, hB⟩
  have HV1 := hide (HV0.out.below hB)
  have HB1 : Hid (Below w.heap.size w w1) := below_next HB0.out (Nat.le_refl _) hB
  clear hB HV0
  go_wp2_with fail
  refine (L2 _ HV1.out).out.mono ?_
  rintro e w2 ⟨rfl, hB⟩
  have HV2 := hide (HV1.out.below hB)
  have HB2 : Hid (Below w.heap.size w w2) := below_next HB1.out (Nat.le_refl _) hB
  clear hB HV1
  go_wp2_with fail
  refine (R1 _ HV2.out).out.mono ?_
  rintro e w3 ⟨rfl, hB⟩
  have HV3 := hide (HV2.out.below hB)
  have HB3 : Hid (Below w.heap.size w w3) := below_next HB2.out (Nat.le_refl _) hB
  clear hB HV2
  go_wp2_with fail
  refine (R2 _ HV3.out).out.mono ?_
  rintro e w4 ⟨rfl, hB⟩
  have HV4 := hide (HV3.out.below hB)
  have HB4 : Hid (Below w.heap.size w w4) := below_next HB3.out (Nat.le_refl _) hB
  clear hB HV3
  go_wp2_with fail
  refine (S1 _ HV4.out).out.mono ?_
  rintro e w5 ⟨rfl, hB⟩
  have HV5 := hide (HV4.out.below hB)
  have HB5 : Hid (Below w.heap.size w w5) := below_next HB4.out (Nat.le_refl _) hB
  clear hB HV4
  go_wp2_with fail
  refine (S2 _ HV5.out).out.mono ?_
  rintro e w6 ⟨rfl, hB⟩
  have HV6 := hide (HV5.out.below hB)
  have HB6 : Hid (Below w.heap.size w w6) := below_next HB5.out (Nat.le_refl _) hB
  clear hB HV5
  go_wp2_with fail
  refine (HA.out _).mono ?_
  rintro e w9 ⟨rfl, hB9⟩
  have HB9 : Hid (Below w.heap.size w w9) := below_next HB6.out (Nat.le_refl _) hB9
  clear hB9
  go_wp2_with fail
  go_ret
  exact ⟨rfl, HB9.out⟩
theorem ParamsTimes_walk (v : Value) (h d : Int) (w : World) (hi : ∃ l, IntsIn w v l) : Calls Try.prog 7 #[v, .int .i64 h, .int .i64 d] w fun e w' => e = .returned (.bool true) ∧ Below w.heap.size w w' := by
  obtain ⟨l, hl⟩ := hi
  exact times_walk l v h d w hl.1
end Go.Proofs.Ytfhcfngogfefjaa
