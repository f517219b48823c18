/- How long landing and returning take, how far a vehicle may be: package params. -/
import Derived.Test.YtnofpcoohbmnpaaPa4
namespace Go.Proofs.Ytnofpcoohbmnpaa
open Go.RowKit Go.Great

/-- margins as sound parameters have them -/
def MarIn (m : Mar) : Prop := (48 ≤ m.brake ∧ m.brake ≤ 64) ∧ (2 ≤ m.drift ∧ m.drift ≤ 34) ∧ (86 ≤ m.jolt ∧ m.jolt ≤ 430) ∧ (2000 ≤ m.fast ∧ m.fast ≤ 65000)
theorem land_in (m : Mar) (hm : MarIn m) (fall h : Int) (f0 : 2000 ≤ fall) (f1 : fall ≤ 16000) (h0 : 0 ≤ h) (h1 : h ≤ 536870912) : 104 ≤ landI m fall h ∧ landI m fall h ≤ 4000000000000 := by
  obtain ⟨a, b, c, d⟩ := hm
  have w0 := way_in m.fast m.brake (by omega) (by omega) (by omega) (by omega)
  have u := upI_in (h * 6400 + wayI m.fast m.brake + 16 * m.fast) (fall - m.drift) (by omega) (by omega)
  have e1 := (ediv_in m.fast m.brake (by omega)).1 (by omega)
  unfold landI
  omega
set_option maxHeartbeats 4000000 in
theorem land_any (m : Mar) (hm : MarIn m) (fall h : Int) (f0 : 2000 ≤ fall) (f1 : fall ≤ 16000) (h0 : 0 ≤ h) (h1 : h ≤ 536870912) (w : World) : Calls Try.prog 48 #[marV m, .int .i64 fall, .int .i64 h] w fun e w' => e = .returned (.int .i64 (landI m fall h)) ∧ Below w.heap.size w w' := by
  obtain ⟨a, b, c, d⟩ := hm
  have w0 := way_in m.fast m.brake (by omega) (by omega) (by omega) (by omega)
  have u := upI_in (h * 6400 + wayI m.fast m.brake + 16 * m.fast) (fall - m.drift) (by omega) (by omega)
  have e1 := (ediv_in m.fast m.brake (by omega)).1 (by omega)
  have HWay := fun W => hide (pway_any m.fast m.brake W (by omega) (by omega) (by omega) (by omega))
  have HDn := fun W => hide (pdown_any m.fast m.brake W (by unfold I64; omega) (by omega))
  have HD2 := fun W => hide (pdown_any fall 32 W (by unfold I64; omega) (by omega))
  have HUp := fun W => hide (pup_any (h * 6400 + wayI m.fast m.brake + 16 * m.fast) (fall - m.drift) W (by unfold I64; omega) (by omega))
  obtain ⟨brake, drift, jolt, fast, lane, drain⟩ := m
  unfold marV landI
  simp only at a b c d w0 u e1 HWay HDn HUp ⊢
  generalize wayI fast brake = wy at w0 u HWay HUp ⊢
  generalize upI (h * 6400 + wy + 16 * fast) (fall - drift) = uu at u HUp ⊢
  generalize fast / brake = q at e1 HDn ⊢
  have hq2 : 0 ≤ fall / 32 ∧ fall / 32 ≤ 16000 := by omega
  generalize fall / 32 = q2 at hq2 HD2 ⊢
  go_enter Try.func48, Try.ntmps48
  go_wp2_with fail
  have HB0 := hide (below_alloc w (.cells #[.int .i64 brake, .int .i64 drift, .int .i64 jolt, .int .i64 fast, .int .i64 lane, .int .i64 drain] 54))
  have HM0 : Hid (Mb (w.alloc (.cells #[.int .i64 brake, .int .i64 drift, .int .i64 jolt, .int .i64 fast, .int .i64 lane, .int .i64 drain] 54)) w.heap.size #[.int .i64 brake, .int .i64 drift, .int .i64 jolt, .int .i64 fast, .int .i64 lane, .int .i64 drain]) := heap_alloc_new _ _
  generalize w.alloc (.cells #[.int .i64 brake, .int .i64 drift, .int .i64 jolt, .int .i64 fast, .int .i64 lane, .int .i64 drain] 54) = w1 at HB0 HM0 ⊢
  have x0 := HM0.out.at 0 _ rfl
  have x3 := HM0.out.at 3 _ rfl
  go_quiet (first | (go_at_call 35; exact Calls.quiet_of_same (HWay _).out))
  have HB1 := hide (below_drewN HB0.out nq)
  have HM1 : Hid (Mb (w1.drewN nq) w.heap.size #[.int .i64 brake, .int .i64 drift, .int .i64 jolt, .int .i64 fast, .int .i64 lane, .int .i64 drain]) := by unfold Mb; rw [drewN_heap]; exact HM0.out
  generalize w1.drewN nq = w2 at HB1 HM1 ⊢
  clear x0 x3
  have x0 := HM1.out.at 0 _ rfl
  have x1 := HM1.out.at 1 _ rfl
  have x3 := HM1.out.at 3 _ rfl
  go_wp2_with fail
  go_quiet (first | (go_at_call_of 37 fast; exact Calls.quiet_of_same (HDn _).out) | (go_at_call_of 37 fall; exact Calls.quiet_of_same (HD2 _).out) | (go_at_call 34; exact Calls.quiet_of_same (HUp _).out))
  have HB2 := hide (below_drewN HB1.out nq)
  go_wp2_with fail
  go_ret
  exact ⟨rfl, HB2.out⟩
theorem Sound.marIn {l : List Int} (h : Sound l) : MarIn (marL l) := h.facts
/-- what LandTicks answers -/
def landE (l : List Int) (h : Int) : Int × Int := if chk l = 0 then (if 0 ≤ h ∧ h ≤ 536870912 then (landI (marL l) (l.getD 9 0) h, 0) else (0, 1)) else (0, chk l)
theorem marV_form (m : Mar) : marV m = .agg (arr6 (.int .i64 m.brake) (.int .i64 m.drift) (.int .i64 m.jolt) (.int .i64 m.fast) (.int .i64 m.lane) (.int .i64 m.drain)) := rfl
theorem landE_cases (l : List Int) (h : Int) : (chk l ≠ 0 ∧ landE l h = (0, chk l)) ∨ (Sound l ∧ ¬ (0 ≤ h ∧ h ≤ 536870912) ∧ landE l h = (0, 1)) ∨ (Sound l ∧ (0 ≤ h ∧ h ≤ 536870912) ∧ landE l h = (landI (marL l) (l.getD 9 0) h, 0)) := by
  unfold landE
  by_cases hc : chk l = 0
  · rw [if_pos hc]
    by_cases hin : 0 ≤ h ∧ h ≤ 536870912
    · rw [if_pos hin]; exact .inr (.inr ⟨sound_of hc, hin, rfl⟩)
    · rw [if_neg hin]; exact .inr (.inl ⟨sound_of hc, hin, rfl⟩)
  · rw [if_neg hc]; exact .inl ⟨hc, rfl⟩
set_option maxHeartbeats 4000000 in
theorem landTicks_any (l : List Int) (h : Int) (v : Value) (w : World) (hv : Ints w v l) : Calls Try.prog 28 #[v, .int .i64 h] w fun e w' => e = .returned (.tuple #[.int .i64 (landE l h).1, .int .i64 (landE l h).2]) ∧ Below w.heap.size w w' := by
  have hm := margins_any l v w hv
  rcases landE_cases l h with ⟨hc, hE⟩ | ⟨hs, hin, hE⟩ | ⟨hs, hin, hE⟩
  · rw [hE, marE, if_neg hc] at *
    obtain ⟨a, cap, rfl, _⟩ := hv
    generalize chk l = c at hm hc ⊢
    generalize l.length = n at hm ⊢
    have hne : (c != 0) = true := by simp [hc]
    unfold marV marZ at hm
    clear hc hE
    go_enter Try.func28, Try.ntmps28
    go_wp2_with fail
    refine hm.mono ?_
    rintro e w1 ⟨rfl, hB1⟩
    have HB1 := hide hB1
    clear hB1 hm
    go_wp2_with fail
    go_ret2
    exact ⟨rfl, HB1.out.alloc HB1.out.size _⟩
  · rw [hE]
    rw [marE, if_pos hs.chk, hs.chk] at hm
    have HW := fun W => hide (within_any h 0 536870912 W)
    have hf : (decide (0 ≤ h) && decide (h ≤ 536870912)) = false := by
      by_cases h1 : 0 ≤ h
      · simp; omega
      · simp; omega
    rw [hf] at HW
    obtain ⟨a, cap, rfl, _⟩ := hv
    generalize marL l = m at hm
    generalize l.length = n at hm ⊢
    obtain ⟨m0, m1, m2, m3, m4, m5⟩ := m
    unfold marV at hm
    simp only at hm ⊢
    clear hE hs hin hf
    go_enter Try.func28, Try.ntmps28
    go_wp2_with fail
    refine hm.mono ?_
    rintro e w1 ⟨rfl, hB1⟩
    have HB1 := hide hB1
    clear hB1 hm
    go_wp2_with fail
    refine (HW _).out.mono ?_
    rintro e w2 ⟨rfl, hw2⟩
    obtain rfl := hw2.symm
    go_wp2_with fail
    go_ret2
    exact ⟨rfl, HB1.out.alloc HB1.out.size _⟩
  · rw [hE]
    rw [marE, if_pos hs.chk, hs.chk] at hm
    have HW := fun W => hide (within_any h 0 536870912 W)
    rw [decide_eq_true hin.1, decide_eq_true hin.2] at HW
    obtain ⟨g, o, cap, rfl, hg, hcc⟩ := hv.open24 hs.len
    have b9 := hs.inr.bounds.2.2.2.2.2.2.2.2.2.1
    have c9 := hcc 9 (by omega)
    have HL := fun W => hide (land_any (marL l) hs.marIn (l.getD 9 0) h b9.1 b9.2 hin.1 hin.2 W)
    generalize landI (marL l) (l.getD 9 0) h = r at HL ⊢
    generalize marL l = m at hm HL
    generalize l.getD 9 0 = fall at c9 HL b9
    obtain ⟨m0, m1, m2, m3, m4, m5⟩ := m
    unfold marV at hm HL
    simp only at hm HL ⊢
    clear hE hs hin hcc hv b9
    go_enter Try.func28, Try.ntmps28
    go_wp2_with fail
    refine hm.mono ?_
    rintro e w1 ⟨rfl, hB1⟩
    have HB1 := hide hB1
    have d9 := (hB1.cell (p := ⟨g, o + 9, none⟩) hg).trans c9
    clear hB1 hm c9
    go_wp2_with fail
    refine (HW _).out.mono ?_
    rintro e w2 ⟨rfl, hw2⟩
    obtain rfl := hw2.symm
    clear HW hw2
    go_wp2_with fail
    have HB2 := hide (HB1.out.alloc HB1.out.size (.cells #[.int .i64 m0, .int .i64 m1, .int .i64 m2, .int .i64 m3, .int .i64 m4, .int .i64 m5] 54))
    have HM2 : Hid (Mb (w1.alloc (.cells #[.int .i64 m0, .int .i64 m1, .int .i64 m2, .int .i64 m3, .int .i64 m4, .int .i64 m5] 54)) w1.heap.size #[.int .i64 m0, .int .i64 m1, .int .i64 m2, .int .i64 m3, .int .i64 m4, .int .i64 m5]) := heap_alloc_new _ _
    have e9 := ((below_alloc w1 (.cells #[.int .i64 m0, .int .i64 m1, .int .i64 m2, .int .i64 m3, .int .i64 m4, .int .i64 m5] 54)).cell (p := ⟨g, o + 9, none⟩) (Nat.lt_of_lt_of_le hg HB1.out.size)).trans d9
    have hlt : w1.heap.size < (w1.alloc (.cells #[.int .i64 m0, .int .i64 m1, .int .i64 m2, .int .i64 m3, .int .i64 m4, .int .i64 m5] 54)).heap.size := by rw [size_alloc]; omega
    have hgl : g < (w1.alloc (.cells #[.int .i64 m0, .int .i64 m1, .int .i64 m2, .int .i64 m3, .int .i64 m4, .int .i64 m5] 54)).heap.size := by have := HB1.out.size; rw [size_alloc]; omega
    generalize w1.alloc (.cells #[.int .i64 m0, .int .i64 m1, .int .i64 m2, .int .i64 m3, .int .i64 m4, .int .i64 m5] 54) = w2 at HB2 HM2 e9 hlt hgl ⊢
    generalize w1.heap.size = N at HM2 hlt ⊢
    have y0 := HM2.out.at 0 _ rfl
    have y1 := HM2.out.at 1 _ rfl
    have y2 := HM2.out.at 2 _ rfl
    have y3 := HM2.out.at 3 _ rfl
    have y4 := HM2.out.at 4 _ rfl
    have y5 := HM2.out.at 5 _ rfl
    clear d9
    go_region_held3 (fun wx => wx.cell? ⟨N, 0, none⟩ = some (.int .i64 m0) ∧ wx.cell? ⟨N, 1, none⟩ = some (.int .i64 m1) ∧ wx.cell? ⟨N, 2, none⟩ = some (.int .i64 m2) ∧ wx.cell? ⟨N, 3, none⟩ = some (.int .i64 m3) ∧ wx.cell? ⟨N, 4, none⟩ = some (.int .i64 m4) ∧ wx.cell? ⟨N, 5, none⟩ = some (.int .i64 m5) ∧ wx.cell? ⟨g, o + 9, none⟩ = some (.int .i64 fall)) (go_keep) (first | (go_at_call 48; refine (HL _).out.mono ?_; rintro e w3 ⟨rfl, hB3⟩; replace hB3 := below_undrew hB3; have HB3 : Hid (Below w.heap.size w w3) := below_next HB2.out (Nat.le_refl _) hB3; have s0 := (hB3.cell (p := ⟨N, 0, none⟩) hlt).trans y0; have s1 := (hB3.cell (p := ⟨N, 1, none⟩) hlt).trans y1; have s2 := (hB3.cell (p := ⟨N, 2, none⟩) hlt).trans y2; have s3 := (hB3.cell (p := ⟨N, 3, none⟩) hlt).trans y3; have s4 := (hB3.cell (p := ⟨N, 4, none⟩) hlt).trans y4; have s5 := (hB3.cell (p := ⟨N, 5, none⟩) hlt).trans y5; have s9 := (hB3.cell (p := ⟨g, o + 9, none⟩) hgl).trans e9; clear hB3))
    go_wp2_with fail
    go_ret2
    exact ⟨rfl, HB3.out⟩
theorem leg_in (d v a : Int) (d0 : 0 ≤ d) (d1 : d ≤ 1000000000) (v0 : 1 ≤ v) (v1 : v ≤ 64000) (a0 : 4 ≤ a) : 800 ≤ legI d v a ∧ legI d v a ≤ 20000000000000 := by
  have u := upI_in (19200 * d) v v0 (by omega)
  have e := (ediv_in v a (by omega)).1 (by omega)
  unfold legI
  omega
set_option maxHeartbeats 1000000 in
theorem leg_any (d v a : Int) (d0 : 0 ≤ d) (d1 : d ≤ 1000000000) (v0 : 1 ≤ v) (v1 : v ≤ 64000) (a0 : 4 ≤ a) (w : World) : Calls Try.prog 49 #[.int .i64 d, .int .i64 v, .int .i64 a] w fun e w' => e = .returned (.int .i64 (legI d v a)) ∧ w' = w := by
  have u := upI_in (19200 * d) v v0 (by omega)
  have e := (ediv_in v a (by omega)).1 (by omega)
  have H1 := pdown_any v a w (by unfold I64; omega) (by omega)
  have H2 := pup_any (19200 * d) v w (by unfold I64; omega) (by omega)
  unfold legI
  generalize upI (19200 * d) v = uu at u H2 ⊢
  generalize v / a = q at e H1 ⊢
  go_enter Try.func49, Try.ntmps49
  go_wp2_with fail
  refine H1.mono ?_
  rintro e w1 ⟨rfl, hw⟩
  obtain rfl := hw.symm
  go_wp2_with fail
  refine H2.mono ?_
  rintro e w1 ⟨rfl, hw⟩
  obtain rfl := hw.symm
  go_wp2_with fail
  go_ret
  exact ⟨rfl, rfl⟩
/-- what ReturnTicks answers -/
def retE (l : List Int) (h d : Int) : Int × Int := if chk l = 0 then (if (0 ≤ h ∧ h ≤ 536870912) ∧ 0 ≤ d ∧ d ≤ 536870912 then (retI l h d, 0) else (0, 1)) else (0, chk l)
theorem retE_cases (l : List Int) (h d : Int) : (chk l ≠ 0 ∧ retE l h d = (0, chk l)) ∨ (Sound l ∧ ¬ ((0 ≤ h ∧ h ≤ 536870912) ∧ 0 ≤ d ∧ d ≤ 536870912) ∧ retE l h d = (0, 1)) ∨ (Sound l ∧ ((0 ≤ h ∧ h ≤ 536870912) ∧ 0 ≤ d ∧ d ≤ 536870912) ∧ retE l h d = (retI l h d, 0)) := by
  unfold retE
  by_cases hc : chk l = 0
  · rw [if_pos hc]
    by_cases hin : (0 ≤ h ∧ h ≤ 536870912) ∧ 0 ≤ d ∧ d ≤ 536870912
    · rw [if_pos hin]; exact .inr (.inr ⟨sound_of hc, hin, rfl⟩)
    · rw [if_neg hin]; exact .inr (.inl ⟨sound_of hc, hin, rfl⟩)
  · rw [if_neg hc]; exact .inl ⟨hc, rfl⟩
theorem in_no (h : Int) (hn : ¬ (0 ≤ h ∧ h ≤ 536870912)) : (decide (0 ≤ h) && decide (h ≤ 536870912)) = false := by
  by_cases h1 : 0 ≤ h
  · simp; omega
  · simp; omega
theorem in_yes (h : Int) (hn : 0 ≤ h ∧ h ≤ 536870912) : (decide (0 ≤ h) && decide (h ≤ 536870912)) = true := by
  rw [decide_eq_true hn.1, decide_eq_true hn.2]; rfl
set_option maxHeartbeats 4000000 in
theorem returnTicks_any (l : List Int) (h d : Int) (v : Value) (w : World) (hv : Ints w v l) : Calls Try.prog 29 #[v, .int .i64 h, .int .i64 d] w fun e w' => e = .returned (.tuple #[.int .i64 (retE l h d).1, .int .i64 (retE l h d).2]) ∧ Below w.heap.size w w' := by
  have hm := check_any l v w hv
  have HW1 := fun W => hide (within_any h 0 536870912 W)
  have HW2 := fun W => hide (within_any d 0 536870912 W)
  rcases retE_cases l h d with ⟨hc, hE⟩ | ⟨hs, hin, hE⟩ | ⟨hs, hin, hE⟩
  · rw [hE]
    obtain ⟨a, cap, rfl, _⟩ := hv
    generalize chk l = c at hm hc ⊢
    generalize l.length = n at hm ⊢
    have hne : (c != 0) = true := by simp [hc]
    clear hc hE
    go_enter Try.func29, Try.ntmps29
    go_wp2_with fail
    refine hm.mono ?_
    rintro e w1 ⟨rfl, hB1⟩
    have HB1 := hide hB1
    clear hB1 hm
    go_wp2_with fail
    go_ret2
    exact ⟨rfl, HB1.out⟩
  · rw [hE]
    rw [hs.chk] at hm
    obtain ⟨a, cap, rfl, _⟩ := hv
    generalize l.length = n at hm ⊢
    by_cases h1 : 0 ≤ h ∧ h ≤ 536870912
    · rw [in_yes h h1] at HW1
      rw [in_no d (fun h2 => hin ⟨h1, h2⟩)] at HW2
      clear hE hs hin h1
      go_enter Try.func29, Try.ntmps29
      go_wp2_with fail
      refine hm.mono ?_
      rintro e w1 ⟨rfl, hB1⟩
      have HB1 := hide hB1
      clear hB1 hm
      go_wp2_with fail
      refine (HW1 _).out.mono ?_
      rintro e w2 ⟨rfl, hw2⟩
      obtain rfl := hw2.symm
      go_wp2_with fail
      refine (HW2 _).out.mono ?_
      rintro e w2 ⟨rfl, hw2⟩
      obtain rfl := hw2.symm
      go_wp2_with fail
      go_ret2
      exact ⟨rfl, HB1.out⟩
    · rw [in_no h h1] at HW1
      clear hE hs hin h1 HW2
      go_enter Try.func29, Try.ntmps29
      go_wp2_with fail
      refine hm.mono ?_
      rintro e w1 ⟨rfl, hB1⟩
      have HB1 := hide hB1
      clear hB1 hm
      go_wp2_with fail
      refine (HW1 _).out.mono ?_
      rintro e w2 ⟨rfl, hw2⟩
      obtain rfl := hw2.symm
      go_wp2_with fail
      go_ret2
      exact ⟨rfl, HB1.out⟩
  · rw [hE]
    rw [hs.chk] at hm
    rw [in_yes h hin.1] at HW1
    rw [in_yes d hin.2] at HW2
    obtain ⟨g, o, cap, rfl, hg, hcc⟩ := hv.open24 hs.len
    obtain ⟨-, -, -, -, -, -, b6, b7, b8, b9, b10, -⟩ := hs.inr.bounds
    have c6 := hcc 6 (by omega)
    have c7 := hcc 7 (by omega)
    have c8 := hcc 8 (by omega)
    have c9 := hcc 9 (by omega)
    have c10 := hcc 10 (by omega)
    unfold retI
    simp only
    generalize l.getD 6 0 = p6 at b6 c6 ⊢
    generalize l.getD 7 0 = p7 at b7 c7 ⊢
    generalize l.getD 8 0 = p8 at b8 c8 ⊢
    generalize l.getD 9 0 = p9 at b9 c9 ⊢
    generalize l.getD 10 0 = p10 at b10 c10 ⊢
    obtain ⟨mx, HMX⟩ : ∃ x, Hid ((if h < p10 then p10 else h) = x) := ⟨_, rfl⟩
    have hmx : max h p10 = mx := by rw [← HMX.out]; split <;> omega
    rw [hmx]
    have hmb : 1000 ≤ mx ∧ mx ≤ 536870912 := by have := hmx; omega
    have l1 := leg_in (mx + 1000) p8 p6 (by omega) (by omega) (by omega) (by omega) (by omega)
    have l2 := leg_in d p7 p6 (by omega) (by omega) (by omega) (by omega) (by omega)
    have L1 := fun W => hide (leg_any (mx + 1000) p8 p6 (by omega) (by omega) (by omega) (by omega) (by omega) W)
    have L2 := fun W => hide (leg_any d p7 p6 (by omega) (by omega) (by omega) (by omega) (by omega) W)
    have D1 := fun W => hide (pdown_any (p8 + p9) p6 W (by unfold I64; omega) (by omega))
    have U1 := fun W => hide (pup_any (12800 * (mx + 1000)) p9 W (by unfold I64; omega) (by omega))
    have u1 := upI_in (12800 * (mx + 1000)) p9 (by omega) (by omega)
    have q1 := (ediv_in (p8 + p9) p6 (by omega)).1 (by omega)
    generalize legI (mx + 1000) p8 p6 = x1 at l1 L1 ⊢
    generalize legI d p7 p6 = x2 at l2 L2 ⊢
    generalize upI (12800 * (mx + 1000)) p9 = x3 at u1 U1 ⊢
    generalize (p8 + p9) / p6 = x4 at q1 D1 ⊢
    clear hE hs hcc hv hmx
    go_enter Try.func29, Try.ntmps29
    go_wp2_with fail
    refine hm.mono ?_
    rintro e w1 ⟨rfl, hB1⟩
    have HB1 := hide hB1
    replace c6 := (hB1.cell (p := ⟨g, o + 6, none⟩) hg).trans c6
    replace c7 := (hB1.cell (p := ⟨g, o + 7, none⟩) hg).trans c7
    replace c8 := (hB1.cell (p := ⟨g, o + 8, none⟩) hg).trans c8
    replace c9 := (hB1.cell (p := ⟨g, o + 9, none⟩) hg).trans c9
    replace c10 := (hB1.cell (p := ⟨g, o + 10, none⟩) hg).trans c10
    clear hB1 hm
    go_wp2_with fail
    refine (HW1 _).out.mono ?_
    rintro e w2 ⟨rfl, hw2⟩
    obtain rfl := hw2.symm
    clear hw2
    go_wp2_with fail
    refine (HW2 _).out.mono ?_
    rintro e w2 ⟨rfl, hw2⟩
    obtain rfl := hw2.symm
    clear hw2 HW1 HW2
    go_wp2_with fail
    go_quiet (fail)
    rw [← drewN_cell w1 nq] at c7 c10
    have HB2 := hide (below_drewN HB1.out nq)
    generalize w1.drewN nq = w2 at c7 c10 HB2 ⊢
    clear c6 c8 c9
    have hmi := HMX.out
    go_wp2_with fail
    clear hmi
    go_quiet (first | (go_at_call_of 49 mx; exact Calls.quiet_of_same (L1 _).out) | (go_at_call_of 49 d; exact Calls.quiet_of_same (L2 _).out))
    have HB3 := hide (below_drewN HB2.out nq)
    generalize w2.drewN nq = w3 at HB3 ⊢
    clear c7 c10
    go_wp2_with fail
    refine (D1 _).out.mono ?_
    rintro e w4 ⟨rfl, hw4⟩
    obtain rfl := hw4.symm
    clear hw4
    go_wp2_with fail
    refine (U1 _).out.mono ?_
    rintro e w4 ⟨rfl, hw4⟩
    obtain rfl := hw4.symm
    clear hw4
    go_wp2_with fail
    go_ret2
    exact ⟨rfl, HB3.out⟩
/-- what Slack answers -/
def slackE (l : List Int) (h : Int) : Int × Int := if chk l = 0 then (if 1 ≤ h ∧ h ≤ 536870912 then (slackI l h, 0) else (0, 1)) else (0, chk l)
theorem slackE_cases (l : List Int) (h : Int) : (chk l ≠ 0 ∧ slackE l h = (0, chk l)) ∨ (Sound l ∧ ¬ (1 ≤ h ∧ h ≤ 536870912) ∧ slackE l h = (0, 1)) ∨ (Sound l ∧ (1 ≤ h ∧ h ≤ 536870912) ∧ slackE l h = (slackI l h, 0)) := by
  unfold slackE
  by_cases hc : chk l = 0
  · rw [if_pos hc]
    by_cases hin : 1 ≤ h ∧ h ≤ 536870912
    · rw [if_pos hin]; exact .inr (.inr ⟨sound_of hc, hin, rfl⟩)
    · rw [if_neg hin]; exact .inr (.inl ⟨sound_of hc, hin, rfl⟩)
  · rw [if_neg hc]; exact .inl ⟨hc, rfl⟩
theorem slack_in (m : Mar) (hm : MarIn m) (r : Int) (r0 : 104 ≤ r) (r1 : r ≤ 4000000000000) : 0 ≤ m.drift * r ∧ m.drift * r ≤ 136000000000000 := by
  obtain ⟨a, b, c, d⟩ := hm
  refine ⟨Int.mul_nonneg (by omega) (by omega), ?_⟩
  have := Int.mul_le_mul (a := m.drift) (b := r) (c := 34) (d := 4000000000000) (by omega) (by omega) (by omega) (by omega)
  omega
end Go.Proofs.Ytnofpcoohbmnpaa
