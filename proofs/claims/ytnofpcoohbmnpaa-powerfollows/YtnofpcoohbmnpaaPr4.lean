/- How long landing and returning take by the reference. -/
import Derived.Test.YtnofpcoohbmnpaaPr3
namespace Go.Proofs.Ytnofpcoohbmnpaa
open Go.RowKit Go.Great

theorem far_any (x : Int) (w : World) : Calls Try.prog 65 #[.int .i64 x] w fun e w' => e = .returned (.bool (!(decide (0 ≤ x) && decide (x ≤ 536870912)))) ∧ w' = w := by
  by_cases h1 : x < 0
  · have d1 := decide_eq_true h1
    have e : (!(decide (0 ≤ x) && decide (x ≤ 536870912))) = true := by simp; omega
    rw [e]
    clear h1 e
    go_enter Try.func65, Try.ntmps65
    go_wp2
    go_ret
    exact ⟨rfl, rfl⟩
  · have d1 := decide_eq_false h1
    by_cases h2 : 536870912 < x
    · have d2 := decide_eq_true h2
      have e : (!(decide (0 ≤ x) && decide (x ≤ 536870912))) = true := by simp; omega
      rw [e]
      clear h1 h2 e
      go_enter Try.func65, Try.ntmps65
      go_wp2
      go_ret
      exact ⟨rfl, rfl⟩
    · have d2 := decide_eq_false h2
      have e : (!(decide (0 ≤ x) && decide (x ≤ 536870912))) = false := by simp; omega
      rw [e]
      clear h1 h2 e
      go_enter Try.func65, Try.ntmps65
      go_wp2
      go_ret
      exact ⟨rfl, rfl⟩
set_option maxRecDepth 100000 in
set_option maxHeartbeats 4000000 in
theorem rlandTicks_any (l : List Int) (h : Int) (v : Value) (w : World) (hv : Ints w v l) : Calls Try.prog 51 #[v, .int .i64 h] w fun e w' => e = .returned (.tuple #[.int .i64 (landE l h).1, .int .i64 (landE l h).2]) ∧ Below w.heap.size w w' := by
  have hm := rmargins_any l v w hv
  rcases landE_cases l h with ⟨hc, hE⟩ | ⟨hs, hin, hE⟩ | ⟨hs, hin, hE⟩
  · rw [hE, marE, if_neg hc] at *
    obtain ⟨a, cap, rfl, _⟩ := hv
    generalize chk l = c at hm hc ⊢
    generalize l.length = n at hm ⊢
    have hne : (c != 0) = true := by simp [hc]
    unfold marV marZ at hm
    clear hc hE
    go_enter Try.func51, Try.ntmps51
    go_wp2_with fail
    refine hm.mono ?_
    rintro e w1 ⟨rfl, hB1⟩
    have HB1 := hide hB1
    clear hB1 hm
    go_wp2_with fail
    go_ret2
    exact ⟨rfl, HB1.out.alloc HB1.out.size _⟩
  · rw [hE]
    rw [marE, if_pos hs.chk, hs.chk] at hm
    have HW := fun W => hide (far_any h W)
    rw [in_no h hin] at HW
    obtain ⟨a, cap, rfl, _⟩ := hv
    generalize marL l = m at hm
    generalize l.length = n at hm ⊢
    obtain ⟨m0, m1, m2, m3, m4, m5⟩ := m
    unfold marV at hm
    simp only at hm ⊢
    clear hE hs hin
    go_enter Try.func51, Try.ntmps51
    go_wp2_with fail
    refine hm.mono ?_
    rintro e w1 ⟨rfl, hB1⟩
    have HB1 := hide hB1
    clear hB1 hm
    go_wp2_with fail
    refine (HW _).out.mono ?_
    rintro e w2 ⟨rfl, hw2⟩
    obtain rfl := hw2.symm
    go_wp2_with fail
    go_ret2
    exact ⟨rfl, HB1.out.alloc HB1.out.size _⟩
  · rw [hE]
    rw [marE, if_pos hs.chk, hs.chk] at hm
    have HW := fun W => hide (far_any h W)
    rw [in_yes h hin] at HW
    obtain ⟨g, o, cap, rfl, hg, hcc⟩ := hv.open24 hs.len
    have b9 := hs.inr.bounds.2.2.2.2.2.2.2.2.2.1
    have c9 := hcc 9 (by omega)
    have hmi := hs.marIn
    unfold landI
    generalize marL l = m at hm hmi ⊢
    generalize l.getD 9 0 = fall at c9 b9 ⊢
    obtain ⟨m0, m1, m2, m3, m4, m5⟩ := m
    obtain ⟨a, b, c, d⟩ := hmi
    unfold marV at hm
    simp only at hm a b c d ⊢
    have w0 := way_in m3 m0 (by omega) (by omega) (by omega) (by omega)
    have u := upI_in (h * 6400 + wayI m3 m0 + 16 * m3) (fall - m1) (by omega) (by omega)
    have e1 := (ediv_in m3 m0 (by omega)).1 (by omega)
    have HWay := fun W => hide (rway_any m3 m0 W (by omega) (by omega) (by omega) (by omega))
    have HUp := fun W => hide (rup_any (h * 6400 + wayI m3 m0 + 16 * m3) (fall - m1) W (by omega) (by omega))
    generalize wayI m3 m0 = wy at w0 u HWay HUp ⊢
    generalize upI (h * 6400 + wy + 16 * m3) (fall - m1) = uu at u HUp ⊢
    have t1 : m3.tdiv m0 = m3 / m0 := Int.tdiv_eq_ediv_of_nonneg (by omega)
    have t2 : fall.tdiv 32 = fall / 32 := Int.tdiv_eq_ediv_of_nonneg (by omega)
    have hq2 : 0 ≤ fall / 32 ∧ fall / 32 ≤ 16000 := by omega
    generalize m3 / m0 = q at e1 t1 ⊢
    generalize fall / 32 = q2 at hq2 t2 ⊢
    clear hE hs hcc hv
    go_enter Try.func51, Try.ntmps51
    go_wp2_with fail
    refine hm.mono ?_
    rintro e w1 ⟨rfl, hB1⟩
    have HB1 := hide hB1
    have d9 := (hB1.cell (p := ⟨g, o + 9, none⟩) hg).trans c9
    clear hB1 hm c9
    go_wp2_with fail
    refine (HW _).out.mono ?_
    rintro e w2 ⟨rfl, hw2⟩
    obtain rfl := hw2.symm
    clear HW hw2
    have HB2 := hide (HB1.out.alloc HB1.out.size (.cells #[.int .i64 m0, .int .i64 m1, .int .i64 m2, .int .i64 m3, .int .i64 m4, .int .i64 m5] 54))
    have HM2 : Hid (Mb (w1.alloc (.cells #[.int .i64 m0, .int .i64 m1, .int .i64 m2, .int .i64 m3, .int .i64 m4, .int .i64 m5] 54)) w1.heap.size #[.int .i64 m0, .int .i64 m1, .int .i64 m2, .int .i64 m3, .int .i64 m4, .int .i64 m5]) := heap_alloc_new _ _
    have e9 := ((below_alloc w1 (.cells #[.int .i64 m0, .int .i64 m1, .int .i64 m2, .int .i64 m3, .int .i64 m4, .int .i64 m5] 54)).cell (p := ⟨g, o + 9, none⟩) (Nat.lt_of_lt_of_le hg HB1.out.size)).trans d9
    generalize w1.alloc (.cells #[.int .i64 m0, .int .i64 m1, .int .i64 m2, .int .i64 m3, .int .i64 m4, .int .i64 m5] 54) = w2 at HB2 HM2 e9 ⊢
    generalize w1.heap.size = N at HM2 ⊢
    have y0 := HM2.out.at 0 _ rfl
    have y1 := HM2.out.at 1 _ rfl
    have y3 := HM2.out.at 3 _ rfl
    clear d9
    go_wp2_with fail
    go_quiet (first | (go_at_call 40; exact Calls.quiet_of_same (HWay _).out) | (go_at_call 39; exact Calls.quiet_of_same (HUp _).out))
    have HB3 := hide (below_drewN HB2.out nq)
    go_wp2_with fail
    go_ret2
    exact ⟨rfl, HB3.out⟩
set_option maxHeartbeats 2000000 in
theorem axis_any (l : List Int) (hs : Sound l) (d x : Int) (d0 : 0 ≤ d) (d1 : d ≤ 1000000000) (x0 : 1 ≤ x) (x1 : x ≤ 64000) (v : Value) (w : World) (hv : Ints w v l) : Calls Try.prog 66 #[v, .int .i64 d, .int .i64 x] w fun e w' => e = .returned (.int .i64 (legI d x (l.getD 6 0))) ∧ ∃ n, w' = w.drewN n := by
  obtain ⟨g, o, cap, rfl, hg, hcc⟩ := hv.open24 hs.len
  have b6 := hs.inr.bounds.2.2.2.2.2.2.1
  have c6 := hcc 6 (by omega)
  unfold legI
  generalize l.getD 6 0 = a at b6 c6 ⊢
  have u := upI_in (19200 * d) x x0 (by omega)
  have e := (ediv_in x a (by omega)).1 (by omega)
  have HU := fun W => hide (rup_any (19200 * d) x W (by omega) (by omega))
  have t1 : x.tdiv a = x / a := Int.tdiv_eq_ediv_of_nonneg (by omega)
  generalize upI (19200 * d) x = uu at u HU ⊢
  generalize x / a = q at e t1 ⊢
  clear hcc hs hv
  go_enter Try.func66, Try.ntmps66
  go_wp2_with fail
  go_quiet (first | (go_at_call 39; exact Calls.quiet_of_same (HU _).out))
  go_wp2_with fail
  go_ret
  exact ⟨rfl, _, rfl⟩
end Go.Proofs.Ytnofpcoohbmnpaa
