/- UploadSilent. -/
import Derived.Test.YtbkmalepfmggbaaUl5
namespace Go.Proofs.Ytbkmalepfmggbaa
open Go.RowKit Go.Great

/-- rows that an Item of nothing brings -/
def zR : List Int := [0, 0, 0, 0, 0]
theorem zR_is : rwL [] = zR := by decide
/-- the list behind i items -/
def siL (n now : Int) (i : Nat) : Ls := ⟨n, now, 0, List.replicate i zR⟩
theorem siL_hd (n now : Int) (i : Nat) : (siL n now i).hd = i := by unfold siL Ls.hd; simp
theorem siL_ok {n now : Int} {i : Nat} (hn : 1 ≤ n ∧ n ≤ 100) (hi : (i : Int) ≤ n) (hw : I64 now) : LOk 100 (siL n now i) :=
  ⟨⟨by show 0 ≤ n; omega, by show n ≤ 100; omega⟩, by rw [siL_hd]; exact hi, by show (0 : Int) ≤ 0 ∧ (0 : Int) ≤ 5; omega, hw, fun x hx => by rw [(List.mem_replicate.1 hx).2]; rfl⟩
theorem si_begin {n now : Int} (hn : 1 ≤ n ∧ n ≤ 100) : onS 2 100 ls0 7 [2, n] now = (siL n now 0, some (8, 2, 0)) := by
  have h2 : (encM 0 7 [2, n]).2 = 0 := by have := okM_count n (by omega); unfold okM at this; simpa using this
  rw [on_good (wh := 2) (ms := 100) (l := ls0) (now := now) rfl h2 rfl, if_pos rfl]
  show beginS 2 100 n now = _
  unfold beginS
  rw [if_neg (by omega)]
  rfl
theorem si_item {n now : Int} {i : Nat} (hn : 1 ≤ n ∧ n ≤ 100) (hi : (i : Int) + 1 < n) : onS 2 100 (siL n now i) 9 (2 :: (i : Int) :: zR) now = (siL n now (i + 1), some (8, 2, (i : Int) + 1)) := by
  have h2 : (encM 0 9 (2 :: (i : Int) :: zR)).2 = 0 := by have := okM_item i [] (by omega); rw [zR_is] at this; unfold okM at this; simpa using this
  have hr : rdB (siL n now i) = false := by
    unfold rdB; rw [siL_hd]
    show (decide (0 < n) && ((i : Int) == n)) = false
    simp; omega
  rw [on_good (wh := 2) (ms := 100) (now := now) hr h2 rfl, if_neg (by omega), if_pos rfl]
  unfold takeS
  have ht : tkB (siL n now i) = true := by unfold tkB; rw [siL_hd]; show decide ((i : Int) < n) = true; simp; omega
  have e : (siL n now i).with ((2 :: (i : Int) :: zR).drop 2) now = siL n now (i + 1) := by
    unfold siL Ls.with
    simp only [List.drop_succ_cons, List.drop_zero]
    rw [List.replicate_succ']
  rw [if_neg (by rw [ht]; simp), e]
  have hd : (2 :: (i : Int) :: zR).getD 1 0 = (siL n now i).hd := by rw [siL_hd]; rfl
  rw [if_pos hd]
  have hr2 : rdB (siL n now (i + 1)) = false := by
    unfold rdB; rw [siL_hd]
    show (decide (0 < n) && (((i + 1 : Nat) : Int) == n)) = false
    simp; omega
  rw [if_neg (by rw [hr2]; simp)]
  unfold askS
  rw [siL_hd]
  rfl
/-- the list behind the ticks below t -/
def stL (n now : Int) (rs : List (List Int)) (t : Nat) : Ls := if t ≤ 1200 then ⟨n, now + 200 * (((t - 1) / 200 : Nat) : Int), (((t - 1) / 200 : Nat) : Int), rs⟩ else ls0
theorem stL_ok {n now : Int} {rs : List (List Int)} {t : Nat} (hn : 1 ≤ n ∧ n ≤ 100) (hr : (rs.length : Int) ≤ n) (h5 : ∀ x ∈ rs, x.length = 5) (hw : -1099511627776 ≤ now ∧ now ≤ 1099511627776) : LOk 100 (stL n now rs t) := by
  unfold stL
  split
  · refine ⟨⟨by show 0 ≤ n; omega, by show n ≤ 100; omega⟩, hr, ?_, ?_, h5⟩
    · show 0 ≤ (((t - 1) / 200 : Nat) : Int) ∧ (((t - 1) / 200 : Nat) : Int) ≤ 5; omega
    · show I64 (now + 200 * (((t - 1) / 200 : Nat) : Int)); unfold I64; omega
  · exact LOk.zero (by omega)
theorem st_none {n now : Int} {rs : List (List Int)} {t : Nat} (ht : 1 ≤ t ∧ t ≤ 1200) (h : t % 200 ≠ 0) : tickS 2 (stL n now rs t) (now + t) = (stL n now rs (t + 1), none) := by
  have e : stL n now rs (t + 1) = stL n now rs t := by
    unfold stL
    rw [if_pos ht.2, if_pos (by omega)]
    have : (t + 1 - 1) / 200 = (t - 1) / 200 := by omega
    rw [this]
  rw [e]
  unfold tickS
  rw [if_pos]
  right
  unfold stL ltB
  rw [if_pos ht.2]
  show decide (200 ≤ now + (t : Int) - (now + 200 * (((t - 1) / 200 : Nat) : Int))) = false
  simp; omega
theorem st_tk {n now : Int} {rs : List (List Int)} {t : Nat} (ht : t ≤ 1200) (hr : (rs.length : Int) < n) : tkB (stL n now rs t) = true := by
  unfold tkB stL Ls.hd
  rw [if_pos ht]
  simp [hr]
theorem st_lt {n now : Int} {rs : List (List Int)} {t : Nat} (ht : 1 ≤ t ∧ t ≤ 1200) (h : t % 200 = 0) : ltB (stL n now rs t).he (now + t) = true := by
  unfold stL ltB
  rw [if_pos ht.2]
  show decide (200 ≤ now + (t : Int) - (now + 200 * (((t - 1) / 200 : Nat) : Int))) = true
  simp; omega
theorem st_ask {n now : Int} {rs : List (List Int)} {t : Nat} (ht : 1 ≤ t ∧ t < 1200) (h : t % 200 = 0) (hr : (rs.length : Int) < n) : tickS 2 (stL n now rs t) (now + t) = (stL n now rs (t + 1), some (8, 2, (rs.length : Int))) := by
  unfold tickS
  rw [if_neg (by rw [st_tk (by omega) hr, st_lt ⟨ht.1, by omega⟩ h]; simp)]
  have ha : ¬ (stL n now rs t).ag = 5 := by
    unfold stL
    rw [if_pos (by omega)]
    show ¬ (((t - 1) / 200 : Nat) : Int) = 5
    omega
  rw [if_neg ha]
  have e : (⟨(stL n now rs t).cn, now + (t : Int), (stL n now rs t).ag + 1, (stL n now rs t).rw⟩ : Ls) = stL n now rs (t + 1) := by
    unfold stL
    rw [if_pos (by omega), if_pos (by omega)]
    have h1 : (t + 1 - 1) / 200 = (t - 1) / 200 + 1 := by omega
    rw [h1]
    simp only [Ls.mk.injEq, true_and, and_true]
    refine ⟨?_, ?_⟩ <;> omega
  rw [e]
  unfold askS
  congr 3
  unfold stL Ls.hd
  rw [if_pos (by omega)]
theorem st_end {n now : Int} {rs : List (List Int)} (hr : (rs.length : Int) < n) : tickS 2 (stL n now rs 1200) (now + (1200 : Nat)) = (stL n now rs 1201, some (10, 2, 210)) := by
  unfold tickS
  rw [if_neg (by rw [st_tk (by omega) hr, st_lt (by omega) (by omega)]; simp), if_pos (by unfold stL; rw [if_pos (by omega)]; rfl)]
  rfl
theorem st_busy {n now : Int} {rs : List (List Int)} {t : Nat} (ht : t ≤ 1200) (hn : 1 ≤ n) : decide (0 < (stL n now rs t).cn) = true := by
  unfold stL
  rw [if_pos ht]
  show decide (0 < n) = true
  simp; omega
/-- how often it was asked again -/
def asK (t : Nat) : Nat := if t ≤ 1200 then (t - 1) / 200 else 5
theorem row_nil (w : World) : Calls Try.prog 24 #[.slice none 0 0] w fun e w' => ∃ G, e = .returned (.slice (some ⟨G, 0, none⟩) 5 5) ∧ Blk w' G #[.int .i64 0, .int .i64 0, .int .i64 0, .int .i64 0, .int .i64 0] 3 ∧ Below w.heap.size w w' := by
  refine (row_any [] (.slice none 0 0) w (Ints.nil w) (by simp)).mono ?_
  rintro e w1 ⟨G, h1, h2, _, h4⟩
  refine ⟨G, h1, ?_, h4⟩
  have e0 : rw0 [] = 0 := by decide
  have e1 : ∀ i, rwA [] 5 i = 0 := fun i => by unfold rwA; rw [if_neg (by simp)]
  rw [e0, e1, e1, e1, e1] at h2
  exact h2
set_option maxHeartbeats 8000000 in
set_option maxRecDepth 100000 in
theorem UploadSilent_walk (n had now : Int) (w : World) : Calls Try.prog 6 #[.int .i64 n, .int .i64 had, .int .i64 now] w fun e w' => e = .returned (.bool true) ∧ Below w.heap.size w w' := by
  have AW := hide awakeUp
  obtain ⟨q, hq⟩ : ∃ q, Hid ((decide (n < 1) || decide (100 < n) || decide (had < 0) || decide (n ≤ had) || decide (now < -1099511627776) || decide (1099511627776 < now)) = q) := ⟨_, hide rfl⟩
  go_enter Try.func6, Try.ntmps6
  go_upto_region 1 with fail
  go_cut [37] (fun v wx => v = .bool q ∧ wx = w)
  case first =>
    by_cases h1 : n < 1
    · have e : q = true := by rw [← hq.out]; simp; omega
      subst e
      clear hq
      go_wp2_with fail
      go_meet
      exact ⟨rfl, rfl⟩
    · by_cases h2 : 100 < n
      · have e : q = true := by rw [← hq.out]; simp; omega
        subst e
        clear hq
        go_wp2_with fail
        go_meet
        exact ⟨rfl, rfl⟩
      · by_cases h3 : had < 0
        · have e : q = true := by rw [← hq.out]; simp; omega
          subst e
          clear hq
          go_wp2_with fail
          go_meet
          exact ⟨rfl, rfl⟩
        · by_cases h4 : n ≤ had
          · have e : q = true := by rw [← hq.out]; simp; omega
            subst e
            clear hq
            go_wp2_with fail
            go_meet
            exact ⟨rfl, rfl⟩
          · by_cases h5 : now < -1099511627776
            · have e : q = true := by rw [← hq.out]; simp; omega
              subst e
              clear hq
              go_wp2_with fail
              go_meet
              exact ⟨rfl, rfl⟩
            · by_cases h6 : 1099511627776 < now
              · have e : q = true := by rw [← hq.out]; simp; omega
                subst e
                clear hq
                go_wp2_with fail
                go_meet
                exact ⟨rfl, rfl⟩
              · have e : q = false := by rw [← hq.out]; simp; omega
                subst e
                clear hq
                go_wp2_with fail
                go_meet
                exact ⟨rfl, rfl⟩
  case rest =>
    obtain ⟨rfl, hw⟩ := hcut
    have hw := hw.symm
    subst hw
    cases q
    · have hb : (1 ≤ n ∧ n ≤ 100) ∧ (0 ≤ had ∧ had < n) ∧ (-1099511627776 ≤ now ∧ now ≤ 1099511627776) := by
        have := hq.out
        simp at this
        omega
      obtain ⟨hn, hh, hnow⟩ := hb
      clear hq
      obtain ⟨h, rfl⟩ : ∃ h : Nat, had = (h : Int) := ⟨had.toNat, by omega⟩
      go_wp2_with fail
      refine (newD_any 2 100 (by decide) _).mono ?_
      rintro e w1 ⟨D, rfl, hD, hDw, hb⟩
      have HD := hide hD
      have HDw := hide hDw
      have Hb := hide hb
      clear hD hDw hb
      have HB1 := hide (Blk.new w1 #[.int .i64 2, .int .i64 n] 3)
      have Hbb1 := hide (below_alloc w1 (.cells #[.int .i64 2, .int .i64 n] 3))
      go_wp2_with (go_at_call 23; refine (sayL_any _ _ _ _ _).mono ?_; rintro e x1 ⟨rfl, hb⟩; have HX1 := hide (HB1.out.after hb); have Hxx1 := hide (below_next Hbb1.out (Nat.le_refl _) hb); clear hb)
      refine (on_is x1 D 2 100 ls0 _ (HD.out.after Hxx1.out) (LOk.zero (by omega)) (by omega) 7 (by omega) [2, n] _ (ints_row (l := [2, n]) HX1.out 2 2 rfl) (slice_cap (Nat.le_refl _)) (by simp) now (si_begin hn)).mono ?_
      rintro e w2 ⟨v2, ks2, rfl, hD, hA, hg⟩
      replace HD : Hid (∃ ks, Dsk w2 D 2 100 (siL n now 0) ks) := hide ⟨_, hD⟩
      replace Hb := hide (below_desk (below_next Hb.out (Nat.le_refl _) Hxx1.out) hg HDw.out)
      obtain ⟨p2, c2, rfl⟩ := hA.one
      clear hD hA hg HB1 HX1 Hbb1 Hxx1
      go_wp2_with fail
      go_loopw [9] (fun vi wx => ∃ i : Nat, vi = .int .i64 (i : Int) ∧ i ≤ h ∧ Hid (∃ ks, Dsk wx D 2 100 (siL n now i) ks) ∧ Hid (Below w.heap.size w wx)) (fun vi _ => h - (intOf vi).toNat)
      case atStart => exact ⟨0, rfl, by omega, HD, Hb⟩
      case round =>
        clear HD Hb
        obtain ⟨i, rfl, hi, HD, Hb⟩ := hrel
        by_cases hl : i < h
        · obtain ⟨ks, hD⟩ := HD.out
          have HD1 := hide hD
          clear hD HD
          go_wp2_with fail
          refine (row_nil _).mono ?_
          rintro e w3 ⟨G, rfl, hG, hb3⟩
          have HG := hide hG
          have Hb3 := hide hb3
          clear hG hb3
          go_wp2_with fail
          refine (itemL_any i 0 0 0 0 0 G 5 w3 _ HG.out).mono ?_
          rintro e w4 ⟨B, rfl, hB, _, hb4⟩
          have HB := hide hB
          have Hb4 := hide (below_next Hb3.out (Nat.le_refl _) hb4)
          clear hB hb4 HG Hb3
          go_wp2_with fail
          refine (on_is w4 D 2 100 (siL n now i) _ (HD1.out.after Hb4.out) (siL_ok hn (by omega) (by unfold I64; omega)) (by omega) 9 (by omega) (2 :: (i : Int) :: zR) _ (ints_row (l := 2 :: (i : Int) :: zR) HB.out 7 7 rfl) (slice_cap (Nat.le_refl _)) (by simp [zR]) now (si_item hn (by omega))).mono ?_
          rintro e w5 ⟨v5, ks5, rfl, hD, hA, hg⟩
          have HD5 : Hid (∃ ks, Dsk w5 D 2 100 (siL n now (i + 1)) ks) := hide ⟨_, hD⟩
          have Hb5 := hide (below_desk (below_next Hb.out (Nat.le_refl _) Hb4.out) hg HDw.out)
          obtain ⟨p5, c5, rfl⟩ := hA.one
          clear hD hA hg HB Hb4 HD1
          go_wp2_with fail
          go_roundw
          case rel => exact ⟨i + 1, by go_num, by omega, HD5, Hb5⟩
          case measure => simp [intOf]; omega
        · obtain rfl : i = h := by omega
          clear hl hi
          obtain ⟨rs, hrs⟩ : ∃ rs, Hid (List.replicate i zR = rs) := ⟨_, hide rfl⟩
          have hrl : (rs.length : Int) = (i : Int) := by rw [← hrs.out]; simp
          have HRL := hide hrl
          have hr5 : ∀ x ∈ rs, x.length = 5 := by rw [← hrs.out]; intro x hx; rw [(List.mem_replicate.1 hx).2]; rfl
          have HOK : Hid (∀ t, LOk 100 (stL n now rs t)) := hide (fun t => stL_ok hn (by omega) hr5 hnow)
          have HN0 := hide (fun t (h1 : 1 ≤ t ∧ t ≤ 1200) (h2 : t % 200 ≠ 0) => st_none (n := n) (now := now) (rs := rs) h1 h2)
          have HNA := hide (fun t (h1 : 1 ≤ t ∧ t < 1200) (h2 : t % 200 = 0) => st_ask (n := n) (now := now) (rs := rs) h1 h2 (by omega))
          have HNE := hide (st_end (n := n) (now := now) (rs := rs) (by omega))
          have HBU := hide (fun t (h1 : t ≤ 1200) => st_busy (n := n) (now := now) (rs := rs) h1 hn.1)
          have HD1 : Hid (∃ ks, Dsk wr D 2 100 (stL n now rs 1) ks) := hide (by
            obtain ⟨ks, h⟩ := HD.out
            refine ⟨ks, ?_⟩
            have e : stL n now rs 1 = siL n now i := by
              unfold stL siL
              rw [if_pos (by omega), hrs.out]
              simp
            rw [e]; exact h)
          clear hrl hr5 hrs HD
          go_wp2_with fail
          go_loopw [10, 11] (fun va vt wx => ∃ t : Nat, va = .int .i64 ((asK t : Nat) : Int) ∧ vt = .int .i64 (t : Int) ∧ 1 ≤ t ∧ t ≤ 1201 ∧ Hid (∃ ks, Dsk wx D 2 100 (stL n now rs t) ks) ∧ Hid (Below w.heap.size w wx)) (fun _ vt _ => 1201 - (intOf vt).toNat)
          case atStart => exact ⟨1, rfl, rfl, by omega, by omega, HD1, Hb⟩
          case round =>
            clear HD1 Hb
            obtain ⟨t, rfl, rfl, ht1, ht2, HD, Hb⟩ := hrel
            obtain ⟨ks, hD⟩ := HD.out
            have HD1 := hide hD
            clear hD HD
            obtain ⟨a, ha⟩ : ∃ a : Nat, Hid (asK t = a) := ⟨_, hide rfl⟩
            rw [ha.out]
            by_cases hl : t ≤ 1200
            · have hti : (1 : Int) ≤ (t : Int) ∧ (t : Int) ≤ 1200 := by omega
              by_cases hm : t % 200 = 0
              · have hmi : (t : Int) % 200 = 0 := by omega
                have hmb : ((t : Int) % 200 != 0) = false := by simp [hmi]
                clear hmi
                by_cases hlt : t < 1200
                · have TI := hide (tick_is wr D 2 100 _ ks HD1.out (HOK.out t) (now + t) (by unfold I64; omega) (HNA.out t ⟨ht1, hlt⟩ hm))
                  rw [HRL.out] at TI
                  have ha2 : Hid (asK (t + 1) = a + 1) := hide (by rw [← ha.out]; unfold asK; rw [if_pos (by omega), if_pos hl]; omega)
                  have ha5 : a ≤ 5 := by rw [← ha.out]; unfold asK; rw [if_pos hl]; omega
                  clear hm
                  go_wp2_with fail
                  refine TI.out.mono ?_
                  rintro e w5 ⟨v5, ks5, rfl, hD, hA, hg⟩
                  have HD5 := hide hD
                  have Hb5 := hide (below_desk Hb.out hg HDw.out)
                  have HA5 := hide hA
                  obtain ⟨p5, c5, rfl⟩ := hA.one
                  clear hD hA hg TI
                  have HB6 := hide (Blk.new w5 #[.int .i64 2, .int .i64 (i : Int)] 3)
                  have Hbb6 := hide (below_alloc w5 (.cells #[.int .i64 2, .int .i64 (i : Int)] 3))
                  go_wp2_with (go_at_call 23; refine (sayL_any _ _ _ _ _).mono ?_; rintro e x6 ⟨rfl, hb⟩; have HX6 := hide (HB6.out.after hb); have Hxx6 := hide (below_next Hbb6.out (Nat.le_refl _) hb); clear hb)
                  refine (told_true 8 2 (i : Int) _ _ x6 _ (HA5.out.below Hxx6.out) (ints_row (l := [2, (i : Int)]) HX6.out 2 2 rfl)).mono ?_
                  rintro e w7 ⟨rfl, hb7⟩
                  have hb7 := below_next Hxx6.out (Nat.le_refl _) hb7
                  have HD7 : Hid (∃ ks, Dsk w7 D 2 100 (stL n now rs (t + 1)) ks) := hide ⟨_, HD5.out.after hb7⟩
                  have Hb7 := hide (below_next Hb5.out (Nat.le_refl _) hb7)
                  clear hb7 HB6 HX6 Hbb6 Hxx6 HA5 HD5 Hb5
                  go_wp2_with fail
                  go_roundw
                  case rel => exact ⟨t + 1, by rw [ha2.out]; go_num, by go_num, by omega, by omega, HD7, Hb7⟩
                  case measure => simp [intOf]; omega
                · have et : t = 1200 := by omega
                  have TI := hide (tick_is wr D 2 100 _ ks HD1.out (HOK.out t) (now + t) (by unfold I64; omega) (l' := stL n now rs (t + 1)) (a := some (10, 2, 210)) (by rw [et]; exact HNE.out))
                  have ha2 : Hid (asK (t + 1) = a) := hide (by rw [← ha.out, et]; rfl)
                  clear et hm
                  go_wp2_with fail
                  refine TI.out.mono ?_
                  rintro e w5 ⟨v5, ks5, rfl, hD, hA, hg⟩
                  have HD5 := hide hD
                  have Hb5 := hide (below_desk Hb.out hg HDw.out)
                  have HA5 := hide hA
                  obtain ⟨p5, c5, rfl⟩ := hA.one
                  clear hD hA hg TI
                  have HB6 := hide (Blk.new w5 #[.int .i64 2, .int .i64 210] 3)
                  have Hbb6 := hide (below_alloc w5 (.cells #[.int .i64 2, .int .i64 210] 3))
                  go_wp2_with (go_at_call 23; refine (sayL_any _ _ _ _ _).mono ?_; rintro e x6 ⟨rfl, hb⟩; have HX6 := hide (HB6.out.after hb); have Hxx6 := hide (below_next Hbb6.out (Nat.le_refl _) hb); clear hb)
                  refine (told_true 10 2 210 _ _ x6 _ (HA5.out.below Hxx6.out) (ints_row (l := [2, 210]) HX6.out 2 2 rfl)).mono ?_
                  rintro e w7 ⟨rfl, hb7⟩
                  have hb7 := below_next Hxx6.out (Nat.le_refl _) hb7
                  have HD7 : Hid (∃ ks, Dsk w7 D 2 100 (stL n now rs (t + 1)) ks) := hide ⟨_, HD5.out.after hb7⟩
                  have Hb7 := hide (below_next Hb5.out (Nat.le_refl _) hb7)
                  clear hb7 HB6 HX6 Hbb6 Hxx6 HA5 HD5 Hb5
                  go_wp2_with fail
                  go_roundw
                  case rel => exact ⟨t + 1, by rw [ha2.out], by go_num, by omega, by omega, HD7, Hb7⟩
                  case measure => simp [intOf]; omega
              · have hmi : ¬ (t : Int) % 200 = 0 := by omega
                have hmb : ((t : Int) % 200 != 0) = true := by simp [hmi]
                have TI := hide (tick_is wr D 2 100 _ ks HD1.out (HOK.out t) (now + t) (by unfold I64; omega) (HN0.out t ⟨ht1, hl⟩ hm))
                have hBu : decide (0 < (stL n now rs (t + 1)).cn) = true := HBU.out (t + 1) (by omega)
                have ha2 : Hid (asK (t + 1) = a) := hide (by rw [← ha.out]; unfold asK; rw [if_pos (by omega), if_pos hl]; omega)
                have BU : Hid (∀ W ks, Dsk W D 2 100 (stL n now rs (t + 1)) ks → Calls Try.prog 13 #[dP D] W fun e w' => e = .returned (.bool true) ∧ w' = W) := hide (fun W ks h => by
                  have := busy_any W D 2 100 _ ks h
                  rw [hBu] at this
                  exact this)
                clear hmi hm hBu
                go_wp2_with fail
                refine TI.out.mono ?_
                rintro e w5 ⟨v5, ks5, rfl, hD, hA, hg⟩
                have HD5 := hide hD
                have Hb5 := hide (below_desk Hb.out hg HDw.out)
                obtain rfl := hA.zero
                clear hD hA hg TI
                go_wp2_with (go_at_call 13; refine (BU.out _ _ HD5.out).mono ?_; rintro e x ⟨rfl, hx⟩; obtain rfl := hx.symm)
                go_roundw
                case rel => exact ⟨t + 1, by rw [ha2.out], by go_num, by omega, by omega, hide ⟨_, HD5.out⟩, Hb5⟩
                case measure => simp [intOf]; omega
            · have et : t = 1201 := by omega
              have ea : asK t = 5 := by rw [et]; rfl
              have HD2 : Hid (Dsk wr D 2 100 ls0 ks) := hide (by have := HD1.out; rw [et] at this; exact this)
              rw [← ha.out, ea]
              clear ha ea et HD1
              go_wp2_with fail
              refine (ready_is wr D 2 100 ls0 _ HD2.out (LOk.zero (by omega)) (by omega) (b := false) (L := []) rfl rfl).mono ?_
              rintro e w6 ⟨v6, rfl, hO, hb6⟩
              obtain ⟨va6, vc6, rfl⟩ := hO.shape
              have HD6 := hide (HD2.out.after hb6)
              have Hb6 := hide (below_next Hb.out (Nat.le_refl _) hb6)
              clear hO hb6
              go_wp2_with fail
              refine (AW.out _).mono ?_
              rintro e w7 ⟨rfl, hb7⟩
              have HD7 := hide (HD6.out.after hb7)
              have Hb7 := hide (below_next Hb6.out (Nat.le_refl _) hb7)
              have BU := hide (busy_any w7 D 2 100 ls0 _ HD7.out)
              clear hb7
              go_wp2_with (go_at_call 13; refine BU.out.mono ?_; rintro e x ⟨rfl, hx⟩; obtain rfl := hx.symm)
              go_ret
              exact ⟨rfl, Hb7.out⟩
    · clear hq
      go_wp2_with (go_at_call 10; refine (AW.out _).mono ?_; rintro e w5 ⟨rfl, hb5⟩; have Hb5 := hide hb5; clear hb5)
      go_ret
      exact ⟨rfl, Hb5.out⟩
end Go.Proofs.Ytbkmalepfmggbaa
