/- VoteHolds. -/
import Derived.Test.YtmglcmhofcejiaaVoH
namespace Go.Proofs.Ytmglcmhofcejiaa
open Go.RowKit Go.Great

theorem Blk.q6 {W : World} {B : Nat} {u : Un} {t : TypeId} (h : Blk W B #[.bool (u.o 0), .int .i64 (u.x 0), .bool (u.o 1), .int .i64 (u.x 1), .bool (u.o 2), .int .i64 (u.x 2)] t) : W.cell? ⟨B, 0, none⟩ = some (.bool (u.o 0)) ∧ W.cell? ⟨B, 1, none⟩ = some (.int .i64 (u.x 0)) ∧ W.cell? ⟨B, 2, none⟩ = some (.bool (u.o 1)) ∧ W.cell? ⟨B, 3, none⟩ = some (.int .i64 (u.x 1)) ∧ W.cell? ⟨B, 4, none⟩ = some (.bool (u.o 2)) ∧ W.cell? ⟨B, 5, none⟩ = some (.int .i64 (u.x 2)) :=
  ⟨h.cell 0 rfl, h.cell 1 rfl, h.cell 2 rfl, h.cell 3 rfl, h.cell 4 rfl, h.cell 5 rfl⟩
set_option maxHeartbeats 2000000 in
set_option maxRecDepth 100000 in
theorem holds_no (s : Int) (tv : Value) (u : Un) (a b : Int) (w : World) (h1 : s < 0 ∨ 65534 < s) : Calls Try.prog 4 #[.agg #[.int .i64 s, tv], uV u, .agg #[.int .i64 a, .int .i64 b]] w fun e w' => e = .returned (.bool true) ∧ Below w.heap.size w w' := by
  obtain ⟨W0, hW0, b0, S0, _, _, hz0⟩ := three_boxes w #[.int .i64 s, tv] #[.bool (u.o 0), .int .i64 (u.x 0), .bool (u.o 1), .int .i64 (u.x 1), .bool (u.o 2), .int .i64 (u.x 2)] #[.int .i64 a, .int .i64 b] 41 38 43
  have c0 : W0.cell? ⟨w.heap.size, 0, none⟩ = some (.int .i64 s) := S0.cell 0 rfl
  have Hb := hide b0
  have HS := hide S0
  have h1' : (decide (s < 0) || decide (65534 < s)) = true := by simpa using h1
  clear b0 S0
  unfold uV
  go_enter Try.func4, Try.ntmps4
  go_wp2_with (first
      | (go_at_call 9; refine (new_no W0 s 0 (by omega)).mono ?_; rintro e w' ⟨rfl, hw'⟩; obtain rfl := hw'.symm)
      | (go_at_call 11; refine (awakeV W0).mono ?_; rintro e w1 ⟨rfl, hb⟩; have c1 : w1.cell? ⟨w.heap.size, 0, none⟩ = some (.int .i64 s) := (HS.out.after hb).cell 0 rfl; replace Hb := hide (below_next Hb.out (Nat.le_refl _) hb); clear hb))
  all_goals go_ret
  all_goals exact ⟨by simp, Hb.out⟩
set_option maxHeartbeats 2000000 in
set_option maxRecDepth 100000 in
theorem holds_yes (s : Int) (tv : Value) (L : List Un) (u : Un) (a b : Int) (w : World) (hs0 : 0 ≤ s) (hs1 : s ≤ 65534) (hT : Tks w tv L) (hu : UOk u) : Calls Try.prog 4 #[.agg #[.int .i64 s, tv], uV u, .agg #[.int .i64 a, .int .i64 b]] w fun e w' => e = .returned (.bool true) ∧ Below w.heap.size w w' := by
  obtain ⟨W0, hW0, b0, S0, U0, P0, hz0⟩ := three_boxes w #[.int .i64 s, tv] #[.bool (u.o 0), .int .i64 (u.x 0), .bool (u.o 1), .int .i64 (u.x 1), .bool (u.o 2), .int .i64 (u.x 2)] #[.int .i64 a, .int .i64 b] 41 38 43
  have c0 : W0.cell? ⟨w.heap.size, 0, none⟩ = some (.int .i64 s) := S0.cell 0 rfl
  have Hb := hide b0
  have HS := hide S0
  have HU := hide U0
  have HP := hide P0
  have HT := hide (hT.below b0)
  have hmax := hT.2.1
  unfold maxLen at hmax
  obtain ⟨_, _, ta, tc, rfl, _⟩ := hT
  obtain ⟨n, hn⟩ : ∃ n, Hid (L.length = n) := ⟨_, hide rfl⟩
  rw [hn.out] at HT HS hmax hW0 ⊢
  clear b0 S0 U0 P0
  unfold uV
  go_enter Try.func4, Try.ntmps4
  go_wp2_with (go_at_call_of 9 (Value.int IntKind.i64 s); refine (new_any W0 s 0 hs0 hs1 (by decide)).mono ?_; rintro e w1 ⟨B, rfl, hB, hb1, hBw⟩)
  have HB0 : Hid (Blk w1 B (vC (vN s 0)) 53) := hide hB
  have Hb1 := hide hb1
  clear hB hb1 c0
  go_loopw [9] (fun vi wr => ∃ (k : Nat) (t : Vt), vi = .int .i64 (k : Int) ∧ k ≤ n ∧ VOk t ∧ Blk wr B (vC t) 53 ∧ Below W0.heap.size W0 wr) (fun v _ => n - (intOf v).toNat)
  case atStart => exact ⟨0, vN s 0, rfl, by omega, vN_ok hs0 hs1 (by decide) (by decide), HB0.out, Hb1.out⟩
  case round =>
    clear HB0 Hb1
    obtain ⟨k, t, rfl, hk, hok, hB, hb⟩ := hrel
    have HOK := hide hok
    have HB := hide hB
    have Hb1 := hide hb
    have hs1 : wr.cell? ⟨w.heap.size, 1, none⟩ = some (.slice ta n tc) := (HS.out.after hb).cell 1 rfl
    clear hok hB hb
    by_cases hlt : k < n
    · obtain ⟨g, o, cap, v, e1, hg, hv, hvo, k0, k1, k2, k3, k4, k5⟩ := (HT.out.below Hb1.out).get k (by rw [hn.out]; exact hlt)
      injection e1 with e1 e2 e3
      subst e1 e3
      clear hv e2 hg
      have HVO := hide hvo
      clear hvo
      go_wp2_with (go_at_call 14; refine (step_any _ B t v HB.out HOK.out HVO.out).mono ?_; rintro e wn ⟨rfl, hB, hG⟩; replace Hb1 := hide (grown_over Hb1.out hG (fun q e => by injection e with e; omega)); replace HB := hide hB; clear hB hG)
      go_roundw
      case rel => exact ⟨k + 1, stp v t, by go_num, by omega, stp_ok HVO.out HOK.out, HB.out, Hb1.out⟩
      case measure => simp [intOf]; omega
    · obtain rfl : k = n := by omega
      go_wp2_with fail
      clear hs1
      go_loopw [10, 11] (fun vg vj wr2 => ∃ j : Nat, vj = .int .i64 (j : Int) ∧ j ≤ 3 ∧ vg = .int .i64 (gd u a b j : Int) ∧ Blk wr2 B (vC t) 53 ∧ Below W0.heap.size W0 wr2) (fun _ v _ => 3 - (intOf v).toNat)
      case atStart => exact ⟨0, rfl, by omega, rfl, HB.out, Hb1.out⟩
      case round =>
        clear HB Hb1
        obtain ⟨j, rfl, hj, rfl, hB, hb⟩ := hrel
        have hgl := gd_le u a b j
        have HB := hide hB
        have Hb2 := hide hb
        clear hB hb
        by_cases h3 : j = 3
        · subst h3
          have HG := hide (holds_math u t a b HOK.out.st0)
          obtain ⟨gg, hgg⟩ : ∃ gg, Hid (gd u a b 3 = gg) := ⟨_, hide rfl⟩
          rw [hgg.out] at hgl HG ⊢
          obtain ⟨q0, q1, q2, q3, q4, q5⟩ := (HU.out.after Hb2.out).q6
          have HPw := hide (HP.out.after Hb2.out)
          obtain ⟨ok, hok⟩ : ∃ ok, Hid (sok u t = ok) := ⟨_, hide rfl⟩
          obtain ⟨y, hy⟩ : ∃ y, Hid (sx u t = y) := ⟨_, hide rfl⟩
          rw [hok.out, hy.out] at HG
          have ST : Hid (Calls Try.prog 14 #[.pointer (some ⟨B, 0, none⟩), .agg #[.bool (u.o 0), .int .i64 (u.x 0), .bool (u.o 1), .int .i64 (u.x 1), .bool (u.o 2), .int .i64 (u.x 2)]] wr fun e w' => e = .returned (.agg #[.bool ok, .int .i64 y]) ∧ Blk w' B (vC (stp u t)) 53 ∧ wr.grownBy w' (some B)) := hide (by
            have := step_any wr B t u HB.out HOK.out hu
            rw [hok.out, hy.out] at this
            exact this)
          by_cases hg2 : (gg : Int) < 2
          · go_wp2_with (first
              | (go_at_call 14; refine ST.out.mono ?_; rintro e wn ⟨rfl, hB, hG⟩; have Hb3 := hide (grown_over Hb2.out hG (fun q e => by injection e with e; omega)); clear hB hG)
              | (go_at_call 11; refine (awakeV _).mono ?_; rintro e w5 ⟨rfl, hb5⟩))
            go_ret
            exact ⟨rfl, below_next Hb.out (Nat.le_refl _) (below_next (Hb3.out.alloc Hb3.out.size _) (Nat.le_refl _) hb5)⟩
          · obtain ⟨ho, hya, hyb⟩ := HG.out (by omega)
            subst ho
            have hwi : (decide (a ≤ y) && decide (y ≤ b)) = true := by simp [hya, hyb]
            have WI : Hid (∀ w', Calls Try.prog 16 #[.int .i64 y, .agg #[.int .i64 a, .int .i64 b]] w' fun e w'' => e = .returned (.bool true) ∧ Below w'.heap.size w' w'') := hide (fun w' => by
              have := within_fn y a b w'
              rw [hwi] at this
              exact this)
            clear hwi hya hyb HG
            have hg2' : decide ((gg : Int) < 2) = false := by simpa using hg2
            go_wp2_with (go_at_call 14; refine ST.out.mono ?_; rintro e wn ⟨rfl, hB, hG⟩; have Hb3 := hide (grown_over Hb2.out hG (fun q e => by injection e with e; omega)); replace HPw := hide (HPw.out.grown hG (fun e => by injection e with e; omega)); clear hB hG)
            have R1 := hide (Blk.new wn #[.bool true, .int .i64 y] 36)
            replace HPw := hide (HPw.out.alloc (.cells #[.bool true, .int .i64 y] 36))
            replace Hb3 := hide (Hb3.out.alloc Hb3.out.size (.cells #[.bool true, .int .i64 y] 36))
            generalize wn.heap.size = b1 at *
            generalize wn.alloc (.cells #[.bool true, .int .i64 y] 36) = W1 at *
            go_wp2_with (first
              | (go_at_call 11; refine (awakeV _).mono ?_; rintro e w5 ⟨rfl, hb5⟩; replace R1 := hide (R1.out.after hb5); replace HPw := hide (HPw.out.after hb5); replace Hb3 := hide (below_next Hb3.out (Nat.le_refl _) hb5); have r0 : w5.cell? ⟨b1, 0, none⟩ = some (.bool true) := R1.out.cell 0 rfl; have r1 : w5.cell? ⟨b1, 1, none⟩ = some (.int .i64 y) := R1.out.cell 1 rfl; have s0 : w5.cell? ⟨w.heap.size + 1 + 1, 0, none⟩ = some (.int .i64 a) := HPw.out.cell 0 rfl; have s1 : w5.cell? ⟨w.heap.size + 1 + 1, 1, none⟩ = some (.int .i64 b) := HPw.out.cell 1 rfl; clear hb5)
              | (go_at_call 16; refine (WI.out _).mono ?_; rintro e w6 ⟨rfl, hb6⟩))
            go_ret
            exact ⟨rfl, below_next Hb.out (Nat.le_refl _) (below_next Hb3.out (Nat.le_refl _) hb6)⟩
        · have UW := hide (HU.out.after Hb2.out)
          have PW := hide (HP.out.after Hb2.out)
          have HGD : Hid (gd u a b (j + 1) = gd u a b j + if (u.o j && (decide (a ≤ u.x j) && decide (u.x j ≤ b))) = true then 1 else 0) := hide rfl
          obtain ⟨gg, hgg⟩ : ∃ gg, Hid (gd u a b j = gg) := ⟨_, hide rfl⟩
          rw [hgg.out] at hgl HGD
          rw [hgg.out]
          have s0 : ∀ z : BelowW wr, z.q.cell? ⟨w.heap.size + 1 + 1, 0, none⟩ = some (.int .i64 a) := PW.out.at 0 rfl
          have s1 : ∀ z : BelowW wr, z.q.cell? ⟨w.heap.size + 1 + 1, 1, none⟩ = some (.int .i64 b) := PW.out.at 1 rfl
          have hne : Nonempty (BelowW wr) := ⟨⟨wr, Below.refl _ _⟩⟩
          obtain rfl | rfl | rfl : j = 0 ∨ j = 1 ∨ j = 2 := by omega
          · obtain ⟨wi, hwi⟩ : ∃ wi, Hid ((decide (a ≤ u.x 0) && decide (u.x 0 ≤ b)) = wi) := ⟨_, hide rfl⟩
            have WI : Hid (∀ w', Calls Try.prog 16 #[.int .i64 (u.x 0), .agg #[.int .i64 a, .int .i64 b]] w' fun e w'' => e = .returned (.bool wi) ∧ Below w'.heap.size w' w'') := hide (fun w' => by
              have := within_fn (u.x 0) a b w'
              rw [hwi.out] at this
              exact this)
            rw [hwi.out] at HGD
            have p1 : ∀ z : BelowW wr, z.q.cell? ⟨w.heap.size + 1, 1, none⟩ = some (.int .i64 (u.x 0)) := UW.out.at 1 rfl
            have p0' : ∀ z : BelowW wr, z.q.cell? ⟨w.heap.size + 1, 0, none⟩ = some (.bool (u.o 0)) := UW.out.at 0 rfl
            rcases (show u.o 0 = true ∨ u.o 0 = false by cases u.o 0 <;> simp) with ho | ho
            · have p0 : ∀ z : BelowW wr, z.q.cell? ⟨w.heap.size + 1, 0, none⟩ = some (.bool true) := by rw [← ho]; exact p0'
              rw [ho] at HGD
              clear p0' ho
              go_wp2_with fail
              refine wp_region_calm (by kernel_rfl) (by kernel_rfl) ?_
              repeat (go_big_quiet_step (first
                | (go_at_call 16; exact calm_of (WI.out _))))
              refine wpQuiet_nil ?_
              rintro _ ⟨z, rfl⟩
              go_wp2_with fail
              all_goals go_roundw
              all_goals try (case rel => exact ⟨0 + 1, by go_num, by omega, by rw [HGD.out]; first | rw [if_pos (by simpa using ‹wi = true›)]; go_num | (rw [if_neg (by simpa using ‹wi = false›)]; go_num), HB.out.after z.h, below_next Hb2.out (Nat.le_refl _) z.h⟩)
              all_goals (simp [intOf])
            · have p0 : ∀ z : BelowW wr, z.q.cell? ⟨w.heap.size + 1, 0, none⟩ = some (.bool false) := by rw [← ho]; exact p0'
              rw [ho] at HGD
              clear p0' ho
              go_wp2_with fail
              refine wp_region_calm (by kernel_rfl) (by kernel_rfl) ?_
              repeat (go_big_quiet_step (fail))
              refine wpQuiet_nil ?_
              rintro _ ⟨z, rfl⟩
              go_wp2_with fail
              go_roundw
              case rel => exact ⟨0 + 1, by go_num, by omega, by rw [HGD.out, if_neg (by simp)]; go_num, HB.out.after z.h, below_next Hb2.out (Nat.le_refl _) z.h⟩
              case measure => simp [intOf]
          · obtain ⟨wi, hwi⟩ : ∃ wi, Hid ((decide (a ≤ u.x 1) && decide (u.x 1 ≤ b)) = wi) := ⟨_, hide rfl⟩
            have WI : Hid (∀ w', Calls Try.prog 16 #[.int .i64 (u.x 1), .agg #[.int .i64 a, .int .i64 b]] w' fun e w'' => e = .returned (.bool wi) ∧ Below w'.heap.size w' w'') := hide (fun w' => by
              have := within_fn (u.x 1) a b w'
              rw [hwi.out] at this
              exact this)
            rw [hwi.out] at HGD
            have p1 : ∀ z : BelowW wr, z.q.cell? ⟨w.heap.size + 1, 3, none⟩ = some (.int .i64 (u.x 1)) := UW.out.at 3 rfl
            have p0' : ∀ z : BelowW wr, z.q.cell? ⟨w.heap.size + 1, 2, none⟩ = some (.bool (u.o 1)) := UW.out.at 2 rfl
            rcases (show u.o 1 = true ∨ u.o 1 = false by cases u.o 1 <;> simp) with ho | ho
            · have p0 : ∀ z : BelowW wr, z.q.cell? ⟨w.heap.size + 1, 2, none⟩ = some (.bool true) := by rw [← ho]; exact p0'
              rw [ho] at HGD
              clear p0' ho
              go_wp2_with fail
              refine wp_region_calm (by kernel_rfl) (by kernel_rfl) ?_
              repeat (go_big_quiet_step (first
                | (go_at_call 16; exact calm_of (WI.out _))))
              refine wpQuiet_nil ?_
              rintro _ ⟨z, rfl⟩
              go_wp2_with fail
              all_goals go_roundw
              all_goals try (case rel => exact ⟨1 + 1, by go_num, by omega, by rw [HGD.out]; first | rw [if_pos (by simpa using ‹wi = true›)]; go_num | (rw [if_neg (by simpa using ‹wi = false›)]; go_num), HB.out.after z.h, below_next Hb2.out (Nat.le_refl _) z.h⟩)
              all_goals (simp [intOf])
            · have p0 : ∀ z : BelowW wr, z.q.cell? ⟨w.heap.size + 1, 2, none⟩ = some (.bool false) := by rw [← ho]; exact p0'
              rw [ho] at HGD
              clear p0' ho
              go_wp2_with fail
              refine wp_region_calm (by kernel_rfl) (by kernel_rfl) ?_
              repeat (go_big_quiet_step (fail))
              refine wpQuiet_nil ?_
              rintro _ ⟨z, rfl⟩
              go_wp2_with fail
              go_roundw
              case rel => exact ⟨1 + 1, by go_num, by omega, by rw [HGD.out, if_neg (by simp)]; go_num, HB.out.after z.h, below_next Hb2.out (Nat.le_refl _) z.h⟩
              case measure => simp [intOf]
          · obtain ⟨wi, hwi⟩ : ∃ wi, Hid ((decide (a ≤ u.x 2) && decide (u.x 2 ≤ b)) = wi) := ⟨_, hide rfl⟩
            have WI : Hid (∀ w', Calls Try.prog 16 #[.int .i64 (u.x 2), .agg #[.int .i64 a, .int .i64 b]] w' fun e w'' => e = .returned (.bool wi) ∧ Below w'.heap.size w' w'') := hide (fun w' => by
              have := within_fn (u.x 2) a b w'
              rw [hwi.out] at this
              exact this)
            rw [hwi.out] at HGD
            have p1 : ∀ z : BelowW wr, z.q.cell? ⟨w.heap.size + 1, 5, none⟩ = some (.int .i64 (u.x 2)) := UW.out.at 5 rfl
            have p0' : ∀ z : BelowW wr, z.q.cell? ⟨w.heap.size + 1, 4, none⟩ = some (.bool (u.o 2)) := UW.out.at 4 rfl
            rcases (show u.o 2 = true ∨ u.o 2 = false by cases u.o 2 <;> simp) with ho | ho
            · have p0 : ∀ z : BelowW wr, z.q.cell? ⟨w.heap.size + 1, 4, none⟩ = some (.bool true) := by rw [← ho]; exact p0'
              rw [ho] at HGD
              clear p0' ho
              go_wp2_with fail
              refine wp_region_calm (by kernel_rfl) (by kernel_rfl) ?_
              repeat (go_big_quiet_step (first
                | (go_at_call 16; exact calm_of (WI.out _))))
              refine wpQuiet_nil ?_
              rintro _ ⟨z, rfl⟩
              go_wp2_with fail
              all_goals go_roundw
              all_goals try (case rel => exact ⟨2 + 1, by go_num, by omega, by rw [HGD.out]; first | rw [if_pos (by simpa using ‹wi = true›)]; go_num | (rw [if_neg (by simpa using ‹wi = false›)]; go_num), HB.out.after z.h, below_next Hb2.out (Nat.le_refl _) z.h⟩)
              all_goals (simp [intOf])
            · have p0 : ∀ z : BelowW wr, z.q.cell? ⟨w.heap.size + 1, 4, none⟩ = some (.bool false) := by rw [← ho]; exact p0'
              rw [ho] at HGD
              clear p0' ho
              go_wp2_with fail
              refine wp_region_calm (by kernel_rfl) (by kernel_rfl) ?_
              repeat (go_big_quiet_step (fail))
              refine wpQuiet_nil ?_
              rintro _ ⟨z, rfl⟩
              go_wp2_with fail
              go_roundw
              case rel => exact ⟨2 + 1, by go_num, by omega, by rw [HGD.out, if_neg (by simp)]; go_num, HB.out.after z.h, below_next Hb2.out (Nat.le_refl _) z.h⟩
              case measure => simp [intOf]
theorem VoteHolds_walk (v0 v1 : Value) (a b : Int) (w : World) (h0 : ∃ s tv L, v0 = .agg #[.int .i64 s, tv] ∧ I64 s ∧ Tks w tv L) (h1 : ∃ u, v1 = uV u ∧ UOk u) : Calls Try.prog 4 #[v0, v1, .agg #[.int .i64 a, .int .i64 b]] w fun e w' => e = .returned (.bool true) ∧ Below w.heap.size w w' := by
  obtain ⟨s, tv, L, rfl, _, hT⟩ := h0
  obtain ⟨u, rfl, hu⟩ := h1
  by_cases h : s < 0 ∨ 65534 < s
  · exact holds_no s tv u a b w h
  · exact holds_yes s tv L u a b w (by omega) (by omega) hT hu
end Go.Proofs.Ytmglcmhofcejiaa
