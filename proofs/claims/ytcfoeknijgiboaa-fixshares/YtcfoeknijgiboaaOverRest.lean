/- A whole number over one above 0, where it is not above all ints. -/
import Derived.Test.YtcfoeknijgiboaaOver
namespace Go.Proofs.Ytcfoeknijgiboaa
open Go.RowKit

set_option maxHeartbeats 16000000 in
theorem over_rest (va vb : Value) (a b : Int) (L M : Nat) (w : World) (ha : Whole w va a L) (hb : Whole w vb b M) (hL : L ≤ 1000) (hM : M ≤ 1000) (h : a < 9223372036854775807 * b) (hb0 : 0 < b) :
    Calls Try.prog 32 #[va, vb] w fun e w' => e = .returned (.int .i64 (sat (a / b))) ∧ Below w.heap.size w w' := by
  obtain ⟨s1, p1, l1, c1, rfl⟩ := whole_agg ha
  obtain ⟨s2, p2, l2, c2, rfl⟩ := whole_agg hb
  have hz : Below w.heap.size w ((w.alloc (.cells #[.bool s1, .slice p1 l1 c1] 28)).alloc (.cells #[.bool s2, .slice p2 l2 c2] 28)) := ((Below.refl _ _).alloc (Nat.le_refl _) _).alloc (by simp) _
  have ha2 := ha.below hz
  have hb2 := hb.below hz
  have HZ := hide hz
  have HO := hide (fun (W : World) (n : Int) (hn : I64 n) (h : Below ((w.alloc (.cells #[.bool s1, .slice p1 l1 c1] 28)).alloc (.cells #[.bool s2, .slice p2 l2 c2] 28)).heap.size ((w.alloc (.cells #[.bool s1, .slice p1 l1 c1] 28)).alloc (.cells #[.bool s2, .slice p2 l2 c2] 28)) W) => of_from n _ W hn h)
  have HM := hide (fun (W : World) (v : Value) (n : Int) (h : Below ((w.alloc (.cells #[.bool s1, .slice p1 l1 c1] 28)).alloc (.cells #[.bool s2, .slice p2 l2 c2] 28)).heap.size ((w.alloc (.cells #[.bool s1, .slice p1 l1 c1] 28)).alloc (.cells #[.bool s2, .slice p2 l2 c2] 28)) W) (hv : Whole W v n 3) => times_from v _ n b 3 M (3 + M) _ W hb2 h hv (by omega) (by omega) (by omega))
  have HC := hide (fun (W : World) (v : Value) (n : Int) (h : Below ((w.alloc (.cells #[.bool s1, .slice p1 l1 c1] 28)).alloc (.cells #[.bool s2, .slice p2 l2 c2] 28)).heap.size ((w.alloc (.cells #[.bool s1, .slice p1 l1 c1] 28)).alloc (.cells #[.bool s2, .slice p2 l2 c2] 28)) W) (hv : Whole W v n (3 + M)) => cmp_from _ v a n L (3 + M) _ W ha2 h hv (by omega))
  have HD := hide (fun (W : World) (v : Value) (n : Int) (h : Below ((w.alloc (.cells #[.bool s1, .slice p1 l1 c1] 28)).alloc (.cells #[.bool s2, .slice p2 l2 c2] 28)).heap.size ((w.alloc (.cells #[.bool s1, .slice p1 l1 c1] 28)).alloc (.cells #[.bool s2, .slice p2 l2 c2] 28)) W) (hv : Whole W v n (3 + M)) => cmp_back v _ n a (3 + M) L _ W ha2 h hv (by omega))
  have KA : Hid (((w.alloc (.cells #[.bool s1, .slice p1 l1 c1] 28)).alloc (.cells #[.bool s2, .slice p2 l2 c2] 28)).cell? ⟨w.heap.size, 0, none⟩ = some (.bool s1)) := by show _ = _; go_simp
  have KB : Hid (((w.alloc (.cells #[.bool s1, .slice p1 l1 c1] 28)).alloc (.cells #[.bool s2, .slice p2 l2 c2] 28)).cell? ⟨w.heap.size, 1, none⟩ = some (.slice p1 l1 c1)) := by show _ = _; go_simp
  have KC : Hid (((w.alloc (.cells #[.bool s1, .slice p1 l1 c1] 28)).alloc (.cells #[.bool s2, .slice p2 l2 c2] 28)).cell? ⟨w.heap.size + 1, 0, none⟩ = some (.bool s2)) := by show _ = _; go_simp
  have KD : Hid (((w.alloc (.cells #[.bool s1, .slice p1 l1 c1] 28)).alloc (.cells #[.bool s2, .slice p2 l2 c2] 28)).cell? ⟨w.heap.size + 1, 1, none⟩ = some (.slice p2 l2 c2)) := by show _ = _; go_simp
  have MX : Hid (I64 9223372036854775807) := by show I64 _; unfold I64; omega
  have MN : Hid (I64 (-9223372036854775808)) := by show I64 _; unfold I64; omega
  obtain ⟨x, C1⟩ : ∃ x, Hid (cmpI a (9223372036854775807 * b) = x) := ⟨_, rfl⟩
  have hx := (cmpI_in a (9223372036854775807 * b)).2.1 h
  rw [C1.out] at hx
  have dx : decide (0 ≤ x) = false := by simp; omega
  obtain ⟨y, C2⟩ : ∃ x, Hid (cmpI a (-9223372036854775808 * b) = x) := ⟨_, rfl⟩
  have hy := cmpI_in a (-9223372036854775808 * b)
  rw [C2.out] at hy
  have q3 : -9223372036854775808 * b ≤ a ↔ -9223372036854775808 ≤ a / b := (Int.le_ediv_iff_mul_le hb0).symm
  have q4 : a / b < 9223372036854775807 := Int.ediv_lt_of_lt_mul hb0 h
  obtain ⟨t, TT⟩ : ∃ t, Hid (a / b = t) := ⟨_, rfl⟩
  rw [TT.out] at q3 q4
  rw [TT.out]
  have Q := hide (And.intro hy q3)
  clear ha hb hz ha2 hb2 h hy q3
  go_enter Try.func32, Try.ntmps32
  go_wp2_with fail
  go_cut [14] (fun v wx => v = .bool false ∧ Below ((w.alloc (.cells #[.bool s1, .slice p1 l1 c1] 28)).alloc (.cells #[.bool s2, .slice p2 l2 c2] 28)).heap.size ((w.alloc (.cells #[.bool s1, .slice p1 l1 c1] 28)).alloc (.cells #[.bool s2, .slice p2 l2 c2] 28)) wx)
  case first =>
    go_region_with (first
      | (go_at_call 16; refine (HO.out _ _ MX.out (by first | exact HT.out | exact HT.out.drew | exact Below.refl _ _ | exact (Below.refl _ _).drew)).mono ?_; rintro e wa ⟨v, rfl, ht, hw⟩; obtain ⟨s3, p3, l3, c3, rfl⟩ := whole_agg hw; have HW := hide hw; have ka : wa.cell? ⟨w.heap.size, 0, none⟩ = some (.bool s1) := (ht.cell (p := ⟨w.heap.size, 0, none⟩) (by simp <;> omega)).trans KA.out; have kb : wa.cell? ⟨w.heap.size, 1, none⟩ = some (.slice p1 l1 c1) := (ht.cell (p := ⟨w.heap.size, 1, none⟩) (by simp <;> omega)).trans KB.out; have kc : wa.cell? ⟨w.heap.size + 1, 0, none⟩ = some (.bool s2) := (ht.cell (p := ⟨w.heap.size + 1, 0, none⟩) (by simp <;> omega)).trans KC.out; have kd : wa.cell? ⟨w.heap.size + 1, 1, none⟩ = some (.slice p2 l2 c2) := (ht.cell (p := ⟨w.heap.size + 1, 1, none⟩) (by simp <;> omega)).trans KD.out; have HT := hide ht; clear hw ht)
      | (go_at_call 15; refine (HM.out _ _ _ (by first | exact HT.out | exact HT.out.drew | exact Below.refl _ _ | exact (Below.refl _ _).drew) HW.out).mono ?_; rintro e wb ⟨v, rfl, ht, hw⟩; obtain ⟨s4, p4, l4, c4, rfl⟩ := whole_agg hw; have HW := hide hw; have ka : wb.cell? ⟨w.heap.size, 0, none⟩ = some (.bool s1) := (ht.cell (p := ⟨w.heap.size, 0, none⟩) (by simp <;> omega)).trans KA.out; have kb : wb.cell? ⟨w.heap.size, 1, none⟩ = some (.slice p1 l1 c1) := (ht.cell (p := ⟨w.heap.size, 1, none⟩) (by simp <;> omega)).trans KB.out; have kc : wb.cell? ⟨w.heap.size + 1, 0, none⟩ = some (.bool s2) := (ht.cell (p := ⟨w.heap.size + 1, 0, none⟩) (by simp <;> omega)).trans KC.out; have kd : wb.cell? ⟨w.heap.size + 1, 1, none⟩ = some (.slice p2 l2 c2) := (ht.cell (p := ⟨w.heap.size + 1, 1, none⟩) (by simp <;> omega)).trans KD.out; have HT := hide ht; clear hw ht)
      | (go_at_call 18; refine (HC.out _ _ _ (by first | exact HT.out | exact HT.out.drew | exact Below.refl _ _ | exact (Below.refl _ _).drew) HW.out).mono ?_; rintro e wd ⟨rfl, ht⟩; rw [C1.out]; have HT := hide ht; clear ht))
    all_goals
      go_wp2_with fail
      go_meet
      exact ⟨rfl, HT.out⟩
  case rest =>
    obtain ⟨rfl, hT⟩ := hcut
    have ka : wc.cell? ⟨w.heap.size, 0, none⟩ = some (.bool s1) := (hT.cell (p := ⟨w.heap.size, 0, none⟩) (by simp <;> omega)).trans KA.out
    have kb : wc.cell? ⟨w.heap.size, 1, none⟩ = some (.slice p1 l1 c1) := (hT.cell (p := ⟨w.heap.size, 1, none⟩) (by simp <;> omega)).trans KB.out
    have kc : wc.cell? ⟨w.heap.size + 1, 0, none⟩ = some (.bool s2) := (hT.cell (p := ⟨w.heap.size + 1, 0, none⟩) (by simp <;> omega)).trans KC.out
    have kd : wc.cell? ⟨w.heap.size + 1, 1, none⟩ = some (.slice p2 l2 c2) := (hT.cell (p := ⟨w.heap.size + 1, 1, none⟩) (by simp <;> omega)).trans KD.out
    have HT := hide hT
    clear hT dx hx
    go_wp2_with fail
    go_cut [20] (fun v wx => v = .bool (decide (y < 0)) ∧ Below ((w.alloc (.cells #[.bool s1, .slice p1 l1 c1] 28)).alloc (.cells #[.bool s2, .slice p2 l2 c2] 28)).heap.size ((w.alloc (.cells #[.bool s1, .slice p1 l1 c1] 28)).alloc (.cells #[.bool s2, .slice p2 l2 c2] 28)) wx)
    case first =>
      go_region_with (first
        | (go_at_call 16; refine (HO.out _ _ MN.out (by first | exact HT.out | exact HT.out.drew | exact Below.refl _ _ | exact (Below.refl _ _).drew)).mono ?_; rintro e wa ⟨v, rfl, ht, hw⟩; obtain ⟨s3, p3, l3, c3, rfl⟩ := whole_agg hw; have HW := hide hw; have ka : wa.cell? ⟨w.heap.size, 0, none⟩ = some (.bool s1) := (ht.cell (p := ⟨w.heap.size, 0, none⟩) (by simp <;> omega)).trans KA.out; have kb : wa.cell? ⟨w.heap.size, 1, none⟩ = some (.slice p1 l1 c1) := (ht.cell (p := ⟨w.heap.size, 1, none⟩) (by simp <;> omega)).trans KB.out; have kc : wa.cell? ⟨w.heap.size + 1, 0, none⟩ = some (.bool s2) := (ht.cell (p := ⟨w.heap.size + 1, 0, none⟩) (by simp <;> omega)).trans KC.out; have kd : wa.cell? ⟨w.heap.size + 1, 1, none⟩ = some (.slice p2 l2 c2) := (ht.cell (p := ⟨w.heap.size + 1, 1, none⟩) (by simp <;> omega)).trans KD.out; have HT := hide ht; clear hw ht)
        | (go_at_call 15; refine (HM.out _ _ _ (by first | exact HT.out | exact HT.out.drew | exact Below.refl _ _ | exact (Below.refl _ _).drew) HW.out).mono ?_; rintro e wb ⟨v, rfl, ht, hw⟩; obtain ⟨s4, p4, l4, c4, rfl⟩ := whole_agg hw; have HW := hide hw; have ka : wb.cell? ⟨w.heap.size, 0, none⟩ = some (.bool s1) := (ht.cell (p := ⟨w.heap.size, 0, none⟩) (by simp <;> omega)).trans KA.out; have kb : wb.cell? ⟨w.heap.size, 1, none⟩ = some (.slice p1 l1 c1) := (ht.cell (p := ⟨w.heap.size, 1, none⟩) (by simp <;> omega)).trans KB.out; have kc : wb.cell? ⟨w.heap.size + 1, 0, none⟩ = some (.bool s2) := (ht.cell (p := ⟨w.heap.size + 1, 0, none⟩) (by simp <;> omega)).trans KC.out; have kd : wb.cell? ⟨w.heap.size + 1, 1, none⟩ = some (.slice p2 l2 c2) := (ht.cell (p := ⟨w.heap.size + 1, 1, none⟩) (by simp <;> omega)).trans KD.out; have HT := hide ht; clear hw ht)
        | (go_at_call 18; refine (HC.out _ _ _ (by first | exact HT.out | exact HT.out.drew | exact Below.refl _ _ | exact (Below.refl _ _).drew) HW.out).mono ?_; rintro e wd ⟨rfl, ht⟩; rw [C2.out]; have HT := hide ht; clear ht))
      all_goals
        go_wp2_with fail
        go_meet
        exact ⟨rfl, HT.out⟩
    case rest =>
      clear HT ka kb kc kd
      obtain ⟨rfl, hT⟩ := hcut
      have ka : wc.cell? ⟨w.heap.size, 0, none⟩ = some (.bool s1) := (hT.cell (p := ⟨w.heap.size, 0, none⟩) (by simp <;> omega)).trans KA.out
      have kb : wc.cell? ⟨w.heap.size, 1, none⟩ = some (.slice p1 l1 c1) := (hT.cell (p := ⟨w.heap.size, 1, none⟩) (by simp <;> omega)).trans KB.out
      have kc : wc.cell? ⟨w.heap.size + 1, 0, none⟩ = some (.bool s2) := (hT.cell (p := ⟨w.heap.size + 1, 0, none⟩) (by simp <;> omega)).trans KC.out
      have kd : wc.cell? ⟨w.heap.size + 1, 1, none⟩ = some (.slice p2 l2 c2) := (hT.cell (p := ⟨w.heap.size + 1, 1, none⟩) (by simp <;> omega)).trans KD.out
      have HT := hide hT
      clear hT
      by_cases low : y < 0
      · have ST : Hid (sat t = -9223372036854775808) := by
          show sat t = _
          have := Q.out
          unfold sat; split <;> (try split) <;> omega
        go_wp2_with fail
        go_ret
        exact ⟨ret_int ST.out.symm, HZ.out.trans (HT.out.mono (by simp <;> omega))⟩
      · have hlow : -9223372036854775808 ≤ t := by have := Q.out; omega
        have ST : Hid (sat t = t) := by show sat t = _; unfold sat; split <;> (try split) <;> omega
        go_wp2_with fail
        go_loopw [5, 6] (fun lo hi wr => ∃ x1 x2 : Int, lo = .int .i64 x1 ∧ hi = .int .i64 x2 ∧ -9223372036854775808 ≤ x1 ∧ x2 ≤ 9223372036854775807 ∧ x1 ≤ t ∧ t ≤ x2 ∧ Below ((w.alloc (.cells #[.bool s1, .slice p1 l1 c1] 28)).alloc (.cells #[.bool s2, .slice p2 l2 c2] 28)).heap.size ((w.alloc (.cells #[.bool s1, .slice p1 l1 c1] 28)).alloc (.cells #[.bool s2, .slice p2 l2 c2] 28)) wr) (fun lo hi _ => (intOf hi - intOf lo).toNat)
        case atStart => exact ⟨_, _, rfl, rfl, by omega, by omega, by omega, by omega, HT.out⟩
        case round =>
          clear HT ka kb kc kd
          obtain ⟨x1, x2, rfl, rfl, r1, r2, r3, r4, hbel⟩ := hrel
          have HT := hide hbel
          clear hbel
          by_cases lt : x1 < x2
          · have MM := hide (fun (W : World) => ref_middle_any x1 x2 W (by unfold I64; omega) (by unfold I64; omega))
            obtain ⟨m, hm⟩ : ∃ m, (x1 + x2) / 2 = m := ⟨_, rfl⟩
            rw [hm] at MM
            have m1 : x1 ≤ m := by omega
            have m2 : m < x2 := by omega
            have UP : Hid (I64 (m + 1)) := by show I64 _; unfold I64; omega
            have q1 := cmpI_in ((m + 1) * b) a
            have q2 : (m + 1) * b ≤ a ↔ m + 1 ≤ t := by rw [← TT.out]; exact (Int.le_ediv_iff_mul_le hb0).symm
            obtain ⟨z, C3⟩ : ∃ x, Hid (cmpI ((m + 1) * b) a = x) := ⟨_, rfl⟩
            rw [C3.out] at q1
            clear hm
            by_cases up : m + 1 ≤ t
            · have zz : decide (z ≤ 0) = true := by have := q1.2.2.1 (q2.2 up); simpa using this
              clear q1 q2
              go_wp2_with fail
              refine (MM.out _).mono ?_
              rintro e wm ⟨rfl, hmb⟩
              have hbm := HT.out.trans (hmb.mono HT.out.size)
              have ka : wm.cell? ⟨w.heap.size, 0, none⟩ = some (.bool s1) := (hbm.cell (p := ⟨w.heap.size, 0, none⟩) (by simp <;> omega)).trans KA.out
              have kb : wm.cell? ⟨w.heap.size, 1, none⟩ = some (.slice p1 l1 c1) := (hbm.cell (p := ⟨w.heap.size, 1, none⟩) (by simp <;> omega)).trans KB.out
              have kc : wm.cell? ⟨w.heap.size + 1, 0, none⟩ = some (.bool s2) := (hbm.cell (p := ⟨w.heap.size + 1, 0, none⟩) (by simp <;> omega)).trans KC.out
              have kd : wm.cell? ⟨w.heap.size + 1, 1, none⟩ = some (.slice p2 l2 c2) := (hbm.cell (p := ⟨w.heap.size + 1, 1, none⟩) (by simp <;> omega)).trans KD.out
              have HT := hide hbm
              clear hbm hmb
              go_wp2_with fail
              go_region_with (first
                | (go_at_call 16; refine (HO.out _ _ UP.out (by first | exact HT.out | exact HT.out.drew | exact Below.refl _ _ | exact (Below.refl _ _).drew)).mono ?_; rintro e wa ⟨v, rfl, ht, hw⟩; obtain ⟨s3, p3, l3, c3, rfl⟩ := whole_agg hw; have HW := hide hw; have ka : wa.cell? ⟨w.heap.size, 0, none⟩ = some (.bool s1) := (ht.cell (p := ⟨w.heap.size, 0, none⟩) (by simp <;> omega)).trans KA.out; have kb : wa.cell? ⟨w.heap.size, 1, none⟩ = some (.slice p1 l1 c1) := (ht.cell (p := ⟨w.heap.size, 1, none⟩) (by simp <;> omega)).trans KB.out; have kc : wa.cell? ⟨w.heap.size + 1, 0, none⟩ = some (.bool s2) := (ht.cell (p := ⟨w.heap.size + 1, 0, none⟩) (by simp <;> omega)).trans KC.out; have kd : wa.cell? ⟨w.heap.size + 1, 1, none⟩ = some (.slice p2 l2 c2) := (ht.cell (p := ⟨w.heap.size + 1, 1, none⟩) (by simp <;> omega)).trans KD.out; have HT := hide ht; clear hw ht)
                | (go_at_call 15; refine (HM.out _ _ _ (by first | exact HT.out | exact HT.out.drew | exact Below.refl _ _ | exact (Below.refl _ _).drew) HW.out).mono ?_; rintro e wb ⟨v, rfl, ht, hw⟩; obtain ⟨s4, p4, l4, c4, rfl⟩ := whole_agg hw; have HW := hide hw; have ka : wb.cell? ⟨w.heap.size, 0, none⟩ = some (.bool s1) := (ht.cell (p := ⟨w.heap.size, 0, none⟩) (by simp <;> omega)).trans KA.out; have kb : wb.cell? ⟨w.heap.size, 1, none⟩ = some (.slice p1 l1 c1) := (ht.cell (p := ⟨w.heap.size, 1, none⟩) (by simp <;> omega)).trans KB.out; have kc : wb.cell? ⟨w.heap.size + 1, 0, none⟩ = some (.bool s2) := (ht.cell (p := ⟨w.heap.size + 1, 0, none⟩) (by simp <;> omega)).trans KC.out; have kd : wb.cell? ⟨w.heap.size + 1, 1, none⟩ = some (.slice p2 l2 c2) := (ht.cell (p := ⟨w.heap.size + 1, 1, none⟩) (by simp <;> omega)).trans KD.out; have HT := hide ht; clear hw ht)
                | (go_at_call 18; refine (HD.out _ _ _ (by first | exact HT.out | exact HT.out.drew | exact Below.refl _ _ | exact (Below.refl _ _).drew) HW.out).mono ?_; rintro e wd ⟨rfl, ht⟩; rw [C3.out]; have HT := hide ht; clear ht))
              all_goals
                go_wp2_with fail
                go_roundw
                case rel => exact ⟨m + 1, x2, rfl, rfl, by omega, by omega, by omega, by omega, HT.out⟩
                case measure => simp [intOf]; omega
            · have zz : decide (z ≤ 0) = false := by
                have : ¬ (m + 1) * b ≤ a := fun g => up (q2.1 g)
                have := q1.2.2.2.1 (by omega)
                simp; omega
              clear q1 q2
              go_wp2_with fail
              refine (MM.out _).mono ?_
              rintro e wm ⟨rfl, hmb⟩
              have hbm := HT.out.trans (hmb.mono HT.out.size)
              have ka : wm.cell? ⟨w.heap.size, 0, none⟩ = some (.bool s1) := (hbm.cell (p := ⟨w.heap.size, 0, none⟩) (by simp <;> omega)).trans KA.out
              have kb : wm.cell? ⟨w.heap.size, 1, none⟩ = some (.slice p1 l1 c1) := (hbm.cell (p := ⟨w.heap.size, 1, none⟩) (by simp <;> omega)).trans KB.out
              have kc : wm.cell? ⟨w.heap.size + 1, 0, none⟩ = some (.bool s2) := (hbm.cell (p := ⟨w.heap.size + 1, 0, none⟩) (by simp <;> omega)).trans KC.out
              have kd : wm.cell? ⟨w.heap.size + 1, 1, none⟩ = some (.slice p2 l2 c2) := (hbm.cell (p := ⟨w.heap.size + 1, 1, none⟩) (by simp <;> omega)).trans KD.out
              have HT := hide hbm
              clear hbm hmb
              go_wp2_with fail
              go_region_with (first
                | (go_at_call 16; refine (HO.out _ _ UP.out (by first | exact HT.out | exact HT.out.drew | exact Below.refl _ _ | exact (Below.refl _ _).drew)).mono ?_; rintro e wa ⟨v, rfl, ht, hw⟩; obtain ⟨s3, p3, l3, c3, rfl⟩ := whole_agg hw; have HW := hide hw; have ka : wa.cell? ⟨w.heap.size, 0, none⟩ = some (.bool s1) := (ht.cell (p := ⟨w.heap.size, 0, none⟩) (by simp <;> omega)).trans KA.out; have kb : wa.cell? ⟨w.heap.size, 1, none⟩ = some (.slice p1 l1 c1) := (ht.cell (p := ⟨w.heap.size, 1, none⟩) (by simp <;> omega)).trans KB.out; have kc : wa.cell? ⟨w.heap.size + 1, 0, none⟩ = some (.bool s2) := (ht.cell (p := ⟨w.heap.size + 1, 0, none⟩) (by simp <;> omega)).trans KC.out; have kd : wa.cell? ⟨w.heap.size + 1, 1, none⟩ = some (.slice p2 l2 c2) := (ht.cell (p := ⟨w.heap.size + 1, 1, none⟩) (by simp <;> omega)).trans KD.out; have HT := hide ht; clear hw ht)
                | (go_at_call 15; refine (HM.out _ _ _ (by first | exact HT.out | exact HT.out.drew | exact Below.refl _ _ | exact (Below.refl _ _).drew) HW.out).mono ?_; rintro e wb ⟨v, rfl, ht, hw⟩; obtain ⟨s4, p4, l4, c4, rfl⟩ := whole_agg hw; have HW := hide hw; have ka : wb.cell? ⟨w.heap.size, 0, none⟩ = some (.bool s1) := (ht.cell (p := ⟨w.heap.size, 0, none⟩) (by simp <;> omega)).trans KA.out; have kb : wb.cell? ⟨w.heap.size, 1, none⟩ = some (.slice p1 l1 c1) := (ht.cell (p := ⟨w.heap.size, 1, none⟩) (by simp <;> omega)).trans KB.out; have kc : wb.cell? ⟨w.heap.size + 1, 0, none⟩ = some (.bool s2) := (ht.cell (p := ⟨w.heap.size + 1, 0, none⟩) (by simp <;> omega)).trans KC.out; have kd : wb.cell? ⟨w.heap.size + 1, 1, none⟩ = some (.slice p2 l2 c2) := (ht.cell (p := ⟨w.heap.size + 1, 1, none⟩) (by simp <;> omega)).trans KD.out; have HT := hide ht; clear hw ht)
                | (go_at_call 18; refine (HD.out _ _ _ (by first | exact HT.out | exact HT.out.drew | exact Below.refl _ _ | exact (Below.refl _ _).drew) HW.out).mono ?_; rintro e wd ⟨rfl, ht⟩; rw [C3.out]; have HT := hide ht; clear ht))
              all_goals
                go_wp2_with fail
                go_roundw
                case rel => exact ⟨x1, m, rfl, rfl, by omega, by omega, by omega, by omega, HT.out⟩
                case measure => simp [intOf]; omega
          · have e1 : x1 = t := by omega
            have E1 := hide e1
            clear e1
            go_wp2_with fail
            go_ret
            exact ⟨ret_int (by rw [E1.out]; exact ST.out.symm), HZ.out.trans (HT.out.mono (by simp <;> omega))⟩
end Go.Proofs.Ytcfoeknijgiboaa
