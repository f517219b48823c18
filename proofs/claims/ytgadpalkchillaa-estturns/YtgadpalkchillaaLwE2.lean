/- EstTurns. -/
import Derived.Test.YtgadpalkchillaaEsT
namespace Go.Proofs.Ytgadpalkchillaa
open Go.RowKit Go.Great

set_option maxHeartbeats 2000000 in
set_option maxRecDepth 100000 in
theorem turns_no (s f : Int) (tv : Value) (w : World) (h : s < 0 ∨ 65536 ≤ s ∨ f < 0 ∨ 64 < f) : Calls Try.prog 5 #[.int .i64 s, .int .i64 f, tv] w fun e w' => e = .returned (.bool true) ∧ Below w.heap.size w w' := by
  have h1 : (decide (s < 0) || (decide (65536 ≤ s) || (decide (f < 0) || decide (64 < f)))) = true := by simpa using h
  go_enter Try.func5, Try.ntmps5
  go_wp2_with (first
    | (go_at_call 19; refine (newC_any w 5 (by decide)).mono ?_; rintro e w1 ⟨B, rfl, hB, hb1, hBw⟩)
    | (go_at_call 9; refine (awakeE _).mono ?_; rintro e w2 ⟨rfl, hb2⟩))
  all_goals go_ret
  all_goals exact ⟨rfl, below_next hb1 (Nat.le_refl _) hb2⟩
set_option maxHeartbeats 4000000 in
set_option maxRecDepth 100000 in
theorem turns_yes (s f : Int) (tv : Value) (L : List Brg) (w : World) (hs0 : 0 ≤ s) (hs1 : s < 65536) (hf0 : 0 ≤ f) (hf1 : f ≤ 64) (hL : ∀ x ∈ L, BrgOk x) (hT : Rws w tv 5 cBrg L) : Calls Try.prog 5 #[.int .i64 s, .int .i64 f, tv] w fun e w' => e = .returned (.bool true) ∧ Below w.heap.size w w' := by
  have HT := hide hT
  have HL := hide hL
  have hmax := hT.1
  unfold maxLen at hmax
  obtain ⟨_, ta, tc, rfl, _⟩ := hT
  obtain ⟨n, hn⟩ : ∃ n, Hid (L.length = n) := ⟨_, hide rfl⟩
  rw [hn.out] at hmax ⊢
  clear hL
  go_enter Try.func5, Try.ntmps5
  go_upto_region 2 with (go_at_call 19; refine (newC_any w 5 (by decide)).mono ?_; rintro e w1 ⟨B, rfl, hB, hb1, hBw⟩)
  have HB0 : Hid (Blk w1 B (cC (cN 5)) 82) := hide hB
  have Hb := hide hb1
  clear hB hb1
  go_upto_region 8 with (go_at_call 20; refine (stepC_any w1 B (cN 5) ⟨false, 0, 0⟩ ⟨true, s, f⟩ HB0.out (cN_ok (i64_lit (by decide)))).mono ?_; rintro e w2 ⟨rfl, hB2, hG2⟩)
  have HB1 := hide hB2
  replace Hb := hide (below_grown Hb.out hG2 (fun q e => by injection e with e; omega))
  have C0 : Hid (cstp ⟨false, 0, 0⟩ ⟨true, s, f⟩ (cN 5) = ⟨5, true, 0, 0, 16 * s, 16 * f⟩) := hide (by
    have e : cstp ⟨false, 0, 0⟩ ⟨true, s, f⟩ (cN 5) = cbeg ⟨true, s, f⟩ (cN 5) := rfl
    have hth : mth ⟨true, s, f⟩ = true := by simp [mth, hf0]
    have hm : moff ⟨true, s, f⟩ = f := by show imin f 65536 = f; unfold imin; split <;> omega
    rw [e]
    unfold cbeg
    rw [if_pos hth, hm]
    show (⟨5, true, 0, 0, 16 * s % 1048576, 16 * f⟩ : Co) = _
    rw [Int.emod_eq_of_lt (by omega) (by omega)])
  rw [C0.out] at HB1
  clear C0 HB0 hB2 hG2
  go_wp2_with fail
  go_loopw [9, 10] (fun vt vi wr => ∃ (i : Nat) (tr δ : Int) (t : Co), vi = .int .i64 (i : Int) ∧ vt = .int .i64 tr ∧ i ≤ n ∧ 0 ≤ tr ∧ tr < 1048576 ∧ COk t ∧ t.kn = true ∧ Off t tr δ ∧ t.b ≤ 400000 ∧ Blk wr B (cC t) 82 ∧ Below w.heap.size w wr) (fun _ v _ => n - (intOf v).toNat)
  case atStart => exact ⟨0, 16 * s, 0, ⟨5, true, 0, 0, 16 * s, 16 * f⟩, rfl, rfl, by omega, by omega, by omega, ⟨(show I64 5 from i64_lit (by decide)), z63, z63, ⟨by show 0 ≤ 16 * s; omega, by show 16 * s < 1048576; omega⟩, ⟨by show 0 ≤ 16 * f; omega, by show 16 * f ≤ 1048576; omega⟩⟩, rfl, ⟨by show (16 * s - 16 * s - 0) % 1048576 = 0; omega, by show -(16 * f) ≤ 0; omega, by show 0 ≤ 16 * f; omega⟩, by show 16 * f ≤ 400000; omega, HB1.out, Hb.out⟩
  case round =>
    clear HB1 Hb
    obtain ⟨i, tr, δ, t, rfl, rfl, hi, ht0, ht1, hok, hkn, hoff, hbd, hB, hb⟩ := hrel
    have HOK := hide hok
    have HKN := hide hkn
    have HOF := hide hoff
    have HBD := hide hbd
    have HB := hide hB
    have Hb := hide hb
    clear hok hkn hoff hbd hB hb
    by_cases hlt : i < n
    · obtain ⟨g, o, cap, x, e1, hg, hx, hcell⟩ := HT.out.get i (by rw [hn.out]; exact hlt)
      injection e1 with e1 e2 e3
      subst e1 e3
      have HXO := hide (HL.out x (List.mem_of_getElem? hx))
      have HC := hide hcell
      clear e2 hx hcell hg
      obtain ⟨x0, x1, x2, x3, x4⟩ := x
      have k0 : wr.cell? ⟨g, o + i * 5, none⟩ = some (.int .i64 x0) := HC.out wr Hb.out 0 _ rfl
      have k1 : wr.cell? ⟨g, o + i * 5 + 1, none⟩ = some (.int .i64 x1) := HC.out wr Hb.out 1 _ rfl
      have k2 : wr.cell? ⟨g, o + i * 5 + 2, none⟩ = some (.int .i64 x2) := HC.out wr Hb.out 2 _ rfl
      have k3 : wr.cell? ⟨g, o + i * 5 + 3, none⟩ = some (.bool x3) := HC.out wr Hb.out 3 _ rfl
      have k4 : wr.cell? ⟨g, o + i * 5 + 4, none⟩ = some (.bool x4) := HC.out wr Hb.out 4 _ rfl
      have hlB := HB.out.lt
      go_upto_region 12 with fail
      have HX := hide (Blk.new wr #[.int .i64 x0, .int .i64 x1, .int .i64 x2, .bool x3, .bool x4] 62)
      replace HB := hide (HB.out.alloc (.cells #[.int .i64 x0, .int .i64 x1, .int .i64 x2, .bool x3, .bool x4] 62))
      replace Hb := hide (below_next Hb.out (Nat.le_refl _) (below_alloc wr (.cells #[.int .i64 x0, .int .i64 x1, .int .i64 x2, .bool x3, .bool x4] 62)))
      clear k0 k1 k2 k3 k4 HC
      generalize wr.heap.size = d at *
      generalize wr.alloc (.cells #[.int .i64 x0, .int .i64 x1, .int .i64 x2, .bool x3, .bool x4] 62) = W1 at *
      have k0 : W1.cell? ⟨d, 0, none⟩ = some (.int .i64 x0) := HX.out.cell 0 rfl
      have k1 : W1.cell? ⟨d, 1, none⟩ = some (.int .i64 x1) := HX.out.cell 1 rfl
      have k2 : W1.cell? ⟨d, 2, none⟩ = some (.int .i64 x2) := HX.out.cell 2 rfl
      have k3 : W1.cell? ⟨d, 3, none⟩ = some (.bool x3) := HX.out.cell 3 rfl
      have k4 : W1.cell? ⟨d, 4, none⟩ = some (.bool x4) := HX.out.cell 4 rfl
      by_cases hr : x0 < -4000 ∨ 4000 < x0 ∨ x1 < -f ∨ f < x1 ∨ x2 < -f ∨ f < x2
      · have hr' : (decide (x0 < -4000) || (decide (4000 < x0) || (decide (x1 < -f) || (decide (f < x1) || (decide (x2 < -f) || decide (f < x2)))))) = true := by simpa using hr
        go_wp2_with (go_at_call 9; refine (awakeE _).mono ?_; rintro e w5 ⟨rfl, hb5⟩)
        all_goals go_ret
        all_goals exact ⟨rfl, below_next Hb.out (Nat.le_refl _) hb5⟩
      · have r1 : ¬ x0 < -4000 := by omega
        have r2 : ¬ 4000 < x0 := by omega
        have r3 : ¬ x1 < -f := by omega
        have r4 : ¬ f < x1 := by omega
        have r5 : ¬ x2 < -f := by omega
        have r6 : ¬ f < x2 := by omega
        clear hr
        obtain ⟨tr', htr'⟩ : ∃ y, Hid ((tr + x0) % 1048576 = y) := ⟨_, hide rfl⟩
        have bt : 0 ≤ tr' ∧ tr' < 1048576 := by rw [← htr'.out]; omega
        obtain ⟨se, hse⟩ : ∃ y, Hid ((tr' + 8) % 1048576 = y) := ⟨_, hide rfl⟩
        have bs : 0 ≤ se ∧ se < 1048576 := by rw [← hse.out]; omega
        have R1 := hide (round_any (tr + x0))
        have R2 := hide (round_any (tr' + 8))
        rw [htr'.out] at R1
        rw [hse.out] at R2
        have SO := hide (step_off (hr := x3) (hh := x4) (ho := x2) HOF.out HBD.out HKN.out HOK.out (show -4000 ≤ x0 by omega) (show x0 ≤ 4000 by omega) (show -f ≤ x1 by omega) (show x1 ≤ f by omega) (show -f ≤ x2 by omega) (show x2 ≤ f by omega) hf1)
        rw [htr'.out, hse.out] at SO
        go_upto_region 15 with (go_at_call 21; refine (R1.out _).mono ?_; rintro e w' ⟨rfl, hw⟩; obtain rfl := hw.symm)
        go_quiet ((go_at_call 21; exact Calls.quiet_of_same (R2.out _)))
        replace HB := hide (blk_drewN HB.out nq)
        replace HX := hide (blk_drewN HX.out nq)
        replace Hb := hide (below_drewN Hb.out nq)
        clear k0 k1 k2 k3 k4 R1 R2 htr' hse
        generalize W1.drewN nq = W2 at *
        have k0 : W2.cell? ⟨d, 0, none⟩ = some (.int .i64 x0) := HX.out.cell 0 rfl
        have k1 : W2.cell? ⟨d, 1, none⟩ = some (.int .i64 x1) := HX.out.cell 1 rfl
        have k2 : W2.cell? ⟨d, 2, none⟩ = some (.int .i64 x2) := HX.out.cell 2 rfl
        have k3 : W2.cell? ⟨d, 3, none⟩ = some (.bool x3) := HX.out.cell 3 rfl
        have k4 : W2.cell? ⟨d, 4, none⟩ = some (.bool x4) := HX.out.cell 4 rfl
        go_upto_region 17 with (go_at_call 20; refine (stepC_any W2 B t ⟨x3, x0 + x1, f⟩ ⟨x4, se / 16 + x2, f + 1⟩ HB.out HOK.out).mono ?_; rintro e w3 ⟨rfl, hB3, hG3⟩)
        have O3 := hide (cstp_ok (r := ⟨x3, x0 + x1, f⟩) (m := ⟨x4, se / 16 + x2, f + 1⟩) HOK.out)
        have K3 := hide (cstp_kn (r := ⟨x3, x0 + x1, f⟩) (m := ⟨x4, se / 16 + x2, f + 1⟩) HKN.out)
        obtain ⟨t3, ht3⟩ : ∃ y, Hid (cstp ⟨x3, x0 + x1, f⟩ ⟨x4, se / 16 + x2, f + 1⟩ t = y) := ⟨_, hide rfl⟩
        rw [ht3.out] at hB3 O3 K3 SO
        have HB3 := hide hB3
        replace Hb := hide (below_grown Hb.out hG3 (fun q e => by injection e with e; omega))
        clear hB3 hG3 HB HX k0 k1 k2 k3 k4 ht3 HOF HBD HOK HKN
        go_upto_region 18 with (go_at_call 22; refine (heading_any w3 B t3 HB3.out).mono ?_; rintro e w4 ⟨rfl, k, rfl⟩)
        replace HB3 := hide (blk_drewN HB3.out k)
        replace Hb := hide (below_drewN Hb.out k)
        generalize w3.drewN k = w4 at *
        have bb := O3.out.b
        by_cases hbb : 400000 < t3.b
        · go_wp2_with (go_at_call 9; refine (awakeE _).mono ?_; rintro e w5 ⟨rfl, hb5⟩)
          all_goals go_ret
          all_goals exact ⟨rfl, below_next Hb.out (Nat.le_refl _) hb5⟩
        · obtain ⟨δ', hδ⟩ := SO.out
          have WY := hide (way_any tr' t3.h)
          rw [way_is hδ.h (by have := hδ.lo; omega) (by have := hδ.hi; omega)] at WY
          have q1 : ¬ t3.b < δ' := by have := hδ.hi; omega
          have q2 : ¬ δ' < -t3.b := by have := hδ.lo; omega
          have HD := hide hδ
          clear hδ SO
          go_wp2_with (go_at_call 23; refine (WY.out _).mono ?_; rintro e w' ⟨rfl, hw⟩; obtain rfl := hw.symm)
          go_roundw
          case rel => exact ⟨i + 1, tr', δ', t3, by go_num, rfl, by omega, bt.1, bt.2, O3.out, K3.out, HD.out, by omega, HB3.out, Hb.out⟩
          case measure => simp [intOf]; omega
    · obtain rfl : i = n := by omega
      go_wp2_with (go_at_call 9; refine (awakeE _).mono ?_; rintro e w5 ⟨rfl, hb5⟩)
      go_ret
      exact ⟨rfl, below_next Hb.out (Nat.le_refl _) hb5⟩
theorem EstTurns_walk (s f : Int) (tv : Value) (w : World) (hT : ∃ L, (∀ x ∈ L, BrgOk x) ∧ Rws w tv 5 cBrg L) : Calls Try.prog 5 #[.int .i64 s, .int .i64 f, tv] w fun e w' => e = .returned (.bool true) ∧ Below w.heap.size w w' := by
  obtain ⟨L, hL, hT⟩ := hT
  by_cases h : s < 0 ∨ 65536 ≤ s ∨ f < 0 ∨ 64 < f
  · exact turns_no s f tv w h
  · exact turns_yes s f tv L w (by omega) (by omega) (by omega) (by omega) hL hT
end Go.Proofs.Ytgadpalkchillaa
