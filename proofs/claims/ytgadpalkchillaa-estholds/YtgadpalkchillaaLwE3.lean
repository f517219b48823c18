/- EstHolds. -/
import Derived.Test.YtgadpalkchillaaEsH
import Derived.Test.YtgadpalkchillaaEsK
namespace Go.Proofs.Ytgadpalkchillaa
open Go.RowKit Go.Great

theorem i64_mid {x : Int} (h : -4611686018427387904 ≤ x) (g : x ≤ 4611686018427387904) : I64 x := by unfold I64; omega
set_option maxHeartbeats 4000000 in
set_option maxRecDepth 100000 in
theorem holds_walk (P V D EP EV : Int) (tv : Value) (L : List Tru) (w : World) (hP : I64 P) (hV : I64 V) (hD : I64 D) (hEP : I64 EP) (hEV : I64 EV) (hL : ∀ x ∈ L, TruOk x) (hT : Rws w tv 7 cTru L) : Calls Try.prog 4 #[.agg (flC P V D EP EV tv)] w fun e w' => e = .returned (.bool true) ∧ Below w.heap.size w w' := by
  have HT := hide hT
  have HL := hide hL
  have IP := hide hP
  have IV := hide hV
  have ID := hide hD
  have IEP := hide hEP
  have IEV := hide hEV
  have hmax := hT.1
  unfold maxLen at hmax
  obtain ⟨_, ta, tc, rfl, _⟩ := hT
  obtain ⟨W0, hW0⟩ : ∃ W0, w.alloc (.cells (flC P V D EP EV (.slice ta L.length tc)) 52) = W0 := ⟨_, rfl⟩
  have HF : Hid (Blk W0 w.heap.size (flC P V D EP EV (.slice ta L.length tc)) 52) := hide (by rw [← hW0]; exact Blk.new _ _ _)
  have Hb : Hid (Below w.heap.size w W0) := hide (by rw [← hW0]; exact below_alloc _ _)
  have WI : Hid (∀ wx, Below w.heap.size w wx → Calls Try.prog 18 #[.agg (flC P V D EP EV (.slice ta L.length tc))] wx (WEnd wx P V D EP EV L)) := hide (fun wx hb => withinL_any P V D EP EV _ L wx (HT.out.below hb))
  obtain ⟨n, hn⟩ : ∃ n, Hid (L.length = n) := ⟨_, hide rfl⟩
  rw [hn.out] at hmax HF WI hW0 ⊢
  clear hL hP hV hD hEP hEV
  go_enter Try.func4, Try.ntmps4
  go_upto_region 2 with (go_at_call 7; refine (newF_any W0 3 (by decide)).mono ?_; rintro e w1 ⟨B, rfl, hB, hb1, hBw⟩)
  have HB0 : Hid (Blk w1 B (fC (fN 3)) 72) := hide hB
  replace HF := hide (HF.out.after hb1)
  have hBz : w.heap.size < B := by have h1 : (w.alloc (.cells (flC P V D EP EV (.slice ta n tc)) 52)).heap.size = w.heap.size + 1 := size_alloc _ _; rw [hW0] at h1; omega
  replace Hb := hide (below_next Hb.out (Nat.le_refl _) hb1)
  clear hB hb1 hW0 hBw
  have c0 : w1.cell? ⟨w.heap.size, 0, none⟩ = some (.int .i64 P) := HF.out.cell 0 rfl
  have c1 : w1.cell? ⟨w.heap.size, 1, none⟩ = some (.int .i64 V) := HF.out.cell 1 rfl
  have c2 : w1.cell? ⟨w.heap.size, 2, none⟩ = some (.int .i64 D) := HF.out.cell 2 rfl
  have c3 : w1.cell? ⟨w.heap.size, 3, none⟩ = some (.int .i64 EP) := HF.out.cell 3 rfl
  have c4 : w1.cell? ⟨w.heap.size, 4, none⟩ = some (.int .i64 EV) := HF.out.cell 4 rfl
  have c5 : w1.cell? ⟨w.heap.size, 5, none⟩ = some (.slice ta n tc) := HF.out.cell 5 rfl
  go_upto_region 5 with fail
  refine (WI.out _ Hb.out).mono ?_
  rintro e w2 ⟨⟨ok, rfl, hok⟩, hb2⟩
  have HOK := hide hok
  replace HF := hide (HF.out.after hb2)
  replace HB0 := hide (HB0.out.after hb2)
  replace Hb := hide (below_next Hb.out (Nat.le_refl _) hb2)
  clear hok hb2 c0 c1 c2 c3 c4 c5 WI
  have c0 : w2.cell? ⟨w.heap.size, 0, none⟩ = some (.int .i64 P) := HF.out.cell 0 rfl
  have c1 : w2.cell? ⟨w.heap.size, 1, none⟩ = some (.int .i64 V) := HF.out.cell 1 rfl
  have c3 : w2.cell? ⟨w.heap.size, 3, none⟩ = some (.int .i64 EP) := HF.out.cell 3 rfl
  have c4 : w2.cell? ⟨w.heap.size, 4, none⟩ = some (.int .i64 EV) := HF.out.cell 4 rfl
  cases ok with
  | false =>
    go_wp2_with (go_at_call 9; refine (awakeE _).mono ?_; rintro e w5 ⟨rfl, hb5⟩)
    go_ret
    exact ⟨rfl, below_next Hb.out (Nat.le_refl _) hb5⟩
  | true =>
    have HI := hide (HOK.out rfl)
    clear HOK
    have d0 := HI.out.d0
    have d1 := HI.out.d1
    have ep0 := HI.out.ep0
    have ep1 := HI.out.ep1
    have ev0 := HI.out.ev0
    have ev1 := HI.out.ev1
    have hn2 : n ≤ 2000 := by rw [← hn.out]; exact HI.out.n
    go_upto_region 9 with (go_at_call 10; refine (stepF_any w2 B (fN 3) 0 0 false ⟨true, P, EP⟩ ⟨true, V, EV⟩ HB0.out (fN_ok (i64_lit (by decide))) (i64_lit (by decide)) (i64_lit (by decide)) ⟨IP.out, IEP.out⟩ ⟨IV.out, IEV.out⟩).mono ?_; rintro e w3 ⟨rfl, hB3, hG3⟩)
    have O3 := hide (fstp_ok (acc := 0) (dev := 0) (sd := false) (p := ⟨true, P, EP⟩) (v := ⟨true, V, EV⟩) (fN_ok (s := 3) (i64_lit (by decide))))
    have T3 := hide (first_in HI.out.p0 HI.out.p1 HI.out.v0 HI.out.v1 ep0 ep1 ev0 ev1 3)
    obtain ⟨t3, ht3⟩ : ∃ y, Hid (fstp 0 0 false ⟨true, P, EP⟩ ⟨true, V, EV⟩ (fN 3) = y) := ⟨_, hide rfl⟩
    rw [ht3.out] at hB3 O3 T3
    have HB3 := hide hB3
    replace HF := hide (HF.out.grown hG3 (fun e => by injection e with e; omega))
    replace Hb := hide (below_grown Hb.out hG3 (fun q e => by injection e with e; omega))
    clear hB3 hG3 HB0 c0 c1 c3 c4 ht3
    go_wp2_with fail
    go_loopw [5, 6, 7] (fun vp vv vi wr => ∃ (i : Nat) (p v : Int) (t : Fi), vi = .int .i64 (i : Int) ∧ vp = .int .i64 p ∧ vv = .int .i64 v ∧ i ≤ n ∧ FOk t ∧ Tin t p v (i : Int) ∧ Blk wr B (fC t) 72 ∧ Blk wr w.heap.size (flC P V D EP EV (.slice ta n tc)) 52 ∧ Below w.heap.size w wr) (fun _ _ v _ => n - (intOf v).toNat)
    case atStart => exact ⟨0, P, V, t3, rfl, rfl, rfl, by omega, O3.out, T3.out, HB3.out, HF.out, Hb.out⟩
    case round =>
      clear HB3 HF Hb O3 T3
      obtain ⟨i, p, v, t, rfl, rfl, rfl, hi, hok, htin, hB, hF, hb⟩ := hrel
      have bv0 : -300000000000 ≤ v := by have h1 := htin.vl; have h2 := htin.vl0; omega
      have bv1 : v ≤ 300000000000 := by have h1 := htin.vh; have h2 := htin.vh0; omega
      have bp0 : -4000000000000000 ≤ p := by have h1 := htin.pl; have h2 := htin.pl0; omega
      have bp1 : p ≤ 4000000000000000 := by have h1 := htin.ph; have h2 := htin.ph0; omega
      have HO := hide hok
      have HTI := hide htin
      have HB := hide hB
      have HF := hide hF
      have Hb := hide hb
      clear hok htin hB hF hb
      have c5 : wr.cell? ⟨w.heap.size, 5, none⟩ = some (.slice ta n tc) := HF.out.cell 5 rfl
      by_cases hlt : i < n
      · obtain ⟨g, o, cap, x, e1, hg, hx, hcell⟩ := HT.out.get i (by rw [hn.out]; exact hlt)
        injection e1 with e1 e2 e3
        subst e1 e3
        have HTX := hide (HI.out.all x (List.mem_of_getElem? hx))
        have HC := hide hcell
        clear e2 hx hcell hg
        obtain ⟨x0, x1, x2, x3, x4, x5, x6⟩ := x
        obtain ⟨y1, y2, y3, y4, y5, y6, y7, y8⟩ := HTX.out
        simp only [] at y1 y2 y3 y4 y5 y6 y7 y8
        have k0 : wr.cell? ⟨g, o + i * 7, none⟩ = some (.int .i64 x0) := HC.out wr Hb.out 0 _ rfl
        have k1 : wr.cell? ⟨g, o + i * 7 + 1, none⟩ = some (.int .i64 x1) := HC.out wr Hb.out 1 _ rfl
        have k2 : wr.cell? ⟨g, o + i * 7 + 2, none⟩ = some (.bool x2) := HC.out wr Hb.out 2 _ rfl
        have k3 : wr.cell? ⟨g, o + i * 7 + 3, none⟩ = some (.int .i64 x3) := HC.out wr Hb.out 3 _ rfl
        have k4 : wr.cell? ⟨g, o + i * 7 + 4, none⟩ = some (.int .i64 x4) := HC.out wr Hb.out 4 _ rfl
        have k5 : wr.cell? ⟨g, o + i * 7 + 5, none⟩ = some (.bool x5) := HC.out wr Hb.out 5 _ rfl
        have k6 : wr.cell? ⟨g, o + i * 7 + 6, none⟩ = some (.bool x6) := HC.out wr Hb.out 6 _ rfl
        have hlF := HF.out.lt
        have hlB := HB.out.lt
        go_upto_region 13 with fail
        have HX := hide (Blk.new wr #[.int .i64 x0, .int .i64 x1, .bool x2, .int .i64 x3, .int .i64 x4, .bool x5, .bool x6] 55)
        replace HF := hide (HF.out.alloc (.cells #[.int .i64 x0, .int .i64 x1, .bool x2, .int .i64 x3, .int .i64 x4, .bool x5, .bool x6] 55))
        replace HB := hide (HB.out.alloc (.cells #[.int .i64 x0, .int .i64 x1, .bool x2, .int .i64 x3, .int .i64 x4, .bool x5, .bool x6] 55))
        replace Hb := hide (below_next Hb.out (Nat.le_refl _) (below_alloc wr (.cells #[.int .i64 x0, .int .i64 x1, .bool x2, .int .i64 x3, .int .i64 x4, .bool x5, .bool x6] 55)))
        clear k0 k1 k2 k3 k4 k5 k6 HC c5 HTX
        generalize wr.heap.size = d at *
        generalize wr.alloc (.cells #[.int .i64 x0, .int .i64 x1, .bool x2, .int .i64 x3, .int .i64 x4, .bool x5, .bool x6] 55) = W1 at *
        cases x2 with
        | true =>
          have k0 : W1.cell? ⟨d, 0, none⟩ = some (.int .i64 x0) := HX.out.cell 0 rfl
          have k1 : W1.cell? ⟨d, 1, none⟩ = some (.int .i64 x1) := HX.out.cell 1 rfl
          have k2 : W1.cell? ⟨d, 2, none⟩ = some (.bool true) := HX.out.cell 2 rfl
          have k3 : W1.cell? ⟨d, 3, none⟩ = some (.int .i64 x3) := HX.out.cell 3 rfl
          have k4 : W1.cell? ⟨d, 4, none⟩ = some (.int .i64 x4) := HX.out.cell 4 rfl
          have k5 : W1.cell? ⟨d, 5, none⟩ = some (.bool x5) := HX.out.cell 5 rfl
          have k6 : W1.cell? ⟨d, 6, none⟩ = some (.bool x6) := HX.out.cell 6 rfl
          have c2 : W1.cell? ⟨w.heap.size, 2, none⟩ = some (.int .i64 D) := HF.out.cell 2 rfl
          have c3 : W1.cell? ⟨w.heap.size, 3, none⟩ = some (.int .i64 EP) := HF.out.cell 3 rfl
          have c4 : W1.cell? ⟨w.heap.size, 4, none⟩ = some (.int .i64 EV) := HF.out.cell 4 rfl
          go_upto_region 17 with fail
          have SI := hide (step_in (sd := true) (hp := x5) (hv := x6) HTI.out (by omega) (by omega) y1 y2 y3 y4 d1 y5 y6 y7 y8 ep0 ep1 ev0 ev1 0 p (by rw [if_pos rfl]) (by rw [if_pos rfl]))
          rw [Int.zero_add] at SI
          go_upto_region 18 with (go_at_call 10; refine (stepF_any W1 B t x0 D true ⟨x5, p + x3, EP⟩ ⟨x6, x4, EV⟩ HB.out HO.out (i64_mid (by omega) (by omega)) ID.out ⟨i64_mid (by show _ ≤ p + x3; omega) (by show p + x3 ≤ _; omega), IEP.out⟩ ⟨i64_mid (by show _ ≤ x4; omega) (by show x4 ≤ _; omega), IEV.out⟩).mono ?_; rintro e w4 ⟨rfl, hB4, hG4⟩)
          have O4 := hide (fstp_ok (acc := x0) (dev := D) (sd := true) (p := ⟨x5, p + x3, EP⟩) (v := ⟨x6, x4, EV⟩) HO.out)
          obtain ⟨t4, ht4⟩ : ∃ y, Hid (fstp x0 D true ⟨x5, p + x3, EP⟩ ⟨x6, x4, EV⟩ t = y) := ⟨_, hide rfl⟩
          rw [ht4.out] at hB4 O4 SI
          have HB4 := hide hB4
          replace HF := hide (HF.out.grown hG4 (fun e => by injection e with e; omega))
          replace HX := hide (HX.out.grown hG4 (fun e => by injection e with e; omega))
          replace Hb := hide (below_grown Hb.out hG4 (fun q e => by injection e with e; omega))
          clear hB4 hG4 HB k0 k1 k2 k3 k4 k5 k6 c2 c3 c4 ht4 HO HTI
          have AX := hide (axisF_any w4 B t4 HB4.out)
          obtain ⟨pl, hpl⟩ : ∃ y, t4.pl = y := ⟨_, rfl⟩
          obtain ⟨ph, hph⟩ : ∃ y, t4.ph = y := ⟨_, rfl⟩
          obtain ⟨vl, hvl⟩ : ∃ y, t4.vl = y := ⟨_, rfl⟩
          obtain ⟨vh, hvh⟩ : ∃ y, t4.vh = y := ⟨_, rfl⟩
          rw [hpl, hph, hvl, hvh] at AX
          obtain ⟨si, sp, sv⟩ := SI.out
          have z1 := si.pl
          have z2 := si.ph
          have z3 := si.vl
          have z4 := si.vh
          have z5 := si.pl0
          have z6 := si.ph0
          have z7 := si.vl0
          have z8 := si.vh0
          rw [hpl] at z1 z5 sp
          rw [hph] at z2 z6 sp
          rw [hvl] at z3 z7 sv
          rw [hvh] at z4 z8 sv
          have HSI := hide si
          have JP : Hid (∀ wx, Blk wx B (fC t4) 72 → Calls Try.prog 17 #[.pointer (some ⟨B, 0, none⟩)] wx fun e w' => e = .returned (.int .i64 0) ∧ w' = wx) := hide (fun wx h => by have := jumps_any wx B t4 h; rw [si.j] at this; exact this)
          have HSP := hide sp
          have HSV := hide sv
          clear si sp sv hpl hph hvl hvh SI
          go_upto_region 19 with (go_at_call 14; refine AX.out.mono ?_; rintro e w5 ⟨rfl, hb5⟩)
          have HA := hide (Blk.new w5 #[.int .i64 pl, .int .i64 ph, .int .i64 vl, .int .i64 vh] 30)
          replace HB4 := hide ((HB4.out.after hb5).alloc (.cells #[.int .i64 pl, .int .i64 ph, .int .i64 vl, .int .i64 vh] 30))
          replace HF := hide ((HF.out.after hb5).alloc (.cells #[.int .i64 pl, .int .i64 ph, .int .i64 vl, .int .i64 vh] 30))
          replace HX := hide ((HX.out.after hb5).alloc (.cells #[.int .i64 pl, .int .i64 ph, .int .i64 vl, .int .i64 vh] 30))
          replace Hb := hide (below_next (below_next Hb.out (Nat.le_refl _) hb5) (Nat.le_refl _) (below_alloc w5 (.cells #[.int .i64 pl, .int .i64 ph, .int .i64 vl, .int .i64 vh] 30)))
          clear hb5 AX
          generalize w5.heap.size = q at *
          generalize w5.alloc (.cells #[.int .i64 pl, .int .i64 ph, .int .i64 vl, .int .i64 vh] 30) = W6 at *
          have a0 : W6.cell? ⟨q, 0, none⟩ = some (.int .i64 pl) := HA.out.cell 0 rfl
          have a1 : W6.cell? ⟨q, 1, none⟩ = some (.int .i64 ph) := HA.out.cell 1 rfl
          have a2 : W6.cell? ⟨q, 2, none⟩ = some (.int .i64 vl) := HA.out.cell 2 rfl
          have a3 : W6.cell? ⟨q, 3, none⟩ = some (.int .i64 vh) := HA.out.cell 3 rfl
          have k5 : W6.cell? ⟨d, 5, none⟩ = some (.bool x5) := HX.out.cell 5 rfl
          have k6 : W6.cell? ⟨d, 6, none⟩ = some (.bool x6) := HX.out.cell 6 rfl
          have c3 : W6.cell? ⟨w.heap.size, 3, none⟩ = some (.int .i64 EP) := HF.out.cell 3 rfl
          have c4 : W6.cell? ⟨w.heap.size, 4, none⟩ = some (.int .i64 EV) := HF.out.cell 4 rfl
          have g1 : ¬ p < pl := by omega
          have g2 : ¬ ph < p := by omega
          have g3 : ¬ 0 < vl := by omega
          have g4 : ¬ vh < 0 := by omega
          go_upto_region 21 with (go_at_call 17; refine (JP.out _ HB4.out).mono ?_; rintro e w' ⟨rfl, hw⟩; obtain rfl := hw.symm)
          cases x5
          · cases x6
            · go_wp2_with fail
              go_roundw
              case rel => exact ⟨i + 1, p, 0, t4, by go_num, rfl, rfl, by omega, O4.out, (by have := HSI.out; rwa [show ((i : Int) + 1) = ((i + 1 : Nat) : Int) by omega] at this), HB4.out, HF.out, Hb.out⟩
              case measure => simp [intOf]; omega
            · have s2 : ¬ 2 * EV < vh - vl := by have := HSV.out rfl; omega
              go_wp2_with fail
              go_roundw
              case rel => exact ⟨i + 1, p, 0, t4, by go_num, rfl, rfl, by omega, O4.out, (by have := HSI.out; rwa [show ((i : Int) + 1) = ((i + 1 : Nat) : Int) by omega] at this), HB4.out, HF.out, Hb.out⟩
              case measure => simp [intOf]; omega
          · have s1 : ¬ 2 * EP < ph - pl := by have := HSP.out rfl; omega
            cases x6
            · go_wp2_with fail
              go_roundw
              case rel => exact ⟨i + 1, p, 0, t4, by go_num, rfl, rfl, by omega, O4.out, (by have := HSI.out; rwa [show ((i : Int) + 1) = ((i + 1 : Nat) : Int) by omega] at this), HB4.out, HF.out, Hb.out⟩
              case measure => simp [intOf]; omega
            · have s2 : ¬ 2 * EV < vh - vl := by have := HSV.out rfl; omega
              go_wp2_with fail
              go_roundw
              case rel => exact ⟨i + 1, p, 0, t4, by go_num, rfl, rfl, by omega, O4.out, (by have := HSI.out; rwa [show ((i : Int) + 1) = ((i + 1 : Nat) : Int) by omega] at this), HB4.out, HF.out, Hb.out⟩
              case measure => simp [intOf]; omega
        | false =>
          have k0 : W1.cell? ⟨d, 0, none⟩ = some (.int .i64 x0) := HX.out.cell 0 rfl
          have k1 : W1.cell? ⟨d, 1, none⟩ = some (.int .i64 x1) := HX.out.cell 1 rfl
          have k2 : W1.cell? ⟨d, 2, none⟩ = some (.bool false) := HX.out.cell 2 rfl
          have k3 : W1.cell? ⟨d, 3, none⟩ = some (.int .i64 x3) := HX.out.cell 3 rfl
          have k4 : W1.cell? ⟨d, 4, none⟩ = some (.int .i64 x4) := HX.out.cell 4 rfl
          have k5 : W1.cell? ⟨d, 5, none⟩ = some (.bool x5) := HX.out.cell 5 rfl
          have k6 : W1.cell? ⟨d, 6, none⟩ = some (.bool x6) := HX.out.cell 6 rfl
          have c2 : W1.cell? ⟨w.heap.size, 2, none⟩ = some (.int .i64 D) := HF.out.cell 2 rfl
          have c3 : W1.cell? ⟨w.heap.size, 3, none⟩ = some (.int .i64 EP) := HF.out.cell 3 rfl
          have c4 : W1.cell? ⟨w.heap.size, 4, none⟩ = some (.int .i64 EV) := HF.out.cell 4 rfl
          go_upto_region 17 with fail
          obtain ⟨v', hv'⟩ : ∃ y, v + x0 + x1 = y := ⟨_, rfl⟩
          rw [hv']
          obtain ⟨p', hp'⟩ : ∃ y, p + v' = y := ⟨_, rfl⟩
          rw [hp']
          have bw0 : -300010000000 ≤ v' := by omega
          have bw1 : v' ≤ 300010000000 := by omega
          have bq0 : -4001000000000000 ≤ p' := by omega
          have bq1 : p' ≤ 4001000000000000 := by omega
          have HV' := hide hv'
          have HP' := hide hp'
          clear hv' hp'
          have SI := hide (step_in (sd := false) (hp := x5) (hv := x6) HTI.out (by omega) (by omega) y1 y2 y3 y4 d1 y5 y6 y7 y8 ep0 ep1 ev0 ev1 v' p' (by rw [if_neg (by decide)]; exact HV'.out.symm) (by rw [if_neg (by decide)]; exact HP'.out.symm))
          go_upto_region 18 with (go_at_call 10; refine (stepF_any W1 B t x0 D false ⟨x5, p' + x3, EP⟩ ⟨x6, v' + x4, EV⟩ HB.out HO.out (i64_mid (by omega) (by omega)) ID.out ⟨i64_mid (by show _ ≤ p' + x3; omega) (by show p' + x3 ≤ _; omega), IEP.out⟩ ⟨i64_mid (by show _ ≤ v' + x4; omega) (by show v' + x4 ≤ _; omega), IEV.out⟩).mono ?_; rintro e w4 ⟨rfl, hB4, hG4⟩)
          have O4 := hide (fstp_ok (acc := x0) (dev := D) (sd := false) (p := ⟨x5, p' + x3, EP⟩) (v := ⟨x6, v' + x4, EV⟩) HO.out)
          obtain ⟨t4, ht4⟩ : ∃ y, Hid (fstp x0 D false ⟨x5, p' + x3, EP⟩ ⟨x6, v' + x4, EV⟩ t = y) := ⟨_, hide rfl⟩
          rw [ht4.out] at hB4 O4 SI
          have HB4 := hide hB4
          replace HF := hide (HF.out.grown hG4 (fun e => by injection e with e; omega))
          replace HX := hide (HX.out.grown hG4 (fun e => by injection e with e; omega))
          replace Hb := hide (below_grown Hb.out hG4 (fun q e => by injection e with e; omega))
          clear hB4 hG4 HB k0 k1 k2 k3 k4 k5 k6 c2 c3 c4 ht4 HO HTI
          have AX := hide (axisF_any w4 B t4 HB4.out)
          obtain ⟨pl, hpl⟩ : ∃ y, t4.pl = y := ⟨_, rfl⟩
          obtain ⟨ph, hph⟩ : ∃ y, t4.ph = y := ⟨_, rfl⟩
          obtain ⟨vl, hvl⟩ : ∃ y, t4.vl = y := ⟨_, rfl⟩
          obtain ⟨vh, hvh⟩ : ∃ y, t4.vh = y := ⟨_, rfl⟩
          rw [hpl, hph, hvl, hvh] at AX
          obtain ⟨si, sp, sv⟩ := SI.out
          have z1 := si.pl
          have z2 := si.ph
          have z3 := si.vl
          have z4 := si.vh
          have z5 := si.pl0
          have z6 := si.ph0
          have z7 := si.vl0
          have z8 := si.vh0
          rw [hpl] at z1 z5 sp
          rw [hph] at z2 z6 sp
          rw [hvl] at z3 z7 sv
          rw [hvh] at z4 z8 sv
          have HSI := hide si
          have JP : Hid (∀ wx, Blk wx B (fC t4) 72 → Calls Try.prog 17 #[.pointer (some ⟨B, 0, none⟩)] wx fun e w' => e = .returned (.int .i64 0) ∧ w' = wx) := hide (fun wx h => by have := jumps_any wx B t4 h; rw [si.j] at this; exact this)
          have HSP := hide sp
          have HSV := hide sv
          clear si sp sv hpl hph hvl hvh SI
          go_upto_region 19 with (go_at_call 14; refine AX.out.mono ?_; rintro e w5 ⟨rfl, hb5⟩)
          have HA := hide (Blk.new w5 #[.int .i64 pl, .int .i64 ph, .int .i64 vl, .int .i64 vh] 30)
          replace HB4 := hide ((HB4.out.after hb5).alloc (.cells #[.int .i64 pl, .int .i64 ph, .int .i64 vl, .int .i64 vh] 30))
          replace HF := hide ((HF.out.after hb5).alloc (.cells #[.int .i64 pl, .int .i64 ph, .int .i64 vl, .int .i64 vh] 30))
          replace HX := hide ((HX.out.after hb5).alloc (.cells #[.int .i64 pl, .int .i64 ph, .int .i64 vl, .int .i64 vh] 30))
          replace Hb := hide (below_next (below_next Hb.out (Nat.le_refl _) hb5) (Nat.le_refl _) (below_alloc w5 (.cells #[.int .i64 pl, .int .i64 ph, .int .i64 vl, .int .i64 vh] 30)))
          clear hb5 AX
          generalize w5.heap.size = q at *
          generalize w5.alloc (.cells #[.int .i64 pl, .int .i64 ph, .int .i64 vl, .int .i64 vh] 30) = W6 at *
          have a0 : W6.cell? ⟨q, 0, none⟩ = some (.int .i64 pl) := HA.out.cell 0 rfl
          have a1 : W6.cell? ⟨q, 1, none⟩ = some (.int .i64 ph) := HA.out.cell 1 rfl
          have a2 : W6.cell? ⟨q, 2, none⟩ = some (.int .i64 vl) := HA.out.cell 2 rfl
          have a3 : W6.cell? ⟨q, 3, none⟩ = some (.int .i64 vh) := HA.out.cell 3 rfl
          have k5 : W6.cell? ⟨d, 5, none⟩ = some (.bool x5) := HX.out.cell 5 rfl
          have k6 : W6.cell? ⟨d, 6, none⟩ = some (.bool x6) := HX.out.cell 6 rfl
          have c3 : W6.cell? ⟨w.heap.size, 3, none⟩ = some (.int .i64 EP) := HF.out.cell 3 rfl
          have c4 : W6.cell? ⟨w.heap.size, 4, none⟩ = some (.int .i64 EV) := HF.out.cell 4 rfl
          have g1 : ¬ p' < pl := by omega
          have g2 : ¬ ph < p' := by omega
          have g3 : ¬ v' < vl := by omega
          have g4 : ¬ vh < v' := by omega
          go_upto_region 21 with (go_at_call 17; refine (JP.out _ HB4.out).mono ?_; rintro e w' ⟨rfl, hw⟩; obtain rfl := hw.symm)
          cases x5
          · cases x6
            · go_wp2_with fail
              go_roundw
              case rel => exact ⟨i + 1, p', v', t4, by go_num, rfl, rfl, by omega, O4.out, (by have := HSI.out; rwa [show ((i : Int) + 1) = ((i + 1 : Nat) : Int) by omega] at this), HB4.out, HF.out, Hb.out⟩
              case measure => simp [intOf]; omega
            · have s2 : ¬ 2 * EV < vh - vl := by have := HSV.out rfl; omega
              go_wp2_with fail
              go_roundw
              case rel => exact ⟨i + 1, p', v', t4, by go_num, rfl, rfl, by omega, O4.out, (by have := HSI.out; rwa [show ((i : Int) + 1) = ((i + 1 : Nat) : Int) by omega] at this), HB4.out, HF.out, Hb.out⟩
              case measure => simp [intOf]; omega
          · have s1 : ¬ 2 * EP < ph - pl := by have := HSP.out rfl; omega
            cases x6
            · go_wp2_with fail
              go_roundw
              case rel => exact ⟨i + 1, p', v', t4, by go_num, rfl, rfl, by omega, O4.out, (by have := HSI.out; rwa [show ((i : Int) + 1) = ((i + 1 : Nat) : Int) by omega] at this), HB4.out, HF.out, Hb.out⟩
              case measure => simp [intOf]; omega
            · have s2 : ¬ 2 * EV < vh - vl := by have := HSV.out rfl; omega
              go_wp2_with fail
              go_roundw
              case rel => exact ⟨i + 1, p', v', t4, by go_num, rfl, rfl, by omega, O4.out, (by have := HSI.out; rwa [show ((i : Int) + 1) = ((i + 1 : Nat) : Int) by omega] at this), HB4.out, HF.out, Hb.out⟩
              case measure => simp [intOf]; omega
      · obtain rfl : i = n := by omega
        go_wp2_with (go_at_call 9; refine (awakeE _).mono ?_; rintro e w5 ⟨rfl, hb5⟩)
        go_ret
        exact ⟨rfl, below_next Hb.out (Nat.le_refl _) hb5⟩
theorem EstHolds_walk (v : Value) (w : World) (h : ∃ a b c e f tv L, v = .agg #[.int .i64 a, .int .i64 b, .int .i64 c, .int .i64 e, .int .i64 f, tv] ∧ I64 a ∧ I64 b ∧ I64 c ∧ I64 e ∧ I64 f ∧ (∀ x ∈ L, TruOk x) ∧ Rws w tv 7 cTru L) : Calls Try.prog 4 #[v] w fun e w' => e = .returned (.bool true) ∧ Below w.heap.size w w' := by
  obtain ⟨a, b, c, e, f, tv, L, rfl, h1, h2, h3, h4, h5, h6, h7⟩ := h
  exact holds_walk a b c e f tv L w h1 h2 h3 h4 h5 h6 h7
end Go.Proofs.Ytgadpalkchillaa
