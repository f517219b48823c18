/- What GuardBrakes answers: true, at every vehicle. -/
import Derived.Test.YtjinfjibodoflaaGuC
namespace Go.Proofs.Ytjinfjibodoflaa
open Go.RowKit Go.Great Go.Deep Go.WideShapes Go.ChangeShapes

/-- the box of brakes, and what is known of it -/
structure Bxk (F T Tn Tz : Int) : Prop where
  t : F ≤ 6400 * T
  n : Tn = -T
  z : T ≤ Tz
  b : -1000000000 ≤ T ∧ T ≤ 1000000000
  zb : 0 ≤ Tz ∧ Tz ≤ 1000000000
theorem bxk_of (F : Int) (h : -4398046511104 ≤ F ∧ F ≤ 4398046511104) : Bxk F (upm F) ((-F) / 6400) (max (upm F) 0) := by
  unfold upm
  constructor <;> omega
set_option maxHeartbeats 8000000 in
set_option maxRecDepth 100000 in
theorem brakes_any (x : Brk) (u : Value) (L : List Int) (w : World) (hx : BrkOk x) (hL : ∀ y ∈ L, I64 y) (hR : Rws w u 1 cInt L) : Calls Try.prog 6 #[.agg (brC x u)] w fun e w' => e = .returned (.bool true) ∧ Below w.heap.size w w' := by
  have HR := hide hR
  have HL := hide hL
  have mN := hR.1
  unfold maxLen at mN
  obtain ⟨_, na, np, rfl, _⟩ := hR
  obtain ⟨nN, eN⟩ : ∃ n, Hid (L.length = n) := ⟨_, hide rfl⟩
  rw [eN.out] at mN
  rw [eN.out]
  have AW := hide awakeU
  have SA := hide (fun W => sane_any x (.slice na nN np) W hx)
  have HO := hide hx
  clear hL hx
  obtain ⟨pl, ph, vl, vh, at_, sp, ac, wi, ex, jo, gi, wh⟩ := x
  obtain ⟨W0, hW0, b0, X0, z0⟩ := one_box w (brC ⟨pl, ph, vl, vh, at_, sp, ac, wi, ex, jo, gi, wh⟩ (.slice na nN np)) 41
  have Hb := hide b0
  have HX := hide X0
  have c0 : W0.cell? ⟨w.heap.size, 0, none⟩ = some (.int .i64 pl) := X0.cell 0 rfl
  have c1 : W0.cell? ⟨w.heap.size, 1, none⟩ = some (.int .i64 ph) := X0.cell 1 rfl
  have c2 : W0.cell? ⟨w.heap.size, 2, none⟩ = some (.int .i64 vl) := X0.cell 2 rfl
  have c3 : W0.cell? ⟨w.heap.size, 3, none⟩ = some (.int .i64 vh) := X0.cell 3 rfl
  have c4 : W0.cell? ⟨w.heap.size, 4, none⟩ = some (.int .i64 at_) := X0.cell 4 rfl
  have c5 : W0.cell? ⟨w.heap.size, 5, none⟩ = some (.int .i64 sp) := X0.cell 5 rfl
  have c6 : W0.cell? ⟨w.heap.size, 6, none⟩ = some (.int .i64 ac) := X0.cell 6 rfl
  have c7 : W0.cell? ⟨w.heap.size, 7, none⟩ = some (.int .i64 wi) := X0.cell 7 rfl
  have c8 : W0.cell? ⟨w.heap.size, 8, none⟩ = some (.int .i64 ex) := X0.cell 8 rfl
  have c9 : W0.cell? ⟨w.heap.size, 9, none⟩ = some (.slice na nN np) := X0.cell 9 rfl
  have c10 : W0.cell? ⟨w.heap.size, 10, none⟩ = some (.int .i64 jo) := X0.cell 10 rfl
  have c11 : W0.cell? ⟨w.heap.size, 11, none⟩ = some (.int .i64 gi) := X0.cell 11 rfl
  have c12 : W0.cell? ⟨w.heap.size, 12, none⟩ = some (.int .i64 wh) := X0.cell 12 rfl
  clear b0 X0 z0
  go_enter Try.func6, Try.ntmps6
  go_upto_region 1 with fail
  go_wp2_with fail
  refine (SA.out _).mono ?_
  rintro e w1 ⟨⟨sn, rfl, hsn⟩, hb1⟩
  replace HX := hide (HX.out.after hb1)
  replace Hb := hide (below_next Hb.out (Nat.le_refl _) hb1)
  clear hb1 c0 c1 c2 c3 c4 c5 c6 c7 c8 c9 c10 c11 c12 hW0 SA
  cases sn
  · clear hsn
    go_wp2_with (first | (go_at_call 12; refine (AW.out _).mono ?_; rintro e w4 ⟨rfl, b4⟩))
    go_ret
    exact ⟨rfl, below_next Hb.out (Nat.le_refl _) b4⟩
  · have hS := hsn rfl
    clear hsn
    have BX := bxk_of _ (far_in hS)
    have BS := hide (Bk.start hS wh)
    have RE := hide (fun W => reach_any ⟨pl, ph, vl, vh⟩ ⟨-ph, -pl, -vh, -vl⟩ ⟨pl, ph, vl, vh⟩ ac (-ac) ac ⟨64 - wi, 0, jo, 0, 0, 0⟩ W ⟨HO.out.pl, HO.out.ph, HO.out.vl, HO.out.vh⟩ ⟨i64_of (by have h1 := hS.ph; have h2 := hS.pl; have h3 := hS.a0; have h4 := hS.a1; simp only at *; omega), i64_of (by have h1 := hS.ph; have h2 := hS.pl; have h3 := hS.a0; have h4 := hS.a1; simp only at *; omega), i64_of (by have h1 := hS.vh; have h2 := hS.vl; have h3 := hS.s0; have h4 := hS.s1; simp only at *; omega), i64_of (by have h1 := hS.vh; have h2 := hS.vl; have h3 := hS.s0; have h4 := hS.s1; simp only at *; omega)⟩ ⟨HO.out.pl, HO.out.ph, HO.out.vl, HO.out.vh⟩ HO.out.ac (i64_of (by have h1 := hS.c0; have h2 := hS.c1; simp only at *; omega)) HO.out.ac (i64_of (by have h1 := hS.w0; have h2 := hS.w1; simp only at *; omega)) HO.out.jo)
    have e1 := far_hi hS
    have e2 := far_lo hS
    have hF := far_in hS
    obtain ⟨q1, q2, q3, q4, q5, q6, q7, q8, q9, q10, q11, q12, q13, q14, q15, q16, q17, q18⟩ := hS
    simp only at q1 q2 q3 q4 q5 q6 q7 q8 q9 q10 q11 q12 q13 q14 q15 q16 q17 q18 e1 e2 RE
    rw [e1, e2] at RE
    simp only at BS
    have hwh := HO.out.wh
    unfold I64 at hwh
    simp only at hwh
    clear e1 e2 HO
    generalize far ⟨pl, ph, vl, vh, at_, sp, ac, wi, ex, jo, gi, wh⟩ = F at *
    generalize rlo pl vl ac (64 - wi) jo / 6400 = l0 at *
    generalize upm (rhi (-pl) (-vl) (-ac) (64 - wi) jo) = h1 at *
    generalize (-F) / 6400 = Tn at *
    generalize hTz : max (upm F) 0 = Tz at *
    generalize upm F = T at *
    clear hTz
    unfold bxV at RE
    have c7 : w1.cell? ⟨w.heap.size, 7, none⟩ = some (.int .i64 wi) := HX.out.cell 7 rfl
    have c10 : w1.cell? ⟨w.heap.size, 10, none⟩ = some (.int .i64 jo) := HX.out.cell 10 rfl
    go_upto_region 5 with fail
    replace HX := hide (HX.out.alloc (.cells (mgC ⟨64 - wi, 0, jo, 0, 0, 0⟩) 32))
    replace Hb := hide (below_next Hb.out (Nat.le_refl _) (below_alloc w1 (.cells (mgC ⟨64 - wi, 0, jo, 0, 0, 0⟩) 32)))
    have HM := hide (Blk.new w1 (mgC ⟨64 - wi, 0, jo, 0, 0, 0⟩) 32)
    clear c7 c10
    generalize w1.heap.size = gm at *
    generalize w1.alloc (.cells (mgC ⟨64 - wi, 0, jo, 0, 0, 0⟩) 32) = W2 at *
    have c0 : W2.cell? ⟨w.heap.size, 0, none⟩ = some (.int .i64 pl) := HX.out.cell 0 rfl
    have c1 : W2.cell? ⟨w.heap.size, 1, none⟩ = some (.int .i64 ph) := HX.out.cell 1 rfl
    have c2 : W2.cell? ⟨w.heap.size, 2, none⟩ = some (.int .i64 vl) := HX.out.cell 2 rfl
    have c3 : W2.cell? ⟨w.heap.size, 3, none⟩ = some (.int .i64 vh) := HX.out.cell 3 rfl
    go_upto_region 6 with fail
    replace HX := hide (HX.out.alloc (.cells (axC ⟨pl, ph, vl, vh⟩) 28))
    replace HM := hide (HM.out.alloc (.cells (axC ⟨pl, ph, vl, vh⟩) 28))
    replace Hb := hide (below_next Hb.out (Nat.le_refl _) (below_alloc W2 (.cells (axC ⟨pl, ph, vl, vh⟩) 28)))
    have HU := hide (Blk.new W2 (axC ⟨pl, ph, vl, vh⟩) 28)
    clear c0 c1 c2 c3
    generalize W2.heap.size = gu at *
    generalize W2.alloc (.cells (axC ⟨pl, ph, vl, vh⟩) 28) = W3 at *
    have c0 : W3.cell? ⟨w.heap.size, 0, none⟩ = some (.int .i64 pl) := HX.out.cell 0 rfl
    have c1 : W3.cell? ⟨w.heap.size, 1, none⟩ = some (.int .i64 ph) := HX.out.cell 1 rfl
    have c2 : W3.cell? ⟨w.heap.size, 2, none⟩ = some (.int .i64 vl) := HX.out.cell 2 rfl
    have c3 : W3.cell? ⟨w.heap.size, 3, none⟩ = some (.int .i64 vh) := HX.out.cell 3 rfl
    go_upto_region 7 with fail
    replace HX := hide (HX.out.alloc (.cells (axC ⟨-ph, -pl, -vh, -vl⟩) 28))
    replace HM := hide (HM.out.alloc (.cells (axC ⟨-ph, -pl, -vh, -vl⟩) 28))
    replace HU := hide (HU.out.alloc (.cells (axC ⟨-ph, -pl, -vh, -vl⟩) 28))
    replace Hb := hide (below_next Hb.out (Nat.le_refl _) (below_alloc W3 (.cells (axC ⟨-ph, -pl, -vh, -vl⟩) 28)))
    have HD := hide (Blk.new W3 (axC ⟨-ph, -pl, -vh, -vl⟩) 28)
    clear c0 c1 c2 c3
    generalize W3.heap.size = gd at *
    generalize W3.alloc (.cells (axC ⟨-ph, -pl, -vh, -vl⟩) 28) = W4 at *
    have c6 : W4.cell? ⟨w.heap.size, 6, none⟩ = some (.int .i64 ac) := HX.out.cell 6 rfl
    obtain ⟨u0, u1, u2, u3⟩ : W4.cell? ⟨gu, 0, none⟩ = some (.int .i64 pl) ∧ W4.cell? ⟨gu, 1, none⟩ = some (.int .i64 ph) ∧ W4.cell? ⟨gu, 2, none⟩ = some (.int .i64 vl) ∧ W4.cell? ⟨gu, 3, none⟩ = some (.int .i64 vh) := ⟨HU.out.cell 0 rfl, HU.out.cell 1 rfl, HU.out.cell 2 rfl, HU.out.cell 3 rfl⟩
    obtain ⟨d0, d1, d2, d3⟩ : W4.cell? ⟨gd, 0, none⟩ = some (.int .i64 (-ph)) ∧ W4.cell? ⟨gd, 1, none⟩ = some (.int .i64 (-pl)) ∧ W4.cell? ⟨gd, 2, none⟩ = some (.int .i64 (-vh)) ∧ W4.cell? ⟨gd, 3, none⟩ = some (.int .i64 (-vl)) := ⟨HD.out.cell 0 rfl, HD.out.cell 1 rfl, HD.out.cell 2 rfl, HD.out.cell 3 rfl⟩
    obtain ⟨m0, m1, m2, m3, m4, m5⟩ := six_cells HM.out
    go_wp2_with fail
    refine (RE.out _).mono ?_
    rintro e w5 ⟨rfl, hb5⟩
    replace HX := hide ((HX.out.after hb5).alloc (.cells (bxC l0 T Tn h1 0 Tz) 36))
    replace Hb := hide (below_next (below_next Hb.out (Nat.le_refl _) hb5) (Nat.le_refl _) (below_alloc w5 (.cells (bxC l0 T Tn h1 0 Tz) 36)))
    have HK := hide (Blk.new w5 (bxC l0 T Tn h1 0 Tz) 36)
    clear hb5 u0 u1 u2 u3 d0 d1 d2 d3 m0 m1 m2 m3 m4 m5 c6 HM HU HD RE
    go_upto_region 8 with fail
    generalize w5.heap.size = gk at *
    generalize w5.alloc (.cells (bxC l0 T Tn h1 0 Tz) 36) = W6 at *
    have c4 : W6.cell? ⟨w.heap.size, 4, none⟩ = some (.int .i64 at_) := HX.out.cell 4 rfl
    have c5 : W6.cell? ⟨w.heap.size, 5, none⟩ = some (.int .i64 sp) := HX.out.cell 5 rfl
    have c6 : W6.cell? ⟨w.heap.size, 6, none⟩ = some (.int .i64 ac) := HX.out.cell 6 rfl
    have c8 : W6.cell? ⟨w.heap.size, 8, none⟩ = some (.int .i64 ex) := HX.out.cell 8 rfl
    go_upto_region 11 with fail
    clear c4 c5 c6 c8
    have hP : -2200000000000 ≤ at_ + (sp + ac + ex) ∧ at_ + (sp + ac + ex) ≤ 2200000000000 := by omega
    have hV : -1100000 ≤ sp + ac + ex ∧ sp + ac + ex ≤ 1100000 := by omega
    generalize at_ + (sp + ac + ex) = P0 at *
    generalize sp + ac + ex = V0 at *
    generalize hb : 64 - wi = b at *
    have hb1 : 48 ≤ b := by omega
    have hb2 : b ≤ 64 := by omega
    obtain ⟨⟩ := BX
    rename_i t1 t2 t3 t4 t5
    subst t2
    clear hb q1 q2 q3 q4 q5 q6 q7 q8 q9 q10 q11 q12 q13 q14
    go_loopw [8, 9, 10] (fun vv vp vi wr => ∃ (i : Nat) (v p : Int), vv = .int .i64 v ∧ vp = .int .i64 p ∧ vi = .int .i64 (i : Int) ∧ (i : Int) ≤ 65536 ∧ Hid (Bk b jo F wh i p v) ∧ -2200000000000 ≤ p ∧ (-1100000 ≤ v ∧ v ≤ 1100000 + 1000 * (i : Int)) ∧ Blk wr w.heap.size (brC ⟨pl, ph, vl, vh, at_, sp, ac, wi, ex, jo, gi, wh⟩ (.slice na nN np)) 41 ∧ Blk wr gk (bxC l0 T (-T) h1 0 Tz) 36 ∧ Below w.heap.size w wr) (fun _ _ vi _ => 65536 - (intOf vi).toNat)
    case atStart => exact ⟨0, V0, P0, rfl, rfl, rfl, by omega, BS, by omega, by omega, HX.out, HK.out, Hb.out⟩
    case round =>
      clear HX HK Hb BS hP hV
      obtain ⟨i, v, p, rfl, rfl, rfl, hi, BK, hp, hv, hX, hK, hW⟩ := hrel
      have HX := hide hX
      have HK := hide hK
      have Hb := hide hW
      clear hX hK hW
      by_cases hlt : (i : Int) < 65536
      · have hpF := BK.out.le (by omega)
        have k1 : ¬ 6400 * T < p := by omega
        have k2 : ¬ -p < 6400 * -T := by omega
        have k3 : ¬ 6400 * Tz < p := by omega
        have y1 : wr.cell? ⟨gk, 1, none⟩ = some (.int .i64 T) := HK.out.cell 1 rfl
        have y2 : wr.cell? ⟨gk, 2, none⟩ = some (.int .i64 (-T)) := HK.out.cell 2 rfl
        have y5 : wr.cell? ⟨gk, 5, none⟩ = some (.int .i64 Tz) := HK.out.cell 5 rfl
        go_upto_region 15 with fail
        clear k1 k2 k3 y1 y2 y5
        by_cases hv0 : v ≤ 0
        · go_wp2_with (first | (go_at_call 12; refine (AW.out _).mono ?_; rintro e w4 ⟨rfl, b4⟩))
          go_ret
          exact ⟨rfl, below_next Hb.out (Nat.le_refl _) b4⟩
        · go_upto_region 18 with fail
          have c9 : wr.cell? ⟨w.heap.size, 9, none⟩ = some (.slice na nN np) := HX.out.cell 9 rfl
          by_cases hl : (i : Int) < nN
          · obtain ⟨g, og, cap, z, e1, hg, _, cell⟩ := HR.out.get i (by rw [eN.out]; omega)
            injection e1 with e1 e2 e3
            subst e1 e3
            have cz : wr.cell? ⟨g, og + i, none⟩ = some (.int .i64 z) := by have := cell wr Hb.out 0 _ rfl; rw [Nat.mul_one] at this; exact this
            clear cell e2 hg
            by_cases hz : 0 < z
            · have hm : 0 < min z 1048576 ∧ min z 1048576 ≤ 1048576 := by omega
              go_upto_region 20 with fail
              generalize min z 1048576 = m at *
              clear cz hz
              have hle : v - b - m ≤ v - b := by omega
              have hlo : -1048640 ≤ v - b - m := by omega
              clear hm
              generalize v - b - m = v2 at *
              have c11 : wr.cell? ⟨w.heap.size, 11, none⟩ = some (.int .i64 gi) := HX.out.cell 11 rfl
              have c12 : wr.cell? ⟨w.heap.size, 12, none⟩ = some (.int .i64 wh) := HX.out.cell 12 rfl
              clear c9
              by_cases he : (i : Int) = wh
              · have hj := BK.out.jolt (v' := v2 + gi) (by omega) he (by omega)
                have hq : ((i : Int) == wh) = true := by simp [he]
                clear he
                by_cases hs : 0 < v2 + gi
                · have HJ : Hid (Bk b jo F wh ((i + 1 : Nat) : Int) (p + (v2 + gi)) (v2 + gi)) := hide (by rw [show max (v2 + gi) 0 = v2 + gi by omega] at hj; exact hj)
                  have hF2 := HJ.out.le (by omega)
                  clear hj BK
                  go_wp2_with fail
                  go_roundw
                  case rel => exact ⟨i + 1, _, _, rfl, rfl, by go_num, by omega, HJ, by omega, by omega, HX.out, HK.out, Hb.out⟩
                  case measure => simp [intOf]; omega
                · have HJ : Hid (Bk b jo F wh ((i + 1 : Nat) : Int) p (v2 + gi)) := hide (by rw [show max (v2 + gi) 0 = 0 by omega, Int.add_zero] at hj; exact hj)
                  clear hj BK
                  go_wp2_with fail
                  go_roundw
                  case rel => exact ⟨i + 1, _, _, rfl, rfl, by go_num, by omega, HJ, by omega, by omega, HX.out, HK.out, Hb.out⟩
                  case measure => simp [intOf]; omega
              · have hj := BK.out.plain (v' := v2) (by omega) (by omega) hle
                have hq : ((i : Int) == wh) = false := by simp [he]
                clear he
                by_cases hs : 0 < v2
                · have HJ : Hid (Bk b jo F wh ((i + 1 : Nat) : Int) (p + v2) v2) := hide (by rw [show max v2 0 = v2 by omega] at hj; exact hj)
                  have hF2 := HJ.out.le (by omega)
                  clear hj BK
                  go_wp2_with fail
                  go_roundw
                  case rel => exact ⟨i + 1, _, _, rfl, rfl, by go_num, by omega, HJ, by omega, by omega, HX.out, HK.out, Hb.out⟩
                  case measure => simp [intOf]; omega
                · have HJ : Hid (Bk b jo F wh ((i + 1 : Nat) : Int) p v2) := hide (by rw [show max v2 0 = 0 by omega, Int.add_zero] at hj; exact hj)
                  clear hj BK
                  go_wp2_with fail
                  go_roundw
                  case rel => exact ⟨i + 1, _, _, rfl, rfl, by go_num, by omega, HJ, by omega, by omega, HX.out, HK.out, Hb.out⟩
                  case measure => simp [intOf]; omega
            · go_upto_region 20 with fail
              clear cz hz
              obtain ⟨v2, h2⟩ : ∃ v2, v - b = v2 := ⟨_, rfl⟩
              have hle : v2 ≤ v - b := by omega
              have hlo : -1048640 ≤ v2 := by omega
              rw [h2]
              clear h2
              have c11 : wr.cell? ⟨w.heap.size, 11, none⟩ = some (.int .i64 gi) := HX.out.cell 11 rfl
              have c12 : wr.cell? ⟨w.heap.size, 12, none⟩ = some (.int .i64 wh) := HX.out.cell 12 rfl
              clear c9
              by_cases he : (i : Int) = wh
              · have hj := BK.out.jolt (v' := v2 + gi) (by omega) he (by omega)
                have hq : ((i : Int) == wh) = true := by simp [he]
                clear he
                by_cases hs : 0 < v2 + gi
                · have HJ : Hid (Bk b jo F wh ((i + 1 : Nat) : Int) (p + (v2 + gi)) (v2 + gi)) := hide (by rw [show max (v2 + gi) 0 = v2 + gi by omega] at hj; exact hj)
                  have hF2 := HJ.out.le (by omega)
                  clear hj BK
                  go_wp2_with fail
                  go_roundw
                  case rel => exact ⟨i + 1, _, _, rfl, rfl, by go_num, by omega, HJ, by omega, by omega, HX.out, HK.out, Hb.out⟩
                  case measure => simp [intOf]; omega
                · have HJ : Hid (Bk b jo F wh ((i + 1 : Nat) : Int) p (v2 + gi)) := hide (by rw [show max (v2 + gi) 0 = 0 by omega, Int.add_zero] at hj; exact hj)
                  clear hj BK
                  go_wp2_with fail
                  go_roundw
                  case rel => exact ⟨i + 1, _, _, rfl, rfl, by go_num, by omega, HJ, by omega, by omega, HX.out, HK.out, Hb.out⟩
                  case measure => simp [intOf]; omega
              · have hj := BK.out.plain (v' := v2) (by omega) (by omega) hle
                have hq : ((i : Int) == wh) = false := by simp [he]
                clear he
                by_cases hs : 0 < v2
                · have HJ : Hid (Bk b jo F wh ((i + 1 : Nat) : Int) (p + v2) v2) := hide (by rw [show max v2 0 = v2 by omega] at hj; exact hj)
                  have hF2 := HJ.out.le (by omega)
                  clear hj BK
                  go_wp2_with fail
                  go_roundw
                  case rel => exact ⟨i + 1, _, _, rfl, rfl, by go_num, by omega, HJ, by omega, by omega, HX.out, HK.out, Hb.out⟩
                  case measure => simp [intOf]; omega
                · have HJ : Hid (Bk b jo F wh ((i + 1 : Nat) : Int) p v2) := hide (by rw [show max v2 0 = 0 by omega, Int.add_zero] at hj; exact hj)
                  clear hj BK
                  go_wp2_with fail
                  go_roundw
                  case rel => exact ⟨i + 1, _, _, rfl, rfl, by go_num, by omega, HJ, by omega, by omega, HX.out, HK.out, Hb.out⟩
                  case measure => simp [intOf]; omega
          · go_upto_region 20 with fail
            obtain ⟨v2, h2⟩ : ∃ v2, v - b = v2 := ⟨_, rfl⟩
            have hle : v2 ≤ v - b := by omega
            have hlo : -1048640 ≤ v2 := by omega
            rw [h2]
            clear h2
            have c11 : wr.cell? ⟨w.heap.size, 11, none⟩ = some (.int .i64 gi) := HX.out.cell 11 rfl
            have c12 : wr.cell? ⟨w.heap.size, 12, none⟩ = some (.int .i64 wh) := HX.out.cell 12 rfl
            clear c9
            by_cases he : (i : Int) = wh
            · have hj := BK.out.jolt (v' := v2 + gi) (by omega) he (by omega)
              have hq : ((i : Int) == wh) = true := by simp [he]
              clear he
              by_cases hs : 0 < v2 + gi
              · have HJ : Hid (Bk b jo F wh ((i + 1 : Nat) : Int) (p + (v2 + gi)) (v2 + gi)) := hide (by rw [show max (v2 + gi) 0 = v2 + gi by omega] at hj; exact hj)
                have hF2 := HJ.out.le (by omega)
                clear hj BK
                go_wp2_with fail
                go_roundw
                case rel => exact ⟨i + 1, _, _, rfl, rfl, by go_num, by omega, HJ, by omega, by omega, HX.out, HK.out, Hb.out⟩
                case measure => simp [intOf]; omega
              · have HJ : Hid (Bk b jo F wh ((i + 1 : Nat) : Int) p (v2 + gi)) := hide (by rw [show max (v2 + gi) 0 = 0 by omega, Int.add_zero] at hj; exact hj)
                clear hj BK
                go_wp2_with fail
                go_roundw
                case rel => exact ⟨i + 1, _, _, rfl, rfl, by go_num, by omega, HJ, by omega, by omega, HX.out, HK.out, Hb.out⟩
                case measure => simp [intOf]; omega
            · have hj := BK.out.plain (v' := v2) (by omega) (by omega) hle
              have hq : ((i : Int) == wh) = false := by simp [he]
              clear he
              by_cases hs : 0 < v2
              · have HJ : Hid (Bk b jo F wh ((i + 1 : Nat) : Int) (p + v2) v2) := hide (by rw [show max v2 0 = v2 by omega] at hj; exact hj)
                have hF2 := HJ.out.le (by omega)
                clear hj BK
                go_wp2_with fail
                go_roundw
                case rel => exact ⟨i + 1, _, _, rfl, rfl, by go_num, by omega, HJ, by omega, by omega, HX.out, HK.out, Hb.out⟩
                case measure => simp [intOf]; omega
              · have HJ : Hid (Bk b jo F wh ((i + 1 : Nat) : Int) p v2) := hide (by rw [show max v2 0 = 0 by omega, Int.add_zero] at hj; exact hj)
                clear hj BK
                go_wp2_with fail
                go_roundw
                case rel => exact ⟨i + 1, _, _, rfl, rfl, by go_num, by omega, HJ, by omega, by omega, HX.out, HK.out, Hb.out⟩
                case measure => simp [intOf]; omega
      · go_wp2_with (first | (go_at_call 12; refine (AW.out _).mono ?_; rintro e w4 ⟨rfl, b4⟩))
        go_ret
        exact ⟨rfl, below_next Hb.out (Nat.le_refl _) b4⟩
theorem GuardBrakes_walk (v : Value) (w : World) (h : ∃ x u L, v = .agg (brC x u) ∧ BrkOk x ∧ (∀ y ∈ L, I64 y) ∧ Rws w u 1 cInt L) : Calls Try.prog 6 #[v] w fun e w' => e = .returned (.bool true) ∧ Below w.heap.size w w' := by
  obtain ⟨x, u, L, rfl, hx, hL, hR⟩ := h
  exact brakes_any x u L w hx hL hR
end Go.Proofs.Ytjinfjibodoflaa
