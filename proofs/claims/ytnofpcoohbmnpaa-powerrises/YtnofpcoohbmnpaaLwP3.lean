/- PowerRises. -/
import Derived.Test.YtnofpcoohbmnpaaPwO
import Derived.Test.YtnofpcoohbmnpaaOp0
namespace Go.Proofs.Ytnofpcoohbmnpaa
open Go.RowKit Go.Great

theorem clamp_mono {x y : Int} (h : x ≤ y) : clamp x 0 536870912 ≤ clamp y 0 536870912 := by
  unfold clamp
  repeat' split
  all_goals omega
theorem lanT_mono {l : List Int} (hs : Sound l) {x y : Int} (h : x ≤ y) : lanT l x ≤ lanT l y := by
  rw [lanT_eq hs, lanT_eq hs]
  obtain ⟨-, -, -, -, -, -, b6, b7, b8, b9, b10, -⟩ := hs.inr.bounds
  exact land_mono (marL l) (l.getD 9 0) _ _ (by obtain ⟨_, b, _, _⟩ := hs.marIn; omega) (clamp_mono h)
theorem retT_mono {l : List Int} (hs : Sound l) {x y d e : Int} (h : x ≤ y) (g : d ≤ e) : retT l x d ≤ retT l y e := by
  rw [retT_eq hs, retT_eq hs]
  exact ret_mono l hs _ _ _ _ (clamp_mono h) (clamp_mono g)
theorem need_mono {l : List Int} (hs : Sound l) {x y : Int} (h : x ≤ y) : need l x ≤ need l y := by
  unfold need
  have := Int.mul_le_mul_of_nonneg_left (show x + 8 ≤ y + 8 by omega) (drn_in hs).1
  omega
theorem tier_rise {t t' : Ba} (hs : Sound t.l) (hl : t'.l = t.l) (hk : t.kn = t'.kn) (hlo : t.lo ≤ t'.lo) {h h' d d' : Int} (hh : h' ≤ h) (hd : d' ≤ d) : tierI t' h' d' ≤ tierI t h d := by
  have a := need_mono hs (lanT_mono hs hh)
  have b := need_mono hs (show retT t.l h' d' + lanT t.l h' ≤ retT t.l h d + lanT t.l h by have := retT_mono hs hh hd; have := lanT_mono hs hh; omega)
  unfold tierI
  rw [hl, ← hk]
  by_cases h1 : t.kn = false ∨ t.lo < need t.l (lanT t.l h)
  · rw [if_pos h1]
    split
    · omega
    · split <;> omega
  · rw [if_neg h1]
    have h2 : ¬ (t.kn = false ∨ t'.lo < need t.l (lanT t.l h')) := by
      intro h3
      rcases h3 with h3 | h3
      · exact h1 (.inl h3)
      · exact h1 (.inr (by omega))
    rw [if_neg h2]
    split <;> split <;> omega
theorem first_lo {l : List Int} {x y : Int} (h : x ≤ y) : (stpS (bN l) true x).lo ≤ (stpS (bN l) true y).lo := by
  show sat (x - l.getD 18 0) ≤ sat (y - l.getD 18 0)
  unfold sat
  repeat' split
  all_goals omega
set_option maxHeartbeats 1000000 in
set_option maxRecDepth 100000 in
theorem rises_no (l : List Int) (v : Value) (c m : Int) (w : World) (hv : Ints w v l) (hc : chk l ≠ 0) : Calls Try.prog 5 #[v, .int .i64 c, .int .i64 m] w fun e w' => e = .returned (.bool true) ∧ Below w.heap.size w w' := by
  have NB := hide (fun W (hW : Ints W v l) => newB_no W l v hW hc)
  have HV := hide hv
  have hne : (chk l != 0) = true := by simp [hc]
  have heq : (chk l == 0) = false := by simp [hc]
  obtain ⟨a, cap, rfl, _⟩ := hv
  generalize l.length = n at *
  generalize chk l = e0 at *
  go_enter Try.func5, Try.ntmps5
  go_upto_region 2 with (go_at_call 8; refine (NB.out _ HV.out).mono ?_; rintro e w1 ⟨rfl, hb1⟩)
  have Hb := hide hb1
  replace HV := hide (HV.out.below hb1)
  clear hb1
  go_upto_region 3 with (go_at_call 8; refine (NB.out _ HV.out).mono ?_; rintro e w2 ⟨rfl, hb2⟩)
  replace Hb := hide (below_next Hb.out (Nat.le_refl _) hb2)
  clear hb2 HV
  go_wp2_with (go_at_call 11; refine (awakeP _).mono ?_; rintro e w5 ⟨rfl, hb5⟩)
  go_ret
  exact ⟨rfl, below_next Hb.out (Nat.le_refl _) hb5⟩
set_option maxHeartbeats 4000000 in
set_option maxRecDepth 100000 in
theorem rises_yes (l : List Int) (v : Value) (c m : Int) (w : World) (hv : Ints w v l) (hs : Sound l) : Calls Try.prog 5 #[v, .int .i64 c, .int .i64 m] w fun e w' => e = .returned (.bool true) ∧ Below w.heap.size w w' := by
  have NB := hide (fun W (hW : Ints W v l) => newB_any W l v hW hs)
  have HV := hide hv
  have HS := hide hs
  obtain ⟨g, o, cap, rfl, _, _⟩ := hv.open24 hs.len
  clear hv hs
  go_enter Try.func5, Try.ntmps5
  go_upto_region 2 with (go_at_call 8; refine (NB.out _ HV.out).mono ?_; rintro e w1 ⟨B, rfl, hB, hb1, hBw⟩)
  have HB := hide hB
  have Hb := hide hb1
  have hBl := hB.lt
  replace HV := hide (HV.out.below hb1)
  clear hb1 hB
  go_upto_region 3 with (go_at_call 8; refine (NB.out _ HV.out).mono ?_; rintro e w2 ⟨C, rfl, hC, hb2, hCw⟩)
  have HC := hide hC
  have hBC : B < C := by omega
  have hwC : w.heap.size ≤ C := by omega
  replace HB := hide (HB.out.after hb2)
  replace Hb := hide (below_next Hb.out (Nat.le_refl _) hb2)
  clear hb2 HV hC hCw hBl
  by_cases hr : m < 0 ∨ 1099511627776 < m ∨ c < 0 ∨ 1099511627776 < c
  · rcases (show m < 0 ∨ (¬ m < 0 ∧ 1099511627776 < m) ∨ (¬ m < 0 ∧ ¬ 1099511627776 < m ∧ c < 0) ∨ (¬ m < 0 ∧ ¬ 1099511627776 < m ∧ ¬ c < 0 ∧ 1099511627776 < c) by omega) with h1 | ⟨h1, h2⟩ | ⟨h1, h2, h3⟩ | ⟨h1, h2, h3, h4⟩
    all_goals
      clear hr
      go_wp2_with (go_at_call 11; refine (awakeP _).mono ?_; rintro e w5 ⟨rfl, hb5⟩)
      go_ret
      exact ⟨rfl, below_next Hb.out (Nat.le_refl _) hb5⟩
  · have r1 : ¬ m < 0 := by omega
    have r2 : ¬ 1099511627776 < m := by omega
    have r3 : ¬ c < 0 := by omega
    have r4 : ¬ 1099511627776 < c := by omega
    clear hr
    have i1 : I64 c := by unfold I64; omega
    have i2 : I64 (c + m) := by unfold I64; omega
    go_upto_region 8 with (go_at_call 13; refine (step_any w2 B (bN l) true c HB.out (bN_ok HS.out) i1).mono ?_; rintro e w3 ⟨rfl, hB3, hG3⟩)
    replace HC := hide (HC.out.grown hG3 (by intro e; injection e with e; omega))
    replace Hb := hide (below_grown Hb.out hG3 (fun q e => by injection e with e; omega))
    replace HB := hide hB3
    clear hB3 hG3
    go_upto_region 9 with (go_at_call 13; refine (step_any w3 C (bN l) true (c + m) HC.out (bN_ok HS.out) i2).mono ?_; rintro e w4 ⟨rfl, hC4, hG4⟩)
    replace HB := hide (HB.out.grown hG4 (by intro e; injection e with e; omega))
    replace Hb := hide (below_grown Hb.out hG4 (fun q e => by injection e with e; omega))
    replace HC := hide hC4
    have LO := hide (first_lo (l := l) (show c ≤ c + m by omega))
    have O1 := hide (stp_ok (bN_ok HS.out) true c)
    have O2 := hide (stp_ok (bN_ok HS.out) true (c + m))
    have K1 : Hid ((stpS (bN l) true c).kn = (stpS (bN l) true (c + m)).kn) := hide rfl
    have E1 : Hid ((stpS (bN l) true (c + m)).l = (stpS (bN l) true c).l) := hide ((stp_l _ _ _).trans (stp_l _ _ _).symm)
    generalize stpS (bN l) true c = t at *
    generalize stpS (bN l) true (c + m) = u at *
    clear hC4 hG4 NB i1 i2
    have TR : Hid (∀ h h' d d' : Int, h' ≤ h → d' ≤ d → tierI u h' d' ≤ tierI t h d) := hide (fun h h' d d' hh hd => tier_rise O1.out.snd E1.out K1.out LO.out hh hd)
    have TT : Hid (∀ h h' d d' : Int, h' ≤ h → d' ≤ d → tierI t h' d' ≤ tierI t h d) := hide (fun h h' d d' hh hd => tier_rise O1.out.snd rfl rfl (Int.le_refl _) hh hd)
    go_wp2_with fail
    go_loopw [11] (fun vh wr => ∃ h : Int, vh = .int .i64 h ∧ 0 ≤ h ∧ h ≤ 4000000000 ∧ Bat wr B t ∧ Bat wr C u ∧ Below w.heap.size w wr) (fun v _ => 4000000000 - (intOf v).toNat)
    case atStart => exact ⟨0, rfl, by omega, by omega, HB.out, HC.out, Hb.out⟩
    case round =>
      clear HB HC Hb
      obtain ⟨h, rfl, h0, h1, hB, hC, hb⟩ := hrel
      have HB := hide hB
      have HC := hide hC
      have Hb := hide hb
      clear hB hC hb
      by_cases hh : h ≤ 536870912
      · go_wp2_with fail
        go_loopw [12] (fun vd wr => ∃ d : Int, vd = .int .i64 d ∧ 0 ≤ d ∧ d ≤ 9000000000 ∧ Bat wr B t ∧ Bat wr C u ∧ Below w.heap.size w wr) (fun v _ => 9000000000 - (intOf v).toNat)
        case atStart => exact ⟨0, rfl, by omega, by omega, HB.out, HC.out, Hb.out⟩
        case round =>
          clear HB HC Hb
          obtain ⟨d, rfl, d0, d1, hB, hC, hb⟩ := hrel
          have HB := hide hB
          have HC := hide hC
          have Hb := hide hb
          clear hB hC hb
          by_cases hd : d ≤ 536870912
          · have a1 := TR.out h h d d (by omega) (by omega)
            have a2 := TT.out (h + m) h d d (by omega) (by omega)
            have a3 := TT.out h h (d + m) d (by omega) (by omega)
            have n1 : ¬ tierI t h d < tierI u h d := by omega
            have n2 : ¬ tierI t (h + m) d < tierI t h d := by omega
            have n3 : ¬ tierI t h (d + m) < tierI t h d := by omega
            clear a1 a2 a3
            have X1 := hide (fun W (hW : Bat W B t) => tier_any W B t h d hW O1.out)
            have X2 := hide (fun W (hW : Bat W C u) => tier_any W C u h d hW O2.out)
            have X3 := hide (fun W (hW : Bat W B t) => tier_any W B t (h + m) d hW O1.out)
            have X4 := hide (fun W (hW : Bat W B t) => tier_any W B t h (d + m) hW O1.out)
            generalize tierI t h d = y1 at *
            generalize tierI u h d = y2 at *
            generalize tierI t (h + m) d = y3 at *
            generalize tierI t h (d + m) = y4 at *
            go_upto_region 16 with (go_at_call 16; refine (X1.out _ HB.out).mono ?_; rintro e w5 ⟨rfl, hb5⟩)
            replace HB := hide (HB.out.after hb5)
            replace HC := hide (HC.out.after hb5)
            replace Hb := hide (below_next Hb.out (Nat.le_refl _) hb5)
            clear hb5
            go_wp2_with fail
            refine (X2.out _ HC.out).mono ?_
            rintro e w6 ⟨rfl, hb6⟩
            replace HB := hide (HB.out.after hb6)
            replace HC := hide (HC.out.after hb6)
            replace Hb := hide (below_next Hb.out (Nat.le_refl _) hb6)
            clear hb6
            go_wp2_with fail
            refine (X3.out _ HB.out).mono ?_
            rintro e w7 ⟨rfl, hb7⟩
            replace HB := hide (HB.out.after hb7)
            replace HC := hide (HC.out.after hb7)
            replace Hb := hide (below_next Hb.out (Nat.le_refl _) hb7)
            clear hb7
            go_wp2_with fail
            refine (X4.out _ HB.out).mono ?_
            rintro e w8 ⟨rfl, hb8⟩
            replace HB := hide (HB.out.after hb8)
            replace HC := hide (HC.out.after hb8)
            replace Hb := hide (below_next Hb.out (Nat.le_refl _) hb8)
            clear hb8
            go_wp2_with fail
            go_roundw
            case rel => exact ⟨16 * d + 5000, by go_num, by omega, by omega, HB.out, HC.out, Hb.out⟩
            case measure => simp [intOf]; omega
          · go_wp2_with fail
            go_roundw
            case rel => exact ⟨4 * h + 1000, by go_num, by omega, by omega, HB.out, HC.out, Hb.out⟩
            case measure => simp [intOf]; omega
      · go_wp2_with (go_at_call 11; refine (awakeP _).mono ?_; rintro e w5 ⟨rfl, hb5⟩)
        go_ret
        exact ⟨rfl, below_next Hb.out (Nat.le_refl _) hb5⟩
theorem PowerRises_walk (v : Value) (c m : Int) (w : World) (hv : ∃ l, IntsIn w v l) : Calls Try.prog 5 #[v, .int .i64 c, .int .i64 m] w fun e w' => e = .returned (.bool true) ∧ Below w.heap.size w w' := by
  obtain ⟨l, hv⟩ := hv
  by_cases h : chk l = 0
  · exact rises_yes l v c m w hv.1 (sound_of h)
  · exact rises_no l v c m w hv.1 h
end Go.Proofs.Ytnofpcoohbmnpaa
