/- What MissionOrder answers: true, at every list of items. -/
import Derived.Test.YtnekjfidobglmaaMiA
import Derived.Test.YtnekjfidobglmaaMiO
import Derived.Test.YtnekjfidobglmaaMiP
namespace Go.Proofs.Ytnekjfidobglmaa
open Go.RowKit Go.Great Go.Maps

theorem RunB.drewN {w : World} {R n : Nat} {r : Rn} (h : RunB w R n r) (k : Nat) : RunB (w.drewN k) R n r := h.grown (below_drewN (Below.refl _ _) k)
theorem overB (w : World) (R n : Nat) (r : Rn) (h : RunB w R n r) : Calls Try.prog 27 #[rP R] w fun e w' => e = .returned (.bool (decide (r.p = r.L.length))) ∧ Below w.heap.size w w' :=
  (over_any w R n r h).mono fun e w' ⟨he, k, hk⟩ => ⟨he, by rw [hk]; exact below_drewN (Below.refl _ _) k⟩
theorem fld_goal (k x y z s : Int) (w : World) : (Instr.field 50 (gV k x y z s) 0).run Try.prog w = .ok (.int .u8 k) w := by kernel_rfl
theorem val_i {a b : Int} (h : a = b) : Value.int .i64 a = .int .i64 b := by rw [h]
theorem eql_e (c : Int) (w : World) : (binOp .eql 24 (.int .i64 c) (.int .i64 c)).run Try.prog w = .ok (.bool true) w := by
  simp [go_sem]
set_option maxHeartbeats 8000000 in
set_option maxRecDepth 100000 in
theorem order_any (v : Value) (w : World) (L : List It) (hL : ItsIn w v L) : Calls Try.prog 7 #[v] w fun e w' => e = .returned (.bool true) ∧ Below w.heap.size w w' := by
  have AW := hide awakeM
  have HR := hide hL.1
  have NW := hide (new_any 1600 L v w hL.1)
  have CK := hide (fun W (hb : Below w.heap.size w W) => check_any L v W (hL.1.below hb))
  obtain ⟨mN, na, np, rfl, _⟩ := hL.1
  obtain ⟨n, eN⟩ : ∃ n, Hid (L.length = n) := ⟨_, hide rfl⟩
  rw [eN.out] at mN NW CK ⊢
  unfold maxLen at mN
  clear hL
  by_cases hc : chk L = 0
  · have h64 : n ≤ 64 := by rw [← eN.out]; exact (chk_ok hc).1
    have HC := hide (cs_of hc)
    have HK := hide hc
    clear hc CK
    go_enter Try.func7, Try.ntmps7
    go_wp2_with fail
    refine NW.out.mono ?_
    rintro e w1 ⟨hb1, h1⟩
    rcases h1 with ⟨h1, _⟩ | ⟨_, R, rfl, hRl, hR⟩
    · exact absurd HK.out h1
    have HRu := hide hR
    have Hb := hide hb1
    clear hb1 hR NW
    go_wp2_with fail
    go_loopw [5, 6] (fun vs vi wx => ∃ (i : Nat), i ≤ n ∧ vi = .int .i64 (i : Int) ∧ vs = .int .i64 (1 + tl (L.take i)) ∧ Hid (∀ j x, j < i → L[j]? = some x → (x.k.toNat : Int) = 4 → (j : Int) < x.a) ∧ Hid (RunB wx R 0 (rn0 1600 L)) ∧ Hid (Below w.heap.size w wx)) (fun _ vi _ => n - (intOf vi).toNat)
    case atStart => exact ⟨0, Nat.zero_le _, rfl, rfl, hide (fun j x hj => by omega), HRu, Hb⟩
    case round =>
      clear HRu Hb
      obtain ⟨i, hi, rfl, rfl, HF, HRu, Hb⟩ := hrel
      have hT0 := tl_pos _ (HC.out.take i)
      have hT1 := tl_le _ (HC.out.take i)
      have hTl : (L.take i).length ≤ 64 := by rw [List.length_take]; omega
      by_cases hl : i < n
      · obtain ⟨g, og, cap, x, e1, hg, hxl, cell⟩ := HR.out.get i (by rw [eN.out]; omega)
        injection e1 with e1 e2 e3
        subst e1 e3
        have HS := hide (tl_snoc hxl)
        have HX := hide hxl
        have hcx := HC.out x (List.mem_of_getElem? hxl)
        have hc3 : (x.k.toNat : Int) = 3 → cst x = 1 + x.a := fun e => by unfold cst; rw [if_pos e]
        have hcn : (x.k.toNat : Int) ≠ 3 → cst x = 1 := fun e => by unfold cst; rw [if_neg e]; omega
        have p0 : wr.cell? ⟨g, og + i * 4, none⟩ = some (.int .u8 x.k.toNat) := cell wr Hb.out 0 _ rfl
        have p1 : wr.cell? ⟨g, og + i * 4 + 1, none⟩ = some (.int .i64 x.a) := cell wr Hb.out 1 _ rfl
        have HF2 : Hid (((x.k.toNat : Int) = 4 → (i : Int) < x.a) → ∀ j y, j < i + 1 → L[j]? = some y → (y.k.toNat : Int) = 4 → (j : Int) < y.a) := hide (fun h j y hj hy hk => by
          by_cases e : j = i
          · subst e
            rw [HX.out] at hy
            injection hy with hy
            subst hy
            exact h hk
          · exact HF.out j y (by omega) hy hk)
        have HC3 := hide hc3
        have HCN := hide hcn
        clear cell e2 hxl hc3 hcn HX
        generalize (x.k.toNat : Int) = K at *
        generalize x.a = a at *
        generalize tl (L.take i) = T at *
        generalize cst x = cx at *
        by_cases k4 : K = 4
        · subst k4
          have hcx1 := HCN.out (by omega)
          by_cases ha : a ≤ (i : Int)
          · go_wp2_with fail
            refine (AW.out wr).mono ?_
            rintro e w3 ⟨rfl, hb3⟩
            go_wp2_with fail
            go_ret
            exact ⟨rfl, below_next Hb.out (Nat.le_refl _) hb3⟩
          · have HF3 := hide (HF2.out (fun _ => by omega))
            have hT2 := HS.out
            go_wp2_with fail
            go_roundw
            case rel => exact ⟨i + 1, by omega, by go_num, val_i (by omega), HF3, HRu, Hb⟩
            case measure => simp [intOf]; omega
        · by_cases k3 : K = 3
          · subst k3
            have hcx1 := HC3.out rfl
            have HF3 := hide (HF2.out (fun h => by omega))
            have hT2 := HS.out
            by_cases ha : 1000 < a
            · go_wp2_with fail
              refine (AW.out wr).mono ?_
              rintro e w3 ⟨rfl, hb3⟩
              go_wp2_with fail
              go_ret
              exact ⟨rfl, below_next Hb.out (Nat.le_refl _) hb3⟩
            · go_wp2_with fail
              go_roundw
              case rel => exact ⟨i + 1, by omega, by go_num, val_i (by omega), HF3, HRu, Hb⟩
              case measure => simp [intOf]; omega
          · have hcx1 := HCN.out k3
            have HF3 := hide (HF2.out (fun h => absurd h k4))
            have hT2 := HS.out
            go_wp2_with fail
            go_roundw
            case rel => exact ⟨i + 1, by omega, by go_num, val_i (by omega), HF3, HRu, Hb⟩
            case measure => simp [intOf]; omega
      · obtain rfl : i = n := by omega
        have e0 : L.take i = L := by rw [← eN.out, List.take_length]
        rw [e0] at hT0 hT1 ⊢
        rw [e0] at hTl
        have HFw : Hid (Fwd L) := hide (fun j x hx hk => HF.out j x (by have := (List.getElem?_eq_some_iff.1 hx).1; have := eN.out; omega) hx hk)
        clear HF e0
        obtain ⟨T, HT⟩ : ∃ T, Hid (tl L = T) := ⟨_, hide rfl⟩
        rw [HT.out] at hT0 hT1 ⊢
        go_wp2_with fail
        go_loopw [7, 8] (fun vl vk wx => ∃ (k : Nat) (la : Int) (r : Rn), vk = .int .i64 (k : Int) ∧ vl = .int .i64 la ∧ la ≤ r.p ∧ Hid (Ord L r k) ∧ Hid (RunB wx R k r) ∧ Hid (Below w.heap.size w wx)) (fun _ vk _ => (T + 1).toNat - (intOf vk).toNat)
        case atStart => exact ⟨0, -1, rn0 1600 L, rfl, rfl, (by simp [rn0]), hide ⟨rn0_ok HK.out, rfl, .inl rfl, by simp [rn0]⟩, HRu, Hb⟩
        case round =>
          clear HRu Hb
          obtain ⟨k, la, r, rfl, rfl, hla, HO, HRu, Hb⟩ := hrel
          have hlow := HO.out.low HC.out
          have hkt := HO.out.t
          rw [HT.out] at hkt
          have hkT : (k : Int) < 1 + T := by omega
          have OV := hide (overB wr R k r HRu.out)
          have hpl := HO.out.ok.p
          have hrL := HO.out.i
          rw [hrL, eN.out] at hpl
          rw [hrL, eN.out] at OV
          clear hlow hkt
          by_cases hp : r.p = i
          · rw [show decide (r.p = i) = true by simp [hp]] at OV
            have EG := eql_goal 0 0 0 0 0
            go_wp2_with (first | (go_at_call 27; refine OV.out.mono ?_; rintro e w2 ⟨rfl, hw2⟩))
            replace Hb := hide (below_next Hb.out (Nat.le_refl _) hw2)
            replace HRu := hide (HRu.out.grown hw2)
            clear hw2 OV
            have OV := hide (overB w2 R k r HRu.out)
            rw [hrL, eN.out, show decide (r.p = i) = true by simp [hp]] at OV
            refine OV.out.mono ?_
            rintro e w3 ⟨rfl, hw3⟩
            replace Hb := hide (below_next Hb.out (Nat.le_refl _) hw3)
            replace HRu := hide (HRu.out.grown hw3)
            clear hw3 OV
            have GO := hide (goal_any w3 R k r HRu.out HO.out.ok.p)
            have hg : goalC r = gC 0 0 0 0 0 := by unfold goalC; rw [hrL, List.getElem?_eq_none (by rw [eN.out]; omega)]
            rw [hg] at GO
            clear hg
            go_wp2_with fail
            refine GO.out.mono ?_
            rintro e w4 ⟨rfl, hb4⟩
            replace Hb := hide (below_next Hb.out (Nat.le_refl _) hb4)
            replace HRu := hide (HRu.out.grown hb4)
            clear hb4 GO
            have IX := hide (index_any w4 R k r HRu.out)
            rw [hp] at IX
            go_wp2_with (first | (go_at_call 26; refine IX.out.mono ?_; rintro e w12 ⟨rfl, hw⟩; obtain rfl := hw.symm))
            refine (AW.out w4).mono ?_
            rintro e w5 ⟨rfl, hb5⟩
            go_wp2_with fail
            go_ret
            exact ⟨rfl, below_next Hb.out (Nat.le_refl _) hb5⟩
          · rw [show decide (r.p = i) = false by simp [hp]] at OV
            obtain ⟨g, og, cap, x, e1, hg, hxl, cell⟩ := HR.out.get r.p (by rw [eN.out]; omega)
            injection e1 with e1 e2 e3
            subst e1 e3
            have HCell := hide cell
            have HX := hide hxl
            have HXr : Hid (r.L[r.p]? = some x) := hide (by rw [hrL]; exact hxl)
            clear cell e2 hxl
            have q1 : ¬ ((r.p : Int) < la) := by omega
            have q2 : ¬ ((i : Int) ≤ r.p) := by omega
            have hpi : (r.p : Int) < i := by omega
            go_wp2_with (first | (go_at_call 27; refine OV.out.mono ?_; rintro e w2 ⟨rfl, hw2⟩))
            replace Hb := hide (below_next Hb.out (Nat.le_refl _) hw2)
            replace HRu := hide (HRu.out.grown hw2)
            clear hw2 OV
            have IX := hide (index_any w2 R k r HRu.out)
            have p0 : w2.cell? ⟨g, og + r.p * 4, none⟩ = some (.int .u8 x.k.toNat) := HCell.out w2 Hb.out 0 _ rfl
            by_cases k67 : (x.k.toNat : Int) = 6 ∨ (x.k.toNat : Int) = 7
            · have hse := stp_land HXr.out k67 true
              have hge := goal_land HXr.out k67
              have ST := hide (step_any w2 R k r true HRu.out HO.out.ok (by unfold maxLen; omega))
              rw [hse] at ST
              have GO := hide (fun W (h : RunB W R (k + 1) r) => goal_any W R (k + 1) r h HO.out.ok.p)
              rw [hge] at GO
              have IX2 := hide (fun W (h : RunB W R (k + 1) r) => index_any W R (k + 1) r h)
              clear hse hge HXr HX
              have FD := fld_goal x.k.toNat 0 0 0 r.s
              have HKK : Hid ((itC x)[0]? = some (.int .u8 (x.k.toNat : Int))) := hide rfl
              generalize (x.k.toNat : Int) = K at *
              rcases k67 with rfl | rfl
              · go_wp2_with (first | (go_at_call 26; refine IX.out.mono ?_; rintro e w12 ⟨rfl, hw⟩; obtain rfl := hw.symm))
                refine ST.out.mono ?_
                rintro e w3 ⟨rfl, hR3, hG3⟩
                have HRu3 := hide hR3
                have Hb3 := hide (below_grown Hb.out hG3 (fun k e => by injection e with e; omega))
                clear hR3 hG3 ST IX p0
                have p0 : ∀ z : BelowW w3, z.q.cell? ⟨g, og + r.p * 4, none⟩ = some (.int .u8 6) := fun z => HCell.out z.q (below_next Hb3.out (Nat.le_refl _) z.h) 0 _ HKK.out
                have hne : Nonempty (BelowW w3) := ⟨⟨w3, Below.refl _ _⟩⟩
                go_upto_region 22 with fail
                refine wp_region_calm (by kernel_rfl) (by kernel_rfl) ?_
                repeat (go_big_quiet_step (first
                  | (go_at_call 26; exact calm_same (IX2.out _ (HRu3.out.grown (BelowW.h _))))
                  | (go_at_call 24; exact calm_of (GO.out _ (HRu3.out.grown (BelowW.h _))))
                  | (go_at_call 16; exact calm_of (AW.out _))))
                refine wpQuiet_nil ?_
                rintro _ ⟨z, rfl⟩
                have Hb4 := hide (below_next Hb3.out (Nat.le_refl _) z.h)
                go_wp2_with fail
                go_ret
                exact ⟨rfl, Hb4.out⟩
              · go_wp2_with (first | (go_at_call 26; refine IX.out.mono ?_; rintro e w12 ⟨rfl, hw⟩; obtain rfl := hw.symm))
                refine ST.out.mono ?_
                rintro e w3 ⟨rfl, hR3, hG3⟩
                have HRu3 := hide hR3
                have Hb3 := hide (below_grown Hb.out hG3 (fun k e => by injection e with e; omega))
                clear hR3 hG3 ST IX p0
                have p0 : ∀ z : BelowW w3, z.q.cell? ⟨g, og + r.p * 4, none⟩ = some (.int .u8 7) := fun z => HCell.out z.q (below_next Hb3.out (Nat.le_refl _) z.h) 0 _ HKK.out
                have hne : Nonempty (BelowW w3) := ⟨⟨w3, Below.refl _ _⟩⟩
                go_upto_region 22 with fail
                refine wp_region_calm (by kernel_rfl) (by kernel_rfl) ?_
                repeat (go_big_quiet_step (first
                  | (go_at_call 26; exact calm_same (IX2.out _ (HRu3.out.grown (BelowW.h _))))
                  | (go_at_call 24; exact calm_of (GO.out _ (HRu3.out.grown (BelowW.h _))))
                  | (go_at_call 16; exact calm_of (AW.out _))))
                refine wpQuiet_nil ?_
                rintro _ ⟨z, rfl⟩
                have Hb4 := hide (below_next Hb3.out (Nat.le_refl _) z.h)
                go_wp2_with fail
                go_ret
                exact ⟨rfl, Hb4.out⟩
            · have hst := HO.out.step HC.out HFw.out x HX.out (fun e => k67 (.inl e)) (fun e => k67 (.inr e))
              have HO2 := hide hst.1
              have hmono := hst.2
              have ST := hide (step_any w2 R k r true HRu.out HO.out.ok (by unfold maxLen; omega))
              have k6 : ¬ (x.k.toNat : Int) = 6 := fun e => k67 (.inl e)
              have k7 : ¬ (x.k.toNat : Int) = 7 := fun e => k67 (.inr e)
              generalize (x.k.toNat : Int) = K at *
              have b6 : (K == 6) = false := by simp [k6]
              have b7 : (K == 7) = false := by simp [k7]
              clear hst k67 k6 k7
              go_wp2_with (first | (go_at_call 26; refine IX.out.mono ?_; rintro e w12 ⟨rfl, hw⟩; obtain rfl := hw.symm))
              refine ST.out.mono ?_
              rintro e w3 ⟨rfl, hR3, hG3⟩
              have HRu3 := hide hR3
              have Hb3 := hide (below_grown Hb.out hG3 (fun k e => by injection e with e; omega))
              clear hR3 hG3 ST IX p0
              go_wp2_with fail
              go_roundw
              case rel => exact ⟨k + 1, _, _, by go_num, rfl, by omega, hide (by have := HO2.out; rw [show ((k + 1 : Nat) : Int) = (k : Int) + 1 by omega]; exact this), HRu3, Hb3⟩
              case measure => simp [intOf]; omega
  · have HC := hide hc
    have hne : (chk L != 0) = true := by simp [hc]
    generalize chk L = c at *
    have EE := eql_e c
    clear hc HR
    go_enter Try.func7, Try.ntmps7
    go_wp2_with fail
    refine NW.out.mono ?_
    rintro e w1 ⟨hb1, h1⟩
    rcases h1 with ⟨_, rfl⟩ | ⟨h1, _⟩
    rotate_left
    · exact absurd h1 HC.out
    have Hb := hide hb1
    clear hb1 NW
    go_wp2_with fail
    refine (CK.out w1 Hb.out).mono ?_
    rintro e w2 ⟨rfl, hb2⟩
    replace Hb := hide (below_next Hb.out (Nat.le_refl _) hb2)
    clear hb2 CK
    go_wp2_with fail
    refine (AW.out w2).mono ?_
    rintro e w3 ⟨rfl, hb3⟩
    go_wp2_with fail
    go_ret
    exact ⟨rfl, below_next Hb.out (Nat.le_refl _) hb3⟩
theorem MissionOrder_walk (v : Value) (w : World) (hv : ∃ L, ItsIn w v L) : Calls Try.prog 7 #[v] w fun e w' => e = .returned (.bool true) ∧ Below w.heap.size w w' := by
  obtain ⟨L, hL⟩ := hv
  exact order_any v w L hL
end Go.Proofs.Ytnekjfidobglmaa
