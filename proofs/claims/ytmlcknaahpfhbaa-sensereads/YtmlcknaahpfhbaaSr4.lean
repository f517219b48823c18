/- The document's Read. -/
import Derived.Test.YtmlcknaahpfhbaaSr3
import Derived.Test.YtmlcknaahpfhbaaSeS
namespace Go.Proofs.Ytmlcknaahpfhbaa
open Go.RowKit Go.Great

theorem fieK_take (ws : List Int) (l : List UInt8) (n : Nat) : fieK ws (l.take (totK ws n)) n = fieK ws l n := by
  refine list_ext0 (by rw [fieK_len, fieK_len]) fun i hi => ?_
  rw [fieK_len] at hi
  rw [fieK_at _ _ _ _ hi, fieK_at _ _ _ _ hi]
  congr 1
  have h := totK_mono ws (i + 1) n hi
  rw [totK] at h
  rw [List.drop_take, List.take_take, Nat.min_eq_left (by omega)]
theorem two_at (l : List UInt8) (a : Nat) (h : a + 2 ≤ l.length) : (l.drop a).take 2 = [l.getD a 0, l.getD (a + 1) 0] := by
  rw [List.drop_eq_getElem_cons (by omega), List.drop_eq_getElem_cons (by omega : a + 1 < l.length)]
  have e1 : l.getD a 0 = l[a] := by rw [List.getD, List.getElem?_eq_getElem (by omega)]; rfl
  have e2 : l.getD (a + 1) 0 = l[a + 1] := by rw [List.getD, List.getElem?_eq_getElem (by omega)]; rfl
  rw [e1, e2]
  rfl
theorem drop_cons (l : List UInt8) (k : Nat) (h : k < l.length) : l.drop k = l.getD k 0 :: l.drop (k + 1) := by
  rw [List.drop_eq_getElem_cons h, List.getD, List.getElem?_eq_getElem h]; rfl
/-- when is the frame at k good -/
theorem goS_at (s : Nat) (hs : s < 256) (l : List UInt8) (k : Nat) (h : k + (toS s + 4) ≤ l.length) : goS s (165 :: l.drop (k + 1)) = true ↔ ((l.getD (k + 1) 0).toNat = s ∧ (l.getD (k + toS s + 2) 0).toNat = (ckS ((l.drop (k + 1)).take (1 + toS s))).toNat % 256 ∧ (l.getD (k + toS s + 3) 0).toNat = (ckS ((l.drop (k + 1)).take (1 + toS s))).toNat / 256) := by
  rw [goS_iff, List.length_drop, two_at _ _ (by rw [List.length_drop]; omega)]
  have e1 : ((l.drop (k + 1)).take (1 + toS s)).getD 0 0 = l.getD (k + 1) 0 := by
    rw [List.getD, List.getElem?_take, if_pos (by omega), List.getElem?_drop]; rfl
  have e2 : (l.drop (k + 1)).getD (1 + toS s) 0 = l.getD (k + toS s + 2) 0 := by
    rw [List.getD, List.getD, List.getElem?_drop]; congr 2; omega
  have e3 : (l.drop (k + 1)).getD (1 + toS s + 1) 0 = l.getD (k + toS s + 3) 0 := by
    rw [List.getD, List.getD, List.getElem?_drop]; congr 2; omega
  rw [e1, e2, e3]
  have hc := (ckS ((l.drop (k + 1)).take (1 + toS s))).isLt
  unfold loS hiS
  generalize (ckS ((l.drop (k + 1)).take (1 + toS s))).toNat = c at *
  have f : ∀ (x : UInt8) (n : Nat), n < 256 → (x = UInt8.ofNat n ↔ x.toNat = n) := fun x n hn => by
    constructor
    · intro e; rw [e, UInt8.toNat_ofNat']; omega
    · intro e; apply UInt8.toNat_inj.1; rw [e, UInt8.toNat_ofNat']; omega
  have g : ∀ a b c d : UInt8, [a, b] = [c, d] ↔ a = c ∧ b = d := fun a b c d => by simp
  rw [g, f _ s hs, f _ (c % 256) (by omega), f _ (c / 256) (by omega)]
  constructor
  · rintro ⟨_, h2, h3, h4⟩; exact ⟨h2, h3, h4⟩
  · rintro ⟨h2, h3, h4⟩; exact ⟨by omega, h2, h3, h4⟩
set_option maxRecDepth 100000 in
set_option maxHeartbeats 8000000 in
theorem rread_any (s : Nat) (hs : s < 256) (l : List UInt8) (hl : l.length ≤ 4611686018427387904) (w : World) : Calls Try.prog 10 #[.int .u8 (s : Int), .string (bs l)] w fun e w' => ∃ v, e = .returned (.tuple #[v, .bool (rdR s l).is, .int .i64 ((rdR s l).bad : Int)]) ∧ IRow w' w.heap.size v (rdR s l).out ∧ Below w.heap.size w w' := by
  have hWI := fun W => rwidths_any s hs W
  unfold rdR
  by_cases h1 : (wsS s).length = 0
  · rw [if_pos h1]
    have HL := hide h1
    clear h1
    generalize bs l = d
    go_enter Try.func10, Try.ntmps10
    go_wp2_with fail
    refine (hWI _).mono ?_
    rintro e w1 ⟨v, rfl, hI, hB⟩
    obtain ⟨av, cv, rfl, _⟩ := hI
    rw [HL.out]
    have HB := hide hB
    clear hB hWI
    go_wp2_with fail
    go_ret3
    exact ⟨_, rfl, IRow.nil _ _, HB.out⟩
  · rw [if_neg h1]
    have hl0 : (((wsS s).length : Int) == 0) = false := by rw [beq_eq_false_iff_ne]; omega
    have hm5 := wsS_len s
    have ht16 := toS_le s
    obtain ⟨R, hR⟩ : ∃ R, reS s l ⟨[], false, 0⟩ = R := ⟨_, rfl⟩
    have HRR := hide hR
    rw [hR]
    clear hR h1
    obtain ⟨d, HD⟩ : ∃ d, Hid (bs l = d) := ⟨_, rfl⟩
    rw [HD.out]
    have HSZ : Hid (d.size = l.length) := hide (by rw [← HD.out]; exact bs_size l)
    have HGA : Hid (∀ k, k < l.length → ∃ h : k < d.size, d[k] = l.getD k 0) := hide (by
      rw [← HD.out]
      exact fun k hk => ⟨by rw [bs_size]; exact hk, by rw [← getD_at (bs l) k (by rw [bs_size]; exact hk), bs_list]⟩)
    have HGO := hide (goS_at s hs l)
    have HGB := hide (fun l2 r hg => reS_bad s l2 r hg)
    have HGG := hide (fun l2 r hg => reS_good s l2 r hg)
    have HOT := hide (fun b l2 r hb => reS_other s b l2 r hb)
    have HSH := hide (fun l2 h => goS_short s l2 h)
    have HNL := hide (fun r => reS_nil s r)
    have HTS : Hid (toS s = totK (wsS s) (wsS s).length) := rfl
    have HW := hide (wsS_wid s)
    have hds : d.size ≤ 4611686018427387904 := by rw [HSZ.out]; exact hl
    generalize hre : reS s = re at *
    generalize hgo : goS s = go at *
    generalize toS s = t at *
    generalize hwe : wsS s = ws at *
    obtain ⟨m, hm⟩ : ∃ m, ws.length = m := ⟨_, rfl⟩
    rw [hm] at hl0 hm5 HTS HGG
    have HM := hide hm
    have HT4 := hide (tot_le4 ws HW.out)
    clear hm hre hgo hwe
    go_enter Try.func10, Try.ntmps10
    go_wp2_with fail
    refine (hWI _).mono ?_
    rintro e w1 ⟨v, rfl, hI, hB⟩
    have HI := hide hI
    have HB := hide hB
    obtain ⟨av, cv, rfl, _⟩ := hI
    rw [HM.out] at HI ⊢
    clear hB hWI
    go_wp2_with fail
    go_loopw [8, 9] (fun z i wx => ∃ k : Nat, k ≤ m ∧ i = .int .i64 k ∧ z = .int .i64 ((4 + totK ws k : Nat) : Int) ∧ wx = w1) (fun _ i _ => m - (intOf i).toNat)
    case atStart => exact ⟨0, Nat.zero_le _, rfl, rfl, rfl⟩
    case round =>
      obtain ⟨k, hk, rfl, rfl, hwx⟩ := hrel
      obtain rfl := hwx.symm
      by_cases hlt : k < m
      · have hkw : k < ws.length := by rw [HM.out]; exact hlt
        obtain ⟨g, o, rfl, hg, d1⟩ := HI.out.at k hkw
        have hSZ := fun W => rbytes_any (ws.getD k 0) (widD HW.out k hkw) W
        have hz4 := (wid_sz (widD HW.out k hkw)).2
        have hT := HT4.out k (by rw [HM.out]; omega)
        have HN : Hid (4 + totK ws (k + 1) = 4 + totK ws k + szW (ws.getD k 0)) := hide (by rw [totK]; omega)
        have ha : 4 + totK ws k ≤ 24 := by omega
        generalize 4 + totK ws k = a at *
        generalize szW (ws.getD k 0) = z at *
        generalize ws.getD k 0 = x at *
        go_wp2_with fail
        refine (hSZ _).mono ?_
        rintro e w2 ⟨rfl, hw2⟩
        obtain rfl := hw2.symm
        go_wp2_with fail
        go_roundw
        case rel => exact ⟨k + 1, by omega, by go_num, by rw [HN.out]; go_num, trivial⟩
        case measure => simp [intOf]; omega
      · have e : k = m := by omega
        obtain ⟨z, HZ⟩ : ∃ z, Hid (t + 4 = z) := ⟨_, rfl⟩
        have HZZ : Hid (4 + totK ws k = z) := hide (by rw [e, ← HTS.out, ← HZ.out]; omega)
        rw [HZZ.out]
        clear e HZZ
        go_wp2_with fail
        go_loopw [10, 11, 12, 13] (fun vo is bd at' wx => ∃ (j : Nat) (ro : List Int) (ii : Bool) (bb : Nat) (va : Option Addr) (vl vc : Nat), j ≤ l.length ∧ at' = .int .i64 j ∧ bd = .int .i64 (bb : Int) ∧ is = .bool ii ∧ vo = .slice va vl vc ∧ Hid (IRow wx w.heap.size (.slice va vl vc) ro) ∧ Hid (Below w1.heap.size w1 wx) ∧ Hid (re (l.drop j) ⟨ro, ii, bb⟩ = R) ∧ bb ≤ j) (fun _ _ _ i _ => l.length - (intOf i).toNat)
        case atStart => exact ⟨0, [], false, 0, none, 0, 0, Nat.zero_le _, rfl, rfl, rfl, rfl, hide (IRow.nil _ _), hide (Below.refl _ _), hide (by rw [List.drop_zero]; exact HRR.out), Nat.le_refl _⟩
        case round =>
          obtain ⟨j, ro, ii, bb, va, vl, vc, hjl, rfl, rfl, rfl, rfl, HRow, HBX, HRS, hbad⟩ := hrel
          by_cases hlt : j < l.length
          · obtain ⟨hjb, he⟩ := HGA.out j hlt
            have HE := hide he
            have hjd : (j : Int) < (d.size : Int) := by rw [HSZ.out]; omega
            have HDC := hide (drop_cons l j hlt)
            clear he
            by_cases hb : l.getD j 0 = 165
            · have hx : ((d[j].toNat : Int) != 165) = false := by rw [HE.out, hb]; rfl
              have HD2 : Hid (l.drop j = 165 :: l.drop (j + 1)) := hide (by rw [HDC.out, hb])
              have HL2 : Hid ((l.drop j).length = l.length - j) := hide (List.length_drop ..)
              have HBad : Hid (go (165 :: l.drop (j + 1)) = false → re (l.drop (j + 1)) ⟨ro, ii, bb + 1⟩ = R) := hide (fun hg => by
                have := HGB.out (l.drop (j + 1)) ⟨ro, ii, bb⟩ hg
                rw [← HD2.out, HRS.out] at this
                exact this.symm)
              obtain ⟨q, hq⟩ : ∃ q : Nat, (j : Int) + (z : Int) = (q : Int) := ⟨j + z, by omega⟩
              obtain ⟨j1, hj1⟩ : ∃ j1 : Nat, (j : Int) + 1 = (j1 : Int) := ⟨j + 1, by omega⟩
              have hqn : j + z = q := by omega
              have hj1n : j + 1 = j1 := by omega
              have HQN := hide hqn
              have HJ1 := hide hj1n
              have hz2 := HZ.out
              have hqb : q ≤ 4611686018427387930 := by omega
              by_cases hfit : q ≤ l.length
              · have hfd : (q : Int) ≤ (d.size : Int) := by rw [HSZ.out]; omega
                have HGI := hide (HGO.out j (by omega))
                obtain ⟨q2, hq2⟩ : ∃ q2 : Nat, (q : Int) - 2 = (q2 : Int) := ⟨q - 2, by omega⟩
                obtain ⟨q1, hq1⟩ : ∃ q1 : Nat, (q : Int) - 1 = (q1 : Int) := ⟨q - 1, by omega⟩
                have e2 : j + t + 2 = q2 := by omega
                have e3 : j + t + 3 = q1 := by omega
                obtain ⟨g1, f1⟩ := HGA.out j1 (by omega)
                obtain ⟨g2, f2⟩ := HGA.out q2 (by omega)
                obtain ⟨g3, f3⟩ := HGA.out q1 (by omega)
                have HSL : Hid (d.extract j1 q2 = bs ((l.drop (j + 1)).take (1 + t))) := hide (by
                  apply bs_ext
                  rw [extract_list, ← HD.out, bs_list, bs_list, ← hj1n, show q2 - (j + 1) = 1 + t by omega])
                have hsl : ∀ wx, (Instr.slice 9 (.string d) (some (.int .i64 (j1 : Int))) (some (.int .i64 (q2 : Int))) none).run Try.prog wx = .ok (.string (d.extract j1 q2)) wx := fun wx => cut_run d j1 q2 (by omega) (by rw [HSZ.out]; omega) wx
                rw [HSL.out] at hsl
                have hgj : (j1 : Int) < (d.size : Int) := by omega
                have hgq2 : (q2 : Int) < (d.size : Int) := by omega
                have hgq1 : (q1 : Int) < (d.size : Int) := by omega
                have HF1 : Hid ((d[j1].toNat : Int) = ((l.getD (j + 1) 0).toNat : Int)) := hide (by rw [f1, ← hj1n])
                have HF2 : Hid ((d[q2].toNat : Int) = ((l.getD (j + t + 2) 0).toNat : Int)) := hide (by rw [f2, ← e2])
                have HF3 : Hid ((d[q1].toNat : Int) = ((l.getD (j + t + 3) 0).toNat : Int)) := hide (by rw [f3, ← e3])
                have RS := fun W => ref_sum (bs ((l.drop (j + 1)).take (1 + t))) W (by rw [bs_size, List.length_take]; omega)
                have HCK : Hid ((ckS ((l.drop (j + 1)).take (1 + t))).toNat = (csum (bs ((l.drop (j + 1)).take (1 + t)))).toNat) := hide (by unfold ckS csum; rw [bs_list])
                rw [HCK.out] at HGI
                have hc16 := (csum (bs ((l.drop (j + 1)).take (1 + t)))).isLt
                generalize (csum (bs ((l.drop (j + 1)).take (1 + t)))).toNat = cc at *
                generalize bs ((l.drop (j + 1)).take (1 + t)) = tx at *
                generalize hx1 : (l.getD (j + 1) 0).toNat = x1 at *
                generalize hx2 : (l.getD (j + t + 2) 0).toNat = x2 at *
                generalize hx3 : (l.getD (j + t + 3) 0).toNat = x3 at *
                have hjs : ((d[j1].toNat : Int) == (s : Int)) = decide (x1 = s) := by rw [HF1.out]; by_cases hh : x1 = s <;> simp [hh] <;> omega
                have h2s : ((d[q2].toNat : Int) == (cc : Int) % 256) = decide (x2 = cc % 256) := by rw [HF2.out]; by_cases hh : x2 = cc % 256 <;> simp [hh] <;> omega
                have h3s : ((d[q1].toNat : Int) == (cc : Int) / 256) = decide (x3 = cc / 256) := by rw [HF3.out]; by_cases hh : x3 = cc / 256 <;> simp [hh] <;> omega
                clear f1 f2 f3 hx1 hx2 hx3 hqn hj1n hb e2 e3
                by_cases k1 : x1 = s
                · rw [decide_eq_true k1] at hjs
                  by_cases k2 : x2 = cc % 256
                  · rw [decide_eq_true k2] at h2s
                    by_cases k3 : x3 = cc / 256
                    · rw [decide_eq_true k3] at h3s
                      have hg := HGI.out.2 ⟨k1, k2, k3⟩
                      obtain ⟨j2, hj2⟩ : ∃ j2 : Nat, (j : Int) + 2 = (j2 : Int) := ⟨j + 2, by omega⟩
                      have hj2n : j + 2 = j2 := by omega
                      have hsl2 : ∀ wx, (Instr.slice 9 (.string d) (some (.int .i64 (j2 : Int))) none none).run Try.prog wx = .ok (.string (bs (l.drop j2))) wx := fun wx => by
                        rw [from_run d j2 (by rw [HSZ.out]; omega) wx, ← HD.out, ext_drop]
                      have FI := fun W hv => rfields_any ws HW.out (by rw [HM.out]; omega) (.slice av m cv) (bs (l.drop j2)) (by rw [HM.out, ← HTS.out, bs_size, List.length_drop]; omega) (by rw [bs_size, List.length_drop]; omega) W hv
                      rw [bs_list, HM.out] at FI
                      have HRB : Hid (re (l.drop q) ⟨fieK ws (l.drop j2) m, true, bb⟩ = R) := hide (by
                        have := HGG.out (l.drop (j + 1)) ⟨ro, ii, bb⟩ hg
                        rw [← HD2.out, HRS.out] at this
                        rw [this, HD2.out]
                        have e5 : (165 :: l.drop (j + 1)).drop (t + 4) = l.drop q := by
                          show (l.drop (j + 1)).drop (t + 3) = _
                          rw [List.drop_drop]; congr 1; have := HQN.out; have := HZ.out; omega
                        have e6 : (165 :: l.drop (j + 1)).drop 2 = l.drop j2 := by
                          show (l.drop (j + 1)).drop 1 = _
                          rw [List.drop_drop]; congr 1
                        rw [e5, e6, HTS.out, fieK_take])
                      generalize fieK ws (l.drop j2) m = F at *
                      generalize bs (l.drop j2) = tf at *
                      clear HBad HGI hg k1 k2 k3 hj2n
                      clear hz2
                      go_wp2_with fail
                      refine (RS _).mono ?_
                      rintro e w2 ⟨rfl, hw2⟩
                      obtain rfl := hw2.symm
                      go_wp2_with fail
                      refine (FI _ (HI.out.below HBX.out)).mono ?_
                      rintro e w3 ⟨u3, rfl, hr3, hb3⟩
                      have HB3 := hide hb3
                      have HR3 := hide hr3
                      obtain ⟨va3, vc3, hve⟩ := IRow.shape hr3
                      subst hve
                      clear hb3 hr3
                      go_wp2_with fail
                      go_roundw
                      case rel => exact ⟨q, F, true, bb, va3, F.length, vc3, hfit, rfl, rfl, rfl, rfl, hide (HR3.out.lower (Nat.le_trans HB.out.size HBX.out.size)), hide (below_next HBX.out (Nat.le_refl _) HB3.out), HRB, by have := HQN.out; omega⟩
                      case measure => simp [intOf]; have := HQN.out; have := HZ.out; omega
                    · rw [decide_eq_false k3] at h3s
                      have HRB := hide (HBad.out (by rw [Bool.eq_false_iff]; intro h; exact k3 (HGI.out.1 h).2.2))
                      clear HBad HGI k1 k2 k3
                      clear hz2
                      go_wp2_with fail
                      refine (RS _).mono ?_
                      rintro e w2 ⟨rfl, hw2⟩
                      obtain rfl := hw2.symm
                      go_wp2_with fail
                      go_roundw
                      case rel => exact ⟨j + 1, ro, ii, bb + 1, va, vl, vc, by omega, by have := HJ1.out; go_num, by go_num, rfl, rfl, HRow, HBX, HRB, by omega⟩
                      case measure => simp [intOf]; omega
                  · rw [decide_eq_false k2] at h2s
                    have HRB := hide (HBad.out (by rw [Bool.eq_false_iff]; intro h; exact k2 (HGI.out.1 h).2.1))
                    clear HBad HGI k1 k2
                    clear hz2
                    go_wp2_with fail
                    refine (RS _).mono ?_
                    rintro e w2 ⟨rfl, hw2⟩
                    obtain rfl := hw2.symm
                    go_wp2_with fail
                    go_roundw
                    case rel => exact ⟨j + 1, ro, ii, bb + 1, va, vl, vc, by omega, by have := HJ1.out; go_num, by go_num, rfl, rfl, HRow, HBX, HRB, by omega⟩
                    case measure => simp [intOf]; omega
                · rw [decide_eq_false k1] at hjs
                  have HRB := hide (HBad.out (by rw [Bool.eq_false_iff]; intro h; exact k1 (HGI.out.1 h).1))
                  clear HBad HGI k1 hz2
                  go_wp2_with fail
                  go_roundw
                  case rel => exact ⟨j + 1, ro, ii, bb + 1, va, vl, vc, by omega, by have := HJ1.out; go_num, by go_num, rfl, rfl, HRow, HBX, HRB, by omega⟩
                  case measure => simp [intOf]; omega
              · have hfd : ¬ (q : Int) ≤ (d.size : Int) := by rw [HSZ.out]; omega
                have hfd2 : decide ((q : Int) ≤ (d.size : Int)) = false := decide_eq_false hfd
                have HRB := hide (HBad.out (HSH.out _ (by rw [List.length_cons, List.length_drop]; omega)))
                clear HBad hqn hj1n hz2
                go_wp2_with fail
                go_roundw
                case rel => exact ⟨j + 1, ro, ii, bb + 1, va, vl, vc, by omega, by have := HJ1.out; go_num, by go_num, rfl, rfl, HRow, HBX, HRB, by omega⟩
                case measure => simp [intOf]; omega
            · have hx : ((d[j].toNat : Int) != 165) = true := by
                rw [HE.out, bne_iff_ne]
                intro e
                apply hb
                apply UInt8.toNat_inj.1
                show _ = 165
                exact Int.ofNat.inj e
              have HRB : Hid (re (l.drop (j + 1)) ⟨ro, ii, bb⟩ = R) := hide (by
                have := HOT.out (l.getD j 0) (l.drop (j + 1)) ⟨ro, ii, bb⟩ hb
                rw [← HDC.out, HRS.out] at this
                exact this.symm)
              clear hb
              go_wp2_with fail
              go_roundw
              case rel => exact ⟨j + 1, ro, ii, bb, va, vl, vc, by omega, by go_num, rfl, rfl, rfl, HRow, HBX, HRB, by omega⟩
              case measure => simp [intOf]; omega
          · have e : j = l.length := by omega
            have hjd : ¬ (j : Int) < (d.size : Int) := by rw [HSZ.out]; omega
            have HRE : Hid (R = ⟨ro, ii, bb⟩) := hide (by rw [← HRS.out, e, List.drop_length]; exact HNL.out _)
            clear e
            go_wp2_with fail
            go_ret3
            refine ⟨_, ?_, by rw [HRE.out]; exact HRow.out, below_next HB.out (Nat.le_refl _) HBX.out⟩
            rw [HRE.out]
            rfl
end Go.Proofs.Ytmlcknaahpfhbaa
