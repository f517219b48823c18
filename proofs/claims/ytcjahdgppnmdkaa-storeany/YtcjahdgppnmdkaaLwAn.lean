/- StoreAny. -/
import Derived.Test.YtcjahdgppnmdkaaSoDe
set_option maxRecDepth 100000
namespace Go.Proofs.Ytcjahdgppnmdkaa
open Go.RowKit Go.Great

set_option maxRecDepth 100000 in
set_option maxHeartbeats 1000000 in
theorem any_out (s : ByteArray) (hs : s.size ≠ 8192) (a a2 : Option Addr) (n cap n2 cap2 : Nat) (w : World) : Calls Try.prog 5 #[.string s, .slice a n cap, .slice a2 n2 cap2] w fun e w' => e = .returned (.bool true) ∧ Below w.heap.size w w' := by
  have H1 := hide (fun W => of_out W s hs)
  have HA := hide awake7
  clear hs
  go_enter Try.func5, Try.ntmps5
  go_wp2_with fail
  refine (H1.out _).mono ?_
  rintro e w1 ⟨rfl, hw1⟩
  obtain rfl := hw1.symm
  clear hw1
  go_wp2_with fail
  refine (HA.out _).mono ?_
  rintro e w2 ⟨rfl, hB2⟩
  have HB2 := hide hB2
  clear hB2
  go_wp2_with fail
  go_ret
  exact ⟨rfl, HB2.out⟩
set_option maxRecDepth 100000 in
set_option maxHeartbeats 4000000 in
theorem any_in (im : ByteArray) (him : im.size = 8192) (v1 : Value) (c1 : List Ct) (v : Value) (ds : List Dd) (w : World) (hc1 : CutsIn w v1 c1) (hd : DeedsIn w v ds) : Calls Try.prog 5 #[.string im, v1, v] w fun e w' => e = .returned (.bool true) ∧ Below w.heap.size w w' := by
  obtain ⟨hlen, ⟨a, cap, rfl, hcc⟩, hsz⟩ := hd
  have HCC := hide hcc
  have HSZ := hide hsz
  have HOf := hide (fun W => of_in W im him)
  have HRa := hide (fun W R σ hF v cs hC hl => raised_any W R σ hF v cs hC hl)
  have HPt := hide (fun W S R σ hon s ha hF h id tv => put_any W S R σ hon s ha hF h id tv)
  have HCt := hide (fun W R σ h n j hj => cut_any W R σ h n j hj)
  have HA := hide awake7
  have HC1i := hide hc1
  have HL1 : Hid (c1.length ≤ 9223372036854775807) := by have := hc1.1; unfold maxLen at this; exact this
  obtain ⟨_, a1, cap1, rfl, _⟩ := hc1
  obtain ⟨n, HN⟩ : ∃ n, Hid (ds.length = n) := ⟨_, rfl⟩
  obtain ⟨n1, HN1⟩ : ∃ n, Hid (c1.length = n) := ⟨_, rfl⟩
  rw [HN.out] at hlen HCC HSZ ⊢
  rw [HN1.out] at HC1i ⊢
  have hni : (n : Int) ≤ 9223372036854775807 := by omega
  unfold fp at HOf HRa HPt HCt
  clear hcc hsz him
  go_enter Try.func5, Try.ntmps5
  go_wp2_with fail
  refine (HOf.out _).mono ?_
  rintro e w1 ⟨rfl, hF1, hB1⟩
  have HF1 := hide hF1
  have HB1 := hide hB1
  have HCu1 := hide (HC1i.out.cuts hB1 (Nat.le_refl w.heap.size))
  clear hF1 hB1
  obtain ⟨R, HR⟩ : ∃ R, Hid (w.heap.size = R) := ⟨_, rfl⟩
  rw [HR.out] at HF1 HCu1 ⊢
  go_wp2_with fail
  refine (HRa.out _ _ _ HF1.out _ c1 HCu1.out HL1.out).mono ?_
  rintro e w2 ⟨S, τ, s, rfl, hF2, hS2, ⟨V, hL⟩, _, ⟨ho, har, hj⟩, hge, hSR, hK2, _⟩
  have HB2 : Hid (Below w.heap.size w w2) := Kept.toBelow HB1.out hK2 HB1.out.size (by have := HR.out; omega)
  have HL := hide hL
  have HF2 := hide hF2
  have HS2 := hide hS2
  have HON : Hid (On τ) := ⟨hF2.len, ho, hj⟩
  have HGE : Hid (w.heap.size ≤ R ∧ w.heap.size ≤ S ∧ S ≠ R) := ⟨by have := HR.out; omega, by have := HB1.out.size; omega, hSR⟩
  clear hF2 hS2 ho har hj hge hSR hK2 hL HF1 HB1 HCu1
  unfold fp
  go_upto_region 8 with fail
  have ha := below_alloc w2 (.cells (knC fun _ => vfz) 42)
  have HW0 : Hid (KeW w R S w2.heap.size τ s V (fun _ => vfz) (w2.alloc (.cells (knC fun _ => vfz) 42))) :=
    ⟨below_next HB2.out (Nat.le_refl _) ha, HF2.out.below ha, HS2.out.below ha, heap_alloc_new _ _, HL.out, HON.out, ⟨HGE.out.1, HGE.out.2.1, HB2.out.size⟩, ⟨by have := HF2.out.lt; omega, HGE.out.2.2, by have := HS2.out.lt; omega⟩⟩
  unfold knC vfz em at HW0
  simp only at HW0
  generalize w2.alloc (.cells #[.bool false, .string ⟨#[]⟩, .bool false, .string ⟨#[]⟩, .bool false, .string ⟨#[]⟩, .bool false, .string ⟨#[]⟩, .bool false, .string ⟨#[]⟩, .bool false, .string ⟨#[]⟩] 42) = w3 at HW0 ⊢
  generalize w2.heap.size = K at HW0 ⊢
  clear ha HB2 HF2 HS2 HON HGE HL
  go_wp2_with fail
  go_loopw [12] (fun j wx => ∃ (m : Nat) (fx : Nat → Vf), m ≤ 3 ∧ j = .int .i64 m ∧ KeW w R S K τ s V fx wx ∧ (∀ i, i < 3 → i < m → fx i = vfOf (V i))) (fun j _ => 3 - (intOf j).toNat)
  case atStart => exact ⟨0, _, by omega, rfl, HW0.out, fun i _ h => absurd h (by omega)⟩
  case round =>
    obtain ⟨m, fx, hm, rfl, hWj, hf1⟩ := hrel
    have HWj := hide hWj
    have HF1 := hide hf1
    clear hWj hf1 HW0
    by_cases hm3 : m < 3
    · obtain rfl | rfl | rfl : m = 0 ∨ m = 1 ∨ m = 2 := by omega
      · have TL := hide (fun W h1 h2 => get_any W S R τ HWj.out.on s HWj.out.live.ask h1 h2 ((0 : Nat) : Int))
        rw [HWj.out.live.get 0 (by omega), getV_of] at TL
        obtain ⟨ois, og, HVo⟩ : ∃ ois og, Hid (vfOf (V 0) = ⟨ois, og, false, em⟩) := ⟨_, _, vfOf_form _⟩
        rw [HVo.out] at TL
        simp only at TL
        unfold fp at TL
        go_wp2_with fail
        refine (TL.out _ HWj.out.fl HWj.out.so).mono ?_
        rintro e wt ⟨rfl, hBt⟩
        have HWt := hide (HWj.out.next hBt)
        clear hBt
        have k0 := HWt.out.kn.at 0 (.bool (fx 0).is) rfl
        have k1 := HWt.out.kn.at 1 (.string (fx 0).s) rfl
        have k2 := HWt.out.kn.at 2 (.bool (fx 0).cut) rfl
        have k3 := HWt.out.kn.at 3 (.string (fx 0).late) rfl
        have kf := HWt.out.kn.fz
        have HKn := hide (HWt.out.kn.put0 ⟨ois, og, false, em⟩)
        have HWn := hide (HWt.out.known ((((kept_set wt 0 (.bool ois)).set 1 (.string og)).set 2 (.bool false)).set 3 (.string em)) HKn.out)
        go_wp2_with fail
        go_roundw
        case rel => exact ⟨1, updf fx 0 ⟨ois, og, false, em⟩, by omega, rfl, HWn.out, fun i hi hm => by
          unfold updf
          by_cases e : i = 0
          · rw [if_pos e, e, HVo.out]
          · rw [if_neg e]; exact HF1.out i hi (by omega)⟩
        case measure => simp [intOf]
      · have TL := hide (fun W h1 h2 => get_any W S R τ HWj.out.on s HWj.out.live.ask h1 h2 ((1 : Nat) : Int))
        rw [HWj.out.live.get 1 (by omega), getV_of] at TL
        obtain ⟨ois, og, HVo⟩ : ∃ ois og, Hid (vfOf (V 1) = ⟨ois, og, false, em⟩) := ⟨_, _, vfOf_form _⟩
        rw [HVo.out] at TL
        simp only at TL
        unfold fp at TL
        go_wp2_with fail
        refine (TL.out _ HWj.out.fl HWj.out.so).mono ?_
        rintro e wt ⟨rfl, hBt⟩
        have HWt := hide (HWj.out.next hBt)
        clear hBt
        have k0 := HWt.out.kn.at 4 (.bool (fx 1).is) rfl
        have k1 := HWt.out.kn.at 5 (.string (fx 1).s) rfl
        have k2 := HWt.out.kn.at 6 (.bool (fx 1).cut) rfl
        have k3 := HWt.out.kn.at 7 (.string (fx 1).late) rfl
        have kf := HWt.out.kn.fz
        have HKn := hide (HWt.out.kn.put1 ⟨ois, og, false, em⟩)
        have HWn := hide (HWt.out.known ((((kept_set wt 4 (.bool ois)).set 5 (.string og)).set 6 (.bool false)).set 7 (.string em)) HKn.out)
        go_wp2_with fail
        go_roundw
        case rel => exact ⟨2, updf fx 1 ⟨ois, og, false, em⟩, by omega, rfl, HWn.out, fun i hi hm => by
          unfold updf
          by_cases e : i = 1
          · rw [if_pos e, e, HVo.out]
          · rw [if_neg e]; exact HF1.out i hi (by omega)⟩
        case measure => simp [intOf]
      · have TL := hide (fun W h1 h2 => get_any W S R τ HWj.out.on s HWj.out.live.ask h1 h2 ((2 : Nat) : Int))
        rw [HWj.out.live.get 2 (by omega), getV_of] at TL
        obtain ⟨ois, og, HVo⟩ : ∃ ois og, Hid (vfOf (V 2) = ⟨ois, og, false, em⟩) := ⟨_, _, vfOf_form _⟩
        rw [HVo.out] at TL
        simp only at TL
        unfold fp at TL
        go_wp2_with fail
        refine (TL.out _ HWj.out.fl HWj.out.so).mono ?_
        rintro e wt ⟨rfl, hBt⟩
        have HWt := hide (HWj.out.next hBt)
        clear hBt
        have k0 := HWt.out.kn.at 8 (.bool (fx 2).is) rfl
        have k1 := HWt.out.kn.at 9 (.string (fx 2).s) rfl
        have k2 := HWt.out.kn.at 10 (.bool (fx 2).cut) rfl
        have k3 := HWt.out.kn.at 11 (.string (fx 2).late) rfl
        have kf := HWt.out.kn.fz
        have HKn := hide (HWt.out.kn.put2 ⟨ois, og, false, em⟩)
        have HWn := hide (HWt.out.known ((((kept_set wt 8 (.bool ois)).set 9 (.string og)).set 10 (.bool false)).set 11 (.string em)) HKn.out)
        go_wp2_with fail
        go_roundw
        case rel => exact ⟨3, updf fx 2 ⟨ois, og, false, em⟩, by omega, rfl, HWn.out, fun i hi hm => by
          unfold updf
          by_cases e : i = 2
          · rw [if_pos e, e, HVo.out]
          · rw [if_neg e]; exact HF1.out i hi (by omega)⟩
        case measure => simp [intOf]
    · have hmd : decide ((m : Int) < 3) = false := decide_eq_false (by omega)
      go_wp2_with fail
      go_loopw [9, 15] (fun sv i wx => ∃ (k S : Nat) (σ : St) (s : Sv) (V : Vl) (f : Nat → Vf), k ≤ n ∧ i = .int .i64 k ∧ sv = .pointer (some ⟨S, 0, none⟩) ∧ KeW w R S K σ s V f wx ∧ ∀ i, i < 3 → f i = vfOf (V i)) (fun _ i _ => n - (intOf i).toNat)
      case atStart => exact ⟨0, S, τ, s, V, fx, by omega, rfl, rfl, HWj.out, fun i hi => HF1.out i hi (by omega)⟩
      case round =>
        obtain ⟨k, S1, σ1, s1, V1, f1, hk, rfl, rfl, hW, hfv⟩ := hrel
        have HW := hide hW
        have HFv := hide hfv
        clear hW hfv HWj HF1
        by_cases hlt : k < n
        · obtain ⟨g, o, rfl, hg, hcell⟩ := HCC.out (by omega)
          obtain ⟨y0, y1, y2, y3, y4, y5⟩ := hcell k hlt
          obtain ⟨hz1, hz2, hci⟩ := HSZ.out k hlt
          generalize ds.getD k ddz = D at y0 y1 y2 y3 y4 y5 hz1 hz2 hci
          obtain ⟨id, val, arm, lf, jk, bv, cs⟩ := D
          simp only at y0 y1 y2 y3 y4 y5 hz1 hz2 hci
          have HCI := hide hci
          have HBL : Hid (cs.length ≤ 9223372036854775807) := by have := hci.1; unfold maxLen at this; exact this
          obtain ⟨_, ba, bcap, rfl, _⟩ := hci
          obtain ⟨bn, HBN⟩ : ∃ bn, Hid (cs.length = bn) := ⟨_, rfl⟩
          rw [HBN.out] at y5 HCI
          have HZ := hide (And.intro hz1 hz2)
          have x0 := (HW.out.bel.cell (p := ⟨g, o + k * 6, none⟩) hg).trans y0
          have x1 := (HW.out.bel.cell (p := ⟨g, o + k * 6 + 1, none⟩) hg).trans y1
          have x2 := (HW.out.bel.cell (p := ⟨g, o + k * 6 + 2, none⟩) hg).trans y2
          have x3 := (HW.out.bel.cell (p := ⟨g, o + k * 6 + 3, none⟩) hg).trans y3
          have x4 := (HW.out.bel.cell (p := ⟨g, o + k * 6 + 4, none⟩) hg).trans y4
          have x5 := (HW.out.bel.cell (p := ⟨g, o + k * 6 + 5, none⟩) hg).trans y5
          have d00 : decide ((k : Int) < (n : Int)) = true := decide_eq_true (by omega)
          clear hcell y0 y1 y2 y3 y4 y5 hz1 hz2
          go_upto_region 17 with fail
          have HWd := hide (HW.out.next (below_alloc wr (.cells #[.int .i64 id, .string val, .bool arm, .int .i64 lf, .string jk, .slice ba bn bcap] 47)))
          have HDd : Hid (Db (wr.alloc (.cells #[.int .i64 id, .string val, .bool arm, .int .i64 lf, .string jk, .slice ba bn bcap] 47)) wr.heap.size id val arm lf jk (.slice ba bn bcap)) := heap_alloc_new _ _
          have HNE : Hid (wr.heap.size ≠ R ∧ wr.heap.size ≠ S1 ∧ wr.heap.size ≠ K) := ⟨by have := HW.out.fl.lt; omega, by have := HW.out.so.lt; omega, by have := HW.out.kn.lt; omega⟩
          generalize wr.alloc (.cells #[.int .i64 id, .string val, .bool arm, .int .i64 lf, .string jk, .slice ba bn bcap] 47) = wd at HWd HDd ⊢
          generalize wr.heap.size = DB at HDd HNE ⊢
          clear x0 x1 x2 x3 x4 x5 HW
          have e2 := HDd.out.at 2 _ rfl
          go_upto_if 77 with fail
          go_cut [] (fun wx => ∃ σa, KeW w R S1 K σa s1 V1 f1 wx ∧ Db wx DB id val arm lf jk (.slice ba bn bcap))
          case first =>
            cases arm
            · go_wp2_with fail
              go_meet
              exact ⟨σ1, HWd.out, HDd.out⟩
            · have e3 := HDd.out.at 3 _ rfl
              have e4 := HDd.out.at 4 _ rfl
              go_wp2_with fail
              refine (HCt.out _ _ _ HWd.out.fl lf jk (by have := HZ.out.2; omega)).mono ?_
              rintro e wq ⟨rfl, hFq, hKq⟩
              have HWq := hide (HWd.out.armed lf jk hFq hKq)
              have HDq := hide (HDd.out.kept hKq HNE.out.1)
              clear hFq hKq
              go_wp2_with fail
              go_meet
              exact ⟨_, HWq.out, HDq.out⟩
          obtain ⟨σa, hWa, hDa⟩ := hcut
          have HWa := hide hWa
          have HDa := hide hDa
          have e0 := hDa.at 0 _ rfl
          have e1 := hDa.at 1 _ rfl
          clear hWa hDa HWd HDd e2
          go_wp2_with fail
          refine (HPt.out _ S1 R σa HWa.out.on s1 HWa.out.live.ask HWa.out.fl HWa.out.so id val).mono ?_
          rintro e wp ⟨τ, so, r, rfl, hX, hF0, hS0, hS1, hKp⟩
          have hPK := put_live HWa.out.live HWa.out.on id val.data.toList
          rw [hX] at hPK
          have HDp := hide (HDa.out.kep2 hKp HNE.out.1 HNE.out.2.1)
          have hvs : val.data.toList.length = val.size := list_size val
          clear e0 e1 hX
          have e0 := HDp.out.at 0 _ rfl
          have e1 := HDp.out.at 1 _ rfl
          have hrn : ∀ i : Nat, i < 3 → decide ((i : Int) < 0) = false ∧ decide (2 < (i : Int)) = false := fun i hi => ⟨decide_eq_false (by omega), decide_eq_false (by omega)⟩
          have HPK := hide hPK
          have HF0 := hide hF0
          have HS0 := hide hS0
          have HKp := hide hKp
          clear hPK hF0 hS0 hS1 hKp
          go_upto_if 93 with fail
          go_cut [] (fun wx => (r = 60 ∧ wx = wp) ∨ (r ≠ 60 ∧ ∃ (σ2 : St) (s2 : Sv) (V2 : Vl) (f2 : Nat → Vf), KeW w R S1 K σ2 s2 V2 f2 wx ∧ ∀ i, i < 3 → okF (f2 i) (V2 i)))
          case first =>
            rcases HPK.out with ⟨hb, hx⟩ | ⟨i, hi, rfl, hv2, hx | ⟨τ', s', hx, hL, hO⟩ | ⟨τ', hx, hU⟩⟩
            · simp only [Prod.mk.injEq] at hx
              obtain ⟨rfl, rfl, rfl⟩ := hx
              have HWp := hide (HWa.out.put HKp.out HF0.out (HS0.out _ rfl) HWa.out.live HWa.out.on)
              clear hb
              go_wp2_with fail
              go_meet
              exact .inr ⟨by decide, _, _, _, _, HWp.out, ok_same HFv.out⟩
            · simp only [Prod.mk.injEq] at hx
              obtain ⟨rfl, rfl, rfl⟩ := hx
              have HWp := hide (HWa.out.put HKp.out HF0.out (HS0.out _ rfl) HWa.out.live HWa.out.on)
              clear hv2
              go_wp2_with fail
              go_meet
              exact .inr ⟨by decide, _, _, _, _, HWp.out, ok_same HFv.out⟩
            · simp only [Prod.mk.injEq] at hx
              obtain ⟨rfl, rfl, rfl⟩ := hx
              have HWp := hide (HWa.out.put HKp.out HF0.out (HS0.out _ rfl) hL hO)
              obtain ⟨g1, g2⟩ := hrn i hi
              clear hL hO hv2 hrn
              obtain rfl | rfl | rfl : i = 0 ∨ i = 1 ∨ i = 2 := by omega
              · have k0 := HWp.out.kn.at 0 (.bool (f1 0).is) rfl
                have k1 := HWp.out.kn.at 1 (.string (f1 0).s) rfl
                have k2 := HWp.out.kn.at 2 (.bool (f1 0).cut) rfl
                have k3 := HWp.out.kn.at 3 (.string (f1 0).late) rfl
                have kf := HWp.out.kn.fz
                have HKn := hide (HWp.out.kn.put0 ⟨true, val, false, em⟩)
                have HWn := hide (HWp.out.known ((((kept_set wp 0 (.bool true)).set 1 (.string val)).set 2 (.bool false)).set 3 (.string em)) HKn.out)
                go_wp2_with fail
                go_meet
                exact .inr ⟨by decide, τ, s', _, _, HWn.out, ok_put HFv.out 0 val⟩
              · have k0 := HWp.out.kn.at 4 (.bool (f1 1).is) rfl
                have k1 := HWp.out.kn.at 5 (.string (f1 1).s) rfl
                have k2 := HWp.out.kn.at 6 (.bool (f1 1).cut) rfl
                have k3 := HWp.out.kn.at 7 (.string (f1 1).late) rfl
                have kf := HWp.out.kn.fz
                have HKn := hide (HWp.out.kn.put1 ⟨true, val, false, em⟩)
                have HWn := hide (HWp.out.known ((((kept_set wp 4 (.bool true)).set 5 (.string val)).set 6 (.bool false)).set 7 (.string em)) HKn.out)
                go_wp2_with fail
                go_meet
                exact .inr ⟨by decide, τ, s', _, _, HWn.out, ok_put HFv.out 1 val⟩
              · have k0 := HWp.out.kn.at 8 (.bool (f1 2).is) rfl
                have k1 := HWp.out.kn.at 9 (.string (f1 2).s) rfl
                have k2 := HWp.out.kn.at 10 (.bool (f1 2).cut) rfl
                have k3 := HWp.out.kn.at 11 (.string (f1 2).late) rfl
                have kf := HWp.out.kn.fz
                have HKn := hide (HWp.out.kn.put2 ⟨true, val, false, em⟩)
                have HWn := hide (HWp.out.known ((((kept_set wp 8 (.bool true)).set 9 (.string val)).set 10 (.bool false)).set 11 (.string em)) HKn.out)
                go_wp2_with fail
                go_meet
                exact .inr ⟨by decide, τ, s', _, _, HWn.out, ok_put HFv.out 2 val⟩
            · simp only [Prod.mk.injEq] at hx
              obtain ⟨rfl, rfl, rfl⟩ := hx
              clear hv2 hU
              go_wp2_with fail
              go_meet
              exact .inl (by simp)
          have HC1 := hide hcut
          clear hcut
          go_upto_if 109 with fail
          go_cut [9] (fun sv wx => ∃ (S2 : Nat) (σ2 : St) (s2 : Sv) (V2 : Vl) (f2 : Nat → Vf), sv = .pointer (some ⟨S2, 0, none⟩) ∧ KeW w R S2 K σ2 s2 V2 f2 wx ∧ ∀ i, i < 3 → okF (f2 i) (V2 i))
          case first =>
            rcases HC1.out with ⟨hr, hwc⟩ | ⟨hr, σ2, s2, V2, f2, hW2, hok⟩
            · subst hr
              obtain rfl := hwc.symm
              clear hwc
              rcases HPK.out with ⟨hb, hx⟩ | ⟨i, hi, rfl, hv2, hx | ⟨τ', s', hx, hL, hO⟩ | ⟨τ', hx, hU⟩⟩
              · simp only [Prod.mk.injEq] at hx
                exact absurd hx.2.2 (by decide)
              · simp only [Prod.mk.injEq] at hx
                exact absurd hx.2.2 (by decide)
              · simp only [Prod.mk.injEq] at hx
                exact absurd hx.2.2 (by decide)
              · simp only [Prod.mk.injEq] at hx
                obtain ⟨rfl, rfl, _⟩ := hx
                have HU := hide hU
                have hF0 := HF0.out
                have hkn := HWa.out.kn.kep2 HKp.out HWa.out.ne.1 HWa.out.ne.2.2
                have hbe := Kep2.toBelow HWa.out.bel HKp.out HWa.out.bel.size HWa.out.ge.1 HWa.out.ge.2.1
                obtain ⟨g1, g2⟩ := hrn i hi
                clear hU hv2 hrn
                obtain rfl | rfl | rfl : i = 0 ∨ i = 1 ∨ i = 2 := by omega
                · have k2 := hkn.at 2 (.bool (f1 0).cut) rfl
                  have k3 := hkn.at 3 (.string (f1 0).late) rfl
                  have kf := hkn.fz
                  have HKn := hide (hkn.late0 val)
                  have hkk : Kept K wp ((wp.setCell ⟨K, 2, none⟩ (.bool true)).setCell ⟨K, 3, none⟩ (.string val)) := (kept_set wp 2 (.bool true)).set 3 (.string val)
                  have hFl := hF0.kept hkk (Ne.symm HWa.out.ne.1)
                  have HFl := hide hFl
                  have hbl : Below w.heap.size w ((wp.setCell ⟨K, 2, none⟩ (.bool true)).setCell ⟨K, 3, none⟩ (.string val)) := Kept.toBelow hbe hkk hbe.size HWa.out.ge.2.2
                  have HBl := hide hbl
                  have HCu := hide (HCI.out.cuts hbl HWa.out.ge.1)
                  have d0 := (HDp.out.kept hkk HNE.out.2.2).at 0 _ rfl
                  have d1 := (HDp.out.kept hkk HNE.out.2.2).at 1 _ rfl
                  have d5 := (HDp.out.kept hkk HNE.out.2.2).at 5 _ rfl
                  have HFR := hide (fun h => HRa.out _ R τ HFl.out _ cs HCu.out h)
                  clear hkk hFl hbl
                  go_wp2_with fail
                  refine (HFR.out HBL.out).mono ?_
                  rintro e wq ⟨S2, σ2, s2, rfl, hFq, hSq, _, hUq, ⟨ho, har, hj⟩, hge, hSR, hKq, _⟩
                  have HKq : Hid (Kn wq K (updf f1 0 (lateF (f1 0) val))) := HKn.out.kept hKq HWa.out.ne.1
                  have hKlt := HKn.out.lt
                  have HGq : Hid ((w.heap.size ≤ R ∧ w.heap.size ≤ S2 ∧ w.heap.size ≤ K) ∧ K ≠ R ∧ S2 ≠ R ∧ K ≠ S2) := ⟨⟨HWa.out.ge.1, by have := HBl.out.size; omega, HWa.out.ge.2.2⟩, HWa.out.ne.1, hSR, by omega⟩
                  have HBq : Hid (Below w.heap.size w wq) := Kept.toBelow HBl.out hKq HBl.out.size HWa.out.ge.1
                  have HFq := hide hFq
                  have HSq := hide hSq
                  have HOq : Hid (On σ2) := ⟨hFq.len, ho, hj⟩
                  have HUq := hide hUq
                  clear hFq hSq ho har hj hge hSR hKq hUq k2 k3 kf d0 d1 d5 hKlt
                  unfold fp
                  go_wp2_with fail
                  go_meet
                  rcases HU.out with hu | hu
                  · exact ⟨S2, σ2, s2, V1, _, rfl, ⟨HBq.out, HFq.out, HSq.out, HKq.out, HUq.out _ hu, HOq.out, HGq.out.1, HGq.out.2⟩, ok_late1 HFv.out 0 val⟩
                  · exact ⟨S2, σ2, s2, _, _, rfl, ⟨HBq.out, HFq.out, HSq.out, HKq.out, HUq.out _ hu, HOq.out, HGq.out.1, HGq.out.2⟩, ok_late2 HFv.out 0 val⟩
                · have k2 := hkn.at 6 (.bool (f1 1).cut) rfl
                  have k3 := hkn.at 7 (.string (f1 1).late) rfl
                  have kf := hkn.fz
                  have HKn := hide (hkn.late1 val)
                  have hkk : Kept K wp ((wp.setCell ⟨K, 6, none⟩ (.bool true)).setCell ⟨K, 7, none⟩ (.string val)) := (kept_set wp 6 (.bool true)).set 7 (.string val)
                  have hFl := hF0.kept hkk (Ne.symm HWa.out.ne.1)
                  have HFl := hide hFl
                  have hbl : Below w.heap.size w ((wp.setCell ⟨K, 6, none⟩ (.bool true)).setCell ⟨K, 7, none⟩ (.string val)) := Kept.toBelow hbe hkk hbe.size HWa.out.ge.2.2
                  have HBl := hide hbl
                  have HCu := hide (HCI.out.cuts hbl HWa.out.ge.1)
                  have d0 := (HDp.out.kept hkk HNE.out.2.2).at 0 _ rfl
                  have d1 := (HDp.out.kept hkk HNE.out.2.2).at 1 _ rfl
                  have d5 := (HDp.out.kept hkk HNE.out.2.2).at 5 _ rfl
                  have HFR := hide (fun h => HRa.out _ R τ HFl.out _ cs HCu.out h)
                  clear hkk hFl hbl
                  go_wp2_with fail
                  refine (HFR.out HBL.out).mono ?_
                  rintro e wq ⟨S2, σ2, s2, rfl, hFq, hSq, _, hUq, ⟨ho, har, hj⟩, hge, hSR, hKq, _⟩
                  have HKq : Hid (Kn wq K (updf f1 1 (lateF (f1 1) val))) := HKn.out.kept hKq HWa.out.ne.1
                  have hKlt := HKn.out.lt
                  have HGq : Hid ((w.heap.size ≤ R ∧ w.heap.size ≤ S2 ∧ w.heap.size ≤ K) ∧ K ≠ R ∧ S2 ≠ R ∧ K ≠ S2) := ⟨⟨HWa.out.ge.1, by have := HBl.out.size; omega, HWa.out.ge.2.2⟩, HWa.out.ne.1, hSR, by omega⟩
                  have HBq : Hid (Below w.heap.size w wq) := Kept.toBelow HBl.out hKq HBl.out.size HWa.out.ge.1
                  have HFq := hide hFq
                  have HSq := hide hSq
                  have HOq : Hid (On σ2) := ⟨hFq.len, ho, hj⟩
                  have HUq := hide hUq
                  clear hFq hSq ho har hj hge hSR hKq hUq k2 k3 kf d0 d1 d5 hKlt
                  unfold fp
                  go_wp2_with fail
                  go_meet
                  rcases HU.out with hu | hu
                  · exact ⟨S2, σ2, s2, V1, _, rfl, ⟨HBq.out, HFq.out, HSq.out, HKq.out, HUq.out _ hu, HOq.out, HGq.out.1, HGq.out.2⟩, ok_late1 HFv.out 1 val⟩
                  · exact ⟨S2, σ2, s2, _, _, rfl, ⟨HBq.out, HFq.out, HSq.out, HKq.out, HUq.out _ hu, HOq.out, HGq.out.1, HGq.out.2⟩, ok_late2 HFv.out 1 val⟩
                · have k2 := hkn.at 10 (.bool (f1 2).cut) rfl
                  have k3 := hkn.at 11 (.string (f1 2).late) rfl
                  have kf := hkn.fz
                  have HKn := hide (hkn.late2 val)
                  have hkk : Kept K wp ((wp.setCell ⟨K, 10, none⟩ (.bool true)).setCell ⟨K, 11, none⟩ (.string val)) := (kept_set wp 10 (.bool true)).set 11 (.string val)
                  have hFl := hF0.kept hkk (Ne.symm HWa.out.ne.1)
                  have HFl := hide hFl
                  have hbl : Below w.heap.size w ((wp.setCell ⟨K, 10, none⟩ (.bool true)).setCell ⟨K, 11, none⟩ (.string val)) := Kept.toBelow hbe hkk hbe.size HWa.out.ge.2.2
                  have HBl := hide hbl
                  have HCu := hide (HCI.out.cuts hbl HWa.out.ge.1)
                  have d0 := (HDp.out.kept hkk HNE.out.2.2).at 0 _ rfl
                  have d1 := (HDp.out.kept hkk HNE.out.2.2).at 1 _ rfl
                  have d5 := (HDp.out.kept hkk HNE.out.2.2).at 5 _ rfl
                  have HFR := hide (fun h => HRa.out _ R τ HFl.out _ cs HCu.out h)
                  clear hkk hFl hbl
                  go_wp2_with fail
                  refine (HFR.out HBL.out).mono ?_
                  rintro e wq ⟨S2, σ2, s2, rfl, hFq, hSq, _, hUq, ⟨ho, har, hj⟩, hge, hSR, hKq, _⟩
                  have HKq : Hid (Kn wq K (updf f1 2 (lateF (f1 2) val))) := HKn.out.kept hKq HWa.out.ne.1
                  have hKlt := HKn.out.lt
                  have HGq : Hid ((w.heap.size ≤ R ∧ w.heap.size ≤ S2 ∧ w.heap.size ≤ K) ∧ K ≠ R ∧ S2 ≠ R ∧ K ≠ S2) := ⟨⟨HWa.out.ge.1, by have := HBl.out.size; omega, HWa.out.ge.2.2⟩, HWa.out.ne.1, hSR, by omega⟩
                  have HBq : Hid (Below w.heap.size w wq) := Kept.toBelow HBl.out hKq HBl.out.size HWa.out.ge.1
                  have HFq := hide hFq
                  have HSq := hide hSq
                  have HOq : Hid (On σ2) := ⟨hFq.len, ho, hj⟩
                  have HUq := hide hUq
                  clear hFq hSq ho har hj hge hSR hKq hUq k2 k3 kf d0 d1 d5 hKlt
                  unfold fp
                  go_wp2_with fail
                  go_meet
                  rcases HU.out with hu | hu
                  · exact ⟨S2, σ2, s2, V1, _, rfl, ⟨HBq.out, HFq.out, HSq.out, HKq.out, HUq.out _ hu, HOq.out, HGq.out.1, HGq.out.2⟩, ok_late1 HFv.out 2 val⟩
                  · exact ⟨S2, σ2, s2, _, _, rfl, ⟨HBq.out, HFq.out, HSq.out, HKq.out, HUq.out _ hu, HOq.out, HGq.out.1, HGq.out.2⟩, ok_late2 HFv.out 2 val⟩
            · have hrf : (r == 60) = false := by simp [hr]
              have HW2 := hide hW2
              have HO2 := hide hok
              clear hW2 hok hr
              go_wp2_with fail
              go_meet
              exact ⟨S1, σ2, s2, V2, f2, rfl, HW2.out, HO2.out⟩
          obtain ⟨S2, σ2, s2, V2, f2, rfl, hW2, hok⟩ := hcut
          have HW2 := hide hW2
          have HOK := hide hok
          clear hW2 hok HC1 HPK HF0 HS0 HKp HWa HDa HDp e0 e1 hvs hrn
          go_wp2_with fail
          go_loopw [20] (fun j wx => ∃ (m : Nat) (fx : Nat → Vf), m ≤ 3 ∧ j = .int .i64 m ∧ KeW w R S2 K σ2 s2 V2 fx wx ∧ (∀ i, i < 3 → i < m → fx i = vfOf (V2 i)) ∧ (∀ i, m ≤ i → fx i = f2 i)) (fun j _ => 3 - (intOf j).toNat)
          case atStart => exact ⟨0, f2, by omega, rfl, HW2.out, fun i _ h => absurd h (by omega), fun i _ => rfl⟩
          case round =>
            obtain ⟨m, fx, hm, rfl, hWj, hf1, hf2⟩ := hrel
            have HWj := hide hWj
            have HF1 := hide hf1
            have HF2 := hide hf2
            clear hWj hf1 hf2 HW2
            by_cases hm3 : m < 3
            · obtain rfl | rfl | rfl : m = 0 ∨ m = 1 ∨ m = 2 := by omega
              · have TL := hide (fun W h1 h2 => tell_any W S2 R σ2 HWj.out.on s2 HWj.out.live.ask h1 h2 ((0 : Nat) : Int) (fx 0) (by rw [HWj.out.live.get 0 (by omega), HF2.out 0 (by omega)]; exact HOK.out 0 (by omega)))
                have HGm : Hid (getS σ2.C s2 ((0 : Nat) : Int) = V2 0) := HWj.out.live.get 0 (by omega)
                rw [HGm.out] at TL
                obtain ⟨ois, og, HVo⟩ : ∃ ois og, Hid (vfOf (V2 0) = ⟨ois, og, false, em⟩) := ⟨_, _, vfOf_form _⟩
                rw [HVo.out] at TL
                simp only at TL
                have k0 := HWj.out.kn.at 0 (.bool (fx 0).is) rfl
                have k1 := HWj.out.kn.at 1 (.string (fx 0).s) rfl
                have k2 := HWj.out.kn.at 2 (.bool (fx 0).cut) rfl
                have k3 := HWj.out.kn.at 3 (.string (fx 0).late) rfl
                unfold fp at TL
                go_wp2_with fail
                refine (TL.out _ HWj.out.fl HWj.out.so).mono ?_
                rintro e wt ⟨rfl, hBt⟩
                have HWt := hide ((HWj.out.next hBt).next (below_alloc wt (.cells #[.bool ois, .string og, .bool false, .string ⟨#[]⟩] 41)))
                have HNt : Hid (B4 (wt.alloc (.cells #[.bool ois, .string og, .bool false, .string ⟨#[]⟩] 41)) wt.heap.size (.bool ois) (.string og) (.bool false) (.string ⟨#[]⟩)) := heap_alloc_new _ _
                have HNK : Hid (wt.heap.size ≠ K) := by have := (HWj.out.next hBt).kn.lt; show _ ≠ _; omega
                clear hBt k0 k1 k2 k3
                go_upto_region 37 with fail
                generalize wt.alloc (.cells #[.bool ois, .string og, .bool false, .string ⟨#[]⟩] 41) = wu at HWt HNt ⊢
                generalize wt.heap.size = NB at HNt HNK ⊢
                have n0 := HNt.out.c0
                have n1 := HNt.out.c1
                have n2 := HNt.out.c2
                have n3 := HNt.out.c3
                have k0 := HWt.out.kn.at 0 (.bool (fx 0).is) rfl
                have k1 := HWt.out.kn.at 1 (.string (fx 0).s) rfl
                have k2 := HWt.out.kn.at 2 (.bool (fx 0).cut) rfl
                have k3 := HWt.out.kn.at 3 (.string (fx 0).late) rfl
                have kf := HWt.out.kn.fz
                have HKn := hide (HWt.out.kn.put0 ⟨ois, og, false, em⟩)
                have HWn := hide (HWt.out.known ((((kept_set wu 0 (.bool ois)).set 1 (.string og)).set 2 (.bool false)).set 3 (.string em)) HKn.out)
                go_wp2_with fail
                go_roundw
                case rel => exact ⟨1, updf fx 0 ⟨ois, og, false, em⟩, by omega, rfl, HWn.out, fun i hi hm => by
                  unfold updf
                  by_cases e : i = 0
                  · rw [if_pos e, e, HVo.out]
                  · rw [if_neg e]; exact HF1.out i hi (by omega), fun i hi => by unfold updf; rw [if_neg (by omega)]; exact HF2.out i (by omega)⟩
                case measure => simp [intOf]
              · have TL := hide (fun W h1 h2 => tell_any W S2 R σ2 HWj.out.on s2 HWj.out.live.ask h1 h2 ((1 : Nat) : Int) (fx 1) (by rw [HWj.out.live.get 1 (by omega), HF2.out 1 (by omega)]; exact HOK.out 1 (by omega)))
                have HGm : Hid (getS σ2.C s2 ((1 : Nat) : Int) = V2 1) := HWj.out.live.get 1 (by omega)
                rw [HGm.out] at TL
                obtain ⟨ois, og, HVo⟩ : ∃ ois og, Hid (vfOf (V2 1) = ⟨ois, og, false, em⟩) := ⟨_, _, vfOf_form _⟩
                rw [HVo.out] at TL
                simp only at TL
                have k0 := HWj.out.kn.at 4 (.bool (fx 1).is) rfl
                have k1 := HWj.out.kn.at 5 (.string (fx 1).s) rfl
                have k2 := HWj.out.kn.at 6 (.bool (fx 1).cut) rfl
                have k3 := HWj.out.kn.at 7 (.string (fx 1).late) rfl
                unfold fp at TL
                go_wp2_with fail
                refine (TL.out _ HWj.out.fl HWj.out.so).mono ?_
                rintro e wt ⟨rfl, hBt⟩
                have HWt := hide ((HWj.out.next hBt).next (below_alloc wt (.cells #[.bool ois, .string og, .bool false, .string ⟨#[]⟩] 41)))
                have HNt : Hid (B4 (wt.alloc (.cells #[.bool ois, .string og, .bool false, .string ⟨#[]⟩] 41)) wt.heap.size (.bool ois) (.string og) (.bool false) (.string ⟨#[]⟩)) := heap_alloc_new _ _
                have HNK : Hid (wt.heap.size ≠ K) := by have := (HWj.out.next hBt).kn.lt; show _ ≠ _; omega
                clear hBt k0 k1 k2 k3
                go_upto_region 37 with fail
                generalize wt.alloc (.cells #[.bool ois, .string og, .bool false, .string ⟨#[]⟩] 41) = wu at HWt HNt ⊢
                generalize wt.heap.size = NB at HNt HNK ⊢
                have n0 := HNt.out.c0
                have n1 := HNt.out.c1
                have n2 := HNt.out.c2
                have n3 := HNt.out.c3
                have k0 := HWt.out.kn.at 4 (.bool (fx 1).is) rfl
                have k1 := HWt.out.kn.at 5 (.string (fx 1).s) rfl
                have k2 := HWt.out.kn.at 6 (.bool (fx 1).cut) rfl
                have k3 := HWt.out.kn.at 7 (.string (fx 1).late) rfl
                have kf := HWt.out.kn.fz
                have HKn := hide (HWt.out.kn.put1 ⟨ois, og, false, em⟩)
                have HWn := hide (HWt.out.known ((((kept_set wu 4 (.bool ois)).set 5 (.string og)).set 6 (.bool false)).set 7 (.string em)) HKn.out)
                go_wp2_with fail
                go_roundw
                case rel => exact ⟨2, updf fx 1 ⟨ois, og, false, em⟩, by omega, rfl, HWn.out, fun i hi hm => by
                  unfold updf
                  by_cases e : i = 1
                  · rw [if_pos e, e, HVo.out]
                  · rw [if_neg e]; exact HF1.out i hi (by omega), fun i hi => by unfold updf; rw [if_neg (by omega)]; exact HF2.out i (by omega)⟩
                case measure => simp [intOf]
              · have TL := hide (fun W h1 h2 => tell_any W S2 R σ2 HWj.out.on s2 HWj.out.live.ask h1 h2 ((2 : Nat) : Int) (fx 2) (by rw [HWj.out.live.get 2 (by omega), HF2.out 2 (by omega)]; exact HOK.out 2 (by omega)))
                have HGm : Hid (getS σ2.C s2 ((2 : Nat) : Int) = V2 2) := HWj.out.live.get 2 (by omega)
                rw [HGm.out] at TL
                obtain ⟨ois, og, HVo⟩ : ∃ ois og, Hid (vfOf (V2 2) = ⟨ois, og, false, em⟩) := ⟨_, _, vfOf_form _⟩
                rw [HVo.out] at TL
                simp only at TL
                have k0 := HWj.out.kn.at 8 (.bool (fx 2).is) rfl
                have k1 := HWj.out.kn.at 9 (.string (fx 2).s) rfl
                have k2 := HWj.out.kn.at 10 (.bool (fx 2).cut) rfl
                have k3 := HWj.out.kn.at 11 (.string (fx 2).late) rfl
                unfold fp at TL
                go_wp2_with fail
                refine (TL.out _ HWj.out.fl HWj.out.so).mono ?_
                rintro e wt ⟨rfl, hBt⟩
                have HWt := hide ((HWj.out.next hBt).next (below_alloc wt (.cells #[.bool ois, .string og, .bool false, .string ⟨#[]⟩] 41)))
                have HNt : Hid (B4 (wt.alloc (.cells #[.bool ois, .string og, .bool false, .string ⟨#[]⟩] 41)) wt.heap.size (.bool ois) (.string og) (.bool false) (.string ⟨#[]⟩)) := heap_alloc_new _ _
                have HNK : Hid (wt.heap.size ≠ K) := by have := (HWj.out.next hBt).kn.lt; show _ ≠ _; omega
                clear hBt k0 k1 k2 k3
                go_upto_region 37 with fail
                generalize wt.alloc (.cells #[.bool ois, .string og, .bool false, .string ⟨#[]⟩] 41) = wu at HWt HNt ⊢
                generalize wt.heap.size = NB at HNt HNK ⊢
                have n0 := HNt.out.c0
                have n1 := HNt.out.c1
                have n2 := HNt.out.c2
                have n3 := HNt.out.c3
                have k0 := HWt.out.kn.at 8 (.bool (fx 2).is) rfl
                have k1 := HWt.out.kn.at 9 (.string (fx 2).s) rfl
                have k2 := HWt.out.kn.at 10 (.bool (fx 2).cut) rfl
                have k3 := HWt.out.kn.at 11 (.string (fx 2).late) rfl
                have kf := HWt.out.kn.fz
                have HKn := hide (HWt.out.kn.put2 ⟨ois, og, false, em⟩)
                have HWn := hide (HWt.out.known ((((kept_set wu 8 (.bool ois)).set 9 (.string og)).set 10 (.bool false)).set 11 (.string em)) HKn.out)
                go_wp2_with fail
                go_roundw
                case rel => exact ⟨3, updf fx 2 ⟨ois, og, false, em⟩, by omega, rfl, HWn.out, fun i hi hm => by
                  unfold updf
                  by_cases e : i = 2
                  · rw [if_pos e, e, HVo.out]
                  · rw [if_neg e]; exact HF1.out i hi (by omega), fun i hi => by unfold updf; rw [if_neg (by omega)]; exact HF2.out i (by omega)⟩
                case measure => simp [intOf]
            · obtain rfl : m = 3 := by omega
              go_wp2_with fail
              go_roundw
              case rel => exact ⟨k + 1, S2, σ2, s2, V2, fx, by omega, by go_num, rfl, HWj.out, fun i hi => HF1.out i hi (by omega)⟩
              case measure => simp [intOf]; omega
        · obtain rfl : k = n := by omega
          go_wp2_with fail
          refine (HA.out _).mono ?_
          rintro e w9 ⟨rfl, hB9⟩
          have HW9 := hide (HW.out.next hB9)
          clear hB9
          go_wp2_with fail
          go_ret
          exact ⟨rfl, HW9.out.bel⟩
theorem StoreAny_walk (s : ByteArray) (v1 v : Value) (w : World) (_h : s.size ≤ 140737488351232) (h1 : ∃ cs, CutsIn w v1 cs) (h2 : ∃ ds, DeedsIn w v ds) : Calls Try.prog 5 #[.string s, v1, v] w fun e w' => e = .returned (.bool true) ∧ Below w.heap.size w w' := by
  obtain ⟨cs, hcs⟩ := h1
  obtain ⟨ds, hds⟩ := h2
  by_cases hs : s.size = 8192
  · exact any_in s hs v1 cs v ds w hcs hds
  · obtain ⟨_, a, cap, rfl, _⟩ := hcs
    obtain ⟨_, ⟨a2, cap2, rfl, _⟩, _⟩ := hds
    exact any_out s hs a a2 _ cap _ cap2 w
end Go.Proofs.Ytcjahdgppnmdkaa
