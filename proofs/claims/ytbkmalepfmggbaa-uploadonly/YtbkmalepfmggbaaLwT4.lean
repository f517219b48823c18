/- UploadOnly. -/
import Derived.Test.YtbkmalepfmggbaaUl6
import Derived.Test.YtbkmalepfmggbaaUlP
namespace Go.Proofs.Ytbkmalepfmggbaa
open Go.RowKit Go.Great

/-- the statement behind a call: the desk, the answer, and what is kept beside it -/
def OMid (w : World) (b D : Nat) (ms : Int) (v7 v8 v11 : Value) (wx : World) : Prop :=
  ∃ (l : Ls) (a : An) (nn : Int) (us : List Value) (R : List (List Int)), v7 = .int .i64 nn ∧ LOk ms l ∧ AOk a ∧ Ans wx 0 v11 a ∧ (∃ ks, Dsk wx D 1 ms l ks) ∧ wx.ownsRow b 36 1 v8 us.length us ∧ Urs wx b us R ∧ (0 < l.cn → nn = l.cn ∧ R = l.rw) ∧ Below w.heap.size w wx ∧ b ≤ wx.heap.size
theorem rows_len {w : World} {b : Nat} {us : List Value} {R : List (List Int)} {v : Value} (h : w.ownsRow b 36 1 v us.length us) (hu : Urs w b us R) : ∃ a c, v = .slice a R.length c := by
  rw [← hu.len]; exact rows_shape h
/-- an answer, as the statement looks at it -/
theorem ans_look {w : World} {n : Nat} {v : Value} {a : An} (h : Ans w n v a) (ha : AOk a) : ∃ p c la, v = .slice p la c ∧ la ≤ 1 ∧ (la = 1 → ∃ g f k y, p = some ⟨g, 0, none⟩ ∧ w.cell? ⟨g, 0, none⟩ = some (.int .u8 k) ∧ w.cell? ⟨g, 1, none⟩ = some (.slice (some ⟨f, 0, none⟩) 2 2) ∧ w.cell? ⟨f, 1, none⟩ = some (.int .i64 y) ∧ (k = 8 ∨ (k = 10 ∧ ¬ y = 0))) := by
  cases a with
  | none => exact ⟨none, 0, 0, h.zero, by omega, fun h => by omega⟩
  | some x =>
    obtain ⟨k, a, b⟩ := x
    obtain ⟨f, g, h1, h2, h3, h4, h5, h6⟩ := h
    exact ⟨_, _, _, h4, by omega, fun _ => ⟨g, f, k, b, rfl, h5.cell 0 rfl, h5.cell 1 rfl, h6.cell 1 rfl, ha k a b rfl⟩⟩
set_option maxHeartbeats 8000000 in
set_option maxRecDepth 100000 in
theorem only_walk (ms : Int) (CL : List CaR) (v : Value) (w : World) (hC : ∀ x ∈ CL, CaOk2 w x) (hv : Rws w v 5 caC CL) (hlL : CL.length * 56 ≤ 140737488351232) : Calls Try.prog 4 #[.int .i64 ms, v] w fun e w' => e = .returned (.bool true) ∧ Below w.heap.size w w' := by
  have AW := hide awakeUp
  obtain ⟨i0, hi0, hz0, hz1, hz2⟩ := info_parts info_sl
  have HI0 := hide hi0
  have HZ0 := hide hz0
  have HZ1 := hide hz1
  have HZ2 := hide hz2
  clear hi0 hz0 hz1 hz2
  have HV := hide hv
  obtain ⟨_, va, vcp, rfl, _⟩ := hv
  have HC := hide hC
  obtain ⟨m, hm⟩ : ∃ m, Hid (CL.length = m) := ⟨_, hide rfl⟩
  rw [hm.out]
  rw [hm.out] at hlL
  clear hC
  cases hnb : newB 1 ms
  · have hbad := only_bad hnb
    have ND := hide (newD_no 1 ms hnb)
    clear hnb
    go_enter Try.func4, Try.ntmps4
    go_wp2_with fail
    refine (ND.out _).mono ?_
    rintro e x ⟨rfl, hx⟩
    obtain rfl := hx.symm
    clear hx ND
    by_cases h1 : ms < 1
    · clear hbad
      go_wp2_with (go_at_call 10; refine (AW.out _).mono ?_; rintro e w5 ⟨rfl, hb5⟩; have Hb5 := hide hb5; clear hb5)
      go_ret
      exact ⟨rfl, Hb5.out⟩
    · have h2 : 65535 < ms := by omega
      clear hbad
      go_wp2_with (go_at_call 10; refine (AW.out _).mono ?_; rintro e w5 ⟨rfl, hb5⟩; have Hb5 := hide hb5; clear hb5)
      go_ret
      exact ⟨rfl, Hb5.out⟩
  · have hms : 1 ≤ ms ∧ ms ≤ 65535 := by have := of_decide_eq_true hnb; omega
    have ND := hide (newD_any 1 ms hnb)
    clear hnb
    go_enter Try.func4, Try.ntmps4
    go_wp2_with fail
    refine (ND.out _).mono ?_
    rintro e w1 ⟨D, rfl, hD, hDw, hb1⟩
    have HD := hide hD
    have HDw := hide hDw
    have Hb := hide hb1
    have hlt := hD.lt
    clear hD hDw hb1 ND
    obtain ⟨b, hbw⟩ : ∃ b, Hid (w1.heap.size = b) := ⟨_, hide rfl⟩
    rw [hbw.out] at hlt
    have HDb := hide hlt
    have hs1 : b ≤ w1.heap.size := by rw [hbw.out]; exact Nat.le_refl _
    clear hlt hbw
    have HLZ : Hid (LOk ms ls0) := hide (LOk.zero (by omega))
    go_wp2_with fail
    go_loopw [7, 8, 9] (fun v7 v8 v9 wx => ∃ (i : Nat) (l : Ls) (us : List Value), v7 = .int .i64 l.cn ∧ v9 = .int .i64 (i : Int) ∧ i ≤ m ∧ b ≤ wx.heap.size ∧ Hid (LOk ms l) ∧ Hid (rdB l = false) ∧ Hid (∃ ks, Dsk wx D 1 ms l ks) ∧ Hid (wx.ownsRow b 36 1 v8 us.length us) ∧ Hid (Urs wx b us l.rw) ∧ Hid (Below w.heap.size w wx)) (fun _ _ v9 _ => m - (intOf v9).toNat)
    case atStart => exact ⟨0, ls0, [], rfl, rfl, by omega, hs1, HLZ, hide rfl, hide ⟨_, HD.out⟩, hide (World.ownsRow_nil _ _ _ _), hide (Urs.nil _ _), Hb⟩
    case round =>
      clear HD Hb hs1 HLZ
      obtain ⟨i, l, us, rfl, rfl, hi, hsz, HL, HRD, HD, HO, HU, Hb⟩ := hrel
      obtain ⟨ra, rc, rfl⟩ := rows_len HO.out HU.out
      obtain ⟨rl, hrl⟩ : ∃ rl, Hid (l.rw.length = rl) := ⟨_, hide rfl⟩
      rw [hrl.out] at HO ⊢
      have hrl5 : rl ≤ 65535 := by have h1 := HL.out.h; have h2 := HL.out.m; unfold Ls.hd at h1; rw [hrl.out] at h1; omega
      by_cases hlm : i < m
      · obtain ⟨g, o, cp, x, e2, hg2, hx, hcx⟩ := HV.out.get i (by rw [hm.out]; exact hlm)
        rw [hm.out] at e2
        injection e2 with e2 _ e3
        subst e2 e3
        have hCa := HC.out x (List.mem_of_getElem? hx)
        obtain ⟨wt, ⟨k, u, ns⟩, now, res⟩ := x
        obtain ⟨⟨⟨hk, hI, hnil, hlen⟩, hwt, hnow, hres⟩, hcap⟩ := hCa
        simp only at hk hI hnil hlen hwt hnow hres hcap
        have HCX : Hid (∀ W, Below w.heap.size w W → W.cell? ⟨g, o + i * 5, none⟩ = some (.int .i64 wt) ∧ W.cell? ⟨g, o + i * 5 + 1, none⟩ = some (.int .u8 k) ∧ W.cell? ⟨g, o + i * 5 + 2, none⟩ = some u ∧ W.cell? ⟨g, o + i * 5 + 3, none⟩ = some (.int .i64 now) ∧ W.cell? ⟨g, o + i * 5 + 4, none⟩ = some (.int .i64 res)) := hide (fun W hb => ⟨hcx W hb 0 _ rfl, hcx W hb 1 _ rfl, hcx W hb 2 _ rfl, hcx W hb 3 _ rfl, hcx W hb 4 _ rfl⟩)
        have HII := hide hI
        have HNI := hide hnil
        obtain ⟨ua, uc, rfl, hu2⟩ := hI
        obtain ⟨ln, hln⟩ : ∃ ln, Hid (ns.length = ln) := ⟨_, hide rfl⟩
        have hcapn := hcap _ _ _ rfl
        rw [hln.out] at hlen HII hu2 HCX HNI hcapn
        have HCAP := hide hcapn
        clear hcap hcapn
        have HU2 := hide hu2
        have HNOW := hide hnow
        clear hcx hx hnil hu2 hwt hres hnow
        have CP := hide (fun W (hb : Below w.heap.size w W) => copied_any k ns (.slice ua ln uc) W (HII.out.below hb) HNI.out (by rw [hln.out]; exact hlen))
        have EN := hide (fun W u (hI : Ints W u ns) => mencode_any 0 k hk.1 hk.2 ns u W hI (by rw [hln.out]; omega))
        have HEO : Hid (okM k ns = ((encM 0 k ns).2 == 0)) := hide rfl
        generalize encM 0 k ns = E at *
        obtain ⟨⟨x0, x1, x2⟩, en⟩ := E
        simp only at EN HEO
        obtain ⟨t0, t1, t2, t3, t4⟩ := HCX.out wr Hb.out
        have BX := hide (Blk.new wr #[.int .u8 k, .slice ua ln uc] 38)
        have Hbx := hide (below_alloc wr (.cells #[.int .u8 k, .slice ua ln uc] 38))
        go_upto_region 11 with fail
        clear t0 t1 t2 t3 t4
        generalize wr.alloc (.cells #[.int .u8 k, .slice ua ln uc] 38) = W1 at *
        have b0 := BX.out.cell 0 rfl
        have b1 := BX.out.cell 1 rfl
        go_upto_region 12 with (first
          | (go_at_call 15; refine (CP.out _ (below_next Hb.out (Nat.le_refl _) Hbx.out)).mono ?_; rintro e w3 ⟨u3, rfl, hI3, hb3⟩; have HI3 := hide hI3.ints; have Hb3 := hide (below_next Hbx.out (Nat.le_refl _) hb3); have BX3 := hide (BX.out.after hb3); obtain ⟨a3, c3, rfl⟩ := hI3.shape; rw [hln.out] at HI3 ⊢; clear hI3 hb3)
          | (go_at_call 14; refine (EN.out _ _ HI3.out).mono ?_; rintro e w4 ⟨rfl, hb4⟩; have Hb4 := hide (below_next Hb3.out (Nat.le_refl _) hb4); have BX4 := hide (BX3.out.after hb4); clear hb4))
        have Hb5 := hide (below_next Hb4.out (Nat.le_refl _) (below_alloc w4 (.cells #[.int .i64 x0, .int .i64 x1, .string x2] 45)))
        have BX5 := hide (BX4.out.alloc (.cells #[.int .i64 x0, .int .i64 x1, .string x2] 45))
        clear b0 b1 EN HI3 Hb3 BX3 Hb4 BX4 BX Hbx
        generalize w4.alloc (.cells #[.int .i64 x0, .int .i64 x1, .string x2] 45) = W5 at *
        have HB5 := hide (below_next Hb.out (Nat.le_refl _) Hb5.out)
        have HD5 : Hid (∃ ks, Dsk W5 D 1 ms l ks) := hide (by obtain ⟨ks, h⟩ := HD.out; exact ⟨ks, h.after Hb5.out⟩)
        have HO5 := hide (owns_below HO.out Hb5.out)
        have HU5 := hide (HU.out.below Hb5.out)
        have hs5 : b ≤ W5.heap.size := by have := Hb5.out.size; omega
        have HBm : Hid (b ≤ wr.heap.size) := hide hsz
        clear Hb HD HO HU Hb5 hsz
        generalize wr.heap.size = Bm at *
        obtain ⟨t0, t1, t2, t3, t4⟩ := HCX.out W5 HB5.out
        have WH := hide (which_any wt k now res ua ln uc)
        go_upto_if 63 with (go_at_call 16; refine (WH.out _).mono ?_; rintro e w6 ⟨rfl, hb6⟩; have Hb6 := hide hb6; clear hb6)
        have HB6 := hide (below_next HB5.out (Nat.le_refl _) Hb6.out)
        have BX6 := hide (BX5.out.after Hb6.out)
        have HD6 : Hid (∃ ks, Dsk w6 D 1 ms l ks) := hide (by obtain ⟨ks, h⟩ := HD5.out; exact ⟨ks, h.after Hb6.out⟩)
        have HO6 := hide (owns_below HO5.out Hb6.out)
        have HU6 := hide (HU5.out.below Hb6.out)
        have hs6 : b ≤ w6.heap.size := by have := Hb6.out.size; omega
        clear t0 t1 t2 t3 t4 WH HB5 BX5 HD5 HO5 HU5 hs5 Hb6
        go_cut [7, 8, 11] (fun v7 v8 v11 wx => OMid w b D ms v7 v8 v11 wx)
        case first =>
          obtain ⟨ks, hD6⟩ := HD6.out
          have HK6 := hide hD6
          clear hD6 HD6
          have hs6l : us.length = rl := by rw [← hrl.out]; exact HU6.out.len
          have HUSL := hide hs6l
          clear hs6l
          by_cases hwh : whB wt = 1
          · rw [hwh]
            obtain ⟨t0, t1, t2, t3, t4⟩ := HCX.out w6 HB6.out
            have TI := hide (tick_any w6 D 1 ms l ks HK6.out HL.out now HNOW.out)
            clear t0 t1 t2 t4 hwh
            go_wp2_with fail
            refine TI.out.mono ?_
            rintro e w7 ⟨v7, ks7, b7, rfl, h1, h2, h3, h4, h5, h6⟩
            have HM : Hid (OMid w b D ms (.int .i64 l.cn) (.slice ra rl rc) v7 w7) := hide ⟨_, _, l.cn, us, l.rw, rfl, tick_ok (by omega) HL.out HNOW.out, aok_tick _ _ _, h5.up (Nat.zero_le _), ⟨_, h1⟩, owns_desk HO6.out h6 HDb.out, HU6.out.desk h6 HDb.out, fun h => (tick_keep h).imp Eq.symm Eq.symm, below_desk HB6.out h6 HDw.out, Nat.le_trans hs6 h6.size⟩
            obtain ⟨p7, m7, c7, rfl⟩ := h5.any
            clear h1 h2 h3 h4 h5 h6 TI
            go_wp2_with fail
            go_meet
            exact HM.out
          · have hwb : (whB wt == 1) = false := by simp [hwh]
            rw [hwb]
            clear hwb hwh
            have ONA := hide (fun W u (hd : Dsk W D 1 ms l ks) (hI : IRow W w6.heap.size u ns) => on_any W D 1 ms l ks hd HL.out hms.2 k hk ns u hI.ints hI.cap (by rw [hln.out]; omega) now)
            have HS : Hid (∀ W, w6.grownBy W (some D) → W.cell? ⟨Bm, 0, none⟩ = some (.int .u8 k) ∧ W.cell? ⟨Bm, 1, none⟩ = some (.slice ua ln uc) ∧ W.cell? ⟨g, o + i * 5 + 3, none⟩ = some (.int .i64 now)) := hide (fun W hg => by
              have hbm := BX6.out.grown hg (fun e => by injection e with e; have := HBm.out; have := HDb.out; omega)
              exact ⟨hbm.cell 0 rfl, hbm.cell 1 rfl, (HCX.out W (below_desk HB6.out hg HDw.out)).2.2.2.1⟩)
            have HSW := hide (fun W (hb : Below w6.heap.size w6 W) => HS.out W (grown_below hb _))
            go_upto_region 14 with fail
            refine wp_region_held_drew (S := fun wx => wx.cell? ⟨Bm, 0, none⟩ = some (.int .u8 k) ∧ wx.cell? ⟨Bm, 1, none⟩ = some (.slice ua ln uc) ∧ wx.cell? ⟨g, o + i * 5 + 3, none⟩ = some (.int .i64 now)) (by kernel_rfl) (HSW.out w6 (Below.refl _ _)) (fun hHeld => ?_)
            refine take_at (i := 0) (v := dP D) (d := some 71) rfl rfl (by kernel_rfl) (by kernel_rfl) (by kernel_rfl) (fun _ _ _ h => h) (Or.inl ⟨by rfl, fun wS ⟨hS0, hS1, hS2⟩ => by go_simp; all_goals (rw [IntKind.wrap_i64]; omega)⟩) (by assumption) ?_
            simp only [Act.put, List.setIfInBounds_toArray, List.set_cons_zero, List.set_cons_succ]
            refine take_at (i := 1) (v := .agg #[.int .u8 k, .slice ua ln uc]) (d := some 72) rfl rfl (by kernel_rfl) (by kernel_rfl) (by kernel_rfl) (fun _ _ _ h => h) (Or.inl ⟨by rfl, fun wS ⟨hS0, hS1, hS2⟩ => by go_simp; all_goals (rw [IntKind.wrap_i64]; omega)⟩) (by assumption) ?_
            simp only [Act.put, List.setIfInBounds_toArray, List.set_cons_zero, List.set_cons_succ]
            refine take_at (i := 3) (v := .slice (some ⟨g, o, none⟩) m vcp) (d := some 74) rfl rfl (by kernel_rfl) (by kernel_rfl) (by kernel_rfl) (fun _ _ _ h => h) (Or.inl ⟨by rfl, fun wS ⟨hS0, hS1, hS2⟩ => by go_simp; all_goals (rw [IntKind.wrap_i64]; omega)⟩) (by assumption) ?_
            simp only [Act.put, List.setIfInBounds_toArray, List.set_cons_zero, List.set_cons_succ]
            refine take_at (i := 4) (v := .int .i64 (i : Int)) (d := some 75) rfl rfl (by kernel_rfl) (by kernel_rfl) (by kernel_rfl) (fun _ _ _ h => h) (Or.inl ⟨by rfl, fun wS ⟨hS0, hS1, hS2⟩ => by go_simp; all_goals (rw [IntKind.wrap_i64]; omega)⟩) (by assumption) ?_
            simp only [Act.put, List.setIfInBounds_toArray, List.set_cons_zero, List.set_cons_succ]
            refine take_at (i := 5) (v := .pointer (some ⟨g, o + i * 5, none⟩)) (d := some 76) rfl rfl (by kernel_rfl) (by kernel_rfl) (by kernel_rfl) (fun _ _ _ h => h) (Or.inl ⟨by rfl, fun wS ⟨hS0, hS1, hS2⟩ => by go_simp; all_goals (rw [IntKind.wrap_i64]; omega)⟩) (by assumption) ?_
            simp only [Act.put, List.setIfInBounds_toArray, List.set_cons_zero, List.set_cons_succ]
            refine take_at (i := 6) (v := .pointer (some ⟨g, o + i * 5 + 3, none⟩)) (d := some 77) rfl rfl (by kernel_rfl) (by kernel_rfl) (by kernel_rfl) (fun _ _ _ h => h) (Or.inl ⟨by rfl, fun wS ⟨hS0, hS1, hS2⟩ => by go_simp; all_goals (rw [IntKind.wrap_i64]; omega)⟩) (by assumption) ?_
            simp only [Act.put, List.setIfInBounds_toArray, List.set_cons_zero, List.set_cons_succ]
            refine take_at (i := 7) (v := .int .i64 now) (d := some 78) rfl rfl (by kernel_rfl) (by kernel_rfl) (by kernel_rfl) (fun _ _ _ h => h) (Or.inl ⟨by rfl, fun wS ⟨hS0, hS1, hS2⟩ => by go_simp; all_goals (rw [IntKind.wrap_i64]; omega)⟩) (by assumption) ?_
            simp only [Act.put, List.setIfInBounds_toArray, List.set_cons_zero, List.set_cons_succ]
            clear hHeld
            refine wpAnyH_ready (rs := [2]) (by kernel_rfl) (by simp) ?_
            refine AllReadyH.cons rfl (fun K hK => ?_) AllReadyH.nil
            go_simp
            refine (CP.out w6.drew HB6.out.drew).mono ?_
            rintro e w3 ⟨u3, rfl, hI3, hb3⟩
            have hb3 := below_undrew hb3
            have HI3 := hide hI3
            have Hb3 := hide hb3
            obtain ⟨a3, c3, rfl⟩ := hI3.shape
            rw [hln.out] at HI3 ⊢
            clear hI3 hb3
            refine hK.out _ _ (HSW.out _ Hb3.out) (fun hHeld => ?_)
            clear hK K hHeld
            refine wpAnyH_ready (rs := [8]) (by kernel_rfl) (by simp) ?_
            refine AllReadyH.cons rfl (fun K hK => ?_) AllReadyH.nil
            go_simp
            refine (ONA.out w3 _ (HK6.out.after Hb3.out) HI3.out).mono ?_
            intro e w7 hq
            obtain ⟨v7, ks7, b7, rfl, h1, h2, h3, h4, h5, h6⟩ := hq.before Hb3.out
            clear hq
            refine hK.out _ _ (HS.out _ h6) (fun hHeld => ?_)
            clear hK K
            refine take_at (i := 9) (v := v7) (d := some 11) rfl rfl (by kernel_rfl) (by kernel_rfl) (by kernel_rfl) (fun _ _ _ h => h) (Or.inl ⟨by rfl, fun wS ⟨hS0, hS1, hS2⟩ => by go_simp; all_goals (rw [IntKind.wrap_i64]; omega)⟩) (by assumption) ?_
            simp only [Act.put, List.setIfInBounds_toArray, List.set_cons_zero, List.set_cons_succ]
            clear hHeld ONA HI3 Hb3
            refine wpAnyH_done (by kernel_rfl) ?_ _
            go_simp
            have HGR := hide h6
            have HAN := hide h5
            have HD7 := hide h1
            have HLO : Hid (LOk ms (onS 1 ms l k ns now).1) := hide (on_ok (by omega) HL.out HNOW.out)
            have HAO := hide (aok_on 1 ms l k ns now)
            have HKE : Hid (0 < (onS 1 ms l k ns now).1.cn → (onS 1 ms l k ns now).1.cn = keN l k ns ∧ (onS 1 ms l k ns now).1.rw = keR l k ns) := hide (fun h => on_keep HRD.out HL.out h)
            obtain ⟨p7, m7, c7, rfl⟩ := h5.any
            clear h1 h2 h3 h4 h5 h6 HK6
            generalize onS 1 ms l k ns now = r at *
            have HO7 := hide (owns_desk HO6.out HGR.out HDb.out)
            have HU7 := hide (HU6.out.desk HGR.out HDb.out)
            have HB7 := hide (below_desk HB6.out HGR.out HDw.out)
            have hs7 : b ≤ w7.heap.size := Nat.le_trans hs6 HGR.out.size
            obtain ⟨m0, m1, _⟩ := HS.out w7 HGR.out
            clear HO6 HU6 HB6 BX6 HGR HS HSW hs6
            have HMD : Hid (∀ (nn : Int) (us' : List Value) (R' : List (List Int)) (v8 : Value), w7.ownsRow b 36 1 v8 us'.length us' → Urs w7 b us' R' → keN l k ns = nn → keR l k ns = R' → OMid w b D ms (.int .i64 nn) v8 (.slice p7 m7 c7) w7) := hide (fun nn us' R' v8 h1 h2 h3 h4 => ⟨_, _, nn, us', R', rfl, HLO.out, HAO.out, HAN.out.up (Nat.zero_le _), ⟨_, HD7.out⟩, h1, h2, fun h => by rw [← h3, ← h4]; exact (HKE.out h).imp Eq.symm Eq.symm, HB7.out, hs7⟩)
            by_cases hen : en = 0
            · subst hen
              have hok : okM k ns = true := by rw [HEO.out]; rfl
              obtain ⟨hp0, hp1⟩ := okM_len hok
              have hln0 : 0 < ln := by rw [← hln.out, hp1]; omega
              obtain ⟨gu, ou, rfl, hgu, hcu⟩ := HU2.out hln0
              have HCU : Hid (∀ W, Below w.heap.size w W → ∀ j, j < ln → W.cell? ⟨gu, ou + j, none⟩ = some (.int .i64 (ns.getD j 0))) := hide (fun W hb j hj => (hb.cell (p := ⟨gu, ou + j, none⟩) hgu).trans (hcu j hj))
              have HOK := hide hok
              have HP1 := hide hp1
              clear hok hp0 hp1 hgu hcu HEO
              have f0 : w7.cell? ⟨gu, ou, none⟩ = some (.int .i64 (ns.getD 0 0)) := HCU.out w7 HB7.out 0 hln0
              by_cases h1 : ns.getD 0 0 = 1
              · rw [h1] at f0
                have HX1 := hide h1
                clear h1
                by_cases h7 : k = 7
                · subst h7
                  have e2 : ln = 2 := by rw [← hln.out, HP1.out]; rfl
                  subst e2
                  have f1 : w7.cell? ⟨gu, ou + 1, none⟩ = some (.int .i64 (ns.getD 1 0)) := HCU.out w7 HB7.out 1 (by omega)
                  have HM := hide (HMD.out (ns.getD 1 0) [] [] (.slice none 0 0) (World.ownsRow_nil _ _ _ _) (Urs.nil _ _) (by unfold keN; rw [if_pos ⟨HOK.out, HX1.out, rfl⟩]) (keR_7 ⟨HOK.out, HX1.out⟩ rfl))
                  clear HMD
                  go_wp2_with fail
                  go_meet
                  exact HM.out
                · have d7 : (k == 7) = false := by simp [h7]
                  have HKN : Hid (keN l k ns = l.cn) := hide (keN_other (fun h => h7 h.2.2))
                  by_cases h9 : k = 9
                  · subst h9
                    have e2 : ln = 7 := by rw [← hln.out, HP1.out]; rfl
                    subst e2
                    have f1 : w7.cell? ⟨gu, ou + 1, none⟩ = some (.int .i64 (ns.getD 1 0)) := HCU.out w7 HB7.out 1 (by omega)
                    by_cases hq : ns.getD 1 0 = (rl : Int)
                    · rw [hq] at f1
                      have HHD : Hid (ns.getD 1 0 = l.hd) := hide (by rw [hq]; unfold Ls.hd; rw [hrl.out])
                      have deq : ((rl : Int) == (rl : Int)) = true := by simp
                      clear hq
                      have hc7 := HCAP.out
                      have TL := itail gu ou 7 uc 2 (by omega) (by omega)
                      simp only [Int.cast_ofNat_Int, Nat.reduceSub] at TL
                      have HT5 : Hid (∀ W, Below w.heap.size w W → Ints W (.slice (some ⟨gu, ou + 2, none⟩) 5 (uc - 2)) (ns.drop 2)) := hide (fun W hb => by
                        have := itail_ints (cap := uc) (k := 2) hln.out (HII.out.below hb) (by omega)
                        simpa using this)
                      have hd5 : (ns.drop 2).length = 5 := by rw [List.length_drop, hln.out]
                      have RI := hide (fun W (hb : Below w.heap.size w W) => rintsL_any (ns.drop 2) _ W (HT5.out W hb) (fun n c e => by injection e with e; cases e) (by rw [hd5]; omega))
                      have HD5' := hide hd5
                      clear hd5 HT5 HCAP
                      go_wp2_with fail
                      refine (RI.out _ HB7.out).mono ?_
                      rintro e w8 ⟨u8, rfl, hI8, hb8⟩
                      have HI8 := hide hI8
                      have Hb8 := hide hb8
                      obtain ⟨a8, c8, rfl⟩ := hI8.shape
                      rw [HD5'.out] at HI8 ⊢
                      have hs8 := hb8.size
                      have HO8 := hide (owns_below HO7.out hb8)
                      have HU8 : Hid (Urs w8 b (us ++ [.slice a8 5 c8]) (l.rw ++ [ns.drop 2])) := hide ((HU7.out.below hb8).more HI8.out hs7 (fun j x hx k hk => (World.ownsRow.lt (HU7.out.row j x hx) k hk).2) (by rw [HD5'.out]; omega))
                      have HOA : Hid ((w8.alloc (.cells #[.slice a8 5 c8] 36)).ownsRow b 36 1 (.slice ra rl rc) us.length us) := hide (HO8.out.alloc _)
                      rw [HUSL.out] at HOA
                      have hi0 := HI0.out
                      have hz0 := HZ0.out
                      have hz1 := HZ1.out
                      have hz2 := HZ2.out
                      clear hI8 hb8 RI m0 m1 f0 f1 TL
                      go_wp2_with (at_builtin; refine wpList_append_own _ rfl (.tmp 108) (.tmp 113) 27 rfl b 36 i0 _ 1 24 Try.underlying27 hi0 hz0 hz1 hz2 rfl (by decide) _ _ _ rfl HOA.out ⟨w8.heap.size, 0, none⟩ 1 1 [.slice a8 5 c8] rfl rfl ?c1 ?c2 ?c3 ?c4 ?c5 ?_)
                      case c1 => exact new_cell1 _ _ rfl _ _
                      case c2 => intro u hu; simp at hu; subst hu; rfl
                      case c3 => unfold maxLen; omega
                      case c4 => omega
                      case c5 => rw [size_alloc]; omega
                      intro v9 w9 hown9 hgrow9 _
                      have HU9 := hide ((HU8.out.below (below_alloc w8 (.cells #[.slice a8 5 c8] 36))).grown HOA.out hgrow9)
                      have hbb : ∀ j, (Value.slice ra rl rc).ownBlock = some j → b ≤ j := fun j e => (World.ownsRow.lt HOA.out j e).1
                      have hb79 : Below w7.heap.size w7 (w8.alloc (.cells #[.slice a8 5 c8] 36)) := below_next Hb8.out (Nat.le_refl _) (below_alloc w8 _)
                      have HB9 : Hid (Below w.heap.size w w9) := hide ((below_next HB7.out (Nat.le_refl _) hb79).grown hgrow9 (Nat.le_trans HB7.out.size hb79.size) (fun j e => by have := hbb j e; have := HDw.out; have := HDb.out; omega))
                      obtain ⟨ks9, hD9, _⟩ := Dsk.rows (HD7.out.after hb79) HOA.out hgrow9
                      have hans9 : Ans w9 0 (.slice p7 m7 c7) r.2 := by
                        have h1 := HAN.out.below hb79
                        cases hr2 : r.2 with
                        | none => rw [hr2] at h1; exact h1
                        | some x =>
                          rw [hr2] at h1
                          obtain ⟨x1, x2, x3⟩ := x
                          obtain ⟨f9, g9, q1, q2, q3, q4, q5, q6⟩ := h1
                          exact ⟨f9, g9, Nat.zero_le _, Nat.zero_le _, q3, q4, q5.grown hgrow9 (blk_apart HOA.out q5 (by decide)), q6.grown hgrow9 (blk_apart HOA.out q6 (by decide))⟩
                      have HM : Hid (OMid w b D ms (.int .i64 l.cn) v9 (.slice p7 m7 c7) w9) := hide ⟨r.1, r.2, l.cn, us ++ [.slice a8 5 c8], l.rw ++ [ns.drop 2], rfl, HLO.out, HAO.out, hans9, ⟨_, hD9⟩, by rw [List.length_append, HUSL.out]; exact hown9, HU9.out, fun h => by rw [← HKN.out, ← keR_9 ⟨HOK.out, HX1.out⟩ rfl HHD.out]; exact (HKE.out h).imp Eq.symm Eq.symm, HB9.out, by have h1 := hgrow9.size; rw [size_alloc] at h1; omega⟩
                      obtain ⟨va9, vc9, rfl⟩ := rows_shape hown9
                      clear hown9 hgrow9 HOA hi0 hz0 hz1 hz2 hD9 hans9 hb79 hbb HU8 HO8
                      go_wp2_with fail
                      go_meet
                      exact HM.out
                    · have dq : (ns.getD 1 0 == (rl : Int)) = false := beq_eq_false_iff_ne.2 hq
                      have HM := hide (HMD.out l.cn us l.rw (.slice ra rl rc) HO7.out HU7.out HKN.out (keR_no h7 (fun h => hq (by have := h.2; unfold Ls.hd at this; rw [hrl.out] at this; exact this))))
                      generalize ns.getD 1 0 = y1 at *
                      clear HMD hq
                      go_wp2_with fail
                      go_meet
                      exact HM.out
                  · have d9 : (k == 9) = false := by simp [h9]
                    have HM := hide (HMD.out l.cn us l.rw (.slice ra rl rc) HO7.out HU7.out HKN.out (keR_no h7 (fun h => h9 h.1)))
                    clear HMD
                    go_wp2_with fail
                    go_meet
                    exact HM.out
              · have dx : (ns.getD 0 0 == 1) = false := beq_eq_false_iff_ne.2 h1
                have HM := hide (HMD.out l.cn us l.rw (.slice ra rl rc) HO7.out HU7.out (keN_other (fun h => h1 h.2.1)) (keR_bad (fun h => h1 h.2)))
                generalize ns.getD 0 0 = y0 at *
                clear HMD h1
                go_wp2_with fail
                go_meet
                exact HM.out
            · have den : (en == 0) = false := by simp [hen]
              have hno : ¬ okM k ns = true := by rw [HEO.out, den]; simp
              have HM := hide (HMD.out l.cn us l.rw (.slice ra rl rc) HO7.out HU7.out (keN_other (fun h => hno h.1)) (keR_bad (fun h => hno h.1)))
              clear HMD hen hno
              go_wp2_with fail
              go_meet
              exact HM.out
        case rest =>
          obtain ⟨l', an, nn, us', R', rfl, hL', hA', hAns, ⟨ks', hD'⟩, hO', hU', hkp, hbl, hsc⟩ := hcut
          obtain ⟨ra', rc', rfl⟩ := rows_len hO' hU'
          obtain ⟨pa, ca, la, rfl, hla, hlook⟩ := ans_look hAns hA'
          have HL' := hide hL'
          have HD' := hide hD'
          have HO' := hide hO'
          have HU' := hide hU'
          have HKP := hide hkp
          have HBL := hide hbl
          have HLK := hide hlook
          obtain ⟨rl', hrl'⟩ : ∃ rl', Hid (R'.length = rl') := ⟨_, hide rfl⟩
          rw [hrl'.out] at HO' ⊢
          clear hL' hA' hAns hD' hO' hU' hkp hbl hlook HD6 HO6 HU6 BX6 HB6 HCX HU2 HII CP HL HRD HNI HEO HBm HNOW
          go_wp2_with fail
          go_loopw [14] (fun vj wx => ∃ j : Nat, vj = .int .i64 (j : Int) ∧ j ≤ la ∧ wx = wc) (fun vj _ => la - (intOf vj).toNat)
          case atStart => exact ⟨0, rfl, by omega, rfl⟩
          case round =>
            obtain ⟨j, rfl, hj, hwr⟩ := hrel
            have hwr := hwr.symm
            subst hwr
            by_cases hjl : j < la
            · obtain ⟨g7, f7, k7, y7, rfl, c70, c71, c72, hk7⟩ := HLK.out (by omega)
              have ej : j = 0 := by omega
              have d70 : wc.cell? ⟨g7, j * 2, none⟩ = some (.int .u8 k7) := by rw [ej]; exact c70
              have d71 : wc.cell? ⟨g7, j * 2 + 1, none⟩ = some (.slice (some ⟨f7, 0, none⟩) 2 2) := by rw [ej]; exact c71
              clear c70 c71 ej HLK
              rcases hk7 with h8 | ⟨h10, hy⟩
              · subst h8
                go_wp2_with fail
                go_roundw
                case rel => exact ⟨j + 1, by go_num, by omega, by trivial⟩
                case measure => simp [intOf]; omega
              · subst h10
                have hy7 : (y7 == 0) = false := by simp [hy]
                go_wp2_with fail
                go_roundw
                case rel => exact ⟨j + 1, by go_num, by omega, by trivial⟩
                case measure => simp [intOf]; omega
            · clear HLK
              have RY := hide (readyD_any wc D 1 ms l' ks' HD'.out HL'.out hms.2)
              have HRL : Hid (rdB l' = true → rdL l' = l'.rw ∧ (l'.rw.length : Int) = l'.cn ∧ 0 < l'.cn) := hide (fun h => ⟨by unfold rdL; rw [if_pos h], ready_len h, by unfold rdB at h; simp at h; exact h.1⟩)
              generalize hyy : rdB l' = y at *
              have HYY := hide hyy
              clear hyy
              go_wp2_with fail
              refine RY.out.mono ?_
              rintro e w8 ⟨v8, rfl, hO8, hb8⟩
              have HL8 := hide hO8.lsts
              have HD8 := hide (HD'.out.after hb8)
              have HO8 := hide (owns_below HO'.out hb8)
              have HU8 := hide (HU'.out.below hb8)
              have HB8 := hide (below_next HBL.out (Nat.le_refl _) hb8)
              have hs8 : b ≤ w8.heap.size := by have := hb8.size; omega
              obtain ⟨va8, vc8, rfl⟩ := hO8.shape
              clear hO8 hb8 RY HD' HO' HU' HBL
              cases y
              · have BU := hide (busy_any w8 D 1 ms l' ks' HD8.out)
                by_cases hcn : 0 < l'.cn
                · have hcb : decide (0 < l'.cn) = true := by simp [hcn]
                  rw [hcb] at BU
                  obtain ⟨en1, er1⟩ := HKP.out hcn
                  subst en1 er1
                  generalize (rdL l').length = zl at *
                  clear hcb HKP HRL
                  go_wp2_with (go_at_call 13; refine BU.out.mono ?_; rintro e x ⟨rfl, hx⟩; obtain rfl := hx.symm)
                  go_roundw
                  case rel => exact ⟨i + 1, l', us', rfl, by go_num, by omega, hs8, HL', HYY, hide ⟨_, HD8.out⟩, HO8, HU8, HB8⟩
                  case measure => simp [intOf]; omega
                · have hcb : decide (0 < l'.cn) = false := by simp [hcn]
                  rw [hcb] at BU
                  obtain ⟨e01, e02⟩ := idle_rows HL'.out hcn
                  have E01 := hide e01
                  have E02 := hide e02
                  generalize (rdL l').length = zl at *
                  clear hcb HKP HRL e01 e02 hcn
                  go_wp2_with (go_at_call 13; refine BU.out.mono ?_; rintro e x ⟨rfl, hx⟩; obtain rfl := hx.symm)
                  go_roundw
                  case rel => exact ⟨i + 1, l', [], by rw [E01.out], by go_num, by omega, hs8, HL', HYY, hide ⟨_, HD8.out⟩, hide (World.ownsRow_nil _ _ _ _), hide (by rw [E02.out]; exact Urs.nil _ _), HB8⟩
                  case measure => simp [intOf]; omega
              · obtain ⟨e81, e82, e83⟩ := HRL.out (by trivial)
                obtain ⟨en1, er1⟩ := HKP.out e83
                subst en1 er1
                rw [e81, hrl'.out] at HL8 ⊢
                have E82 : Hid (((rl' : Nat) : Int) = l'.cn) := hide (by rw [← hrl'.out]; exact e82)
                rw [← E82.out]
                have hr5 : ∀ x ∈ l'.rw, x.length = 5 := HL'.out.r
                have HR5 := hide hr5
                clear e81 e82 e83 HKP HRL hr5
                go_wp2_with fail
                refine (AW.out _).mono ?_
                rintro e w9 ⟨rfl, hb9⟩
                have SL := hide (sameLists_true l'.rw (.slice va8 rl' vc8) (.slice ra' rl' rc') w9 (HL8.out.below hb9) ((OwnL.lsts (base := b) ⟨us', HO8.out, HU8.out⟩).below hb9) (by have h1 := HL'.out.h; have h2 := HL'.out.m; unfold Ls.hd at h1; omega) (fun j hj => by
                  have hm2 : l'.rw.getD j [] ∈ l'.rw := by rw [List.getD, List.getElem?_eq_getElem hj]; exact List.getElem_mem _
                  rw [HR5.out _ hm2]; omega))
                have HB9 := hide (below_next HB8.out (Nat.le_refl _) hb9)
                clear hb9 HL8 HO8 HU8 HB8
                have hee : ((rl' : Int) == (rl' : Int)) = true := by simp
                go_wp2_with (go_at_call 21; refine SL.out.mono ?_; rintro e wa ⟨rfl, hba⟩; have HBa := hide (below_next HB9.out (Nat.le_refl _) hba); clear hba)
                go_ret
                exact ⟨rfl, HBa.out⟩
      · obtain rfl : i = m := by omega
        go_wp2_with (go_at_call 10; refine (AW.out _).mono ?_; rintro e w5 ⟨rfl, hb5⟩; have Hb5 := hide (below_next Hb.out (Nat.le_refl _) hb5); clear hb5)
        go_ret
        exact ⟨rfl, Hb5.out⟩
theorem UploadOnly_walk (ms : Int) (v : Value) (w : World) (hv : ∃ L, (∀ x ∈ L, CaOk2 w x) ∧ Rws w v 5 caC L ∧ L.length * 56 ≤ 140737488351232) : Calls Try.prog 4 #[.int .i64 ms, v] w fun e w' => e = .returned (.bool true) ∧ Below w.heap.size w w' := by
  obtain ⟨L, h1, h2, h3⟩ := hv
  exact only_walk ms L v w h1 h2 h3
end Go.Proofs.Ytbkmalepfmggbaa
