/- The document's world, walked: Sees. -/
import Derived.Test.YtpoodmfhcoaleaaWs2
import Derived.Deep.CutBlock
namespace Go.Proofs.Ytpoodmfhcoaleaa
open Go.RowKit Go.Great

theorem turn16 {h x : Int} (hx : h.tmod 65536 = x) : (-65536 < x ∧ x < 65536) ∧ (x + 65536).tmod 65536 = h % 65536 ∧ (x + 65536) % 65536 = h % 65536 ∧ x % 65536 = h % 65536 := by
  have h1 := Int.mul_tdiv_add_tmod h 65536
  have a1 := Int.tmod_lt_of_pos h (show (0 : Int) < 65536 by omega)
  have a2 := Int.tmod_lt_of_pos (-h) (show (0 : Int) < 65536 by omega)
  rw [Int.neg_tmod] at a2
  rw [hx] at h1 a1 a2
  have e : (x + 65536).tmod 65536 = (x + 65536) % 65536 := Int.tmod_eq_emod_of_nonneg (by omega)
  refine ⟨by omega, ?_, ?_, ?_⟩
  · rw [e]; omega
  · omega
  · omega
set_option maxHeartbeats 4000000 in
set_option maxRecDepth 100000 in
theorem rsees_any (o : Wo) (ho : WOk o) (s : Int) (f : List Int) (hf : ∀ j, I64 (f.getD j 0)) (u : Value) (w : World) (hu : Ints w u f) (hlen : f.length ≤ 1099511627776000) : Calls Try.prog 12 #[woV o, .int .u8 s, u] w fun e w' => ∃ v, e = .returned v ∧ NewL w' w.heap.size v (seeO o s f) ∧ Below w.heap.size w w' := by
  have HU := hide hu
  obtain ⟨oa, oc, rfl, _⟩ := hu
  have HT4 := hide (seeT_len o s)
  have HTI := hide (seeT_ok ho s)
  have HSO : Hid (seeO o s f = if s = 1 then (addN (seeT o s) f (min (seeT o s).length f.length)).set 0 ((addN (seeT o s) f (min (seeT o s).length f.length)).getD 0 0 % 65536) else addN (seeT o s) f (min (seeT o s).length f.length)) := hide rfl
  have HF := hide hf
  have HSE : Hid ((s = 1 → seeT o s = [o.h / 16, o.r, 0, 0]) ∧ (s = 2 → seeT o s = [o.p2 / 6400, o.v2]) ∧ (s = 3 → seeT o s = [o.p0 / 6400, o.p1 / 6400, o.v0, o.v1]) ∧ (¬ s = 1 → ¬ s = 2 → ¬ s = 3 → seeT o s = [])) := hide (by
    unfold seeT
    refine ⟨fun e => by rw [if_pos e], fun e => by rw [if_neg (by omega), if_pos e], fun e => by rw [if_neg (by omega), if_neg (by omega), if_pos e], fun a b c => by rw [if_neg a, if_neg b, if_neg c]⟩)
  obtain ⟨RES, HRES⟩ : ∃ R, Hid (seeO o s f = R) := ⟨_, hide rfl⟩
  rw [HRES.out]
  rw [HRES.out] at HSO
  have F16 := hide (fun W => rfloorW16 o.h W ho.h)
  have FP0 := hide (fun W => rfloorW6400 o.p0 W ho.p0)
  have FP1 := hide (fun W => rfloorW6400 o.p1 W ho.p1)
  have FP2 := hide (fun W => rfloorW6400 o.p2 W ho.p2)
  generalize seeT o s = T at *
  generalize o.h / 16 = yh at *
  generalize o.p0 / 6400 = y0 at *
  generalize o.p1 / 6400 = y1 at *
  generalize o.p2 / 6400 = y2 at *
  obtain ⟨n, hn⟩ : ∃ n, Hid (f.length = n) := ⟨_, hide rfl⟩
  obtain ⟨tl, htl⟩ : ∃ tl, Hid (T.length = tl) := ⟨_, hide rfl⟩
  obtain ⟨m, hm⟩ : ∃ m, Hid (min tl n = m) := ⟨_, hide rfl⟩
  rw [hn.out] at HU HSO hlen
  rw [htl.out] at HSO HT4
  rw [hm.out] at HSO
  have hmt : m ≤ tl ∧ m ≤ n ∧ (m = tl ∨ m = n) := by rw [← hm.out]; omega
  have ht4 := HT4.out.1
  rw [hn.out]
  clear hf ho
  have HA := hide (Blk.new w (woA o) 24)
  have Hb := hide (below_alloc w (.cells (woA o) 24))
  go_enter Try.func12, Try.ntmps12
  go_upto_region 1 with fail
  generalize w.alloc (.cells (woA o) 24) = W0 at *
  go_upto_block 0 with fail
  go_cut [7] (fun vv wx => ∃ v, vv = v ∧ NewL wx w.heap.size v T ∧ Below w.heap.size w wx)
  case first =>
    clear HU HT4 HTI HSO HF htl hm hn hmt ht4 hlen
    by_cases h1 : s = 1
    · have HT := hide (HSE.out.1 h1)
      subst h1
      clear HSE
      have c0 : W0.cell? ⟨w.heap.size, 6, none⟩ = some (.int .i64 o.h) := HA.out.cell 6 rfl
      have c1 : W0.cell? ⟨w.heap.size, 7, none⟩ = some (.int .i64 o.r) := HA.out.cell 7 rfl
      go_wp2_with fail
      refine reg_two 5 _ _ rfl rfl rfl rfl (by kernel_rfl) (by kernel_rfl) (by kernel_rfl) (by kernel_rfl) ?_
      simp only [List.take_succ_cons, List.take_zero]
      repeat (quiet_step (first | (go_at_call_of 30 (Value.int IntKind.i64 o.h); exact Calls.quiet_of_same (F16.out _))))
      refine wpQuiet_nil ?_
      intro nq
      go_simp
      go_wp2_with fail
      go_meet
      exact ⟨_, rfl, .inr ⟨_, by rw [HT.out]; rfl, by have := (below_drewN Hb.out nq).size; exact this, by rw [HT.out]; exact Blk.new _ _ _⟩, below_next (below_drewN Hb.out nq) (Nat.le_refl _) (below_alloc _ _)⟩
    · have e1 : (s == 1) = false := by simp [h1]
      by_cases h2 : s = 2
      · have HT := hide (HSE.out.2.1 h2)
        subst h2
        clear HSE
        have c0 : W0.cell? ⟨w.heap.size, 2, none⟩ = some (.int .i64 o.p2) := HA.out.cell 2 rfl
        have c1 : W0.cell? ⟨w.heap.size, 5, none⟩ = some (.int .i64 o.v2) := HA.out.cell 5 rfl
        go_wp2_with fail
        refine reg_two 7 _ _ rfl rfl rfl rfl (by kernel_rfl) (by kernel_rfl) (by kernel_rfl) (by kernel_rfl) ?_
        simp only [List.take_succ_cons, List.take_zero]
        repeat (quiet_step (first | (go_at_call_of 30 (Value.int IntKind.i64 o.p2); exact Calls.quiet_of_same (FP2.out _))))
        refine wpQuiet_nil ?_
        intro nq
        go_simp
        go_wp2_with fail
        go_meet
        exact ⟨_, rfl, .inr ⟨_, by rw [HT.out]; rfl, by have := (below_drewN Hb.out nq).size; exact this, by rw [HT.out]; exact Blk.new _ _ _⟩, below_next (below_drewN Hb.out nq) (Nat.le_refl _) (below_alloc _ _)⟩
      · have e2 : (s == 2) = false := by simp [h2]
        by_cases h3 : s = 3
        · have HT := hide (HSE.out.2.2.1 h3)
          subst h3
          clear HSE
          have c0 : W0.cell? ⟨w.heap.size, 0, none⟩ = some (.int .i64 o.p0) := HA.out.cell 0 rfl
          have c1 : W0.cell? ⟨w.heap.size, 1, none⟩ = some (.int .i64 o.p1) := HA.out.cell 1 rfl
          have c2 : W0.cell? ⟨w.heap.size, 3, none⟩ = some (.int .i64 o.v0) := HA.out.cell 3 rfl
          have c3 : W0.cell? ⟨w.heap.size, 4, none⟩ = some (.int .i64 o.v1) := HA.out.cell 4 rfl
          go_wp2_with fail
          refine reg_two 14 _ _ rfl rfl rfl rfl (by kernel_rfl) (by kernel_rfl) (by kernel_rfl) (by kernel_rfl) ?_
          simp only [List.take_succ_cons, List.take_zero]
          repeat (quiet_step (first | (go_at_call_of 30 (Value.int IntKind.i64 o.p0); exact Calls.quiet_of_same (FP0.out _)) | (go_at_call_of 30 (Value.int IntKind.i64 o.p1); exact Calls.quiet_of_same (FP1.out _))))
          refine wpQuiet_nil ?_
          intro nq
          go_simp
          go_wp2_with fail
          go_meet
          exact ⟨_, rfl, .inr ⟨_, by rw [HT.out]; rfl, by have := (below_drewN Hb.out nq).size; exact this, by rw [HT.out]; exact Blk.new _ _ _⟩, below_next (below_drewN Hb.out nq) (Nat.le_refl _) (below_alloc _ _)⟩
        · have e3 : (s == 3) = false := by simp [h3]
          have HT := hide (HSE.out.2.2.2 h1 h2 h3)
          clear HSE h1 h2 h3
          go_wp2_with fail
          go_meet
          exact ⟨_, rfl, .inl ⟨rfl, HT.out⟩, Hb.out⟩
  case rest =>
    obtain ⟨v1, rfl, hN, hb1⟩ := hcut
    obtain ⟨ta, rfl⟩ := hN.shape
    rw [htl.out]
    rw [htl.out] at hN
    have Hb1 := hide hb1
    have HN := hide hN
    clear hb1 hN HA Hb F16 FP0 FP1 FP2 HSE
    rcases HN.out with ⟨hnil, hT0⟩ | ⟨g, hsl, hgb, hB⟩
    · injection hnil with h1 h2 h3
      subst h1
      have h0 : tl = 0 := h2
      have hm0 : m = 0 := by omega
      have hs1 : ¬ s = 1 := fun e => by have := HT4.out.2 e; omega
      have HR0 : Hid (RES = []) := hide (by
        rw [HSO.out, if_neg hs1, hT0]
        rfl)
      have e1 : (s == 1) = false := by simp [hs1]
      clear h2 h3 hT0 hs1 HSO HN
      subst h0 hm0
      go_wp2_with fail
      go_loopw [8] (fun v wr => v = .int .i64 0 ∧ wr = wc) (fun _ _ => 0)
      case atStart => exact ⟨rfl, rfl⟩
      case round =>
        obtain ⟨rfl, hwr⟩ := hrel
        have hwr := hwr.symm
        subst hwr
        go_wp2_with fail
        go_ret
        exact ⟨_, rfl, .inl ⟨rfl, HR0.out⟩, Hb1.out⟩
    · rw [htl.out] at hsl
      injection hsl with h1 _ _
      subst h1
      have HB := hide hB
      have HG := hide hgb
      clear hB hgb HN
      go_wp2_with fail
      go_loopw [8] (fun v wr => ∃ i : Nat, v = .int .i64 (i : Int) ∧ i ≤ m ∧ Blk wr g (rowI (addN T f i)) 3 ∧ Below w.heap.size w wr) (fun v _ => m - (intOf v).toNat)
      case atStart => exact ⟨0, rfl, by omega, by rw [addN_zero]; exact HB.out, Hb1.out⟩
      case round =>
        obtain ⟨i, rfl, hi, hB, hb⟩ := hrel
        have HB2 := hide hB
        have Hb2 := hide hb
        clear hB hb HB Hb1
        have hgl := HG.out
        by_cases him : i < m
        · have hd : decide ((i : Int) < (tl : Int)) = true := decide_eq_true (by omega)
          have hd2 : decide ((i : Int) < (n : Int)) = true := decide_eq_true (by omega)
          have HUz : Hid (∀ z : BelowW wr, Ints z.q (.slice oa n oc) f) := hide (fun z => HU.out.below (below_next Hb2.out (Nat.le_refl _) z.h))
          have hu2 := HUz.out ⟨wr, Below.refl _ _⟩
          obtain ⟨_, _, e, hc⟩ := hu2
          injection e with e1 e2 e3
          subst e1 e3
          obtain ⟨go, oo, rfl, hgo, hcell⟩ := hc (by rw [hn.out]; omega)
          have c1 : ∀ z : BelowW wr, z.q.cell? ⟨go, oo + i, none⟩ = some (.int .i64 (f.getD i 0)) := fun z => (z.h.cell (p := ⟨go, oo + i, none⟩) hgo).trans (hcell i (by rw [hn.out]; omega))
          have hq0 := rowI_get (addN T f i) i (by rw [addN_len, htl.out]; omega)
          rw [addN_at T f i i (by rw [htl.out]; omega), if_neg (by omega)] at hq0
          have c0 : ∀ z : BelowW wr, z.q.cell? ⟨g, i, none⟩ = some (.int .i64 (T.getD i 0)) := HB2.out.at i hq0
          have AD := hide (fun W => ref_add_any (T.getD i 0) (f.getD i 0) W (HTI.out i) (HF.out i))
          have ST := hide (addN_step T f i (by rw [htl.out]; omega))
          have HQ0 := hide hq0
          have hit : i < tl := by omega
          have hin : i < n := by omega
          clear hq0
          generalize T.getD i 0 = x at *
          generalize f.getD i 0 = y at *
          generalize sat (x + y) = z1 at *
          clear hcell hc e2 HTI HF HU HUz hgo
          go_wp2_with fail
          have hne : Nonempty (BelowW wr) := ⟨⟨wr, Below.refl _ _⟩⟩
          refine reg_last_calm 12 rfl rfl _ rfl (by kernel_rfl) (by kernel_rfl) (by kernel_rfl) ?_
          simp only [List.take_succ_cons, List.take_zero]
          repeat (go_big_quiet_step ((go_at_call 26; exact calm_of (AD.out _))))
          refine wpQuiet_nil ?_
          rintro _ ⟨z, rfl⟩
          clear c0 c1 hne
          have c0 : z.q.cell? ⟨g, i, none⟩ = some (.int .i64 x) := (HB2.out.after z.h).cell i HQ0.out
          have fz := (HB2.out.after z.h).frozen i
          go_simp
          go_wp2_with fail
          go_roundw
          case rel =>
            have hb3 := below_next Hb2.out (Nat.le_refl _) z.h
            refine ⟨i + 1, by go_num, by omega, ?_, below_set hb3 _ _ _ hgl hb3.size⟩
            have hq := (HB2.out.after z.h).set i (.int .i64 z1)
            rw [rowI_set, ST.out] at hq
            exact hq
          case measure => simp [intOf]; omega
        · have hie : i = m := by omega
          have HEND : Hid ((¬ i < tl) ∨ (i < tl ∧ ¬ i < n)) := hide (by
            by_cases q : i < tl
            · exact .inr ⟨q, by omega⟩
            · exact .inl q)
          subst hie
          by_cases hs1 : s = 1
          · have HR1 : Hid (RES = (addN T f i).set 0 ((addN T f i).getD 0 0 % 65536)) := hide (by rw [HSO.out, if_pos hs1])
            have h4 := HT4.out.2 hs1
            subst hs1
            have c0 := HB2.out.cell 0 (rowI_get (addN T f i) 0 (by rw [addN_len, htl.out]; omega))
            have fz := HB2.out.frozen 0
            have ht0 : 0 < tl := by omega
            have hlr : RES.length = tl := by rw [HR1.out, List.length_set, addN_len, htl.out]
            have HLR := hide hlr
            generalize (addN T f i).getD 0 0 = x at *
            obtain ⟨x1, hx1⟩ : ∃ y, x.tmod 65536 = y := ⟨_, rfl⟩
            obtain ⟨⟨t1, t2⟩, tE, tE2, tE3⟩ := turn16 hx1
            have TE3 := hide tE3
            have TE := hide tE
            have TE2 := hide tE2
            clear hlr h4 HSO tE tE2 tE3 hmt hi him
            rcases HEND.out with hd | ⟨hd, hd2⟩
            · have hz : ¬ ((i : Int) < (tl : Int)) := by omega
              go_upto_region 15 with fail
              first | rw [TE.out] | rw [TE2.out] | rw [TE3.out] | skip
              go_wp2_with fail
              go_ret
              refine ⟨_, rfl, .inr ⟨g, by rw [HLR.out]; rfl, hgl, ?_⟩, below_set Hb2.out _ _ _ hgl Hb2.out.size⟩
              have hq := HB2.out.set 0 (.int .i64 (x % 65536))
              rw [rowI_set, ← HR1.out, ← TE3.out] at hq
              exact hq
            · have hz : (i : Int) < (tl : Int) := by omega
              have hz2 : ¬ ((i : Int) < (n : Int)) := by omega
              go_upto_region 15 with fail
              first | rw [TE.out] | rw [TE2.out] | rw [TE3.out] | skip
              go_wp2_with fail
              go_ret
              refine ⟨_, rfl, .inr ⟨g, by rw [HLR.out]; rfl, hgl, ?_⟩, below_set Hb2.out _ _ _ hgl Hb2.out.size⟩
              have hq := HB2.out.set 0 (.int .i64 (x % 65536))
              rw [rowI_set, ← HR1.out, ← TE3.out] at hq
              exact hq
          · have HR1 : Hid (RES = addN T f i) := hide (by rw [HSO.out, if_neg hs1])
            have e1 : (s == 1) = false := by simp [hs1]
            have hlr : RES.length = tl := by rw [HR1.out, addN_len, htl.out]
            have HLR := hide hlr
            clear hs1 hlr HSO hmt hi him
            rcases HEND.out with hd | ⟨hd, hd2⟩
            · have hz : ¬ ((i : Int) < (tl : Int)) := by omega
              go_wp2_with fail
              go_ret
              refine ⟨_, rfl, .inr ⟨g, by rw [HLR.out]; rfl, hgl, ?_⟩, Hb2.out⟩
              rw [HR1.out]
              exact HB2.out
            · have hz : (i : Int) < (tl : Int) := by omega
              have hz2 : ¬ ((i : Int) < (n : Int)) := by omega
              go_wp2_with fail
              go_ret
              refine ⟨_, rfl, .inr ⟨g, by rw [HLR.out]; rfl, hgl, ?_⟩, Hb2.out⟩
              rw [HR1.out]
              exact HB2.out
end Go.Proofs.Ytpoodmfhcoaleaa
