/- Package world, walked: Sees. -/
import Derived.Test.YtpoodmfhcoaleaaWs1
import Derived.Lib.MinMax
namespace Go.Proofs.Ytpoodmfhcoaleaa
open Go.RowKit Go.Great

set_option maxHeartbeats 2000000 in
set_option maxRecDepth 100000 in
theorem sees_any (o : Wo) (ho : WOk o) (s : Int) (f : List Int) (hf : ∀ j, I64 (f.getD j 0)) (u : Value) (w : World) (hu : Ints w u f) (hlen : f.length ≤ 1099511627776000) : Calls Try.prog 11 #[woV o, .int .u8 s, u] w fun e w' => ∃ v, e = .returned v ∧ NewL w' w.heap.size v (seeO o s f) ∧ Below w.heap.size w w' := by
  have TR := hide (truth_any o ho s)
  have HU := hide hu
  obtain ⟨oa, oc, rfl, _⟩ := hu
  have HT4 := hide (seeT_len o s)
  have HTI := hide (seeT_ok ho s)
  have HSO : Hid (seeO o s f = if s = 1 then (addN (seeT o s) f (min (seeT o s).length f.length)).set 0 ((addN (seeT o s) f (min (seeT o s).length f.length)).getD 0 0 % 65536) else addN (seeT o s) f (min (seeT o s).length f.length)) := hide rfl
  have HF := hide hf
  obtain ⟨RES, HRES⟩ : ∃ R, Hid (seeO o s f = R) := ⟨_, hide rfl⟩
  rw [HRES.out]
  rw [HRES.out] at HSO
  generalize seeT o s = T at *
  obtain ⟨n, hn⟩ : ∃ n, Hid (f.length = n) := ⟨_, hide rfl⟩
  obtain ⟨tl, htl⟩ : ∃ tl, Hid (T.length = tl) := ⟨_, hide rfl⟩
  obtain ⟨m, hm⟩ : ∃ m, Hid (min tl n = m) := ⟨_, hide rfl⟩
  rw [hn.out] at HU HSO hlen
  rw [htl.out] at HSO HT4
  rw [hm.out] at HSO
  have hmt : m ≤ tl ∧ m ≤ n := by rw [← hm.out]; omega
  have ht4 := HT4.out.1
  rw [hn.out]
  clear hf ho
  have HA := hide (Blk.new w (woA o) 24)
  have Hb := hide (below_alloc w (.cells (woA o) 24))
  go_enter Try.func11, Try.ntmps11
  go_upto_region 1 with fail
  generalize w.alloc (.cells (woA o) 24) = W0 at *
  obtain ⟨a0, a1, a2, a3, a4, a5, a6, a7, a8⟩ := nine_cells HA.out
  go_wp2_with fail
  refine (TR.out _).mono ?_
  rintro e w1 ⟨v1, rfl, hN, hb1⟩
  have Hb1 := hide (below_next Hb.out (Nat.le_refl _) hb1)
  have HW0 := hide Hb.out.size
  have HN := hide hN
  obtain ⟨ta, rfl⟩ := hN.shape
  rw [htl.out]
  rw [htl.out] at HN
  clear hb1 hN a0 a1 a2 a3 a4 a5 a6 a7 a8 HA Hb TR
  have hmi : min (tl : Int) (n : Int) = (m : Int) := by have := hm.out; omega
  have HW := hide Hb1.out.size
  rcases HN.out with ⟨hnil, hT0⟩ | ⟨g, hsl, hgb, hB⟩
  · injection hnil with h1 h2 h3
    subst h1
    have h0 : tl = 0 := h2
    have hm0 : m = 0 := by omega
    have hs1 : ¬ s = 1 := fun e => by have := HT4.out.2 e; omega
    have HR0 : Hid (RES = []) := hide (by
      rw [HSO.out, if_neg hs1, hT0]
      rfl)
    have e1 : (s == 1) = false := by simp [hs1]
    clear h2 h3 hT0 hs1 HSO HN
    subst h0 hm0
    go_wp2_with fail
    go_loopw [17] (fun v wr => v = .int .i64 0 ∧ wr = w1) (fun _ _ => 0)
    case atStart => exact ⟨rfl, rfl⟩
    case round =>
      obtain ⟨rfl, hwr⟩ := hrel
      have hwr := hwr.symm
      subst hwr
      go_wp2_with fail
      go_ret
      exact ⟨_, rfl, .inl ⟨rfl, HR0.out⟩, Hb1.out⟩
  · rw [htl.out] at hsl
    injection hsl with h1 _ _
    subst h1
    have HB := hide hB
    have HG := hide (Nat.le_trans HW0.out hgb)
    clear hB hgb HN
    go_wp2_with fail
    go_loopw [17] (fun v wr => ∃ i : Nat, v = .int .i64 (i : Int) ∧ i ≤ m ∧ Blk wr g (rowI (addN T f i)) 3 ∧ Below w.heap.size w wr) (fun v _ => m - (intOf v).toNat)
    case atStart => exact ⟨0, rfl, by omega, by rw [addN_zero]; exact HB.out, Hb1.out⟩
    case round =>
      obtain ⟨i, rfl, hi, hB, hb⟩ := hrel
      have HB2 := hide hB
      have Hb2 := hide hb
      clear hB hb HB Hb1
      have hgl := HG.out
      by_cases him : i < m
      · have hd : decide ((i : Int) < (m : Int)) = true := decide_eq_true (by omega)
        have hu2 := HU.out.below Hb2.out
        obtain ⟨_, _, e, hc⟩ := hu2
        injection e with e1 e2 e3
        subst e1 e3
        obtain ⟨go, oo, rfl, hgo, hcell⟩ := hc (by rw [hn.out]; omega)
        have c1 := hcell i (by rw [hn.out]; omega)
        have c0 := HB2.out.cell i (rowI_get (addN T f i) i (by rw [addN_len, htl.out]; omega))
        rw [addN_at T f i i (by rw [htl.out]; omega), if_neg (by omega)] at c0
        have AD := hide (fun W => add_any (T.getD i 0) (f.getD i 0) W (HTI.out i) (HF.out i))
        have ST := hide (addN_step T f i (by rw [htl.out]; omega))
        have fz := HB2.out.frozen i
        have hit : i < tl := by omega
        have hin : i < n := by omega
        generalize T.getD i 0 = x at *
        generalize f.getD i 0 = y at *
        generalize sat (x + y) = z at *
        clear hcell hc e2 HTI HF HU
        go_wp2_with fail
        refine reg_last 12 rfl rfl _ rfl (by kernel_rfl) (by kernel_rfl) (by kernel_rfl) ?_
        simp only [List.take_succ_cons, List.take_zero]
        repeat (quiet_step ((go_at_call 29; exact Calls.quiet_of_same (AD.out _))))
        refine wpQuiet_nil ?_
        intro nq
        go_simp
        go_wp2_with fail
        go_roundw
        case rel =>
          refine ⟨i + 1, by go_num, by omega, ?_, below_set (below_drewN Hb2.out nq) _ _ _ hgl (below_drewN Hb2.out nq).size⟩
          have hq := (blk_drewN HB2.out nq).set i (.int .i64 z)
          rw [rowI_set, ST.out] at hq
          exact hq
        case measure => simp [intOf]; omega
      · have hie : i = m := by omega
        subst hie
        have hd : decide ((i : Int) < (i : Int)) = false := decide_eq_false (by omega)
        by_cases hs1 : s = 1
        · have HR1 : Hid (RES = (addN T f i).set 0 ((addN T f i).getD 0 0 % 65536)) := hide (by rw [HSO.out, if_pos hs1])
          have h4 := HT4.out.2 hs1
          subst hs1
          have c0 := HB2.out.cell 0 (rowI_get (addN T f i) 0 (by rw [addN_len, htl.out]; omega))
          have fz := HB2.out.frozen 0
          have ht0 : 0 < tl := by omega
          have hlr : RES.length = tl := by rw [HR1.out, List.length_set, addN_len, htl.out]
          have HLR := hide hlr
          generalize (addN T f i).getD 0 0 = x at *
          have WI := hide (fun W => within16 x W)
          generalize x % 65536 = y at *
          clear hlr h4 HSO
          go_wp2_with (go_at_call 23; refine (WI.out _).mono ?_; rintro e w3 ⟨rfl, hw⟩; obtain rfl := hw.symm)
          go_ret
          refine ⟨_, rfl, .inr ⟨g, by rw [HLR.out]; rfl, hgl, ?_⟩, below_set Hb2.out _ _ _ hgl Hb2.out.size⟩
          have hq := HB2.out.set 0 (.int .i64 y)
          rw [rowI_set, ← HR1.out] at hq
          exact hq
        · have HR1 : Hid (RES = addN T f i) := hide (by rw [HSO.out, if_neg hs1])
          have e1 : (s == 1) = false := by simp [hs1]
          have hlr : RES.length = tl := by rw [HR1.out, addN_len, htl.out]
          have HLR := hide hlr
          clear hs1 hlr HSO
          go_wp2_with fail
          go_ret
          refine ⟨_, rfl, .inr ⟨g, by rw [HLR.out]; rfl, hgl, ?_⟩, Hb2.out⟩
          rw [HR1.out]
          exact HB2.out
end Go.Proofs.Ytpoodmfhcoaleaa
