/- UploadPlays. -/
import Derived.Test.YtimkfipiebppiaaRvX
import Derived.Test.YtimkfipiebppiaaUlP
namespace Go.Proofs.Ytimkfipiebppiaa
open Go.RowKit Go.Great

theorem does_any (w : World) (B0 B D X : Nat) (wh ms : Int) (l : Ls) (h : St2 w B0 B D X wh ms l) (hl : LOk ms l) (hms : ms ≤ 65535) (x k now res : Int) (fs : List Int) (a : Option Addr) (n c : Nat) (hk : 0 ≤ k ∧ k ≤ 255) (hu : ∀ W, Below B0 w W → Ints W (.slice a n c) fs) (hcap : n ≤ c) (hnil : ∀ n' c', Value.slice a n c = .slice none n' c' → c' = 0) (hlen : n * 8 + 32 ≤ 140737488355328) (hn : I64 now) : Calls Try.prog 11 #[dP D, dP X, .agg #[.int .i64 x, .int .u8 k, .slice a n c, .int .i64 now, .int .i64 res]] w fun e w' => e = .returned (.bool true) ∧ (∃ l', LOk ms l' ∧ St2 w' B0 B D X wh ms l') ∧ Below B0 w w' := by
  have h0 : 0 ≤ ms := by have := hl.m; omega
  have hw := whB_in x
  obtain hx | hx | hx | hx | hx : whB x = 0 ∨ whB x = 1 ∨ whB x = 2 ∨ whB x = 3 ∨ whB x = 4 := by omega
  · have ho := on_ok (wh := wh) (k := k) (fs := fs) h0 hl hn
    exact (does_zero w B0 B D X wh ms l h hl hms x k now res fs a n c hk hu hcap hnil hlen hx ho.r).mono fun e w' q => ⟨q.1, ⟨_, ho, q.2.1⟩, q.2.2⟩
  · have ho := tick_ok (wh := wh) h0 hl hn
    exact (does_one w B0 B D X wh ms l h x k now res a n c hx hl hn ho.r).mono fun e w' q => ⟨q.1, ⟨_, ho, q.2.1⟩, q.2.2⟩
  · exact (does_two w B0 B D X wh ms l h hl hms x k now res a n c hx).mono fun e w' q => ⟨q.1, ⟨_, hl, q.2.1⟩, q.2.2⟩
  · have ho := keep_ok (wh := wh) (r := res) h0 hl
    exact (does_three w B0 B D X wh ms l h x k now res a n c hx ho.r).mono fun e w' q => ⟨q.1, ⟨_, ho, q.2.1⟩, q.2.2⟩
  · exact (does_four w B0 B D X wh ms l h hl x k now res a n c hx).mono fun e w' q => ⟨q.1, ⟨_, hl, q.2.1⟩, q.2.2⟩
set_option maxHeartbeats 4000000 in
set_option maxRecDepth 100000 in
theorem plays_walk (wh ms : Int) (CL : List CaR) (v : Value) (w : World) (hC : ∀ x ∈ CL, CaOk2 w x) (hv : Rws w v 5 caC CL) (hlL : CL.length * 56 ≤ 140737488351232) : Calls Try.prog 3 #[.int .i64 wh, .int .i64 ms, v] w fun e w' => e = .returned (.bool true) ∧ Below w.heap.size w w' := by
  have AW := hide awakeUp
  have HV := hide hv
  obtain ⟨_, va, vcp, rfl, _⟩ := hv
  have HC := hide hC
  obtain ⟨m, hm⟩ : ∃ m, Hid (CL.length = m) := ⟨_, hide rfl⟩
  rw [hm.out]
  rw [hm.out] at hlL
  clear hC
  cases hnb : newB wh ms
  · have ND := hide (newD_no wh ms hnb)
    have NR := hide (newR_no wh ms hnb)
    clear hnb
    go_enter Try.func3, Try.ntmps3
    go_wp2_with fail
    refine (ND.out _).mono ?_
    rintro e x ⟨rfl, hx⟩
    obtain rfl := hx.symm
    clear hx ND
    go_wp2_with fail
    refine (NR.out _).mono ?_
    rintro e w2 ⟨rfl, hb2⟩
    have Hb2 := hide hb2
    clear hb2 NR
    go_wp2_with (go_at_call 10; refine (AW.out _).mono ?_; rintro e w5 ⟨rfl, hb5⟩; have Hb5 := hide hb5; clear hb5)
    go_ret
    exact ⟨rfl, below_next (below_next Hb2.out (Nat.le_refl _) (below_alloc _ _)) (Nat.le_refl _) Hb5.out⟩
  · have hms : 0 ≤ wh ∧ wh ≤ 255 ∧ 1 ≤ ms ∧ ms ≤ 65535 := of_decide_eq_true hnb
    have ND := hide (newD_any wh ms hnb)
    have NR := hide (newR_any wh ms hnb)
    clear hnb
    go_enter Try.func3, Try.ntmps3
    go_wp2_with fail
    refine (ND.out _).mono ?_
    rintro e w1 ⟨D, rfl, hD, hDw, hb1⟩
    have HD := hide hD
    have HDw := hide hDw
    have Hb := hide hb1
    have HDl := hide hD.lt
    clear hD hDw hb1 ND
    go_wp2_with fail
    refine (NR.out _).mono ?_
    rintro e w2 ⟨rfl, hb2⟩
    replace HD := hide (HD.out.after hb2)
    replace Hb := hide (below_next Hb.out (Nat.le_refl _) hb2)
    replace HDl := hide (Nat.lt_of_lt_of_le HDl.out hb2.size)
    clear hb2 NR
    go_upto_region 3 with fail
    have HX := hide (Blk.new w2 (rfC wh ms ls0 (.slice none 0 0)) 29)
    replace HD := hide (HD.out.after (below_alloc w2 (.cells (rfC wh ms ls0 (.slice none 0 0)) 29)))
    replace Hb := hide (below_next Hb.out (Nat.le_refl _) (below_alloc w2 (.cells (rfC wh ms ls0 (.slice none 0 0)) 29)))
    have HZ : Hid ((w2.alloc (.cells (rfC wh ms ls0 (.slice none 0 0)) 29)).heap.size = w2.heap.size + 1) := hide (size_alloc _ _)
    have HXw : Hid (w.heap.size ≤ w2.heap.size) := hide (by have := HDl.out; have := HDw.out; omega)
    generalize w2.alloc (.cells (rfC wh ms ls0 (.slice none 0 0)) 29) = W3 at *
    generalize w2.heap.size = X at *
    have HS : Hid (St2 W3 w.heap.size (X + 1) D X wh ms ls0) := hide ⟨_, _, _, HD.out, RDv.idle HX.out (by omega) (by rw [HZ.out]; exact Nat.le_refl _), by have := HDl.out; omega, by have := HDl.out; omega, HDw.out, HXw.out⟩
    have HLZ : Hid (LOk ms ls0) := hide (LOk.zero (by omega))
    clear HD HX HZ HXw HDl HDw
    go_wp2_with fail
    go_loopw [11] (fun v11 wx => ∃ (i : Nat) (l : Ls), v11 = .int .i64 (i : Int) ∧ i ≤ m ∧ Hid (LOk ms l) ∧ Hid (St2 wx w.heap.size (X + 1) D X wh ms l) ∧ Hid (Below w.heap.size w wx)) (fun v _ => m - (intOf v).toNat)
    case atStart => exact ⟨0, ls0, rfl, by omega, HLZ, HS, Hb⟩
    case round =>
      clear HS HLZ Hb
      obtain ⟨i, l, rfl, hi, HL, HS, Hb⟩ := hrel
      by_cases hlm : i < m
      · obtain ⟨g, o, cp, x, e2, hg2, hx, hcx⟩ := HV.out.get i (by rw [hm.out]; exact hlm)
        rw [hm.out] at e2
        injection e2 with e2 _ e3
        subst e2 e3
        have hCa := HC.out x (List.mem_of_getElem? hx)
        obtain ⟨wt, ⟨k, u, ns⟩, now, res⟩ := x
        obtain ⟨⟨⟨hk, hI, hnil, hlen⟩, hwt, hnow, hres⟩, hcap⟩ := hCa
        simp only at hk hI hnil hlen hwt hnow hres hcap
        have d0 : wr.cell? ⟨g, o + i * 5, none⟩ = some (.int .i64 wt) := hcx wr Hb.out 0 _ rfl
        have d1 : wr.cell? ⟨g, o + i * 5 + 1, none⟩ = some (.int .u8 k) := hcx wr Hb.out 1 _ rfl
        have d2 : wr.cell? ⟨g, o + i * 5 + 2, none⟩ = some u := hcx wr Hb.out 2 _ rfl
        have d3 : wr.cell? ⟨g, o + i * 5 + 3, none⟩ = some (.int .i64 now) := hcx wr Hb.out 3 _ rfl
        have d4 : wr.cell? ⟨g, o + i * 5 + 4, none⟩ = some (.int .i64 res) := hcx wr Hb.out 4 _ rfl
        have HII := hide hI
        obtain ⟨ua, uc, rfl, _⟩ := hI
        obtain ⟨ln, hln⟩ : ∃ ln, Hid (ns.length = ln) := ⟨_, hide rfl⟩
        have hcapn := hcap _ _ _ rfl
        rw [hln.out] at hlen HII hnil d2 hcapn
        have DA := hide (does_any wr w.heap.size (X + 1) D X wh ms l HS.out HL.out hms.2.2.2 wt k now res ns ua ln uc hk (fun W hb => HII.out.below (Hb.out.trans hb)) hcapn hnil hlen hnow)
        have hd : decide ((i : Int) < (m : Int)) = true := decide_eq_true (by omega)
        have hmb : m ≤ 17592186044416 := by omega
        clear hk hnil hlen hwt hnow hres hcap hcapn hcx hx HII hln HS HL hlL
        go_wp2_with fail
        refine DA.out.mono ?_
        rintro e w5 ⟨rfl, ⟨l', hl', hs'⟩, hb5⟩
        have HL' := hide hl'
        have HS' := hide hs'
        have Hb' := hide (Hb.out.trans hb5)
        clear hl' hs' hb5 d0 d1 d2 d3 d4 DA Hb
        go_wp2_with fail
        go_roundw
        case rel => exact ⟨i + 1, l', by go_num, by omega, HL', HS', Hb'⟩
        case measure => simp [intOf]; omega
      · have hd : decide ((i : Int) < (m : Int)) = false := decide_eq_false (by omega)
        have HBU := hide (busy_stI HL.out)
        obtain ⟨ks, vv, us, hd1, hr1, _⟩ := HS.out
        have HD1 := hide hd1
        have HR1 := hide hr1
        clear hd1 hr1
        have BU : Hid (∀ z : BelowW wr, Calls Try.prog 13 #[dP D] z.q fun e w' => e = .returned (.bool (decide (0 < l.cn))) ∧ w' = z.q) := hide (fun z => busy_any z.q D wh ms l ks (HD1.out.after z.h))
        have RY : Hid (∀ z : BelowW wr, Calls Try.prog 12 #[dP D, dP X] z.q fun e w' => e = .returned (.bool true) ∧ Below z.q.heap.size z.q w') := hide (fun z => lready_two z.q w.heap.size (X + 1) D X wh ms l (HS.out.after z.h) HL.out hms.2.2.2)
        have c2 : ∀ z : BelowW wr, z.q.cell? ⟨X, 2, none⟩ = some (.int .i64 (stI l)) := HR1.out.B.at 2 rfl
        obtain ⟨p, hp⟩ : ∃ p, decide (0 < l.cn) = p := ⟨_, rfl⟩
        obtain ⟨q, hq⟩ : ∃ q, stI l = q := ⟨_, rfl⟩
        have hpq : (p == (q != 0)) = true := by rw [← hp, ← hq]; exact HBU.out
        rw [hp] at BU
        rw [hq] at c2
        clear hp hq HBU HD1 HR1
        go_wp2_with fail
        have hne : Nonempty (BelowW wr) := ⟨⟨wr, Below.refl _ _⟩⟩
        refine wp_region_calm (by kernel_rfl) (by kernel_rfl) ?_
        repeat (go_big_quiet_step (first
          | (go_at_call 10; exact calm_of (AW.out _))
          | (go_at_call 12; exact calm_of (RY.out _))
          | (go_at_call 13; exact calm_same (BU.out _))))
        refine wpQuiet_nil ?_
        rintro _ ⟨z, rfl⟩
        go_wp2_with fail
        go_ret
        exact ⟨by first | rfl | (simp [hpq]), below_next Hb.out (by have := Hb.out.size; omega) z.h⟩
theorem UploadPlays_walk (wh ms : Int) (v : Value) (w : World) (hv : ∃ L, (∀ x ∈ L, CaOk2 w x) ∧ Rws w v 5 caC L ∧ L.length * 56 ≤ 140737488351232) : Calls Try.prog 3 #[.int .i64 wh, .int .i64 ms, v] w fun e w' => e = .returned (.bool true) ∧ Below w.heap.size w w' := by
  obtain ⟨L, h1, h2, h3⟩ := hv
  exact plays_walk wh ms L v w h1 h2 h3
end Go.Proofs.Ytimkfipiebppiaa
