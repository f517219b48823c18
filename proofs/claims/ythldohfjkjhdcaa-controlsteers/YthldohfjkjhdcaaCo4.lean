/- Package control, walked: a steer's step. -/
import Derived.Test.YthldohfjkjhdcaaCo3
namespace Go.Proofs.Ythldohfjkjhdcaa
open Go.RowKit Go.Great

/-- a steer behind i axes of a step -/
def stC (ac r0 r1 r2 n0 n1 n2 : Int) : Nat → Array Value
  | 0 => sC ac r0 r1 r2
  | 1 => sC ac n0 r1 r2
  | 2 => sC ac n0 n1 r2
  | _ => sC ac n0 n1 n2
/-- what is asked for behind i axes of a step -/
def akC (k0 k1 k2 : Int) : Nat → Array Value
  | 0 => tC 0 0 0
  | 1 => tC k0 0 0
  | 2 => tC k0 k1 0
  | _ => tC k0 k1 k2
theorem ws0 (a b c d e f g h i : Value) (w : World) : (Instr.index 39 (.agg #[a, b, c, d, e, f, g, h, i]) (.int .i64 0)).run Try.prog w = .ok (.agg #[a, b, c]) w := by kernel_rfl
theorem ws1 (a b c d e f g h i : Value) (w : World) : (Instr.index 39 (.agg #[a, b, c, d, e, f, g, h, i]) (.int .i64 1)).run Try.prog w = .ok (.agg #[d, e, f]) w := by kernel_rfl
theorem ws2 (a b c d e f g h i : Value) (w : World) : (Instr.index 39 (.agg #[a, b, c, d, e, f, g, h, i]) (.int .i64 2)).run Try.prog w = .ok (.agg #[g, h, i]) w := by kernel_rfl
theorem Blk.set3o {W : World} {B C : Nat} {cs : Array Value} {t : TypeId} (h : Blk W B cs t) (hne : B ≠ C) (a b c : Value) : Blk (((W.setCell ⟨C, 0, none⟩ a).setCell ⟨C, 1, none⟩ b).setCell ⟨C, 2, none⟩ c) B cs t := ((h.setOther hne _ _).setOther hne _ _).setOther hne _ _
theorem grown_new {w w1 : World} {B : Nat} (h : w.grownBy w1 (some B)) (g i : Nat) (x : Value) (hg : w.heap.size ≤ g) : w.grownBy (w1.setCell ⟨g, i, none⟩ x) (some B) := grown_then h (grown_set w1 g i x) (fun k e => .inr (by injection e with e; omega))
/-- what a step leaves, and answers -/
def SEnd (w : World) (B : Nat) (ac n0 n1 n2 v0 v1 v2 : Int) (e : Ending) (w' : World) : Prop := e = .returned (tV (ask n0 v0) (ask n1 v1) (ask n2 v2)) ∧ Str w' B ac n0 n1 n2 ∧ w.grownBy w' (some B)
set_option maxHeartbeats 4000000 in
theorem step_any (w : World) (B : Nat) (ac r0 r1 r2 : Int) (p q r : Wn) (x0 x1 x2 v0 v1 v2 : Int) (hB : Str w B ac r0 r1 r2) (hac : I64 ac) (hr0 : I64 r0) (hr1 : I64 r1) (hr2 : I64 r2) (hp : WOk p) (hq : WOk q) (hr : WOk r) (hx0 : I64 x0) (hx1 : I64 x1) (hx2 : I64 x2) (hv0 : I64 v0) (hv1 : I64 v1) (hv2 : I64 v2) : Calls Try.prog 20 #[sP B, wsV p q r, tV x0 x1 x2, tV v0 v1 v2] w (SEnd w B ac (nx r0 ac p x0) (nx r1 ac q x1) (nx r2 ac r x2) v0 v1 v2) := by
  have RM0 := hide (fun W => roam_any W B p x0)
  have AP0 := hide (fun W (hc : W.cell? ⟨B, 0, none⟩ = some (.int .i64 ac)) (hl : B < W.heap.size) => approach_any W B p x0 ac hc hl hp hx0 hac)
  have SL0 := hide (fun W => slew_any r0 (aim p x0 ac) ac W hr0 (aim_i hp x0 ac) hac)
  have SU0 := hide (fun W => sub_any (nx r0 ac p x0) v0 W (nx_i hp x0 hr0) hv0)
  have CL0 := hide (fun W => clamp_any (sat (nx r0 ac p x0 - v0)) (-64) 64 W)
  rw [show slew r0 (aim p x0 ac) ac = nx r0 ac p x0 from rfl] at SL0
  rw [show clamp (sat (nx r0 ac p x0 - v0)) (-64) 64 = ask (nx r0 ac p x0) v0 from rfl] at CL0
  have EA0 : Hid (aim p x0 ac = if p.h = true then lawS (sat (p.a - x0)) p.s ac else p.s) := hide rfl
  have RM1 := hide (fun W => roam_any W B q x1)
  have AP1 := hide (fun W (hc : W.cell? ⟨B, 0, none⟩ = some (.int .i64 ac)) (hl : B < W.heap.size) => approach_any W B q x1 ac hc hl hq hx1 hac)
  have SL1 := hide (fun W => slew_any r1 (aim q x1 ac) ac W hr1 (aim_i hq x1 ac) hac)
  have SU1 := hide (fun W => sub_any (nx r1 ac q x1) v1 W (nx_i hq x1 hr1) hv1)
  have CL1 := hide (fun W => clamp_any (sat (nx r1 ac q x1 - v1)) (-64) 64 W)
  rw [show slew r1 (aim q x1 ac) ac = nx r1 ac q x1 from rfl] at SL1
  rw [show clamp (sat (nx r1 ac q x1 - v1)) (-64) 64 = ask (nx r1 ac q x1) v1 from rfl] at CL1
  have EA1 : Hid (aim q x1 ac = if q.h = true then lawS (sat (q.a - x1)) q.s ac else q.s) := hide rfl
  have RM2 := hide (fun W => roam_any W B r x2)
  have AP2 := hide (fun W (hc : W.cell? ⟨B, 0, none⟩ = some (.int .i64 ac)) (hl : B < W.heap.size) => approach_any W B r x2 ac hc hl hr hx2 hac)
  have SL2 := hide (fun W => slew_any r2 (aim r x2 ac) ac W hr2 (aim_i hr x2 ac) hac)
  have SU2 := hide (fun W => sub_any (nx r2 ac r x2) v2 W (nx_i hr x2 hr2) hv2)
  have CL2 := hide (fun W => clamp_any (sat (nx r2 ac r x2 - v2)) (-64) 64 W)
  rw [show slew r2 (aim r x2 ac) ac = nx r2 ac r x2 from rfl] at SL2
  rw [show clamp (sat (nx r2 ac r x2 - v2)) (-64) 64 = ask (nx r2 ac r x2) v2 from rfl] at CL2
  have EA2 : Hid (aim r x2 ac = if r.h = true then lawS (sat (r.a - x2)) r.s ac else r.s) := hide rfl
  unfold SEnd
  generalize ask (nx r0 ac p x0) v0 = k0 at *
  generalize sat (nx r0 ac p x0 - v0) = y0 at *
  generalize nx r0 ac p x0 = n0 at *
  generalize aim p x0 ac = m0 at *
  generalize lawS (sat (p.a - x0)) p.s ac = l0 at *
  obtain ⟨h0, a0, s0⟩ := p
  generalize ask (nx r1 ac q x1) v1 = k1 at *
  generalize sat (nx r1 ac q x1 - v1) = y1 at *
  generalize nx r1 ac q x1 = n1 at *
  generalize aim q x1 ac = m1 at *
  generalize lawS (sat (q.a - x1)) q.s ac = l1 at *
  obtain ⟨h1, a1, s1⟩ := q
  generalize ask (nx r2 ac r x2) v2 = k2 at *
  generalize sat (nx r2 ac r x2 - v2) = y2 at *
  generalize nx r2 ac r x2 = n2 at *
  generalize aim r x2 ac = m2 at *
  generalize lawS (sat (r.a - x2)) r.s ac = l2 at *
  obtain ⟨h2, a2, s2⟩ := r
  clear hac hr0 hr1 hr2 hp hq hr hx0 hx1 hx2 hv0 hv1 hv2
  simp only at RM0 RM1 RM2 AP0 AP1 AP2 EA0 EA1 EA2
  have hlB := hB.lt
  obtain ⟨W0, hW0, b0, M0, P0, V0, R0, K0, z0⟩ := five_boxes w (wsC ⟨h0, a0, s0⟩ ⟨h1, a1, s1⟩ ⟨h2, a2, s2⟩) (tC x0 x1 x2) (tC v0 v1 v2) (tC 0 0 0) (tC 0 0 0) 39 36 36 36 36
  have HS := hide (hB.after b0)
  have HG := hide (grown_below b0 (some B))
  have HP := hide P0
  have HV := hide V0
  have HR := hide R0
  have HK := hide K0
  have M1 := M0.cell 0 rfl
  have M2 := M0.cell 1 rfl
  have M3 := M0.cell 2 rfl
  have M4 := M0.cell 3 rfl
  have M5 := M0.cell 4 rfl
  have M6 := M0.cell 5 rfl
  have M7 := M0.cell 6 rfl
  have M8 := M0.cell 7 rfl
  have M9 := M0.cell 8 rfl
  clear b0 P0 V0 R0 K0 M0 hB z0
  go_enter Try.func20, Try.ntmps20
  go_wp2_with fail
  clear M1 M2 M3 M4 M5 M6 M7 M8 M9
  go_loopw [17] (fun v wr => ∃ i : Nat, v = .int .i64 (i : Int) ∧ i ≤ 3 ∧ Blk wr B (stC ac r0 r1 r2 n0 n1 n2 i) 60 ∧ Blk wr (w.heap.size + 1) (tC x0 x1 x2) 36 ∧ Blk wr (w.heap.size + 1 + 1) (tC v0 v1 v2) 36 ∧ Blk wr (w.heap.size + 1 + 1 + 1) (tC 0 0 0) 36 ∧ Blk wr (w.heap.size + 1 + 1 + 1 + 1) (akC k0 k1 k2 i) 36 ∧ w.grownBy wr (some B)) (fun v _ => 3 - (intOf v).toNat)
  case atStart => exact ⟨0, rfl, by omega, HS.out, HP.out, HV.out, HR.out, HK.out, HG.out⟩
  case round =>
    clear HS HP HV HR HK HG hW0
    obtain ⟨i, rfl, hi, hS, hP, hV, hR, hK, hG⟩ := hrel
    have HS := hide hS
    have HP := hide hP
    have HV := hide hV
    have HR := hide hR
    have HK := hide hK
    have HG := hide hG
    have hz := hK.lt
    clear hS hP hV hR hK hG
    obtain rfl | rfl | rfl | rfl : i = 0 ∨ i = 1 ∨ i = 2 ∨ i = 3 := by omega
    · clear RM1 AP1 SL1 SU1 CL1 EA1 RM2 AP2 SL2 SU2 CL2 EA2
      have IX := ws0
      cases h0
      · obtain rfl : m0 = s0 := EA0.out
        clear EA0 AP0
        go_upto_region 10 with fail
        have HD := hide (Blk.new wr #[.bool false, .int .i64 a0, .int .i64 m0] 38)
        replace HS := hide (HS.out.alloc (.cells #[.bool false, .int .i64 a0, .int .i64 m0] 38))
        replace HP := hide (HP.out.alloc (.cells #[.bool false, .int .i64 a0, .int .i64 m0] 38))
        replace HV := hide (HV.out.alloc (.cells #[.bool false, .int .i64 a0, .int .i64 m0] 38))
        replace HR := hide (HR.out.alloc (.cells #[.bool false, .int .i64 a0, .int .i64 m0] 38))
        replace HK := hide (HK.out.alloc (.cells #[.bool false, .int .i64 a0, .int .i64 m0] 38))
        replace HG := hide (grown_after HG.out (below_alloc wr (.cells #[.bool false, .int .i64 a0, .int .i64 m0] 38)))
        generalize hWr : wr.alloc (.cells #[.bool false, .int .i64 a0, .int .i64 m0] 38) = W1 at *
        generalize wr.heap.size = d at *
        have hlW := HS.out.lt
        have e0 : ∀ x : BelowW W1, x.q.cell? ⟨B, 0, none⟩ = some (.int .i64 ac) := HS.out.at 0 rfl
        have e1 : ∀ x : BelowW W1, x.q.cell? ⟨B, 1, none⟩ = some (.int .i64 r0) := HS.out.at 1 rfl
        have d0 : ∀ x : BelowW W1, x.q.cell? ⟨d, 0, none⟩ = some (.bool false) := HD.out.at 0 rfl
        have d1 : ∀ x : BelowW W1, x.q.cell? ⟨d, 1, none⟩ = some (.int .i64 a0) := HD.out.at 1 rfl
        have d2 : ∀ x : BelowW W1, x.q.cell? ⟨d, 2, none⟩ = some (.int .i64 m0) := HD.out.at 2 rfl
        have e2 : ∀ x : BelowW W1, x.q.cell? ⟨w.heap.size + 1, 0, none⟩ = some (.int .i64 x0) := HP.out.at 0 rfl
        have hne : Nonempty (BelowW W1) := ⟨⟨W1, Below.refl _ _⟩⟩
        refine reg_last_calm 23 rfl rfl _ rfl (by kernel_rfl) (by kernel_rfl) (by kernel_rfl) ?_
        simp only [List.take_succ_cons, List.take_zero]
        repeat (go_big_quiet_step (first
          | (go_at_call 39; exact calm_of (RM0.out _))
          | (go_at_call 41; exact calm_same (SL0.out _))))
        refine wpQuiet_nil ?_
        rintro _ ⟨x, rfl⟩
        replace HS := hide (HS.out.after x.h)
        replace HP := hide (HP.out.after x.h)
        replace HV := hide (HV.out.after x.h)
        replace HR := hide (HR.out.after x.h)
        replace HK := hide (HK.out.after x.h)
        replace HG := hide (grown_after HG.out x.h)
        clear e0 e1 d0 d1 d2 e2 hne HD hWr hlW
        generalize x.q = W2 at *
        clear x
        have c1 : W2.cell? ⟨B, 1, none⟩ = some (.int .i64 r0) := HS.out.cell 1 rfl
        have f1 := HS.out.frozen 1
        go_upto_region 11 with fail
        have NS : Hid (Blk (W2.setCell ⟨B, 1, none⟩ (.int .i64 n0)) B (stC ac r0 r1 r2 n0 n1 n2 1) 60) := hide (HS.out.set 1 (.int .i64 n0))
        replace HS := NS
        replace HP := hide (HP.out.setOther (show _ ≠ B by omega) 1 (.int .i64 n0))
        replace HV := hide (HV.out.setOther (show _ ≠ B by omega) 1 (.int .i64 n0))
        replace HR := hide (HR.out.setOther (show _ ≠ B by omega) 1 (.int .i64 n0))
        replace HK := hide (HK.out.setOther (show _ ≠ B by omega) 1 (.int .i64 n0))
        replace HG := hide (grown_more HG.out (grown_set W2 B 1 (.int .i64 n0)))
        clear c1 f1 NS
        generalize W2.setCell ⟨B, 1, none⟩ (.int .i64 n0) = W3 at *
        have c1 : W3.cell? ⟨B, 1, none⟩ = some (.int .i64 n0) := HS.out.cell 1 rfl
        have c2 : W3.cell? ⟨w.heap.size + 1 + 1, 0, none⟩ = some (.int .i64 v0) := HV.out.cell 0 rfl
        have c3 : W3.cell? ⟨w.heap.size + 1 + 1 + 1 + 1, 0, none⟩ = some (.int .i64 0) := HK.out.cell 0 rfl
        have f3 := HK.out.frozen 0
        refine reg_last 13 rfl rfl _ rfl (by kernel_rfl) (by kernel_rfl) (by kernel_rfl) ?_
        simp only [List.take_succ_cons, List.take_zero]
        repeat (quiet_step (first
          | (go_at_call 34; exact Calls.quiet_of_same (SU0.out _))
          | (go_at_call 32; exact Calls.quiet_of_same (CL0.out _))))
        refine wpQuiet_nil ?_
        intro nq
        go_simp
        go_wp2_with fail
        have hs3 := HS.out.lt
        go_roundw
        case rel => exact ⟨1, by go_num, by omega, (blk_drewN HS.out nq).setOther (by omega) _ _, (blk_drewN HP.out nq).setOther (by omega) _ _, (blk_drewN HV.out nq).setOther (by omega) _ _, (blk_drewN HR.out nq).setOther (by omega) _ _, (blk_drewN HK.out nq).set 0 _, grown_new (grown_drewNN HG.out nq) _ _ _ (by omega)⟩
        case measure => simp [intOf]
      · obtain rfl : m0 = l0 := EA0.out
        clear EA0 RM0
        go_upto_region 10 with fail
        have HD := hide (Blk.new wr #[.bool true, .int .i64 a0, .int .i64 s0] 38)
        replace HS := hide (HS.out.alloc (.cells #[.bool true, .int .i64 a0, .int .i64 s0] 38))
        replace HP := hide (HP.out.alloc (.cells #[.bool true, .int .i64 a0, .int .i64 s0] 38))
        replace HV := hide (HV.out.alloc (.cells #[.bool true, .int .i64 a0, .int .i64 s0] 38))
        replace HR := hide (HR.out.alloc (.cells #[.bool true, .int .i64 a0, .int .i64 s0] 38))
        replace HK := hide (HK.out.alloc (.cells #[.bool true, .int .i64 a0, .int .i64 s0] 38))
        replace HG := hide (grown_after HG.out (below_alloc wr (.cells #[.bool true, .int .i64 a0, .int .i64 s0] 38)))
        generalize hWr : wr.alloc (.cells #[.bool true, .int .i64 a0, .int .i64 s0] 38) = W1 at *
        generalize wr.heap.size = d at *
        have hlW := HS.out.lt
        have e0 : ∀ x : BelowW W1, x.q.cell? ⟨B, 0, none⟩ = some (.int .i64 ac) := HS.out.at 0 rfl
        have e1 : ∀ x : BelowW W1, x.q.cell? ⟨B, 1, none⟩ = some (.int .i64 r0) := HS.out.at 1 rfl
        have d0 : ∀ x : BelowW W1, x.q.cell? ⟨d, 0, none⟩ = some (.bool true) := HD.out.at 0 rfl
        have d1 : ∀ x : BelowW W1, x.q.cell? ⟨d, 1, none⟩ = some (.int .i64 a0) := HD.out.at 1 rfl
        have d2 : ∀ x : BelowW W1, x.q.cell? ⟨d, 2, none⟩ = some (.int .i64 s0) := HD.out.at 2 rfl
        have e2 : ∀ x : BelowW W1, x.q.cell? ⟨w.heap.size + 1, 0, none⟩ = some (.int .i64 x0) := HP.out.at 0 rfl
        have hne : Nonempty (BelowW W1) := ⟨⟨W1, Below.refl _ _⟩⟩
        refine reg_last_calm 23 rfl rfl _ rfl (by kernel_rfl) (by kernel_rfl) (by kernel_rfl) ?_
        simp only [List.take_succ_cons, List.take_zero]
        repeat (go_big_quiet_step (first
          | (go_at_call 40; exact calm_of (AP0.out _ (e0 _) (Nat.lt_of_lt_of_le hlW (BelowW.h _).size)))
          | (go_at_call 41; exact calm_same (SL0.out _))))
        refine wpQuiet_nil ?_
        rintro _ ⟨x, rfl⟩
        replace HS := hide (HS.out.after x.h)
        replace HP := hide (HP.out.after x.h)
        replace HV := hide (HV.out.after x.h)
        replace HR := hide (HR.out.after x.h)
        replace HK := hide (HK.out.after x.h)
        replace HG := hide (grown_after HG.out x.h)
        clear e0 e1 d0 d1 d2 e2 hne HD hWr hlW
        generalize x.q = W2 at *
        clear x
        have c1 : W2.cell? ⟨B, 1, none⟩ = some (.int .i64 r0) := HS.out.cell 1 rfl
        have f1 := HS.out.frozen 1
        go_upto_region 11 with fail
        have NS : Hid (Blk (W2.setCell ⟨B, 1, none⟩ (.int .i64 n0)) B (stC ac r0 r1 r2 n0 n1 n2 1) 60) := hide (HS.out.set 1 (.int .i64 n0))
        replace HS := NS
        replace HP := hide (HP.out.setOther (show _ ≠ B by omega) 1 (.int .i64 n0))
        replace HV := hide (HV.out.setOther (show _ ≠ B by omega) 1 (.int .i64 n0))
        replace HR := hide (HR.out.setOther (show _ ≠ B by omega) 1 (.int .i64 n0))
        replace HK := hide (HK.out.setOther (show _ ≠ B by omega) 1 (.int .i64 n0))
        replace HG := hide (grown_more HG.out (grown_set W2 B 1 (.int .i64 n0)))
        clear c1 f1 NS
        generalize W2.setCell ⟨B, 1, none⟩ (.int .i64 n0) = W3 at *
        have c1 : W3.cell? ⟨B, 1, none⟩ = some (.int .i64 n0) := HS.out.cell 1 rfl
        have c2 : W3.cell? ⟨w.heap.size + 1 + 1, 0, none⟩ = some (.int .i64 v0) := HV.out.cell 0 rfl
        have c3 : W3.cell? ⟨w.heap.size + 1 + 1 + 1 + 1, 0, none⟩ = some (.int .i64 0) := HK.out.cell 0 rfl
        have f3 := HK.out.frozen 0
        refine reg_last 13 rfl rfl _ rfl (by kernel_rfl) (by kernel_rfl) (by kernel_rfl) ?_
        simp only [List.take_succ_cons, List.take_zero]
        repeat (quiet_step (first
          | (go_at_call 34; exact Calls.quiet_of_same (SU0.out _))
          | (go_at_call 32; exact Calls.quiet_of_same (CL0.out _))))
        refine wpQuiet_nil ?_
        intro nq
        go_simp
        go_wp2_with fail
        have hs3 := HS.out.lt
        go_roundw
        case rel => exact ⟨1, by go_num, by omega, (blk_drewN HS.out nq).setOther (by omega) _ _, (blk_drewN HP.out nq).setOther (by omega) _ _, (blk_drewN HV.out nq).setOther (by omega) _ _, (blk_drewN HR.out nq).setOther (by omega) _ _, (blk_drewN HK.out nq).set 0 _, grown_new (grown_drewNN HG.out nq) _ _ _ (by omega)⟩
        case measure => simp [intOf]
    · clear RM0 AP0 SL0 SU0 CL0 EA0 RM2 AP2 SL2 SU2 CL2 EA2
      have IX := ws1
      cases h1
      · obtain rfl : m1 = s1 := EA1.out
        clear EA1 AP1
        go_upto_region 10 with fail
        have HD := hide (Blk.new wr #[.bool false, .int .i64 a1, .int .i64 m1] 38)
        replace HS := hide (HS.out.alloc (.cells #[.bool false, .int .i64 a1, .int .i64 m1] 38))
        replace HP := hide (HP.out.alloc (.cells #[.bool false, .int .i64 a1, .int .i64 m1] 38))
        replace HV := hide (HV.out.alloc (.cells #[.bool false, .int .i64 a1, .int .i64 m1] 38))
        replace HR := hide (HR.out.alloc (.cells #[.bool false, .int .i64 a1, .int .i64 m1] 38))
        replace HK := hide (HK.out.alloc (.cells #[.bool false, .int .i64 a1, .int .i64 m1] 38))
        replace HG := hide (grown_after HG.out (below_alloc wr (.cells #[.bool false, .int .i64 a1, .int .i64 m1] 38)))
        generalize hWr : wr.alloc (.cells #[.bool false, .int .i64 a1, .int .i64 m1] 38) = W1 at *
        generalize wr.heap.size = d at *
        have hlW := HS.out.lt
        have e0 : ∀ x : BelowW W1, x.q.cell? ⟨B, 0, none⟩ = some (.int .i64 ac) := HS.out.at 0 rfl
        have e1 : ∀ x : BelowW W1, x.q.cell? ⟨B, 2, none⟩ = some (.int .i64 r1) := HS.out.at 2 rfl
        have d0 : ∀ x : BelowW W1, x.q.cell? ⟨d, 0, none⟩ = some (.bool false) := HD.out.at 0 rfl
        have d1 : ∀ x : BelowW W1, x.q.cell? ⟨d, 1, none⟩ = some (.int .i64 a1) := HD.out.at 1 rfl
        have d2 : ∀ x : BelowW W1, x.q.cell? ⟨d, 2, none⟩ = some (.int .i64 m1) := HD.out.at 2 rfl
        have e2 : ∀ x : BelowW W1, x.q.cell? ⟨w.heap.size + 1, 1, none⟩ = some (.int .i64 x1) := HP.out.at 1 rfl
        have hne : Nonempty (BelowW W1) := ⟨⟨W1, Below.refl _ _⟩⟩
        refine reg_last_calm 23 rfl rfl _ rfl (by kernel_rfl) (by kernel_rfl) (by kernel_rfl) ?_
        simp only [List.take_succ_cons, List.take_zero]
        repeat (go_big_quiet_step (first
          | (go_at_call 39; exact calm_of (RM1.out _))
          | (go_at_call 41; exact calm_same (SL1.out _))))
        refine wpQuiet_nil ?_
        rintro _ ⟨x, rfl⟩
        replace HS := hide (HS.out.after x.h)
        replace HP := hide (HP.out.after x.h)
        replace HV := hide (HV.out.after x.h)
        replace HR := hide (HR.out.after x.h)
        replace HK := hide (HK.out.after x.h)
        replace HG := hide (grown_after HG.out x.h)
        clear e0 e1 d0 d1 d2 e2 hne HD hWr hlW
        generalize x.q = W2 at *
        clear x
        have c1 : W2.cell? ⟨B, 2, none⟩ = some (.int .i64 r1) := HS.out.cell 2 rfl
        have f1 := HS.out.frozen 2
        go_upto_region 11 with fail
        have NS : Hid (Blk (W2.setCell ⟨B, 2, none⟩ (.int .i64 n1)) B (stC ac r0 r1 r2 n0 n1 n2 2) 60) := hide (HS.out.set 2 (.int .i64 n1))
        replace HS := NS
        replace HP := hide (HP.out.setOther (show _ ≠ B by omega) 2 (.int .i64 n1))
        replace HV := hide (HV.out.setOther (show _ ≠ B by omega) 2 (.int .i64 n1))
        replace HR := hide (HR.out.setOther (show _ ≠ B by omega) 2 (.int .i64 n1))
        replace HK := hide (HK.out.setOther (show _ ≠ B by omega) 2 (.int .i64 n1))
        replace HG := hide (grown_more HG.out (grown_set W2 B 2 (.int .i64 n1)))
        clear c1 f1 NS
        generalize W2.setCell ⟨B, 2, none⟩ (.int .i64 n1) = W3 at *
        have c1 : W3.cell? ⟨B, 2, none⟩ = some (.int .i64 n1) := HS.out.cell 2 rfl
        have c2 : W3.cell? ⟨w.heap.size + 1 + 1, 1, none⟩ = some (.int .i64 v1) := HV.out.cell 1 rfl
        have c3 : W3.cell? ⟨w.heap.size + 1 + 1 + 1 + 1, 1, none⟩ = some (.int .i64 0) := HK.out.cell 1 rfl
        have f3 := HK.out.frozen 1
        refine reg_last 13 rfl rfl _ rfl (by kernel_rfl) (by kernel_rfl) (by kernel_rfl) ?_
        simp only [List.take_succ_cons, List.take_zero]
        repeat (quiet_step (first
          | (go_at_call 34; exact Calls.quiet_of_same (SU1.out _))
          | (go_at_call 32; exact Calls.quiet_of_same (CL1.out _))))
        refine wpQuiet_nil ?_
        intro nq
        go_simp
        go_wp2_with fail
        have hs3 := HS.out.lt
        go_roundw
        case rel => exact ⟨2, by go_num, by omega, (blk_drewN HS.out nq).setOther (by omega) _ _, (blk_drewN HP.out nq).setOther (by omega) _ _, (blk_drewN HV.out nq).setOther (by omega) _ _, (blk_drewN HR.out nq).setOther (by omega) _ _, (blk_drewN HK.out nq).set 1 _, grown_new (grown_drewNN HG.out nq) _ _ _ (by omega)⟩
        case measure => simp [intOf]
      · obtain rfl : m1 = l1 := EA1.out
        clear EA1 RM1
        go_upto_region 10 with fail
        have HD := hide (Blk.new wr #[.bool true, .int .i64 a1, .int .i64 s1] 38)
        replace HS := hide (HS.out.alloc (.cells #[.bool true, .int .i64 a1, .int .i64 s1] 38))
        replace HP := hide (HP.out.alloc (.cells #[.bool true, .int .i64 a1, .int .i64 s1] 38))
        replace HV := hide (HV.out.alloc (.cells #[.bool true, .int .i64 a1, .int .i64 s1] 38))
        replace HR := hide (HR.out.alloc (.cells #[.bool true, .int .i64 a1, .int .i64 s1] 38))
        replace HK := hide (HK.out.alloc (.cells #[.bool true, .int .i64 a1, .int .i64 s1] 38))
        replace HG := hide (grown_after HG.out (below_alloc wr (.cells #[.bool true, .int .i64 a1, .int .i64 s1] 38)))
        generalize hWr : wr.alloc (.cells #[.bool true, .int .i64 a1, .int .i64 s1] 38) = W1 at *
        generalize wr.heap.size = d at *
        have hlW := HS.out.lt
        have e0 : ∀ x : BelowW W1, x.q.cell? ⟨B, 0, none⟩ = some (.int .i64 ac) := HS.out.at 0 rfl
        have e1 : ∀ x : BelowW W1, x.q.cell? ⟨B, 2, none⟩ = some (.int .i64 r1) := HS.out.at 2 rfl
        have d0 : ∀ x : BelowW W1, x.q.cell? ⟨d, 0, none⟩ = some (.bool true) := HD.out.at 0 rfl
        have d1 : ∀ x : BelowW W1, x.q.cell? ⟨d, 1, none⟩ = some (.int .i64 a1) := HD.out.at 1 rfl
        have d2 : ∀ x : BelowW W1, x.q.cell? ⟨d, 2, none⟩ = some (.int .i64 s1) := HD.out.at 2 rfl
        have e2 : ∀ x : BelowW W1, x.q.cell? ⟨w.heap.size + 1, 1, none⟩ = some (.int .i64 x1) := HP.out.at 1 rfl
        have hne : Nonempty (BelowW W1) := ⟨⟨W1, Below.refl _ _⟩⟩
        refine reg_last_calm 23 rfl rfl _ rfl (by kernel_rfl) (by kernel_rfl) (by kernel_rfl) ?_
        simp only [List.take_succ_cons, List.take_zero]
        repeat (go_big_quiet_step (first
          | (go_at_call 40; exact calm_of (AP1.out _ (e0 _) (Nat.lt_of_lt_of_le hlW (BelowW.h _).size)))
          | (go_at_call 41; exact calm_same (SL1.out _))))
        refine wpQuiet_nil ?_
        rintro _ ⟨x, rfl⟩
        replace HS := hide (HS.out.after x.h)
        replace HP := hide (HP.out.after x.h)
        replace HV := hide (HV.out.after x.h)
        replace HR := hide (HR.out.after x.h)
        replace HK := hide (HK.out.after x.h)
        replace HG := hide (grown_after HG.out x.h)
        clear e0 e1 d0 d1 d2 e2 hne HD hWr hlW
        generalize x.q = W2 at *
        clear x
        have c1 : W2.cell? ⟨B, 2, none⟩ = some (.int .i64 r1) := HS.out.cell 2 rfl
        have f1 := HS.out.frozen 2
        go_upto_region 11 with fail
        have NS : Hid (Blk (W2.setCell ⟨B, 2, none⟩ (.int .i64 n1)) B (stC ac r0 r1 r2 n0 n1 n2 2) 60) := hide (HS.out.set 2 (.int .i64 n1))
        replace HS := NS
        replace HP := hide (HP.out.setOther (show _ ≠ B by omega) 2 (.int .i64 n1))
        replace HV := hide (HV.out.setOther (show _ ≠ B by omega) 2 (.int .i64 n1))
        replace HR := hide (HR.out.setOther (show _ ≠ B by omega) 2 (.int .i64 n1))
        replace HK := hide (HK.out.setOther (show _ ≠ B by omega) 2 (.int .i64 n1))
        replace HG := hide (grown_more HG.out (grown_set W2 B 2 (.int .i64 n1)))
        clear c1 f1 NS
        generalize W2.setCell ⟨B, 2, none⟩ (.int .i64 n1) = W3 at *
        have c1 : W3.cell? ⟨B, 2, none⟩ = some (.int .i64 n1) := HS.out.cell 2 rfl
        have c2 : W3.cell? ⟨w.heap.size + 1 + 1, 1, none⟩ = some (.int .i64 v1) := HV.out.cell 1 rfl
        have c3 : W3.cell? ⟨w.heap.size + 1 + 1 + 1 + 1, 1, none⟩ = some (.int .i64 0) := HK.out.cell 1 rfl
        have f3 := HK.out.frozen 1
        refine reg_last 13 rfl rfl _ rfl (by kernel_rfl) (by kernel_rfl) (by kernel_rfl) ?_
        simp only [List.take_succ_cons, List.take_zero]
        repeat (quiet_step (first
          | (go_at_call 34; exact Calls.quiet_of_same (SU1.out _))
          | (go_at_call 32; exact Calls.quiet_of_same (CL1.out _))))
        refine wpQuiet_nil ?_
        intro nq
        go_simp
        go_wp2_with fail
        have hs3 := HS.out.lt
        go_roundw
        case rel => exact ⟨2, by go_num, by omega, (blk_drewN HS.out nq).setOther (by omega) _ _, (blk_drewN HP.out nq).setOther (by omega) _ _, (blk_drewN HV.out nq).setOther (by omega) _ _, (blk_drewN HR.out nq).setOther (by omega) _ _, (blk_drewN HK.out nq).set 1 _, grown_new (grown_drewNN HG.out nq) _ _ _ (by omega)⟩
        case measure => simp [intOf]
    · clear RM0 AP0 SL0 SU0 CL0 EA0 RM1 AP1 SL1 SU1 CL1 EA1
      have IX := ws2
      cases h2
      · obtain rfl : m2 = s2 := EA2.out
        clear EA2 AP2
        go_upto_region 10 with fail
        have HD := hide (Blk.new wr #[.bool false, .int .i64 a2, .int .i64 m2] 38)
        replace HS := hide (HS.out.alloc (.cells #[.bool false, .int .i64 a2, .int .i64 m2] 38))
        replace HP := hide (HP.out.alloc (.cells #[.bool false, .int .i64 a2, .int .i64 m2] 38))
        replace HV := hide (HV.out.alloc (.cells #[.bool false, .int .i64 a2, .int .i64 m2] 38))
        replace HR := hide (HR.out.alloc (.cells #[.bool false, .int .i64 a2, .int .i64 m2] 38))
        replace HK := hide (HK.out.alloc (.cells #[.bool false, .int .i64 a2, .int .i64 m2] 38))
        replace HG := hide (grown_after HG.out (below_alloc wr (.cells #[.bool false, .int .i64 a2, .int .i64 m2] 38)))
        generalize hWr : wr.alloc (.cells #[.bool false, .int .i64 a2, .int .i64 m2] 38) = W1 at *
        generalize wr.heap.size = d at *
        have hlW := HS.out.lt
        have e0 : ∀ x : BelowW W1, x.q.cell? ⟨B, 0, none⟩ = some (.int .i64 ac) := HS.out.at 0 rfl
        have e1 : ∀ x : BelowW W1, x.q.cell? ⟨B, 3, none⟩ = some (.int .i64 r2) := HS.out.at 3 rfl
        have d0 : ∀ x : BelowW W1, x.q.cell? ⟨d, 0, none⟩ = some (.bool false) := HD.out.at 0 rfl
        have d1 : ∀ x : BelowW W1, x.q.cell? ⟨d, 1, none⟩ = some (.int .i64 a2) := HD.out.at 1 rfl
        have d2 : ∀ x : BelowW W1, x.q.cell? ⟨d, 2, none⟩ = some (.int .i64 m2) := HD.out.at 2 rfl
        have e2 : ∀ x : BelowW W1, x.q.cell? ⟨w.heap.size + 1, 2, none⟩ = some (.int .i64 x2) := HP.out.at 2 rfl
        have hne : Nonempty (BelowW W1) := ⟨⟨W1, Below.refl _ _⟩⟩
        refine reg_last_calm 23 rfl rfl _ rfl (by kernel_rfl) (by kernel_rfl) (by kernel_rfl) ?_
        simp only [List.take_succ_cons, List.take_zero]
        repeat (go_big_quiet_step (first
          | (go_at_call 39; exact calm_of (RM2.out _))
          | (go_at_call 41; exact calm_same (SL2.out _))))
        refine wpQuiet_nil ?_
        rintro _ ⟨x, rfl⟩
        replace HS := hide (HS.out.after x.h)
        replace HP := hide (HP.out.after x.h)
        replace HV := hide (HV.out.after x.h)
        replace HR := hide (HR.out.after x.h)
        replace HK := hide (HK.out.after x.h)
        replace HG := hide (grown_after HG.out x.h)
        clear e0 e1 d0 d1 d2 e2 hne HD hWr hlW
        generalize x.q = W2 at *
        clear x
        have c1 : W2.cell? ⟨B, 3, none⟩ = some (.int .i64 r2) := HS.out.cell 3 rfl
        have f1 := HS.out.frozen 3
        go_upto_region 11 with fail
        have NS : Hid (Blk (W2.setCell ⟨B, 3, none⟩ (.int .i64 n2)) B (stC ac r0 r1 r2 n0 n1 n2 3) 60) := hide (HS.out.set 3 (.int .i64 n2))
        replace HS := NS
        replace HP := hide (HP.out.setOther (show _ ≠ B by omega) 3 (.int .i64 n2))
        replace HV := hide (HV.out.setOther (show _ ≠ B by omega) 3 (.int .i64 n2))
        replace HR := hide (HR.out.setOther (show _ ≠ B by omega) 3 (.int .i64 n2))
        replace HK := hide (HK.out.setOther (show _ ≠ B by omega) 3 (.int .i64 n2))
        replace HG := hide (grown_more HG.out (grown_set W2 B 3 (.int .i64 n2)))
        clear c1 f1 NS
        generalize W2.setCell ⟨B, 3, none⟩ (.int .i64 n2) = W3 at *
        have c1 : W3.cell? ⟨B, 3, none⟩ = some (.int .i64 n2) := HS.out.cell 3 rfl
        have c2 : W3.cell? ⟨w.heap.size + 1 + 1, 2, none⟩ = some (.int .i64 v2) := HV.out.cell 2 rfl
        have c3 : W3.cell? ⟨w.heap.size + 1 + 1 + 1 + 1, 2, none⟩ = some (.int .i64 0) := HK.out.cell 2 rfl
        have f3 := HK.out.frozen 2
        refine reg_last 13 rfl rfl _ rfl (by kernel_rfl) (by kernel_rfl) (by kernel_rfl) ?_
        simp only [List.take_succ_cons, List.take_zero]
        repeat (quiet_step (first
          | (go_at_call 34; exact Calls.quiet_of_same (SU2.out _))
          | (go_at_call 32; exact Calls.quiet_of_same (CL2.out _))))
        refine wpQuiet_nil ?_
        intro nq
        go_simp
        go_wp2_with fail
        have hs3 := HS.out.lt
        go_roundw
        case rel => exact ⟨3, by go_num, by omega, (blk_drewN HS.out nq).setOther (by omega) _ _, (blk_drewN HP.out nq).setOther (by omega) _ _, (blk_drewN HV.out nq).setOther (by omega) _ _, (blk_drewN HR.out nq).setOther (by omega) _ _, (blk_drewN HK.out nq).set 2 _, grown_new (grown_drewNN HG.out nq) _ _ _ (by omega)⟩
        case measure => simp [intOf]
      · obtain rfl : m2 = l2 := EA2.out
        clear EA2 RM2
        go_upto_region 10 with fail
        have HD := hide (Blk.new wr #[.bool true, .int .i64 a2, .int .i64 s2] 38)
        replace HS := hide (HS.out.alloc (.cells #[.bool true, .int .i64 a2, .int .i64 s2] 38))
        replace HP := hide (HP.out.alloc (.cells #[.bool true, .int .i64 a2, .int .i64 s2] 38))
        replace HV := hide (HV.out.alloc (.cells #[.bool true, .int .i64 a2, .int .i64 s2] 38))
        replace HR := hide (HR.out.alloc (.cells #[.bool true, .int .i64 a2, .int .i64 s2] 38))
        replace HK := hide (HK.out.alloc (.cells #[.bool true, .int .i64 a2, .int .i64 s2] 38))
        replace HG := hide (grown_after HG.out (below_alloc wr (.cells #[.bool true, .int .i64 a2, .int .i64 s2] 38)))
        generalize hWr : wr.alloc (.cells #[.bool true, .int .i64 a2, .int .i64 s2] 38) = W1 at *
        generalize wr.heap.size = d at *
        have hlW := HS.out.lt
        have e0 : ∀ x : BelowW W1, x.q.cell? ⟨B, 0, none⟩ = some (.int .i64 ac) := HS.out.at 0 rfl
        have e1 : ∀ x : BelowW W1, x.q.cell? ⟨B, 3, none⟩ = some (.int .i64 r2) := HS.out.at 3 rfl
        have d0 : ∀ x : BelowW W1, x.q.cell? ⟨d, 0, none⟩ = some (.bool true) := HD.out.at 0 rfl
        have d1 : ∀ x : BelowW W1, x.q.cell? ⟨d, 1, none⟩ = some (.int .i64 a2) := HD.out.at 1 rfl
        have d2 : ∀ x : BelowW W1, x.q.cell? ⟨d, 2, none⟩ = some (.int .i64 s2) := HD.out.at 2 rfl
        have e2 : ∀ x : BelowW W1, x.q.cell? ⟨w.heap.size + 1, 2, none⟩ = some (.int .i64 x2) := HP.out.at 2 rfl
        have hne : Nonempty (BelowW W1) := ⟨⟨W1, Below.refl _ _⟩⟩
        refine reg_last_calm 23 rfl rfl _ rfl (by kernel_rfl) (by kernel_rfl) (by kernel_rfl) ?_
        simp only [List.take_succ_cons, List.take_zero]
        repeat (go_big_quiet_step (first
          | (go_at_call 40; exact calm_of (AP2.out _ (e0 _) (Nat.lt_of_lt_of_le hlW (BelowW.h _).size)))
          | (go_at_call 41; exact calm_same (SL2.out _))))
        refine wpQuiet_nil ?_
        rintro _ ⟨x, rfl⟩
        replace HS := hide (HS.out.after x.h)
        replace HP := hide (HP.out.after x.h)
        replace HV := hide (HV.out.after x.h)
        replace HR := hide (HR.out.after x.h)
        replace HK := hide (HK.out.after x.h)
        replace HG := hide (grown_after HG.out x.h)
        clear e0 e1 d0 d1 d2 e2 hne HD hWr hlW
        generalize x.q = W2 at *
        clear x
        have c1 : W2.cell? ⟨B, 3, none⟩ = some (.int .i64 r2) := HS.out.cell 3 rfl
        have f1 := HS.out.frozen 3
        go_upto_region 11 with fail
        have NS : Hid (Blk (W2.setCell ⟨B, 3, none⟩ (.int .i64 n2)) B (stC ac r0 r1 r2 n0 n1 n2 3) 60) := hide (HS.out.set 3 (.int .i64 n2))
        replace HS := NS
        replace HP := hide (HP.out.setOther (show _ ≠ B by omega) 3 (.int .i64 n2))
        replace HV := hide (HV.out.setOther (show _ ≠ B by omega) 3 (.int .i64 n2))
        replace HR := hide (HR.out.setOther (show _ ≠ B by omega) 3 (.int .i64 n2))
        replace HK := hide (HK.out.setOther (show _ ≠ B by omega) 3 (.int .i64 n2))
        replace HG := hide (grown_more HG.out (grown_set W2 B 3 (.int .i64 n2)))
        clear c1 f1 NS
        generalize W2.setCell ⟨B, 3, none⟩ (.int .i64 n2) = W3 at *
        have c1 : W3.cell? ⟨B, 3, none⟩ = some (.int .i64 n2) := HS.out.cell 3 rfl
        have c2 : W3.cell? ⟨w.heap.size + 1 + 1, 2, none⟩ = some (.int .i64 v2) := HV.out.cell 2 rfl
        have c3 : W3.cell? ⟨w.heap.size + 1 + 1 + 1 + 1, 2, none⟩ = some (.int .i64 0) := HK.out.cell 2 rfl
        have f3 := HK.out.frozen 2
        refine reg_last 13 rfl rfl _ rfl (by kernel_rfl) (by kernel_rfl) (by kernel_rfl) ?_
        simp only [List.take_succ_cons, List.take_zero]
        repeat (quiet_step (first
          | (go_at_call 34; exact Calls.quiet_of_same (SU2.out _))
          | (go_at_call 32; exact Calls.quiet_of_same (CL2.out _))))
        refine wpQuiet_nil ?_
        intro nq
        go_simp
        go_wp2_with fail
        have hs3 := HS.out.lt
        go_roundw
        case rel => exact ⟨3, by go_num, by omega, (blk_drewN HS.out nq).setOther (by omega) _ _, (blk_drewN HP.out nq).setOther (by omega) _ _, (blk_drewN HV.out nq).setOther (by omega) _ _, (blk_drewN HR.out nq).setOther (by omega) _ _, (blk_drewN HK.out nq).set 2 _, grown_new (grown_drewNN HG.out nq) _ _ _ (by omega)⟩
        case measure => simp [intOf]
    · obtain ⟨q0, q1, q2⟩ := three_cells HK.out
      obtain ⟨t0, t1, t2⟩ := three_cells HR.out
      have f0 := HR.out.frozen 0
      have f1 := HR.out.frozen 1
      have f2 := HR.out.frozen 2
      clear RM0 AP0 SL0 SU0 CL0 EA0 RM1 AP1 SL1 SU1 CL1 EA1 RM2 AP2 SL2 SU2 CL2 EA2
      go_wp2_with fail
      exact bodyPost_ret (t_back (p := 8) (by kernel_rfl) _ _ (w.heap.size + 1 + 1 + 1) _ _ _ rfl (HR.out.set3 _ _ _)) rfl ⟨rfl, HS.out.set3o (by omega) _ _ _, grown_new (grown_new (grown_new HG.out _ _ _ (by omega)) _ _ _ (by omega)) _ _ _ (by omega)⟩
end Go.Proofs.Ythldohfjkjhdcaa
