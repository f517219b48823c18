/- What ControlTracks answers: true, at every chase. -/
import Derived.Test.YthldohfjkjhdcaaCoO
namespace Go.Proofs.Ythldohfjkjhdcaa
open Go.RowKit Go.Great Go.Deep Go.WideShapes Go.ChangeShapes

set_option maxHeartbeats 400000 in
theorem rclampT (x lo hi : Int) (w : World) : Calls Try.prog 26 #[.int .i64 x, .int .i64 lo, .int .i64 hi] w fun e w' => e = .returned (.int .i64 (clamp x lo hi)) ∧ w' = w := by
  go_enter Try.func26, Try.ntmps26
  go_wp2
  all_goals (go_ret; refine ⟨ret_int ?_, rfl⟩; unfold clamp; split <;> (try split) <;> omega)
theorem sat_sameT {x : Int} (h : I64 x) : sat x = x := by
  unfold I64 at h
  unfold sat
  rw [if_neg (by omega), if_neg (by omega)]
theorem ti0 (a b c : Int) (w : World) : (Instr.index 36 (tV a b c) (.int .i64 0)).run Try.prog w = .ok (.int .i64 a) w := by kernel_rfl
/-- a chase's cells -/
abbrev chC (a b c : Value) (o d : Int) : Array Value := #[a, b, c, .int .i64 o, .int .i64 d]
/-- a step of a chase -/
theorem chase_step {r cw t nr : Int} (hn : slew r cw 12 = nr) (hk : clamp (nr - t) (-64) 64 = nr - t) (hr : I64 r) (hc : I64 cw) (ht : I64 t) (hs : I64 (nr - t)) (B : Nat) (W : World) (hB : Str W B 12 r 0 0) : Calls Try.prog 20 #[sP B, .agg #[.bool false, .int .i64 0, .int .i64 cw, .bool false, .int .i64 0, .int .i64 0, .bool false, .int .i64 0, .int .i64 0], tV 0 0 0, tV t 0 0] W fun e w' => e = .returned (tV (nr - t) 0 0) ∧ Str w' B 12 nr 0 0 ∧ W.grownBy w' (some B) := by
  have h := step_any W B 12 r 0 0 ⟨false, 0, cw⟩ ⟨false, 0, 0⟩ ⟨false, 0, 0⟩ 0 0 0 t 0 0 hB (i64_of (by decide)) hr i64_0 i64_0 ⟨i64_0, hc⟩ ⟨i64_0, i64_0⟩ ⟨i64_0, i64_0⟩ i64_0 i64_0 i64_0 ht i64_0 i64_0
  have e0 : nx r 12 ⟨false, 0, cw⟩ 0 = nr := hn
  have e1 : nx 0 12 ⟨false, 0, 0⟩ 0 = 0 := by decide +kernel
  have e2 : ask nr t = nr - t := by unfold ask; rw [sat_sameT hs, hk]
  have e3 : ask 0 0 = 0 := by decide +kernel
  rw [e0, e1] at h
  unfold SEnd at h
  rw [e2, e3] at h
  exact h
set_option maxHeartbeats 4000000 in
set_option maxRecDepth 100000 in
theorem tracks_any (a b c : Value) (A B C : List Int) (o d : Int) (w : World) (h : Chs w a b c A B C o d) : Calls Try.prog 6 #[.agg #[a, b, c, .int .i64 o, .int .i64 d]] w fun e w' => e = .returned (.bool true) ∧ Below w.heap.size w w' := by
  obtain ⟨ho, hd, hA, hB, hC⟩ := h
  have HA := hide hA
  have HBl := hide hB
  have HC := hide hC
  have mA := hA.1
  have mB := hB.1
  have mC := hC.1
  unfold maxLen at mA mB mC
  obtain ⟨_, aa, pa, rfl, _⟩ := hA
  obtain ⟨_, ba, pb, rfl, _⟩ := hB
  obtain ⟨_, cc, pc, rfl, _⟩ := hC
  obtain ⟨nA, eA⟩ : ∃ n, Hid (A.length = n) := ⟨_, hide rfl⟩
  obtain ⟨nB, eB⟩ : ∃ n, Hid (B.length = n) := ⟨_, hide rfl⟩
  obtain ⟨nC, eC⟩ : ∃ n, Hid (C.length = n) := ⟨_, hide rfl⟩
  rw [eA.out] at mA
  rw [eB.out] at mB
  rw [eC.out] at mC
  rw [eA.out, eB.out, eC.out]
  unfold I64 at ho hd
  have AW := hide awakeC
  obtain ⟨W0, hW0, b0, X0, z0⟩ := one_box w (chC (.slice aa nA pa) (.slice ba nB pb) (.slice cc nC pc) o d) 53
  have Hb := hide b0
  have HX := hide X0
  clear b0 X0 z0
  go_enter Try.func6, Try.ntmps6
  go_wp2_with fail
  refine (defaults_any W0).mono ?_
  rintro e w1 ⟨v1, rfl, hR1, hb1⟩
  have HI1 := hide hR1.ints
  replace HX := hide (HX.out.after hb1)
  replace Hb := hide (below_next Hb.out (Nat.le_refl _) hb1)
  clear hR1 hb1 hW0
  go_wp2_with fail
  refine (newS_any w1 deL v1 HI1.out deL_sound).mono ?_
  rintro e w2 ⟨S, rfl, hS, hb2, hSw⟩
  rw [acc_deL] at hS
  have HS := hide hS
  have hNS : w.heap.size < S := Nat.lt_of_lt_of_le HX.out.lt hSw
  replace HX := hide (HX.out.after hb2)
  replace Hb := hide (below_next Hb.out (Nat.le_refl _) hb2)
  clear hS hb2 HI1 hSw
  go_wp2_with fail
  refine (defaults_any w2).mono ?_
  rintro e w3 ⟨v3, rfl, hR3, hb3⟩
  obtain ⟨g3, o3, c3, rfl, hg3, hc3⟩ := hR3.ints.open24 deL_sound.len
  have k6 : w3.cell? ⟨g3, o3 + 6, none⟩ = some (.int .i64 12) := by
    have := hc3 6 (by omega)
    rw [show deL.getD 6 0 = 12 from acc_deL] at this
    exact this
  replace HS := hide (HS.out.after hb3)
  replace HX := hide (HX.out.after hb3)
  replace Hb := hide (below_next Hb.out (Nat.le_refl _) hb3)
  clear hR3 hb3 hg3 hc3
  go_upto_region 5 with fail
  clear k6
  have x3 : w3.cell? ⟨w.heap.size, 3, none⟩ = some (.int .i64 o) := HX.out.cell 3 rfl
  have x4 : w3.cell? ⟨w.heap.size, 4, none⟩ = some (.int .i64 d) := HX.out.cell 4 rfl
  rcases (show o < 0 ∨ (0 ≤ o ∧ d < 0) ∨ (0 ≤ o ∧ 0 ≤ d ∧ 64 < o) ∨ (0 ≤ o ∧ 0 ≤ d ∧ o ≤ 64 ∧ 64 < d) ∨ (0 ≤ o ∧ 0 ≤ d ∧ o ≤ 64 ∧ d ≤ 64 ∧ 64 < 12 + d + 2 * o) ∨ (0 ≤ o ∧ 0 ≤ d ∧ 12 + d + 2 * o ≤ 64) by omega) with h1 | ⟨h1, h2⟩ | ⟨h1, h2, h3⟩ | ⟨h1, h2, h3, h4⟩ | ⟨h1, h2, h3, h4, h5⟩ | ⟨h1, h2, h3⟩
  iterate 5
    · go_wp2_with (first | (go_at_call 13; refine (AW.out _).mono ?_; rintro e w4 ⟨rfl, b4⟩))
      go_ret
      exact ⟨rfl, below_next Hb.out (Nat.le_refl _) b4⟩
  go_wp2_with fail
  clear x3 x4
  go_loopw [6, 7] (fun vv vi wr => ∃ (i : Nat) (x r : Int), vv = .int .i64 x ∧ vi = .int .i64 (i : Int) ∧ i ≤ nA ∧ (-1099511627776 ≤ r ∧ r ≤ 1099511627776) ∧ (-(o + d) ≤ x - r ∧ x - r ≤ o + d) ∧ Str wr S 12 r 0 0 ∧ Blk wr w.heap.size (chC (.slice aa nA pa) (.slice ba nB pb) (.slice cc nC pc) o d) 53 ∧ Below w.heap.size w wr) (fun _ vi _ => nA - (intOf vi).toNat)
  case atStart => exact ⟨0, 0, 0, rfl, rfl, by omega, by omega, by omega, HS.out, HX.out, Hb.out⟩
  case round =>
    clear HS HX Hb
    obtain ⟨i, x, r, rfl, rfl, hi, hr, hxr, hS, hX, hb⟩ := hrel
    have HS := hide hS
    have HX := hide hX
    have Hb := hide hb
    clear hS hX hb
    have x0 : wr.cell? ⟨w.heap.size, 0, none⟩ = some (.slice aa nA pa) := HX.out.cell 0 rfl
    have x1 : wr.cell? ⟨w.heap.size, 1, none⟩ = some (.slice ba nB pb) := HX.out.cell 1 rfl
    have x2 : wr.cell? ⟨w.heap.size, 2, none⟩ = some (.slice cc nC pc) := HX.out.cell 2 rfl
    rcases (show ¬ (i : Int) < nA ∨ ((i : Int) < nA ∧ ¬ (i : Int) < nB) ∨ ((i : Int) < nA ∧ (i : Int) < nB ∧ ¬ (i : Int) < nC) ∨ ((i : Int) < nA ∧ (i : Int) < nB ∧ (i : Int) < nC) by omega) with q1 | ⟨q1, q2⟩ | ⟨q1, q2, q3⟩ | ⟨q1, q2, q3⟩
    iterate 3
      · go_wp2_with (first | (go_at_call 13; refine (AW.out _).mono ?_; rintro e w4 ⟨rfl, b4⟩))
        go_ret
        exact ⟨rfl, below_next Hb.out (Nat.le_refl _) b4⟩
    obtain ⟨ga, oa, ka, za, e1, hga, _, cellA⟩ := HA.out.get i (by rw [eA.out]; omega)
    injection e1 with e1 e2 e3
    subst e1 e3
    obtain ⟨gb, ob, kb, zb, f1, hgb, _, cellB⟩ := HBl.out.get i (by rw [eB.out]; omega)
    injection f1 with f1 f2 f3
    subst f1 f3
    obtain ⟨gc, oc, kc, zc, g1, hgc, _, cellC⟩ := HC.out.get i (by rw [eC.out]; omega)
    injection g1 with g1 g2 g3
    subst g1 g3
    have cA : Hid (∀ W, Below w.heap.size w W → W.cell? ⟨ga, oa + i, none⟩ = some (.int .i64 za)) := hide (fun W hW => by have := cellA W hW 0 _ rfl; rw [Nat.mul_one] at this; exact this)
    have cB : Hid (∀ W, Below w.heap.size w W → W.cell? ⟨gb, ob + i, none⟩ = some (.int .i64 zb)) := hide (fun W hW => by have := cellB W hW 0 _ rfl; rw [Nat.mul_one] at this; exact this)
    have cC : Hid (∀ W, Below w.heap.size w W → W.cell? ⟨gc, oc + i, none⟩ = some (.int .i64 zc)) := hide (fun W hW => by have := cellC W hW 0 _ rfl; rw [Nat.mul_one] at this; exact this)
    clear cellA cellB cellC e2 f2 g2 hga hgb hgc
    have CB := hide (fun W => rclampT zb (-o) o W)
    have hcb := clamp_mid (x := zb) (lo := -o) (hi := o) (by omega)
    have CA := hide (fun W => rclampT za (-1099511627776) 1099511627776 W)
    have hca := clamp_mid (x := za) (lo := -1099511627776) (hi := 1099511627776) (by omega)
    have CC := hide (fun W => rclampT zc (-d) d W)
    have hcc := clamp_mid (x := zc) (lo := -d) (hi := d) (by omega)
    generalize clamp zb (-o) o = cb at *
    generalize clamp za (-1099511627776) 1099511627776 = cw at *
    generalize clamp zc (-d) d = cd at *
    have hsl := slew_in r cw 12 (by omega)
    obtain ⟨nr, hnr⟩ : ∃ nr, Hid (slew r cw 12 = nr) := ⟨_, hide rfl⟩
    rw [hnr.out] at hsl
    obtain ⟨l1, l2, l3⟩ := led (v := x) (ref := r) (nxt := nr) (n := cb) (air := cd) (off := o) (dev := d) hcb hcc ⟨hsl.1, hsl.2.1⟩ h3 hxr
    have ST := hide (chase_step hnr.out l1 (i64_of (by omega)) (i64_of (by omega)) (i64_of (by omega)) (i64_of (by omega)) S)
    have hnb : -1099511627776 ≤ nr ∧ nr ≤ 1099511627776 := by omega
    clear hnr l1
    have b1 : wr.cell? ⟨gb, ob + i, none⟩ = some (.int .i64 zb) := cB.out wr Hb.out
    have x3 : wr.cell? ⟨w.heap.size, 3, none⟩ = some (.int .i64 o) := HX.out.cell 3 rfl
    go_upto_region 11 with fail
    go_quiet (first | (go_at_call 26; exact Calls.quiet_of_same (CB.out _)))
    replace HS := hide (blk_drewN HS.out nq)
    replace HX := hide (blk_drewN HX.out nq)
    replace Hb := hide (below_drewN Hb.out nq)
    clear b1 x0 x1 x2 x3
    generalize wr.drewN nq = W1 at *
    have TI := ti0
    go_upto_region 13 with (first | (go_at_call 22; refine (refs_any _ S 12 r 0 0 HS.out).mono ?_; rintro e w4 ⟨rfl, b4⟩))
    replace HS := hide (HS.out.after b4)
    replace HX := hide (HX.out.after b4)
    replace Hb := hide (below_next Hb.out (Nat.le_refl _) b4)
    clear b4
    have a1 : w4.cell? ⟨ga, oa + i, none⟩ = some (.int .i64 za) := cA.out w4 Hb.out
    have x0 : w4.cell? ⟨w.heap.size, 0, none⟩ = some (.slice (some ⟨ga, oa, none⟩) nA pa) := HX.out.cell 0 rfl
    have HS4 := hide (fun W (hW : Below w4.heap.size w4 W) => HS.out.after hW)
    go_upto_region 14 with (first
      | (go_at_call 26; refine (CA.out _).mono ?_; rintro e w5 ⟨rfl, hw⟩; obtain rfl := hw.symm)
      | (go_at_call 20; refine (ST.out _ HS.out).mono ?_; rintro e w5 ⟨rfl, hS5, hG5⟩))
    have HK := hide (Blk.new w5 (tC (nr - (x + cb)) 0 0) 36)
    replace HX := hide ((HX.out.grown hG5 (by intro e; injection e with e; omega)).alloc (.cells (tC (nr - (x + cb)) 0 0) 36))
    replace HS := hide (hS5.alloc (.cells (tC (nr - (x + cb)) 0 0) 36))
    replace Hb := hide (below_next (below_grown Hb.out hG5 (fun q e => by injection e with e; omega)) (Nat.le_refl _) (below_alloc w5 (.cells (tC (nr - (x + cb)) 0 0) 36)))
    clear hS5 hG5 a1 x0 HS4 ST CA CB
    generalize w5.heap.size = dk at *
    generalize w5.alloc (.cells (tC (nr - (x + cb)) 0 0) 36) = W5 at *
    go_upto_region 15 with (first | (go_at_call 22; refine (refs_any _ S 12 nr 0 0 HS.out).mono ?_; rintro e w6 ⟨rfl, b6⟩))
    replace HS := hide (HS.out.after b6)
    replace HX := hide (HX.out.after b6)
    replace HK := hide (HK.out.after b6)
    replace Hb := hide (below_next Hb.out (Nat.le_refl _) b6)
    clear b6
    have c1 : w6.cell? ⟨gc, oc + i, none⟩ = some (.int .i64 zc) := cC.out w6 Hb.out
    have x2 : w6.cell? ⟨w.heap.size, 2, none⟩ = some (.slice (some ⟨gc, oc, none⟩) nC pc) := HX.out.cell 2 rfl
    have x4 : w6.cell? ⟨w.heap.size, 4, none⟩ = some (.int .i64 d) := HX.out.cell 4 rfl
    have k0 : w6.cell? ⟨dk, 0, none⟩ = some (.int .i64 (nr - (x + cb))) := HK.out.cell 0 rfl
    go_quiet (first | (go_at_call 26; exact Calls.quiet_of_same (CC.out _)))
    replace HS := hide (blk_drewN HS.out nq)
    replace HX := hide (blk_drewN HX.out nq)
    replace Hb := hide (below_drewN Hb.out nq)
    clear c1 x2 x4 k0 HK CC
    generalize w6.drewN nq = W7 at *
    have x3 : W7.cell? ⟨w.heap.size, 3, none⟩ = some (.int .i64 o) := HX.out.cell 3 rfl
    have x4 : W7.cell? ⟨w.heap.size, 4, none⟩ = some (.int .i64 d) := HX.out.cell 4 rfl
    obtain ⟨y, hy⟩ : ∃ y, x + (nr - (x + cb)) + cd = y := ⟨_, rfl⟩
    rw [hy] at l2 l3
    go_wp2_with fail
    go_roundw
    case rel => exact ⟨i + 1, _, nr, rfl, by go_num, by omega, hnb, by omega, HS.out, HX.out, Hb.out⟩
    case measure => simp [intOf]; omega
theorem ControlTracks_walk (v : Value) (w : World) (h : ∃ a b c A B C o d, v = .agg #[a, b, c, .int .i64 o, .int .i64 d] ∧ Chs w a b c A B C o d) : Calls Try.prog 6 #[v] w fun e w' => e = .returned (.bool true) ∧ Below w.heap.size w w' := by
  obtain ⟨a, b, c, A, B, C, o, d, rfl, h⟩ := h
  exact tracks_any a b c A B C o d w h
end Go.Proofs.Ythldohfjkjhdcaa
