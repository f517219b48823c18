/- VoteTurns, the units turned by 1. -/
import Derived.Test.YtmglcmhofcejiaaLwV5
namespace Go.Proofs.Ytmglcmhofcejiaa
open Go.RowKit Go.Great

set_option maxHeartbeats 4000000 in
set_option maxRecDepth 100000 in
theorem turns_1 (s p q : Int) (tv : Value) (L : List Un) (w : World) (hs0 : 0 ≤ s) (hs1 : s ≤ 65534) (hp0 : 0 ≤ p) (hp1 : p ≤ 9223372036854775807) (hT : Tks w tv L) (hkk : q % 3 = 1) : Calls Try.prog 5 #[.agg #[.int .i64 s, tv], .int .i64 p, .int .i64 q] w fun e w' => e = .returned (.bool true) ∧ Below w.heap.size w w' := by
  obtain ⟨W0, hW0⟩ : ∃ W0, w.alloc (.cells #[.int .i64 s, tv] 41) = W0 := ⟨_, rfl⟩
  have S0 : Blk W0 w.heap.size #[.int .i64 s, tv] 41 := by rw [← hW0]; exact Blk.new _ _ _
  have b0 : Below w.heap.size w W0 := by rw [← hW0]; exact below_alloc _ _
  have c0 : W0.cell? ⟨w.heap.size, 0, none⟩ = some (.int .i64 s) := S0.cell 0 rfl
  have HT := hide (hT.below b0)
  have HS := hide S0
  have Hb := hide b0
  have hmax := hT.2.1
  unfold maxLen at hmax
  obtain ⟨_, _, ta, tc, rfl, _⟩ := hT
  obtain ⟨n, hn⟩ : ∃ n, Hid (L.length = n) := ⟨_, hide rfl⟩
  rw [hn.out] at HT HS hmax hW0 ⊢
  have hz : w.heap.size < W0.heap.size := HS.out.lt
  clear S0 b0
  have HO := hide (vN_ok hs0 hs1 hp0 hp1)
  go_enter Try.func5, Try.ntmps5
  go_upto_region 2 with (go_at_call 9; refine (new_any W0 s p hs0 hs1 hp0).mono ?_; rintro e w1 ⟨B, rfl, hB, hb1, hBw⟩)
  have HB : Hid (Blk w1 B (vC (vN s p)) 53) := hide hB
  have Hb1 := hide hb1
  have c1 : w1.cell? ⟨w.heap.size, 0, none⟩ = some (.int .i64 s) := (HS.out.after hb1).cell 0 rfl
  clear hB hb1 c0
  go_upto_if 59 with (go_at_call 9; refine (new_any w1 s p hs0 hs1 hp0).mono ?_; rintro e w2 ⟨C, rfl, hC, hb2, hCw⟩)
  have hBC : ¬ B = C := by have := HB.out.lt; omega
  replace HB := hide (HB.out.after hb2)
  have HC : Hid (Blk w2 C (vC (vN s p)) 53) := hide hC
  have hCw : W0.heap.size ≤ C := Nat.le_trans Hb1.out.size hCw
  replace Hb1 := hide (below_next Hb1.out (Nat.le_refl _) hb2)
  clear hC hb2 c1
  go_cut [11] (fun v wx => v = .int .i64 1 ∧ wx = w2)
  case first =>
    by_cases hq : q.tmod 3 < 0
    · have e := tmod3_neg q hq
      rw [hkk] at e
      go_wp2_with fail
      go_meet
      exact ⟨rfl, rfl⟩
    · have e := tmod3_pos q hq
      rw [hkk] at e
      go_wp2_with fail
      go_meet
      exact ⟨rfl, rfl⟩
  obtain ⟨rfl, hwc⟩ := hcut
  obtain rfl := hwc.symm
  clear hwc
  go_wp2_with fail
  go_loopw [12] (fun vi wr => ∃ (i : Nat) (t t' : Vt), vi = .int .i64 (i : Int) ∧ i ≤ n ∧ VOk t ∧ VOk t' ∧ Rot 1 t t' ∧ Blk wr B (vC t) 53 ∧ Blk wr C (vC t') 53 ∧ Below W0.heap.size W0 wr) (fun v _ => n - (intOf v).toNat)
  case atStart => exact ⟨0, vN s p, vN s p, rfl, by omega, HO.out, HO.out, Rot.new _ _ _, HB.out, HC.out, Hb1.out⟩
  case round =>
    clear HB HC Hb1
    obtain ⟨i, t, t', rfl, hi, hok, hok', hrot, hB, hC, hb⟩ := hrel
    have HOK := hide hok
    have HOK' := hide hok'
    have HROT := hide hrot
    have HB := hide hB
    have HC := hide hC
    have Hb1 := hide hb
    have hs1 : wr.cell? ⟨w.heap.size, 1, none⟩ = some (.slice ta n tc) := (HS.out.after hb).cell 1 rfl
    clear hok hok' hrot hB hC hb
    by_cases hlt : i < n
    · obtain ⟨g, o, cap, u, e1, hg, hv, hvo, hcells⟩ := (HT.out.below Hb1.out).get i (by rw [hn.out]; exact hlt)
      obtain ⟨k0, k1, k2, k3, k4, k5⟩ := hcells
      injection e1 with e1 e2 e3
      subst e1 e3
      clear hv e2
      have HVO := hide hvo
      clear hvo
      obtain ⟨ok, hok⟩ : ∃ ok, Hid (sok u t = ok) := ⟨_, hide rfl⟩
      obtain ⟨y, hy⟩ : ∃ y, Hid (sx u t = y) := ⟨_, hide rfl⟩
      obtain ⟨hR2, ho2, hx2⟩ := HROT.out.step (by decide) u
      rw [hok.out] at ho2
      rw [hy.out] at hx2
      have HR2 := hide hR2
      have HO2 := hide ho2
      have HX2 := hide hx2
      clear hR2 ho2 hx2
      have hlB := HB.out.lt
      have hlC := HC.out.lt
      go_upto_region 14 with fail
      have T1 := hide (Blk.new wr #[.bool (u.o 0), .int .i64 (u.x 0), .bool (u.o 1), .int .i64 (u.x 1), .bool (u.o 2), .int .i64 (u.x 2)] 38)
      replace HB := hide (HB.out.alloc (.cells #[.bool (u.o 0), .int .i64 (u.x 0), .bool (u.o 1), .int .i64 (u.x 1), .bool (u.o 2), .int .i64 (u.x 2)] 38))
      replace HC := hide (HC.out.alloc (.cells #[.bool (u.o 0), .int .i64 (u.x 0), .bool (u.o 1), .int .i64 (u.x 1), .bool (u.o 2), .int .i64 (u.x 2)] 38))
      replace Hb1 := hide (Hb1.out.alloc Hb1.out.size (.cells #[.bool (u.o 0), .int .i64 (u.x 0), .bool (u.o 1), .int .i64 (u.x 1), .bool (u.o 2), .int .i64 (u.x 2)] 38))
      have nB : ¬ B = wr.heap.size := by omega
      have nC : ¬ C = wr.heap.size := by omega
      clear hlB hlC hs1 k0 k1 k2 k3 k4 k5 hg
      generalize wr.heap.size = tb at *
      generalize wr.alloc (.cells #[.bool (u.o 0), .int .i64 (u.x 0), .bool (u.o 1), .int .i64 (u.x 1), .bool (u.o 2), .int .i64 (u.x 2)] 38) = W1 at *
      obtain ⟨q0, q1, q2, q3, q4, q5⟩ := T1.out.cell6
      have ST : Hid (Calls Try.prog 14 #[.pointer (some ⟨B, 0, none⟩), .agg #[.bool (u.o 0), .int .i64 (u.x 0), .bool (u.o 1), .int .i64 (u.x 1), .bool (u.o 2), .int .i64 (u.x 2)]] W1 fun e w' => e = .returned (.agg #[.bool ok, .int .i64 y]) ∧ Blk w' B (vC (stp u t)) 53 ∧ W1.grownBy w' (some B)) := hide (by
        have := step_any W1 B t u HB.out HOK.out HVO.out
        rw [hok.out, hy.out] at this
        exact this)
      go_upto_region 15 with (go_at_call 14; refine ST.out.mono ?_; rintro e wn ⟨rfl, hB, hG⟩; replace Hb1 := hide (grown_over Hb1.out hG (fun q e => by injection e with e; omega)); replace HB := hide hB; replace HC := hide (HC.out.grown hG (fun e => by injection e with e; exact hBC e)); replace T1 := hide (T1.out.grown hG (fun e => by injection e with e; exact nB e)); clear hB hG)
      have R1 := hide (Blk.new wn #[.bool ok, .int .i64 y] 36)
      have lB := HB.out.lt
      have lC := HC.out.lt
      have lT := T1.out.lt
      replace HB := hide (HB.out.alloc (.cells #[.bool ok, .int .i64 y] 36))
      replace HC := hide (HC.out.alloc (.cells #[.bool ok, .int .i64 y] 36))
      replace T1 := hide (T1.out.alloc (.cells #[.bool ok, .int .i64 y] 36))
      replace Hb1 := hide (Hb1.out.alloc Hb1.out.size (.cells #[.bool ok, .int .i64 y] 36))
      have nRB : ¬ B = wn.heap.size := by omega
      have nRC : ¬ C = wn.heap.size := by omega
      clear lB lC lT q0 q1 q2 q3 q4 q5 ST
      generalize wn.heap.size = rb at *
      generalize wn.alloc (.cells #[.bool ok, .int .i64 y] 36) = W2 at *
      obtain ⟨q0, q1, q2, q3, q4, q5⟩ := T1.out.cell6
      go_cut [15] (fun v wx => ∃ b15, v = .pointer (some ⟨b15, 0, none⟩) ∧ Blk wx b15 #[.bool ok, .int .i64 y] 36 ∧ Blk wx rb #[.bool ok, .int .i64 y] 36 ∧ Blk wx B (vC (stp u t)) 53 ∧ Blk wx C (vC (stp (ruN 1 u) t')) 53 ∧ Below W0.heap.size W0 wx)
      case first =>
        have ST : Hid (∀ wx, Blk wx C (vC t') 53 → Calls Try.prog 14 #[.pointer (some ⟨C, 0, none⟩), .agg #[.bool (u.o 1), .int .i64 (u.x 1), .bool (u.o 2), .int .i64 (u.x 2), .bool (u.o 0), .int .i64 (u.x 0)]] wx fun e w' => e = .returned (.agg #[.bool ok, .int .i64 y]) ∧ Blk w' C (vC (stp (ruN 1 u) t')) 53 ∧ wx.grownBy w' (some C)) := hide (fun wx hwx => by
          have := step_any wx C t' (ruN 1 u) hwx HOK'.out (ruN_ok HVO.out)
          rw [HO2.out, HX2.out] at this
          exact this)
        have lT := T1.out.lt
        have lR := R1.out.lt
        have lB := HB.out.lt
        have lC := HC.out.lt
        have nTC : ¬ tb = C := fun e => nC e.symm
        have nRC' : ¬ rb = C := fun e => nRC e.symm
        have nBC' : ¬ C = B := fun e => hBC e.symm
        have hsz := Hb1.out.size
        refine wp_region_held_drew (S := fun wx => wx.cell? ⟨tb, 0, none⟩ = some (.bool (u.o 0)) ∧ wx.cell? ⟨tb, 1, none⟩ = some (.int .i64 (u.x 0)) ∧ wx.cell? ⟨tb, 2, none⟩ = some (.bool (u.o 1)) ∧ wx.cell? ⟨tb, 3, none⟩ = some (.int .i64 (u.x 1)) ∧ wx.cell? ⟨tb, 4, none⟩ = some (.bool (u.o 2)) ∧ wx.cell? ⟨tb, 5, none⟩ = some (.int .i64 (u.x 2))) (by kernel_rfl) (⟨q0, q1, q2, q3, q4, q5⟩) (fun hHeld => ?_)
        refine take_at (i := 0) (v := .pointer (some ⟨C, 0, none⟩)) (d := some 77) rfl rfl (by kernel_rfl) (by kernel_rfl) (by kernel_rfl) (fun _ _ _ h => h) (Or.inl ⟨by rfl, fun wS ⟨hS0, hS1, hS2, hS3, hS4, hS5⟩ => by go_simp; all_goals (rw [IntKind.wrap_i64]; omega)⟩) (by assumption) ?_
        simp only [Act.put, List.setIfInBounds_toArray, List.set_cons_zero, List.set_cons_succ]
        refine take_at (i := 1) (v := .int .i64 1) (d := some 78) rfl rfl (by kernel_rfl) (by kernel_rfl) (by kernel_rfl) (fun _ _ _ h => h) (Or.inl ⟨by rfl, fun wS ⟨hS0, hS1, hS2, hS3, hS4, hS5⟩ => by go_simp; all_goals (rw [IntKind.wrap_i64]; omega)⟩) (by assumption) ?_
        simp only [Act.put, List.setIfInBounds_toArray, List.set_cons_zero, List.set_cons_succ]
        refine take_at (i := 2) (v := .pointer (some ⟨tb, 2, none⟩)) (d := some 79) rfl rfl (by kernel_rfl) (by kernel_rfl) (by kernel_rfl) (fun _ _ _ h => h) (Or.inl ⟨by rfl, fun wS ⟨hS0, hS1, hS2, hS3, hS4, hS5⟩ => by go_simp; all_goals (rw [IntKind.wrap_i64]; omega)⟩) (by assumption) ?_
        simp only [Act.put, List.setIfInBounds_toArray, List.set_cons_zero, List.set_cons_succ]
        refine take_at (i := 3) (v := .agg #[.bool (u.o 1), .int .i64 (u.x 1)]) (d := some 80) rfl rfl (by kernel_rfl) (by kernel_rfl) (by kernel_rfl) (fun _ _ _ h => h) (Or.inl ⟨by rfl, fun wS ⟨hS0, hS1, hS2, hS3, hS4, hS5⟩ => by go_simp; all_goals (rw [IntKind.wrap_i64]; omega)⟩) (by assumption) ?_
        simp only [Act.put, List.setIfInBounds_toArray, List.set_cons_zero, List.set_cons_succ]
        refine take_at (i := 4) (v := .int .i64 1) (d := some 81) rfl rfl (by kernel_rfl) (by kernel_rfl) (by kernel_rfl) (fun _ _ _ h => h) (Or.inl ⟨by rfl, fun wS ⟨hS0, hS1, hS2, hS3, hS4, hS5⟩ => by go_simp; all_goals (rw [IntKind.wrap_i64]; omega)⟩) (by assumption) ?_
        simp only [Act.put, List.setIfInBounds_toArray, List.set_cons_zero, List.set_cons_succ]
        refine take_at (i := 5) (v := .int .i64 2) (d := some 82) rfl rfl (by kernel_rfl) (by kernel_rfl) (by kernel_rfl) (fun _ _ _ h => h) (Or.inl ⟨by rfl, fun wS ⟨hS0, hS1, hS2, hS3, hS4, hS5⟩ => by go_simp; all_goals (rw [IntKind.wrap_i64]; omega)⟩) (by assumption) ?_
        simp only [Act.put, List.setIfInBounds_toArray, List.set_cons_zero, List.set_cons_succ]
        refine take_at (i := 6) (v := .int .i64 2) (d := some 83) rfl rfl (by kernel_rfl) (by kernel_rfl) (by kernel_rfl) (fun _ _ _ h => h) (Or.inl ⟨by rfl, fun wS ⟨hS0, hS1, hS2, hS3, hS4, hS5⟩ => by go_simp; all_goals (rw [IntKind.wrap_i64]; omega)⟩) (by assumption) ?_
        simp only [Act.put, List.setIfInBounds_toArray, List.set_cons_zero, List.set_cons_succ]
        refine take_at (i := 7) (v := .pointer (some ⟨tb, 4, none⟩)) (d := some 84) rfl rfl (by kernel_rfl) (by kernel_rfl) (by kernel_rfl) (fun _ _ _ h => h) (Or.inl ⟨by rfl, fun wS ⟨hS0, hS1, hS2, hS3, hS4, hS5⟩ => by go_simp; all_goals (rw [IntKind.wrap_i64]; omega)⟩) (by assumption) ?_
        simp only [Act.put, List.setIfInBounds_toArray, List.set_cons_zero, List.set_cons_succ]
        refine take_at (i := 8) (v := .agg #[.bool (u.o 2), .int .i64 (u.x 2)]) (d := some 85) rfl rfl (by kernel_rfl) (by kernel_rfl) (by kernel_rfl) (fun _ _ _ h => h) (Or.inl ⟨by rfl, fun wS ⟨hS0, hS1, hS2, hS3, hS4, hS5⟩ => by go_simp; all_goals (rw [IntKind.wrap_i64]; omega)⟩) (by assumption) ?_
        simp only [Act.put, List.setIfInBounds_toArray, List.set_cons_zero, List.set_cons_succ]
        refine take_at (i := 9) (v := .int .i64 1) (d := some 86) rfl rfl (by kernel_rfl) (by kernel_rfl) (by kernel_rfl) (fun _ _ _ h => h) (Or.inl ⟨by rfl, fun wS ⟨hS0, hS1, hS2, hS3, hS4, hS5⟩ => by go_simp; all_goals (rw [IntKind.wrap_i64]; omega)⟩) (by assumption) ?_
        simp only [Act.put, List.setIfInBounds_toArray, List.set_cons_zero, List.set_cons_succ]
        refine take_at (i := 10) (v := .int .i64 3) (d := some 87) rfl rfl (by kernel_rfl) (by kernel_rfl) (by kernel_rfl) (fun _ _ _ h => h) (Or.inl ⟨by rfl, fun wS ⟨hS0, hS1, hS2, hS3, hS4, hS5⟩ => by go_simp; all_goals (rw [IntKind.wrap_i64]; omega)⟩) (by assumption) ?_
        simp only [Act.put, List.setIfInBounds_toArray, List.set_cons_zero, List.set_cons_succ]
        refine take_at (i := 11) (v := .int .i64 0) (d := some 88) rfl rfl (by kernel_rfl) (by kernel_rfl) (by kernel_rfl) (fun _ _ _ h => h) (Or.inl ⟨by rfl, fun wS ⟨hS0, hS1, hS2, hS3, hS4, hS5⟩ => by go_simp; all_goals (rw [IntKind.wrap_i64]; omega)⟩) (by assumption) ?_
        simp only [Act.put, List.setIfInBounds_toArray, List.set_cons_zero, List.set_cons_succ]
        refine take_at (i := 12) (v := .pointer (some ⟨tb, 0, none⟩)) (d := some 89) rfl rfl (by kernel_rfl) (by kernel_rfl) (by kernel_rfl) (fun _ _ _ h => h) (Or.inl ⟨by rfl, fun wS ⟨hS0, hS1, hS2, hS3, hS4, hS5⟩ => by go_simp; all_goals (rw [IntKind.wrap_i64]; omega)⟩) (by assumption) ?_
        simp only [Act.put, List.setIfInBounds_toArray, List.set_cons_zero, List.set_cons_succ]
        refine take_at (i := 13) (v := .agg #[.bool (u.o 0), .int .i64 (u.x 0)]) (d := some 90) rfl rfl (by kernel_rfl) (by kernel_rfl) (by kernel_rfl) (fun _ _ _ h => h) (Or.inl ⟨by rfl, fun wS ⟨hS0, hS1, hS2, hS3, hS4, hS5⟩ => by go_simp; all_goals (rw [IntKind.wrap_i64]; omega)⟩) (by assumption) ?_
        simp only [Act.put, List.setIfInBounds_toArray, List.set_cons_zero, List.set_cons_succ]
        refine take_at (i := 14) (v := .agg #[.bool (u.o 1), .int .i64 (u.x 1), .bool (u.o 2), .int .i64 (u.x 2), .bool (u.o 0), .int .i64 (u.x 0)]) (d := some 91) rfl rfl (by kernel_rfl) (by kernel_rfl) (by kernel_rfl) (fun _ _ _ h => h) (Or.inl ⟨by rfl, fun wS ⟨hS0, hS1, hS2, hS3, hS4, hS5⟩ => by go_simp; all_goals (rw [IntKind.wrap_i64]; omega)⟩) (by assumption) ?_
        simp only [Act.put, List.setIfInBounds_toArray, List.set_cons_zero, List.set_cons_succ]
        clear hHeld
        refine wpAnyH_ready (rs := [15, 16]) (by kernel_rfl) (by simp) ?_
        refine AllReadyH.cons rfl (fun K hK => ?_) (AllReadyH.cons rfl (fun K hK => ?_) AllReadyH.nil)
        · go_simp
          refine (ST.out W2.drew HC.out).mono ?_
          rintro e w5 ⟨rfl, hC5, hG5⟩
          have T5 := Blk.grown (w := W2.drew) T1.out hG5 (fun e => by injection e with e; exact nC e)
          have R5 := Blk.grown (w := W2.drew) R1.out hG5 (fun e => by injection e with e; exact nRC e)
          have B5 := Blk.grown (w := W2.drew) HB.out hG5 (fun e => by injection e with e; exact nBC' e)
          have b5 := hide (grown_over (w := W0) (w1 := W2.drew) Hb1.out.drew hG5 (fun q e => by injection e with e; omega))
          refine hK.out _ _ T5.cell6 (fun hHeld => ?_)
          clear hK K hHeld
          refine wpAnyH_ready (rs := [16]) (by kernel_rfl) (by simp) ?_
          refine AllReadyH.cons rfl (fun K hK => ?_) AllReadyH.nil
          go_simp
          refine hK.out _ _ (T5.alloc _).cell6 (fun hHeld => ?_)
          clear hK K hHeld
          refine wpAnyH_ready (rs := [17]) (by kernel_rfl) (by simp) ?_
          refine AllReadyH.cons rfl (fun K hK => ?_) AllReadyH.nil
          go_simp
          refine hK.out _ _ (T5.alloc _).cell6 (fun hHeld => ?_)
          clear hK K
          refine wpAnyH_done (by kernel_rfl) ?_ _
          clear hHeld
          go_wp2_with fail
          go_meet
          exact ⟨w5.heap.size, rfl, Blk.new _ _ _, R5.alloc _, B5.alloc _, hC5.alloc _, b5.out.alloc b5.out.size _⟩
        · go_simp
          have T3 := Blk.alloc (W := W2.drew) T1.out (.cells #[.bool false, .int .i64 0] 36)
          have R3 := Blk.alloc (W := W2.drew) R1.out (.cells #[.bool false, .int .i64 0] 36)
          have B3 := Blk.alloc (W := W2.drew) HB.out (.cells #[.bool false, .int .i64 0] 36)
          have C3 := Blk.alloc (W := W2.drew) HC.out (.cells #[.bool false, .int .i64 0] 36)
          have N3 : Blk (W2.drew.alloc (.cells #[.bool false, .int .i64 0] 36)) W2.heap.size #[.bool false, .int .i64 0] 36 := Blk.new W2.drew _ _
          have b3 := hide (Hb1.out.drew.alloc (o := .cells #[.bool false, .int .i64 0] 36) Hb1.out.size)
          refine hK.out _ _ T3.cell6 (fun hHeld => ?_)
          clear hK K hHeld
          refine wpAnyH_ready (rs := [15]) (by kernel_rfl) (by simp) ?_
          refine AllReadyH.cons rfl (fun K hK => ?_) AllReadyH.nil
          go_simp
          refine (ST.out _ C3).mono ?_
          rintro e w5 ⟨rfl, hC5, hG5⟩
          have T5 := T3.grown hG5 (fun e => by injection e with e; exact nC e)
          have R5 := R3.grown hG5 (fun e => by injection e with e; exact nRC e)
          have B5 := B3.grown hG5 (fun e => by injection e with e; exact nBC' e)
          have N5 := N3.grown hG5 (fun e => by injection e with e; omega)
          have b5 := hide (grown_over (w := W0) b3.out hG5 (fun q e => by injection e with e; omega))
          have f0 := N5.frozen 0
          have f1 := N5.frozen 1
          have r0 : w5.cell? ⟨W2.heap.size, 0, none⟩ = some (.bool false) := N5.cell 0 rfl
          have r1 : w5.cell? ⟨W2.heap.size, 1, none⟩ = some (.int .i64 0) := N5.cell 1 rfl
          generalize W2.heap.size = nb at *
          have n1 : ¬ tb = nb := by omega
          have n2 : ¬ rb = nb := by omega
          have n3 : ¬ B = nb := by omega
          have n4 : ¬ C = nb := by omega
          refine hK.out _ _ T5.cell6 (fun hHeld => ?_)
          clear hK K hHeld
          refine wpAnyH_ready (rs := [17]) (by kernel_rfl) (by simp) ?_
          refine AllReadyH.cons rfl (fun K hK => ?_) AllReadyH.nil
          go_simp
          refine hK.out _ _ (T5.past2v n1 _ _).cell6 (fun hHeld => ?_)
          clear hK K
          refine wpAnyH_done (by kernel_rfl) ?_ _
          clear hHeld
          go_wp2_with fail
          go_meet
          exact ⟨nb, rfl, N5.set2 _ _, R5.past2v n2 _ _, B5.past2v n3 _ _, hC5.past2v n4 _ _, below_twov b5.out (by omega) b5.out.size _ _⟩
      obtain ⟨b15, rfl, hr15, hr1, hB1, hC1, hb1⟩ := hcut
      have R15 := hide hr15
      have R14 := hide hr1
      have HB1 := hide hB1
      have HC1 := hide hC1
      have Hb2 := hide hb1
      clear hr15 hr1 hB1 hC1 hb1 HB HC Hb1 R1 T1 q0 q1 q2 q3 q4 q5
      have a0 : Hid ((stp (ruN 1 u) t').a 0 = (stp u t).a 1) := hide (HR2.out.a 0 (by decide))
      have a1 : Hid ((stp (ruN 1 u) t').a 1 = (stp u t).a 2) := hide (HR2.out.a 1 (by decide))
      have a2 : Hid ((stp (ruN 1 u) t').a 2 = (stp u t).a 0) := hide (HR2.out.a 2 (by decide))
      have a3 : Hid ((stp (ruN 1 u) t').n = (stp u t).n) := hide HR2.out.n
      have O1 := hide (stp_ok HVO.out HOK.out)
      have O2 := hide (stp_ok (u := ruN 1 u) (ruN_ok HVO.out) HOK'.out)
      obtain ⟨t1, ht1⟩ : ∃ t1, Hid (stp u t = t1) := ⟨_, hide rfl⟩
      obtain ⟨t2, ht2⟩ : ∃ t2, Hid (stp (ruN 1 u) t' = t2) := ⟨_, hide rfl⟩
      rw [ht1.out] at a0 a1 a2 a3 O1 HB1 HR2
      rw [ht2.out] at a0 a1 a2 a3 O2 HC1 HR2
      have AG : Hid (∀ wx, Blk wx C (vC t2) 53 → Calls Try.prog 12 #[.pointer (some ⟨C, 0, none⟩)] wx fun e w' => e = .returned (.agg #[.int .i64 (t1.a 1), .int .i64 (t1.a 2), .int .i64 (t1.a 0)]) ∧ Below wx.heap.size wx w') := hide (fun wx h => by
        have := ages_any wx C t2 h
        rw [a0.out, a1.out, a2.out] at this
        exact this)
      have SP : Hid (∀ wx, Blk wx C (vC t2) 53 → Calls Try.prog 13 #[.pointer (some ⟨C, 0, none⟩)] wx fun e w' => e = .returned (.int .i64 t1.n) ∧ w' = wx) := hide (fun wx h => by
        have := splits_any wx C t2 h
        rw [a3.out] at this
        exact this)
      go_upto_region 17 with (go_at_call 12; refine (ages_any _ B t1 HB1.out).mono ?_; rintro e wn ⟨rfl, hb⟩; replace HB1 := hide (HB1.out.after hb); replace HC1 := hide (HC1.out.after hb); replace R15 := hide (R15.out.after hb); replace R14 := hide (R14.out.after hb); replace Hb2 := hide (below_next Hb2.out (Nat.le_refl _) hb); clear hb)
      have M1 := hide (Blk.new wn #[.int .i64 (t1.a 0), .int .i64 (t1.a 1), .int .i64 (t1.a 2)] 27)
      replace HB1 := hide (HB1.out.alloc (.cells #[.int .i64 (t1.a 0), .int .i64 (t1.a 1), .int .i64 (t1.a 2)] 27))
      replace HC1 := hide (HC1.out.alloc (.cells #[.int .i64 (t1.a 0), .int .i64 (t1.a 1), .int .i64 (t1.a 2)] 27))
      replace R15 := hide (R15.out.alloc (.cells #[.int .i64 (t1.a 0), .int .i64 (t1.a 1), .int .i64 (t1.a 2)] 27))
      replace R14 := hide (R14.out.alloc (.cells #[.int .i64 (t1.a 0), .int .i64 (t1.a 1), .int .i64 (t1.a 2)] 27))
      replace Hb2 := hide (Hb2.out.alloc Hb2.out.size (.cells #[.int .i64 (t1.a 0), .int .i64 (t1.a 1), .int .i64 (t1.a 2)] 27))
      generalize wn.heap.size = mb at *
      generalize wn.alloc (.cells #[.int .i64 (t1.a 0), .int .i64 (t1.a 1), .int .i64 (t1.a 2)] 27) = W3 at *
      go_upto_region 18 with (go_at_call 12; refine (AG.out _ HC1.out).mono ?_; rintro e wm ⟨rfl, hb⟩; replace HB1 := hide (HB1.out.after hb); replace HC1 := hide (HC1.out.after hb); replace R15 := hide (R15.out.after hb); replace R14 := hide (R14.out.after hb); replace M1 := hide (M1.out.after hb); replace Hb2 := hide (below_next Hb2.out (Nat.le_refl _) hb); clear hb)
      have N1 := hide (Blk.new wm #[.int .i64 (t1.a 1), .int .i64 (t1.a 2), .int .i64 (t1.a 0)] 27)
      replace HB1 := hide (HB1.out.alloc (.cells #[.int .i64 (t1.a 1), .int .i64 (t1.a 2), .int .i64 (t1.a 0)] 27))
      replace HC1 := hide (HC1.out.alloc (.cells #[.int .i64 (t1.a 1), .int .i64 (t1.a 2), .int .i64 (t1.a 0)] 27))
      replace R15 := hide (R15.out.alloc (.cells #[.int .i64 (t1.a 1), .int .i64 (t1.a 2), .int .i64 (t1.a 0)] 27))
      replace R14 := hide (R14.out.alloc (.cells #[.int .i64 (t1.a 1), .int .i64 (t1.a 2), .int .i64 (t1.a 0)] 27))
      replace M1 := hide (M1.out.alloc (.cells #[.int .i64 (t1.a 1), .int .i64 (t1.a 2), .int .i64 (t1.a 0)] 27))
      replace Hb2 := hide (Hb2.out.alloc Hb2.out.size (.cells #[.int .i64 (t1.a 1), .int .i64 (t1.a 2), .int .i64 (t1.a 0)] 27))
      generalize wm.heap.size = nb at *
      generalize wm.alloc (.cells #[.int .i64 (t1.a 1), .int .i64 (t1.a 2), .int .i64 (t1.a 0)] 27) = W4 at *
      have p0 : W4.cell? ⟨rb, 0, none⟩ = some (.bool ok) := R14.out.cell 0 rfl
      have p1 : W4.cell? ⟨rb, 1, none⟩ = some (.int .i64 y) := R14.out.cell 1 rfl
      have p2 : W4.cell? ⟨b15, 0, none⟩ = some (.bool ok) := R15.out.cell 0 rfl
      have p3 : W4.cell? ⟨b15, 1, none⟩ = some (.int .i64 y) := R15.out.cell 1 rfl
      have m0 : W4.cell? ⟨mb, 0, none⟩ = some (.int .i64 (t1.a 0)) := M1.out.cell 0 rfl
      have m1 : W4.cell? ⟨mb, 1, none⟩ = some (.int .i64 (t1.a 1)) := M1.out.cell 1 rfl
      have m2 : W4.cell? ⟨mb, 2, none⟩ = some (.int .i64 (t1.a 2)) := M1.out.cell 2 rfl
      have n0 : W4.cell? ⟨nb, 0, none⟩ = some (.int .i64 (t1.a 1)) := N1.out.cell 0 rfl
      have n1 : W4.cell? ⟨nb, 1, none⟩ = some (.int .i64 (t1.a 2)) := N1.out.cell 1 rfl
      have n2 : W4.cell? ⟨nb, 2, none⟩ = some (.int .i64 (t1.a 0)) := N1.out.cell 2 rfl
      have na := neq_arr
      go_quiet (first
        | (go_at_call_of 13 (Value.pointer (some ⟨B, 0, none⟩)); exact Calls.quiet_of_same (splits_any _ B t1 (HB1.out.drewN _)))
        | (go_at_call_of 13 (Value.pointer (some ⟨C, 0, none⟩)); exact Calls.quiet_of_same (SP.out _ (HC1.out.drewN _))))
      go_wp2_with fail
      go_roundw
      case rel => exact ⟨i + 1, t1, t2, by go_num, by omega, O1.out, O2.out, HR2.out, HB1.out.drewN _, HC1.out.drewN _, below_drewN Hb2.out _⟩
      case measure => simp [intOf]; omega
    · obtain rfl : i = n := by omega
      go_wp2_with (go_at_call 11; refine (awakeV _).mono ?_; rintro e w5 ⟨rfl, hb5⟩)
      go_ret
      exact ⟨rfl, below_next Hb.out (Nat.le_refl _) (below_next Hb1.out (Nat.le_refl _) hb5)⟩
end Go.Proofs.Ytmglcmhofcejiaa
