/- Package est: the compass: an angle within a turn; its beginning, its rate, its leaning. -/
import Derived.Test.YtgadpalkchillaaEs7
namespace Go.Proofs.Ytgadpalkchillaa
open Go.RowKit Go.Great

theorem mask20 (a : Int) : bits .and .i64 a 1048575 = a % 1048576 := by
  show IntKind.i64.wrap ((BitVec.ofInt 64 a &&& BitVec.ofInt 64 1048575).toNat : Int) = _
  have e : BitVec.ofInt 64 1048575 = BitVec.ofNat 64 (2 ^ 20 - 1) := by decide
  rw [e, BitVec.toNat_and, BitVec.toNat_ofNat, show (2 ^ 20 - 1) % 2 ^ 64 = 2 ^ 20 - 1 by decide, Nat.and_two_pow_sub_one_eq_mod, BitVec.toNat_ofInt, IntKind.wrap_i64]
  omega
theorem withinE_any (a : Int) (w : World) : Calls Try.prog 51 #[.int .i64 a] w fun e w' => e = .returned (.int .i64 (a % 1048576)) ∧ w' = w := by
  have H := hide (mask20 a)
  go_enter Try.func51, Try.ntmps51
  go_wp2
  go_ret
  exact ⟨ret_int H.out, rfl⟩
theorem off_any (m : Mea) (w : World) : Calls Try.prog 52 #[mV m] w fun e w' => e = .returned (.int .i64 (moff m)) ∧ Below w.heap.size w w' := by
  go_enter Try.func52, Try.ntmps52
  go_wp2
  all_goals go_ret
  all_goals exact ⟨ret_int (by unfold moff imin; split <;> omega), below_alloc _ _⟩
theorem newC_any (w : World) (s : Int) (hs : 1 ≤ s) : Calls Try.prog 19 #[.int .i64 s] w fun e w' => ∃ B, e = .returned (.tuple #[.pointer (some ⟨B, 0, none⟩), .int .i64 0]) ∧ Blk w' B (cC (cN s)) 82 ∧ Below w.heap.size w w' ∧ w.heap.size ≤ B := by
  have h1 : ¬ s < 1 := by omega
  go_enter Try.func19, Try.ntmps19
  go_wp2_with fail
  go_ret2
  exact ⟨w.heap.size, rfl, Blk.new _ _ _, below_alloc _ _, Nat.le_refl _⟩
theorem cc4 {w : World} {B : Nat} {t : Co} (h : Blk w B (cC t) 82) : w.cell? ⟨B, 1, none⟩ = some (.bool t.kn) ∧ w.cell? ⟨B, 4, none⟩ = some (.int .i64 t.h) ∧ w.cell? ⟨B, 5, none⟩ = some (.int .i64 t.b) := ⟨h.cell 1 rfl, h.cell 4 rfl, h.cell 5 rfl⟩
theorem keepC_any (w : World) (B : Nat) (t : Co) (h b x : Int) (hh : h % 1048576 = x) (hB : Blk w B (cC t) 82) : Calls Try.prog 53 #[.pointer (some ⟨B, 0, none⟩), .int .i64 h, .int .i64 b] w fun e w' => e = .returned (.tuple #[]) ∧ Blk w' B (cC { t with h := x, b := imin b 524288 }) 82 ∧ w.grownBy w' (some B) := by
  obtain ⟨_, c4, c5⟩ := cc4 hB
  have f4 := hB.frozen 4
  have f5 := hB.frozen 5
  have HB := hide hB
  have W1 := hide (withinE_any h)
  rw [hh] at W1
  obtain ⟨y, hy⟩ : ∃ y, Hid (imin b 524288 = y) := ⟨_, hide rfl⟩
  rw [hy.out]
  clear hB
  go_enter Try.func53, Try.ntmps53
  go_wp2_with (go_at_call 51; refine (W1.out _).mono ?_; rintro e w' ⟨rfl, hw⟩; obtain rfl := hw.symm)
  all_goals
    go_end0
    refine ⟨rfl, ?_, grown_more (grown_set _ _ _ _) (grown_set _ _ _ _)⟩
    have e : imin b 524288 = _ := hy.out
    unfold imin at e
    first
      | (rw [if_pos (by omega)] at e; subst e; exact (HB.out.set 4 (.int .i64 x)).set 5 (.int .i64 _))
      | (rw [if_neg (by omega)] at e; subst e; exact (HB.out.set 4 (.int .i64 x)).set 5 (.int .i64 _))
theorem wrap_mod20 (z : Int) : wrap64 z % 1048576 = z % 1048576 := by unfold wrap64; omega
set_option maxHeartbeats 1000000 in
theorem beginC_any (w : World) (B : Nat) (t : Co) (m : Mea) (hB : Blk w B (cC t) 82) : Calls Try.prog 38 #[.pointer (some ⟨B, 0, none⟩), mV m] w fun e w' => e = .returned (.tuple #[]) ∧ Blk w' B (cC (cbeg m t)) 82 ∧ w.grownBy w' (some B) := by
  have hlB := hB.lt
  have TH := hide (there_any m)
  have OF := hide (off_any m)
  obtain ⟨W0, hW0⟩ : ∃ W0, w.alloc (.cells #[.bool m.o, .int .i64 m.x, .int .i64 m.e] 38) = W0 := ⟨_, rfl⟩
  have HM0 : Hid (Blk W0 w.heap.size #[.bool m.o, .int .i64 m.x, .int .i64 m.e] 38) := hide (by rw [← hW0]; exact Blk.new _ _ _)
  have HB0 : Hid (Blk W0 B (cC t) 82) := hide (by rw [← hW0]; exact hB.alloc _)
  have G0 : Hid (w.grownBy W0 (some B)) := hide (by rw [← hW0]; exact grown_alloc _ _ _)
  have c0 : W0.cell? ⟨w.heap.size, 0, none⟩ = some (.bool m.o) := HM0.out.cell 0 rfl
  have c1 : W0.cell? ⟨w.heap.size, 1, none⟩ = some (.int .i64 m.x) := HM0.out.cell 1 rfl
  have c2 : W0.cell? ⟨w.heap.size, 2, none⟩ = some (.int .i64 m.e) := HM0.out.cell 2 rfl
  clear hB
  rcases (show mth m = true ∨ mth m = false by cases mth m <;> simp) with hth | hth
  · rw [hth] at TH
    have HE : Hid (cbeg m t = { t with kn := true, h := (16 * m.x) % 1048576, b := 16 * moff m }) := hide (by unfold cbeg; rw [if_pos hth])
    have HO := hide (moff_ok hth)
    clear hth
    obtain ⟨f, hf⟩ : ∃ f, Hid (moff m = f) := ⟨_, hide rfl⟩
    rw [hf.out] at HE OF HO
    have WI := hide (withinE_any (wrap64 (16 * m.x)))
    rw [wrap_mod20] at WI
    go_enter Try.func38, Try.ntmps38
    go_upto_region 2 with (go_at_call 41; refine (TH.out _).mono ?_; rintro e w1 ⟨rfl, hb1⟩)
    have HB1 := hide (HB0.out.after hb1)
    have HM1 := hide (HM0.out.after hb1)
    have G1 := hide (grown_after G0.out hb1)
    clear HB0 HM0 G0 hb1 c0 c1 c2 hW0
    obtain ⟨b1, b4, b5⟩ := cc4 HB1.out
    have f1 := HB1.out.frozen 1
    go_upto_region 3 with fail
    have HB2 : Hid (Blk (w1.setCell ⟨B, 1, none⟩ (.bool true)) B (cC { t with kn := true }) 82) := hide (HB1.out.set 1 (.bool true))
    have HM2 := hide (HM1.out.setOther (show w.heap.size ≠ B by omega) 1 (.bool true))
    have G2 := hide (grown_more G1.out (grown_set w1 B 1 (.bool true)))
    clear HB1 HM1 G1 b1 b4 b5 f1
    generalize w1.setCell ⟨B, 1, none⟩ (.bool true) = w2 at *
    have c1 : w2.cell? ⟨w.heap.size, 1, none⟩ = some (.int .i64 m.x) := HM2.out.cell 1 rfl
    obtain ⟨b1, b4, b5⟩ := cc4 HB2.out
    have f4 := HB2.out.frozen 4
    go_upto_region 4 with (go_at_call 51; refine (WI.out _).mono ?_; rintro e w' ⟨rfl, hw⟩; obtain rfl := hw.symm)
    have HB3 : Hid (Blk (w2.setCell ⟨B, 4, none⟩ (.int .i64 (16 * m.x % 1048576))) B (cC { t with kn := true, h := 16 * m.x % 1048576 }) 82) := hide (HB2.out.set 4 _)
    have HM3 := hide (HM2.out.setOther (show w.heap.size ≠ B by omega) 4 (.int .i64 (16 * m.x % 1048576)))
    have G3 := hide (grown_more G2.out (grown_set w2 B 4 (.int .i64 (16 * m.x % 1048576))))
    clear HB2 HM2 G2 b1 b4 b5 f4 c1
    generalize w2.setCell ⟨B, 4, none⟩ (.int .i64 (16 * m.x % 1048576)) = w3 at *
    have c0 : w3.cell? ⟨w.heap.size, 0, none⟩ = some (.bool m.o) := HM3.out.cell 0 rfl
    have c1 : w3.cell? ⟨w.heap.size, 1, none⟩ = some (.int .i64 m.x) := HM3.out.cell 1 rfl
    have c2 : w3.cell? ⟨w.heap.size, 2, none⟩ = some (.int .i64 m.e) := HM3.out.cell 2 rfl
    have ho := HO.out
    go_wp2_with (go_at_call 52; refine (OF.out _).mono ?_; rintro e w4 ⟨rfl, hb4⟩; have HB4 := hide (HB3.out.after hb4); have G4 := hide (grown_after G3.out hb4); clear HB3 G3 HM3 c0 c1 c2 hb4; obtain ⟨b1, b4, b5⟩ := cc4 HB4.out; have f5 := HB4.out.frozen 5)
    go_end0
    refine ⟨rfl, ?_, grown_more G4.out (grown_set _ _ _ _)⟩
    rw [HE.out]
    exact HB4.out.set 5 _
  · rw [hth] at TH
    have HE : Hid (cbeg m t = t) := hide (by unfold cbeg; rw [if_neg (by rw [hth]; decide)])
    go_enter Try.func38, Try.ntmps38
    go_wp2_with (go_at_call 41; refine (TH.out _).mono ?_; rintro e w1 ⟨rfl, hb1⟩)
    go_end0
    refine ⟨rfl, ?_, grown_after G0.out hb1⟩
    rw [HE.out]
    exact HB0.out.after hb1
set_option maxHeartbeats 1000000 in
theorem rotate_any (w : World) (B : Nat) (t : Co) (m : Mea) (hB : Blk w B (cC t) 82) (ht : COk t) : Calls Try.prog 39 #[.pointer (some ⟨B, 0, none⟩), mV m] w fun e w' => e = .returned (.tuple #[]) ∧ Blk w' B (cC (crot m t)) 82 ∧ w.grownBy w' (some B) := by
  have hlB := hB.lt
  have TH := hide (there_any m)
  have OF := hide (off_any m)
  obtain ⟨W0, hW0⟩ : ∃ W0, w.alloc (.cells #[.bool m.o, .int .i64 m.x, .int .i64 m.e] 38) = W0 := ⟨_, rfl⟩
  have HM0 : Hid (Blk W0 w.heap.size #[.bool m.o, .int .i64 m.x, .int .i64 m.e] 38) := hide (by rw [← hW0]; exact Blk.new _ _ _)
  have HB0 : Hid (Blk W0 B (cC t) 82) := hide (by rw [← hW0]; exact hB.alloc _)
  have G0 : Hid (w.grownBy W0 (some B)) := hide (by rw [← hW0]; exact grown_alloc _ _ _)
  have c0 : W0.cell? ⟨w.heap.size, 0, none⟩ = some (.bool m.o) := HM0.out.cell 0 rfl
  have c1 : W0.cell? ⟨w.heap.size, 1, none⟩ = some (.int .i64 m.x) := HM0.out.cell 1 rfl
  have c2 : W0.cell? ⟨w.heap.size, 2, none⟩ = some (.int .i64 m.e) := HM0.out.cell 2 rfl
  have hb := ht.b
  have HT := hide ht
  clear hB ht
  rcases (show mth m = true ∨ mth m = false by cases mth m <;> simp) with hth | hth
  · rw [hth] at TH
    have HE : Hid (crot m t = ckeep (t.h + m.x) (t.b + moff m) t) := hide (by unfold crot; rw [if_pos hth])
    have HO := hide (moff_ok hth)
    clear hth
    obtain ⟨f, hf⟩ : ∃ f, Hid (moff m = f) := ⟨_, hide rfl⟩
    rw [hf.out] at HE OF HO
    have ho := HO.out
    go_enter Try.func39, Try.ntmps39
    go_upto_region 2 with (go_at_call 41; refine (TH.out _).mono ?_; rintro e w1 ⟨rfl, hb1⟩)
    have HB1 := hide (HB0.out.after hb1)
    have HM1 := hide (HM0.out.after hb1)
    have G1 := hide (grown_after G0.out hb1)
    clear HB0 HM0 G0 hb1 c0 c1 c2 hW0
    have a0 : ∀ x : BelowW w1, x.q.cell? ⟨w.heap.size, 0, none⟩ = some (.bool m.o) := HM1.out.at 0 rfl
    have a1 : ∀ x : BelowW w1, x.q.cell? ⟨w.heap.size, 1, none⟩ = some (.int .i64 m.x) := HM1.out.at 1 rfl
    have a2 : ∀ x : BelowW w1, x.q.cell? ⟨w.heap.size, 2, none⟩ = some (.int .i64 m.e) := HM1.out.at 2 rfl
    have a4 : ∀ x : BelowW w1, x.q.cell? ⟨B, 4, none⟩ = some (.int .i64 t.h) := HB1.out.at 4 rfl
    have a5 : ∀ x : BelowW w1, x.q.cell? ⟨B, 5, none⟩ = some (.int .i64 t.b) := HB1.out.at 5 rfl
    have hne : Nonempty (BelowW w1) := ⟨⟨w1, Below.refl _ _⟩⟩
    refine reg_last_calm 15 rfl rfl _ rfl (by kernel_rfl) (by kernel_rfl) (by kernel_rfl) ?_
    simp only [List.take_succ_cons, List.take_zero]
    repeat (go_big_quiet_step (first
      | (go_at_call 52; exact calm_of (OF.out _))))
    refine wpQuiet_nil ?_
    rintro _ ⟨x, rfl⟩
    have HB2 := hide (HB1.out.after x.h)
    have G2 := hide (grown_after G1.out x.h)
    clear a0 a1 a2 a4 a5 hne HM1 HB1 G1
    obtain ⟨w2, hx⟩ := x
    go_simp
    refine (keepC_any w2 B t (wrap64 (t.h + m.x)) (t.b + f) _ (wrap_mod20 _) HB2.out).mono ?_
    rintro e w3 ⟨rfl, hB3, hG3⟩
    go_end0
    refine ⟨rfl, ?_, grown_more G2.out hG3⟩
    rw [HE.out]
    exact hB3
  · rw [hth] at TH
    have HE : Hid (crot m t = ckeep t.h (t.b + 4096) t) := hide (by unfold crot; rw [if_neg (by rw [hth]; decide)])
    clear hth
    go_enter Try.func39, Try.ntmps39
    go_upto_region 3 with (go_at_call 41; refine (TH.out _).mono ?_; rintro e w1 ⟨rfl, hb1⟩)
    have HB1 := hide (HB0.out.after hb1)
    have HM1 := hide (HM0.out.after hb1)
    have G1 := hide (grown_after G0.out hb1)
    clear HB0 HM0 G0 hb1 c0 c1 c2 hW0
    have a0 : ∀ x : BelowW w1, x.q.cell? ⟨w.heap.size, 0, none⟩ = some (.bool m.o) := HM1.out.at 0 rfl
    have a1 : ∀ x : BelowW w1, x.q.cell? ⟨w.heap.size, 1, none⟩ = some (.int .i64 m.x) := HM1.out.at 1 rfl
    have a2 : ∀ x : BelowW w1, x.q.cell? ⟨w.heap.size, 2, none⟩ = some (.int .i64 m.e) := HM1.out.at 2 rfl
    have a4 : ∀ x : BelowW w1, x.q.cell? ⟨B, 4, none⟩ = some (.int .i64 t.h) := HB1.out.at 4 rfl
    have a5 : ∀ x : BelowW w1, x.q.cell? ⟨B, 5, none⟩ = some (.int .i64 t.b) := HB1.out.at 5 rfl
    have hne : Nonempty (BelowW w1) := ⟨⟨w1, Below.refl _ _⟩⟩
    refine reg_last_calm 10 rfl rfl _ rfl (by kernel_rfl) (by kernel_rfl) (by kernel_rfl) ?_
    simp only [List.take_succ_cons, List.take_zero]
    repeat (go_big_quiet_step (fail))
    refine wpQuiet_nil ?_
    rintro _ ⟨x, rfl⟩
    have HB2 := hide (HB1.out.after x.h)
    have G2 := hide (grown_after G1.out x.h)
    clear a0 a1 a2 a4 a5 hne HM1 HB1 G1
    obtain ⟨w2, hx⟩ := x
    go_simp
    refine (keepC_any w2 B t t.h (t.b + 4096) _ rfl HB2.out).mono ?_
    rintro e w3 ⟨rfl, hB3, hG3⟩
    go_end0
    refine ⟨rfl, ?_, grown_more G2.out hG3⟩
    rw [HE.out]
    exact hB3
theorem wrap_id {z : Int} (h : I64 z) : wrap64 z = z := by unfold I64 at h; unfold wrap64; omega
theorem tdiv8 (z : Int) (h : 0 ≤ z) : z.tdiv 8 = z / 8 := Int.tdiv_eq_ediv_of_nonneg h
set_option maxHeartbeats 1000000 in
theorem lean_any (w : World) (B : Nat) (t : Co) (m : Mea) (hB : Blk w B (cC t) 82) (ht : COk t) : Calls Try.prog 40 #[.pointer (some ⟨B, 0, none⟩), mV m] w fun e w' => e = .returned (.tuple #[]) ∧ Blk w' B (cC (clean m t)) 82 ∧ w.grownBy w' (some B) := by
  have hlB := hB.lt
  have TH := hide (there_any m)
  have OF := hide (off_any m)
  obtain ⟨W0, hW0⟩ : ∃ W0, w.alloc (.cells #[.bool m.o, .int .i64 m.x, .int .i64 m.e] 38) = W0 := ⟨_, rfl⟩
  have HM0 : Hid (Blk W0 w.heap.size #[.bool m.o, .int .i64 m.x, .int .i64 m.e] 38) := hide (by rw [← hW0]; exact Blk.new _ _ _)
  have HB0 : Hid (Blk W0 B (cC t) 82) := hide (by rw [← hW0]; exact hB.alloc _)
  have G0 : Hid (w.grownBy W0 (some B)) := hide (by rw [← hW0]; exact grown_alloc _ _ _)
  have c0 : W0.cell? ⟨w.heap.size, 0, none⟩ = some (.bool m.o) := HM0.out.cell 0 rfl
  have c1 : W0.cell? ⟨w.heap.size, 1, none⟩ = some (.int .i64 m.x) := HM0.out.cell 1 rfl
  have c2 : W0.cell? ⟨w.heap.size, 2, none⟩ = some (.int .i64 m.e) := HM0.out.cell 2 rfl
  have hb := ht.b
  have hh := ht.h
  clear hB ht
  rcases (show mth m = true ∨ mth m = false by cases mth m <;> simp) with hth | hth
  · rw [hth] at TH
    have HE : Hid (clean m t = ckeep (t.h + cway m t.h / 8) (7 * t.b / 8 + 2 * moff m + 1) t) := hide (by unfold clean; rw [if_pos hth])
    have HO := hide (moff_ok hth)
    clear hth
    obtain ⟨f, hf⟩ : ∃ f, Hid (moff m = f) := ⟨_, hide rfl⟩
    rw [hf.out] at HE OF HO
    have ho := HO.out
    have WI := hide (withinE_any (wrap64 (wrap64 (wrap64 (16 * m.x) - t.h) + 524288)))
    have e1 : wrap64 (wrap64 (wrap64 (16 * m.x) - t.h) + 524288) % 1048576 = (16 * m.x - t.h + 524288) % 1048576 := by unfold wrap64; omega
    rw [e1] at WI
    clear e1
    obtain ⟨y, hy⟩ : ∃ y, Hid ((16 * m.x - t.h + 524288) % 1048576 = y) := ⟨_, hide rfl⟩
    have hyb : 0 ≤ y ∧ y < 1048576 := by rw [← hy.out]; omega
    have HY : Hid (cway m t.h = y - 524288) := hide (by unfold cway; rw [hy.out])
    rw [hy.out] at WI
    rw [HY.out] at HE
    go_enter Try.func40, Try.ntmps40
    go_upto_region 2 with (go_at_call 41; refine (TH.out _).mono ?_; rintro e w1 ⟨rfl, hb1⟩)
    have HB1 := hide (HB0.out.after hb1)
    have HM1 := hide (HM0.out.after hb1)
    have G1 := hide (grown_after G0.out hb1)
    clear HB0 HM0 G0 hb1 c0 c1 c2 hW0
    have c1 : w1.cell? ⟨w.heap.size, 1, none⟩ = some (.int .i64 m.x) := HM1.out.cell 1 rfl
    obtain ⟨_, b4, b5⟩ := cc4 HB1.out
    go_quiet ((go_at_call 51; exact Calls.quiet_of_same (WI.out _)))
    have HB2 := hide (blk_drewN HB1.out nq)
    have HM2 := hide (blk_drewN HM1.out nq)
    have G2 := hide (grown_drewNN G1.out nq)
    clear HB1 HM1 G1 c1 b4 b5
    generalize w1.drewN nq = w2 at *
    go_upto_region 3 with fail
    have a0 : ∀ x : BelowW w2, x.q.cell? ⟨w.heap.size, 0, none⟩ = some (.bool m.o) := HM2.out.at 0 rfl
    have a1 : ∀ x : BelowW w2, x.q.cell? ⟨w.heap.size, 1, none⟩ = some (.int .i64 m.x) := HM2.out.at 1 rfl
    have a2 : ∀ x : BelowW w2, x.q.cell? ⟨w.heap.size, 2, none⟩ = some (.int .i64 m.e) := HM2.out.at 2 rfl
    have a4 : ∀ x : BelowW w2, x.q.cell? ⟨B, 4, none⟩ = some (.int .i64 t.h) := HB2.out.at 4 rfl
    have a5 : ∀ x : BelowW w2, x.q.cell? ⟨B, 5, none⟩ = some (.int .i64 t.b) := HB2.out.at 5 rfl
    have hne : Nonempty (BelowW w2) := ⟨⟨w2, Below.refl _ _⟩⟩
    refine reg_last_calm 19 rfl rfl _ rfl (by kernel_rfl) (by kernel_rfl) (by kernel_rfl) ?_
    simp only [List.take_succ_cons, List.take_zero]
    repeat (go_big_quiet_step (first
      | (go_at_call 52; exact calm_of (OF.out _))))
    refine wpQuiet_nil ?_
    rintro _ ⟨x, rfl⟩
    have HB3 := hide (HB2.out.after x.h)
    have G3 := hide (grown_after G2.out x.h)
    clear a0 a1 a2 a4 a5 hne HM2 HB2 G2
    obtain ⟨w3, hx⟩ := x
    go_simp
    refine (keepC_any w3 B t (t.h + (y - 524288) / 8) (7 * t.b / 8 + 2 * f + 1) _ rfl HB3.out).mono ?_
    rintro e w4 ⟨rfl, hB4, hG4⟩
    go_end0
    refine ⟨rfl, ?_, grown_more G3.out hG4⟩
    rw [HE.out]
    exact hB4
  · rw [hth] at TH
    have HE : Hid (clean m t = t) := hide (by unfold clean; rw [if_neg (by rw [hth]; decide)])
    go_enter Try.func40, Try.ntmps40
    go_wp2_with (go_at_call 41; refine (TH.out _).mono ?_; rintro e w1 ⟨rfl, hb1⟩)
    refine bodyPost_ret (results_none rfl _ _ _) rfl ?_
    refine ⟨rfl, ?_, grown_after G0.out hb1⟩
    rw [HE.out]
    exact HB0.out.after hb1
set_option maxHeartbeats 1000000 in
theorem heading_any (w : World) (B : Nat) (t : Co) (hB : Blk w B (cC t) 82) : Calls Try.prog 22 #[.pointer (some ⟨B, 0, none⟩)] w fun e w' => e = .returned (.tuple #[.int .i64 t.h, .int .i64 t.b, .bool (cgd t)]) ∧ ∃ k, w' = w.drewN k := by
  obtain ⟨b1, b4, b5⟩ := cc4 hB
  have FR := hide (fun k => fresh_any (w.drewN k) B _ _ t.st t.kn t.q0 t.q1 (blk_drewN hB k) rfl rfl rfl rfl)
  have HG : Hid (cgd t = ((t.kn && decide (imax t.q0 t.q1 ≤ t.st)) && decide (t.b < 65536))) := hide rfl
  obtain ⟨fr, hfr⟩ : ∃ fr, Hid ((t.kn && decide (imax t.q0 t.q1 ≤ t.st)) = fr) := ⟨_, hide rfl⟩
  rw [hfr.out] at FR HG
  rw [HG.out]
  have FQ : Hid (∀ k, Calls Try.prog 37 #[.pointer (some ⟨B, 0, none⟩)] (w.drewN k) fun e w' => e = .returned (.bool fr) ∧ ∃ k, w' = w.drewN k) := hide (fun k => (FR.out k).mono fun e w' ⟨h1, k2, h2⟩ => ⟨h1, k + k2, by rw [h2, drewN_drewN]⟩)
  clear hB HG hfr FR
  cases fr
  · go_enter Try.func22, Try.ntmps22
    go_wp2_with fail
    go_quiet ((go_at_call 37; exact FQ.out _))
    go_wp2_with fail
    (try simp only [Exit.inBlock, Exit.then])
    refine bodyPost_ret (results_three rfl _ _ _) rfl ?_
    exact ⟨rfl, _, rfl⟩
  · go_enter Try.func22, Try.ntmps22
    go_wp2_with fail
    go_quiet ((go_at_call 37; exact FQ.out _))
    go_wp2_with fail
    (try simp only [Exit.inBlock, Exit.then])
    refine bodyPost_ret (results_three rfl _ _ _) rfl ?_
    exact ⟨rfl, _, rfl⟩
end Go.Proofs.Ytgadpalkchillaa
