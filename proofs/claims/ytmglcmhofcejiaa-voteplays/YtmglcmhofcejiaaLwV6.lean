/- VotePlays. -/
import Derived.Test.YtmglcmhofcejiaaVr3
namespace Go.Proofs.Ytmglcmhofcejiaa
open Go.RowKit Go.Great

/-- from here on more may be held -/
theorem held_more {P : Program} {md : Region.Mode} {ops : Array Oper} {Q : Exit → Act → World → Prop} {S S' : World → Prop} (hs : ∀ w, S' w → S w) : ∀ (fuel : Nat) (listed : Array Bool) (a : Act) (w : World), wpAnyH P md ops Q S' fuel listed a w → wpAnyH P md ops Q S fuel listed a w
  | 0, _, _, _, h => h
  | fuel + 1, _, _, _, h => ⟨h.1, fun i hi => wpOp_mono (fun a' w' h' => ⟨hs _ h'.1, held_more hs fuel _ a' w' h'.2⟩) (h.2 i hi)⟩
set_option maxHeartbeats 2000000 in
set_option maxRecDepth 100000 in
theorem plays_no (s p : Int) (tv : Value) (w : World) (h1 : s < 0 ∨ 65534 < s ∨ p < 0) : Calls Try.prog 3 #[.int .i64 s, .int .i64 p, tv] w fun e w' => e = .returned (.bool true) ∧ Below w.heap.size w w' := by
  have RN : Hid (Calls Try.prog 10 #[.int .i64 s, .int .i64 p] w fun e w' => e = .returned (.tuple #[.agg #[.int .i64 0, .int .i64 0, .int .i64 0, .int .i64 0, .int .i64 0, .int .i64 0, .int .i64 0, .int .i64 0, .int .i64 0], .int .i64 1]) ∧ Below w.heap.size w w') := hide (rnew_no w s p h1)
  go_enter Try.func3, Try.ntmps3
  go_wp2_with (first
      | (go_at_call 9; refine (new_no w s p h1).mono ?_; rintro e w' ⟨rfl, hw'⟩; obtain rfl := hw'.symm)
      | (go_at_call 10; refine RN.out.mono ?_; rintro e w1 ⟨rfl, hb1⟩)
      | (go_at_call 11; refine (awakeV _).mono ?_; rintro e w2 ⟨rfl, hb2⟩))
  go_ret
  exact ⟨rfl, below_next hb1 (Nat.le_refl _) (below_over hb2)⟩
set_option maxHeartbeats 4000000 in
set_option maxRecDepth 100000 in
theorem plays_yes (s p : Int) (tv : Value) (L : List Un) (w : World) (hs0 : 0 ≤ s) (hs1 : s ≤ 65534) (hp0 : 0 ≤ p) (hp1 : p ≤ 9223372036854775807) (hT : Tks w tv L) : Calls Try.prog 3 #[.int .i64 s, .int .i64 p, tv] w fun e w' => e = .returned (.bool true) ∧ Below w.heap.size w w' := by
  have HT := hide hT
  have hmax := hT.2.1
  unfold maxLen at hmax
  obtain ⟨_, _, ta, tc, rfl, _⟩ := hT
  obtain ⟨n, hn⟩ : ∃ n, Hid (L.length = n) := ⟨_, hide rfl⟩
  rw [hn.out] at HT hmax ⊢
  have HO := hide (vN_ok hs0 hs1 hp0 hp1)
  go_enter Try.func3, Try.ntmps3
  go_upto_region 2 with (go_at_call 9; refine (new_any w s p hs0 hs1 hp0).mono ?_; rintro e w1 ⟨B, rfl, hB, hb1, hBw⟩)
  have HB : Hid (Blk w1 B (vC (vN s p)) 53) := hide hB
  have Hb1 := hide hb1
  clear hB hb1
  have RN : Hid (Calls Try.prog 10 #[.int .i64 s, .int .i64 p] w1 fun e w' => e = .returned (.tuple #[.agg #[.int .i64 s, .int .i64 p, .int .i64 0, .int .i64 0, .int .i64 0, .int .i64 65535, .int .i64 65535, .int .i64 65535, .int .i64 0], .int .i64 0]) ∧ Below w1.heap.size w1 w') := hide (rnew_any w1 s p hs0 hs1 hp0)
  go_upto_region 3 with (go_at_call 10; refine RN.out.mono ?_; rintro e w2 ⟨rfl, hb2⟩)
  replace HB := hide (HB.out.after hb2)
  replace Hb1 := hide (below_next Hb1.out (Nat.le_refl _) hb2)
  have HX : Hid (Blk (w2.alloc (.cells #[.int .i64 s, .int .i64 p, .int .i64 0, .int .i64 0, .int .i64 0, .int .i64 65535, .int .i64 65535, .int .i64 65535, .int .i64 0] 29)) w2.heap.size (vC (vN s p)) 29) := hide (Blk.new w2 _ _)
  have hXB : ¬ B = w2.heap.size := by have := HB.out.lt; omega
  have hXw : w.heap.size ≤ w2.heap.size := Hb1.out.size
  replace HB := hide (HB.out.alloc (.cells #[.int .i64 s, .int .i64 p, .int .i64 0, .int .i64 0, .int .i64 0, .int .i64 65535, .int .i64 65535, .int .i64 65535, .int .i64 0] 29))
  replace Hb1 := hide (Hb1.out.alloc Hb1.out.size (.cells #[.int .i64 s, .int .i64 p, .int .i64 0, .int .i64 0, .int .i64 0, .int .i64 65535, .int .i64 65535, .int .i64 65535, .int .i64 0] 29))
  clear hb2 RN
  generalize w2.heap.size = X at *
  generalize w2.alloc (.cells #[.int .i64 s, .int .i64 p, .int .i64 0, .int .i64 0, .int .i64 0, .int .i64 65535, .int .i64 65535, .int .i64 65535, .int .i64 0] 29) = W1 at *
  have x5 : ∀ z : BelowW W1, z.q.cell? ⟨X, 5, none⟩ = some (.int .i64 65535) := fun z => z.cell (vc5 HX.out) HX.out.lt
  have x6 : ∀ z : BelowW W1, z.q.cell? ⟨X, 6, none⟩ = some (.int .i64 65535) := fun z => z.cell (vc6 HX.out) HX.out.lt
  have x7 : ∀ z : BelowW W1, z.q.cell? ⟨X, 7, none⟩ = some (.int .i64 65535) := fun z => z.cell (vc7 HX.out) HX.out.lt
  have hne : Nonempty (BelowW W1) := ⟨⟨W1, Below.refl _ _⟩⟩
  have na := neq_arr
  have AG : Hid (∀ z : BelowW W1, Calls Try.prog 12 #[.pointer (some ⟨B, 0, none⟩)] z.q fun e w' => e = .returned (.agg #[.int .i64 65535, .int .i64 65535, .int .i64 65535]) ∧ Below z.q.heap.size z.q w') := hide (fun z => ages_any z.q B (vN s p) (HB.out.after z.h))
  have SP : Hid (∀ z : BelowW W1, Calls Try.prog 13 #[.pointer (some ⟨B, 0, none⟩)] z.q fun e w' => e = .returned (.int .i64 0) ∧ w' = z.q) := hide (fun z => splits_any z.q B (vN s p) (HB.out.after z.h))
  go_wp2_with fail
  refine wp_region_calm (by kernel_rfl) (by kernel_rfl) ?_
  repeat (go_big_quiet_step (first
    | (go_at_call 12; exact calm_of (AG.out _))
    | (go_at_call 13; exact calm_same (SP.out _))))
  refine wpQuiet_nil ?_
  rintro _ ⟨z, rfl⟩
  go_wp2_with fail
  clear x5 x6 x7 hne AG SP
  go_loopw [11] (fun vi wr => ∃ (i : Nat) (t : Vt), vi = .int .i64 (i : Int) ∧ i ≤ n ∧ VOk t ∧ Blk wr B (vC t) 53 ∧ Blk wr X (vC t) 29 ∧ Below w.heap.size w wr) (fun v _ => n - (intOf v).toNat)
  case atStart => exact ⟨0, vN s p, rfl, by omega, HO.out, HB.out.after z.h, HX.out.after z.h, below_next Hb1.out (Nat.le_refl _) z.h⟩
  case round =>
    clear HB HX Hb1
    obtain ⟨i, t, rfl, hi, hok, hB, hX, hb⟩ := hrel
    have HOK := hide hok
    have HB := hide hB
    have HX := hide hX
    have Hb1 := hide hb
    clear hok hB hX hb
    by_cases hlt : i < n
    · obtain ⟨g, o, cap, u, e1, hg, hv, hvo, hcells⟩ := HT.out.get i (by rw [hn.out]; exact hlt)
      have HC := hide hcells
      injection e1 with e1 e2 e3
      subst e1 e3
      clear hv e2 hcells
      have HVO := hide hvo
      clear hvo
      obtain ⟨ok, hok⟩ : ∃ ok, Hid (sok u t = ok) := ⟨_, hide rfl⟩
      obtain ⟨y, hy⟩ : ∃ y, Hid (sx u t = y) := ⟨_, hide rfl⟩
      obtain ⟨t1, ht1⟩ : ∃ t1, Hid (stp u t = t1) := ⟨_, hide rfl⟩
      have O1 := hide (stp_ok HVO.out HOK.out)
      rw [ht1.out] at O1
      obtain ⟨oi, hoi⟩ : ∃ oi, Hid (o + i * 6 = oi) := ⟨_, hide rfl⟩
      have ST : Hid (∀ wx, Blk wx B (vC t) 53 → Calls Try.prog 14 #[.pointer (some ⟨B, 0, none⟩), .agg #[.bool (u.o 0), .int .i64 (u.x 0), .bool (u.o 1), .int .i64 (u.x 1), .bool (u.o 2), .int .i64 (u.x 2)]] wx fun e w' => e = .returned (.agg #[.bool ok, .int .i64 y]) ∧ Blk w' B (vC t1) 53 ∧ wx.grownBy w' (some B)) := hide (fun wx h => by
        have := step_any wx B t u h HOK.out HVO.out
        rw [hok.out, hy.out, ht1.out] at this
        exact this)
      have RS : Hid (∀ wx, Blk wx X (vC t) 29 → Calls Try.prog 15 #[.pointer (some ⟨X, 0, none⟩), .agg #[.bool (u.o 0), .int .i64 (u.x 0), .bool (u.o 1), .int .i64 (u.x 1), .bool (u.o 2), .int .i64 (u.x 2)]] wx fun e w' => e = .returned (.agg #[.bool ok, .int .i64 y]) ∧ Blk w' X (vC t1) 29 ∧ wx.grownBy w' (some X)) := hide (fun wx h => by
        have := rstep_any wx X t u h HOK.out HVO.out
        rw [hok.out, hy.out, ht1.out] at this
        exact this)
      have TC : Hid (∀ wx, Below w.heap.size w wx → wx.cell? ⟨g, o + i * 6, none⟩ = some (.bool (u.o 0)) ∧ wx.cell? ⟨g, o + i * 6 + 1, none⟩ = some (.int .i64 (u.x 0)) ∧ wx.cell? ⟨g, o + i * 6 + 2, none⟩ = some (.bool (u.o 1)) ∧ wx.cell? ⟨g, o + i * 6 + 3, none⟩ = some (.int .i64 (u.x 1)) ∧ wx.cell? ⟨g, o + i * 6 + 4, none⟩ = some (.bool (u.o 2)) ∧ wx.cell? ⟨g, o + i * 6 + 5, none⟩ = some (.int .i64 (u.x 2))) := hide (fun wx hb =>
        ⟨(hb.cell (p := ⟨g, _, none⟩) hg).trans HC.out.1, (hb.cell (p := ⟨g, _, none⟩) hg).trans HC.out.2.1, (hb.cell (p := ⟨g, _, none⟩) hg).trans HC.out.2.2.1, (hb.cell (p := ⟨g, _, none⟩) hg).trans HC.out.2.2.2.1, (hb.cell (p := ⟨g, _, none⟩) hg).trans HC.out.2.2.2.2.1, (hb.cell (p := ⟨g, _, none⟩) hg).trans HC.out.2.2.2.2.2⟩)
      clear hok hy ht1 HC
      have q := TC.out wr Hb1.out
      go_wp2_with fail
      refine wp_region_held_drew (S := fun wx => wx.cell? ⟨g, o + i * 6, none⟩ = some (.bool (u.o 0)) ∧ wx.cell? ⟨g, o + i * 6 + 1, none⟩ = some (.int .i64 (u.x 0)) ∧ wx.cell? ⟨g, o + i * 6 + 2, none⟩ = some (.bool (u.o 1)) ∧ wx.cell? ⟨g, o + i * 6 + 3, none⟩ = some (.int .i64 (u.x 1)) ∧ wx.cell? ⟨g, o + i * 6 + 4, none⟩ = some (.bool (u.o 2)) ∧ wx.cell? ⟨g, o + i * 6 + 5, none⟩ = some (.int .i64 (u.x 2))) (by kernel_rfl) (q) (fun hHeld => ?_)
      refine take_at (i := 0) (v := .pointer (some ⟨B, 0, none⟩)) (d := some 53) rfl rfl (by kernel_rfl) (by kernel_rfl) (by kernel_rfl) (fun _ _ _ h => h) (Or.inl ⟨by rfl, fun wS ⟨hS0, hS1, hS2, hS3, hS4, hS5⟩ => by go_simp; all_goals (rw [IntKind.wrap_i64]; omega)⟩) (by assumption) ?_
      simp only [Act.put, List.setIfInBounds_toArray, List.set_cons_zero, List.set_cons_succ]
      refine take_at (i := 1) (v := .slice (some ⟨g, o, none⟩) n tc) (d := some 54) rfl rfl (by kernel_rfl) (by kernel_rfl) (by kernel_rfl) (fun _ _ _ h => h) (Or.inl ⟨by rfl, fun wS ⟨hS0, hS1, hS2, hS3, hS4, hS5⟩ => by go_simp; all_goals (rw [IntKind.wrap_i64]; omega)⟩) (by assumption) ?_
      simp only [Act.put, List.setIfInBounds_toArray, List.set_cons_zero, List.set_cons_succ]
      refine take_at (i := 2) (v := .int .i64 (i : Int)) (d := some 55) rfl rfl (by kernel_rfl) (by kernel_rfl) (by kernel_rfl) (fun _ _ _ h => h) (Or.inl ⟨by rfl, fun wS ⟨hS0, hS1, hS2, hS3, hS4, hS5⟩ => by go_simp; all_goals (rw [IntKind.wrap_i64]; omega)⟩) (by assumption) ?_
      simp only [Act.put, List.setIfInBounds_toArray, List.set_cons_zero, List.set_cons_succ]
      refine take_at (i := 3) (v := .pointer (some ⟨g, o + i * 6, none⟩)) (d := some 56) rfl rfl (by kernel_rfl) (by kernel_rfl) (by kernel_rfl) (fun _ _ _ h => h) (Or.inl ⟨by rfl, fun wS ⟨hS0, hS1, hS2, hS3, hS4, hS5⟩ => by go_simp; all_goals (rw [IntKind.wrap_i64]; omega)⟩) (by assumption) ?_
      simp only [Act.put, List.setIfInBounds_toArray, List.set_cons_zero, List.set_cons_succ]
      refine take_at (i := 4) (v := .agg #[.bool (u.o 0), .int .i64 (u.x 0), .bool (u.o 1), .int .i64 (u.x 1), .bool (u.o 2), .int .i64 (u.x 2)]) (d := some 57) rfl rfl (by kernel_rfl) (by kernel_rfl) (by kernel_rfl) (fun _ _ _ h => h) (Or.inl ⟨by rfl, fun wS ⟨hS0, hS1, hS2, hS3, hS4, hS5⟩ => by go_simp; all_goals (rw [IntKind.wrap_i64]; omega)⟩) (by assumption) ?_
      simp only [Act.put, List.setIfInBounds_toArray, List.set_cons_zero, List.set_cons_succ]
      refine take_at (i := 6) (v := .slice (some ⟨g, o, none⟩) n tc) (d := some 59) rfl rfl (by kernel_rfl) (by kernel_rfl) (by kernel_rfl) (fun _ _ _ h => h) (Or.inl ⟨by rfl, fun wS ⟨hS0, hS1, hS2, hS3, hS4, hS5⟩ => by go_simp; all_goals (rw [IntKind.wrap_i64]; omega)⟩) (by assumption) ?_
      simp only [Act.put, List.setIfInBounds_toArray, List.set_cons_zero, List.set_cons_succ]
      refine take_at (i := 7) (v := .int .i64 (i : Int)) (d := some 60) rfl rfl (by kernel_rfl) (by kernel_rfl) (by kernel_rfl) (fun _ _ _ h => h) (Or.inl ⟨by rfl, fun wS ⟨hS0, hS1, hS2, hS3, hS4, hS5⟩ => by go_simp; all_goals (rw [IntKind.wrap_i64]; omega)⟩) (by assumption) ?_
      simp only [Act.put, List.setIfInBounds_toArray, List.set_cons_zero, List.set_cons_succ]
      refine take_at (i := 8) (v := .pointer (some ⟨g, o + i * 6, none⟩)) (d := some 61) rfl rfl (by kernel_rfl) (by kernel_rfl) (by kernel_rfl) (fun _ _ _ h => h) (Or.inl ⟨by rfl, fun wS ⟨hS0, hS1, hS2, hS3, hS4, hS5⟩ => by go_simp; all_goals (rw [IntKind.wrap_i64]; omega)⟩) (by assumption) ?_
      simp only [Act.put, List.setIfInBounds_toArray, List.set_cons_zero, List.set_cons_succ]
      refine take_at (i := 9) (v := .agg #[.bool (u.o 0), .int .i64 (u.x 0), .bool (u.o 1), .int .i64 (u.x 1), .bool (u.o 2), .int .i64 (u.x 2)]) (d := some 62) rfl rfl (by kernel_rfl) (by kernel_rfl) (by kernel_rfl) (fun _ _ _ h => h) (Or.inl ⟨by rfl, fun wS ⟨hS0, hS1, hS2, hS3, hS4, hS5⟩ => by go_simp; all_goals (rw [IntKind.wrap_i64]; omega)⟩) (by assumption) ?_
      simp only [Act.put, List.setIfInBounds_toArray, List.set_cons_zero, List.set_cons_succ]
      clear hHeld
      refine wpAnyH_ready (rs := [5]) (by kernel_rfl) (by simp) ?_
      refine AllReadyH.cons rfl (fun K hK => ?_) AllReadyH.nil
      go_simp
      refine (ST.out wr.drew HB.out).mono ?_
      rintro e w5 ⟨rfl, hB5, hG5⟩
      have B5 := hide hB5
      have X5 := hide (Blk.grown (w := wr.drew) HX.out hG5 (fun e => by injection e with e; exact hXB e))
      have b5 := hide (grown_over (w := w) (w1 := wr.drew) Hb1.out.drew hG5 (fun q e => by injection e with e; omega))
      clear hB5 hG5
      refine hK.out _ _ (TC.out _ b5.out) (fun hHeld => ?_)
      clear hK K hHeld
      refine wpAnyH_ready (rs := [10]) (by kernel_rfl) (by simp) ?_
      refine AllReadyH.cons rfl (fun K hK => ?_) AllReadyH.nil
      go_simp
      refine (RS.out _ X5.out).mono ?_
      rintro e w6 ⟨rfl, hX6, hG6⟩
      have X6 := hide hX6
      have B6 := hide (B5.out.grown hG6 (fun e => by injection e with e; exact hXB e.symm))
      have b6 := hide (grown_over (w := w) b5.out hG6 (fun q e => by injection e with e; omega))
      clear hX6 hG6
      refine hK.out _ _ (TC.out _ b6.out) (fun hHeld => ?_)
      clear hK K
      refine take_at (i := 11) (v := .bool false) (d := some 64) rfl rfl (by kernel_rfl) (by kernel_rfl) (by kernel_rfl) (fun _ _ _ h => h) (Or.inl ⟨by rfl, fun wS ⟨hS0, hS1, hS2, hS3, hS4, hS5⟩ => by go_simp; all_goals (rw [IntKind.wrap_i64]; omega)⟩) (by assumption) ?_
      simp only [Act.put, List.setIfInBounds_toArray, List.set_cons_zero, List.set_cons_succ]
      refine take_at (i := 12) (v := .bool false) (d := some 65) rfl rfl (by kernel_rfl) (by kernel_rfl) (by kernel_rfl) (fun _ _ _ h => h) (Or.inl ⟨by rfl, fun wS ⟨hS0, hS1, hS2, hS3, hS4, hS5⟩ => by go_simp; all_goals (rw [IntKind.wrap_i64]; omega)⟩) (by assumption) ?_
      simp only [Act.put, List.setIfInBounds_toArray, List.set_cons_zero, List.set_cons_succ]
      clear hHeld
      have XS : Hid (∀ wx, Blk wx X (vC t1) 29 → wx.cell? ⟨X, 5, none⟩ = some (.int .i64 (t1.a 0)) ∧ wx.cell? ⟨X, 6, none⟩ = some (.int .i64 (t1.a 1)) ∧ wx.cell? ⟨X, 7, none⟩ = some (.int .i64 (t1.a 2)) ∧ wx.cell? ⟨X, 8, none⟩ = some (.int .i64 t1.n)) := hide (fun wx h => ⟨vc5 h, vc6 h, vc7 h, vc8 h⟩)
      refine held_more (S' := fun wx => (wx.cell? ⟨g, o + i * 6, none⟩ = some (.bool (u.o 0)) ∧ wx.cell? ⟨g, o + i * 6 + 1, none⟩ = some (.int .i64 (u.x 0)) ∧ wx.cell? ⟨g, o + i * 6 + 2, none⟩ = some (.bool (u.o 1)) ∧ wx.cell? ⟨g, o + i * 6 + 3, none⟩ = some (.int .i64 (u.x 1)) ∧ wx.cell? ⟨g, o + i * 6 + 4, none⟩ = some (.bool (u.o 2)) ∧ wx.cell? ⟨g, o + i * 6 + 5, none⟩ = some (.int .i64 (u.x 2))) ∧ wx.cell? ⟨X, 5, none⟩ = some (.int .i64 (t1.a 0)) ∧ wx.cell? ⟨X, 6, none⟩ = some (.int .i64 (t1.a 1)) ∧ wx.cell? ⟨X, 7, none⟩ = some (.int .i64 (t1.a 2)) ∧ wx.cell? ⟨X, 8, none⟩ = some (.int .i64 t1.n)) (fun _ h => h.1) _ _ _ _ ?_
      have hHeld := And.intro (TC.out _ b6.out) (XS.out _ X6.out)
      refine take_at (i := 13) (v := .pointer (some ⟨B, 0, none⟩)) (d := some 66) rfl rfl (by kernel_rfl) (by kernel_rfl) (by kernel_rfl) (fun _ _ _ h => h) (Or.inl ⟨by rfl, fun wS ⟨hS0, hS1, hS2, hS3, hS4⟩ => by go_simp; all_goals (rw [IntKind.wrap_i64]; omega)⟩) (by assumption) ?_
      simp only [Act.put, List.setIfInBounds_toArray, List.set_cons_zero, List.set_cons_succ]
      refine take_at (i := 15) (v := .pointer (some ⟨X, 5, none⟩)) (d := some 68) rfl rfl (by kernel_rfl) (by kernel_rfl) (by kernel_rfl) (fun _ _ _ h => h) (Or.inl ⟨by rfl, fun wS ⟨hS0, hS1, hS2, hS3, hS4⟩ => by go_simp; all_goals (rw [IntKind.wrap_i64]; omega)⟩) (by assumption) ?_
      simp only [Act.put, List.setIfInBounds_toArray, List.set_cons_zero, List.set_cons_succ]
      refine take_at (i := 16) (v := .agg #[.int .i64 (t1.a 0), .int .i64 (t1.a 1), .int .i64 (t1.a 2)]) (d := some 69) rfl rfl (by kernel_rfl) (by kernel_rfl) (by kernel_rfl) (fun _ _ _ h => h) (Or.inl ⟨by rfl, fun wS ⟨hS0, hS1, hS2, hS3, hS4⟩ => by go_simp; all_goals (rw [IntKind.wrap_i64]; omega)⟩) (by assumption) ?_
      simp only [Act.put, List.setIfInBounds_toArray, List.set_cons_zero, List.set_cons_succ]
      clear hHeld
      refine wpAnyH_ready (rs := [14]) (by kernel_rfl) (by simp) ?_
      refine AllReadyH.cons rfl (fun K hK => ?_) AllReadyH.nil
      go_simp
      refine (ages_any _ B t1 B6.out).mono ?_
      rintro e w7 ⟨rfl, h7⟩
      have X7 := hide (X6.out.after h7)
      have B7 := hide (B6.out.after h7)
      have b7 := hide (below_next b6.out (Nat.le_refl _) h7)
      clear h7
      refine hK.out _ _ (And.intro (TC.out _ b7.out) (XS.out _ X7.out)) (fun hHeld => ?_)
      clear hK K
      refine take_at (i := 17) (v := .bool false) (d := some 70) rfl rfl (by kernel_rfl) (by kernel_rfl) (by kernel_rfl) (fun _ _ _ h => h) (Or.inl ⟨by rfl, fun wS ⟨hS0, hS1, hS2, hS3, hS4⟩ => by go_simp; all_goals (rw [IntKind.wrap_i64]; omega)⟩) (by assumption) ?_
      simp only [Act.put, List.setIfInBounds_toArray, List.set_cons_zero, List.set_cons_succ]
      refine take_at (i := 18) (v := .bool false) (d := some 71) rfl rfl (by kernel_rfl) (by kernel_rfl) (by kernel_rfl) (fun _ _ _ h => h) (Or.inl ⟨by rfl, fun wS ⟨hS0, hS1, hS2, hS3, hS4⟩ => by go_simp; all_goals (rw [IntKind.wrap_i64]; omega)⟩) (by assumption) ?_
      simp only [Act.put, List.setIfInBounds_toArray, List.set_cons_zero, List.set_cons_succ]
      refine take_at (i := 19) (v := .bool false) (d := some 72) rfl rfl (by kernel_rfl) (by kernel_rfl) (by kernel_rfl) (fun _ _ _ h => h) (Or.inl ⟨by rfl, fun wS ⟨hS0, hS1, hS2, hS3, hS4⟩ => by go_simp; all_goals (rw [IntKind.wrap_i64]; omega)⟩) (by assumption) ?_
      simp only [Act.put, List.setIfInBounds_toArray, List.set_cons_zero, List.set_cons_succ]
      refine take_at (i := 20) (v := .pointer (some ⟨B, 0, none⟩)) (d := some 73) rfl rfl (by kernel_rfl) (by kernel_rfl) (by kernel_rfl) (fun _ _ _ h => h) (Or.inl ⟨by rfl, fun wS ⟨hS0, hS1, hS2, hS3, hS4⟩ => by go_simp; all_goals (rw [IntKind.wrap_i64]; omega)⟩) (by assumption) ?_
      simp only [Act.put, List.setIfInBounds_toArray, List.set_cons_zero, List.set_cons_succ]
      refine take_at (i := 22) (v := .pointer (some ⟨X, 8, none⟩)) (d := some 75) rfl rfl (by kernel_rfl) (by kernel_rfl) (by kernel_rfl) (fun _ _ _ h => h) (Or.inl ⟨by rfl, fun wS ⟨hS0, hS1, hS2, hS3, hS4⟩ => by go_simp; all_goals (rw [IntKind.wrap_i64]; omega)⟩) (by assumption) ?_
      simp only [Act.put, List.setIfInBounds_toArray, List.set_cons_zero, List.set_cons_succ]
      refine take_at (i := 23) (v := .int .i64 t1.n) (d := some 76) rfl rfl (by kernel_rfl) (by kernel_rfl) (by kernel_rfl) (fun _ _ _ h => h) (Or.inl ⟨by rfl, fun wS ⟨hS0, hS1, hS2, hS3, hS4⟩ => by go_simp; all_goals (rw [IntKind.wrap_i64]; omega)⟩) (by assumption) ?_
      simp only [Act.put, List.setIfInBounds_toArray, List.set_cons_zero, List.set_cons_succ]
      clear hHeld
      refine wpAnyH_ready (rs := [21]) (by kernel_rfl) (by simp) ?_
      refine AllReadyH.cons rfl (fun K hK => ?_) AllReadyH.nil
      go_simp
      refine (splits_any _ B t1 B7.out).mono ?_
      rintro e w8 ⟨rfl, hw8⟩
      obtain rfl := hw8.symm
      refine hK.out _ _ (And.intro (TC.out _ b7.out) (XS.out _ X7.out)) (fun hHeld => ?_)
      clear hK K
      refine take_at (i := 24) (v := .bool false) (d := some 77) rfl rfl (by kernel_rfl) (by kernel_rfl) (by kernel_rfl) (fun _ _ _ h => h) (Or.inl ⟨by rfl, fun wS ⟨hS0, hS1, hS2, hS3, hS4⟩ => by go_simp; all_goals (rw [IntKind.wrap_i64]; omega)⟩) (by assumption) ?_
      simp only [Act.put, List.setIfInBounds_toArray, List.set_cons_zero, List.set_cons_succ]
      refine take_at (i := 25) (v := .bool false) (d := some 78) rfl rfl (by kernel_rfl) (by kernel_rfl) (by kernel_rfl) (fun _ _ _ h => h) (Or.inl ⟨by rfl, fun wS ⟨hS0, hS1, hS2, hS3, hS4⟩ => by go_simp; all_goals (rw [IntKind.wrap_i64]; omega)⟩) (by assumption) ?_
      simp only [Act.put, List.setIfInBounds_toArray, List.set_cons_zero, List.set_cons_succ]
      refine wpAnyH_done (by kernel_rfl) ?_ _
      clear hHeld
      go_wp2_with fail
      go_roundw
      case rel => exact ⟨i + 1, t1, by go_num, by omega, O1.out, B7.out, X7.out, b7.out⟩
      case measure => simp [intOf]; omega
    · obtain rfl : i = n := by omega
      go_wp2_with (go_at_call 11; refine (awakeV _).mono ?_; rintro e w5 ⟨rfl, hb5⟩)
      go_ret
      exact ⟨rfl, below_next Hb1.out (Nat.le_refl _) hb5⟩
theorem VotePlays_walk (s p : Int) (tv : Value) (w : World) (hp : I64 p) (hT : ∃ L, Tks w tv L) : Calls Try.prog 3 #[.int .i64 s, .int .i64 p, tv] w fun e w' => e = .returned (.bool true) ∧ Below w.heap.size w w' := by
  obtain ⟨L, hT⟩ := hT
  by_cases h : s < 0 ∨ 65534 < s ∨ p < 0
  · exact plays_no s p tv w h
  · exact plays_yes s p tv L w (by omega) (by omega) (by omega) hp.2 hT
end Go.Proofs.Ytmglcmhofcejiaa
