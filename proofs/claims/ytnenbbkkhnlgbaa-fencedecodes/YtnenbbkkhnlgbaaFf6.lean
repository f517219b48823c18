/- The document's Decode, whole. -/
import Derived.Test.YtnenbbkkhnlgbaaFf5
namespace Go.Proofs.Ytnenbbkkhnlgbaa
open Go.RowKit Go.Great

set_option maxRecDepth 100000 in
set_option maxHeartbeats 4000000 in
theorem rdecode_any (s : ByteArray) (hs : s.size ≤ 4611686018427387904) (w : World) : Calls Try.prog 30 #[.string s] w fun e w' => ∃ p r, e = .returned (.tuple #[fV p (decA s.data.toList).fl (decA s.data.toList).ce r, .int .i64 (decE s.data.toList)]) ∧ Pts w' p (decA s.data.toList).P ∧ Pts w' r (decA s.data.toList).R ∧ Below w.heap.size w w' := by
  have hln : s.data.toList.length = s.size := by simp
  have HNO : Hid (¬ (s.size = 1 + 8 * rN s.data.toList + 9 + 8 * rM s.data.toList) → decE s.data.toList = 3 ∧ decA s.data.toList = ⟨[], 0, 0, []⟩) := fun h => by
    have hE := dec_no (l := s.data.toList) (by rw [hln]; exact h)
    exact ⟨hE, by unfold decA; rw [if_neg (by rw [hE]; decide)]⟩
  have HYE : Hid (s.size = 1 + 8 * rN s.data.toList + 9 + 8 * rM s.data.toList → decE s.data.toList = chk (lAt s.data.toList 1 (rN s.data.toList)) (nAt s.data.toList (1 + 8 * rN s.data.toList)) (nAt s.data.toList (1 + 8 * rN s.data.toList + 4)) (lAt s.data.toList (1 + 8 * rN s.data.toList + 9) (rM s.data.toList)) ∧ (decE s.data.toList = 0 → decA s.data.toList = ⟨lAt s.data.toList 1 (rN s.data.toList), nAt s.data.toList (1 + 8 * rN s.data.toList), nAt s.data.toList (1 + 8 * rN s.data.toList + 4), lAt s.data.toList (1 + 8 * rN s.data.toList + 9) (rM s.data.toList)⟩) ∧ (decE s.data.toList ≠ 0 → decA s.data.toList = ⟨[], 0, 0, []⟩)) := fun h => by
    obtain ⟨h1, h2⟩ := dec_at (l := s.data.toList) (by rw [hln]; exact h)
    exact ⟨h1, h2, fun h3 => by unfold decA; rw [if_neg h3]⟩
  have hn : rN s.data.toList ≤ 255 := by unfold rN; have := (s.data.toList.getD 0 0).toNat_lt; omega
  have hm : rM s.data.toList ≤ 255 := by unfold rM; have := (s.data.toList.getD (1 + 8 * rN s.data.toList + 8) 0).toNat_lt; omega
  have x0 : Hid (0 < s.size → ∀ wx, (Instr.index 9 (.string s) (.int .i64 0)).run Try.prog wx = .ok (.int .u8 (rN s.data.toList : Int)) wx) := fun h wx => str_ix s 0 0 rfl h wx
  have x1 : Hid (1 + 8 * rN s.data.toList + 9 ≤ s.size → ∀ wx, (Instr.index 9 (.string s) (.int .i64 (1 + 8 * (rN s.data.toList : Int) + 8))).run Try.prog wx = .ok (.int .u8 (rM s.data.toList : Int)) wx) := fun h wx => str_ix s _ (1 + 8 * rN s.data.toList + 8) (by omega) (by omega) wx
  have L1 : Hid (1 + 8 * rN s.data.toList ≤ s.size → ∀ W, Calls Try.prog 65 #[.string s, .int .i64 1, .int .i64 (rN s.data.toList : Int)] W fun e w' => ∃ v, e = .returned v ∧ PRow w' W.heap.size v (lAt s.data.toList 1 (rN s.data.toList)) ∧ Below W.heap.size W w') := fun h W => rlist_any s 1 _ h hn hs W
  have L2 : Hid (1 + 8 * rN s.data.toList + 9 + 8 * rM s.data.toList ≤ s.size → ∀ W, Calls Try.prog 65 #[.string s, .int .i64 (1 + 8 * (rN s.data.toList : Int) + 9), .int .i64 (rM s.data.toList : Int)] W fun e w' => ∃ v, e = .returned v ∧ PRow w' W.heap.size v (lAt s.data.toList (1 + 8 * rN s.data.toList + 9) (rM s.data.toList)) ∧ Below W.heap.size W w') := fun h W => by
    have := rlist_any s (1 + 8 * rN s.data.toList + 9) _ h hm hs W
    rw [show ((1 + 8 * rN s.data.toList + 9 : Nat) : Int) = 1 + 8 * (rN s.data.toList : Int) + 9 by omega] at this
    exact this
  have N1 : Hid (1 + 8 * rN s.data.toList + 9 ≤ s.size → ∀ W, Calls Try.prog 66 #[.string s, .int .i64 (1 + 8 * (rN s.data.toList : Int))] W fun e w' => e = .returned (.int .i64 (nAt s.data.toList (1 + 8 * rN s.data.toList))) ∧ Below W.heap.size W w') := fun h W => by
    have := rnumber_any s (1 + 8 * rN s.data.toList) (by omega) hs W
    rw [show ((1 + 8 * rN s.data.toList : Nat) : Int) = 1 + 8 * (rN s.data.toList : Int) by omega] at this
    exact this
  have N2 : Hid (1 + 8 * rN s.data.toList + 9 ≤ s.size → ∀ W, Calls Try.prog 66 #[.string s, .int .i64 (1 + 8 * (rN s.data.toList : Int) + 4)] W fun e w' => e = .returned (.int .i64 (nAt s.data.toList (1 + 8 * rN s.data.toList + 4))) ∧ Below W.heap.size W w') := fun h W => by
    have := rnumber_any s (1 + 8 * rN s.data.toList + 4) (by omega) hs W
    rw [show ((1 + 8 * rN s.data.toList + 4 : Nat) : Int) = 1 + 8 * (rN s.data.toList : Int) + 4 by omega] at this
    exact this
  have HL1 : Hid ((lAt s.data.toList 1 (rN s.data.toList)).length = rN s.data.toList) := lAt_len _ _ _
  have HL2 : Hid ((lAt s.data.toList (1 + 8 * rN s.data.toList + 9) (rM s.data.toList)).length = rM s.data.toList) := lAt_len _ _ _
  generalize lAt s.data.toList 1 (rN s.data.toList) = P at *
  generalize lAt s.data.toList (1 + 8 * rN s.data.toList + 9) (rM s.data.toList) = R at *
  generalize nAt s.data.toList (1 + 8 * rN s.data.toList) = fl at *
  generalize nAt s.data.toList (1 + 8 * rN s.data.toList + 4) = ce at *
  generalize decA s.data.toList = D at *
  generalize decE s.data.toList = E at *
  generalize rN s.data.toList = n at *
  generalize rM s.data.toList = m at *
  clear hln
  have f0 : IntKind.i64.wrap (n : Int) = (n : Int) := by rw [IntKind.wrap_i64] <;> omega
  have f1 : IntKind.i64.wrap (8 * (n : Int)) = 8 * (n : Int) := by rw [IntKind.wrap_i64] <;> omega
  have f2 : IntKind.i64.wrap (1 + 8 * (n : Int)) = 1 + 8 * (n : Int) := by rw [IntKind.wrap_i64] <;> omega
  have f3 : IntKind.i64.wrap (1 + 8 * (n : Int) + 9) = 1 + 8 * (n : Int) + 9 := by rw [IntKind.wrap_i64] <;> omega
  have f4 : IntKind.i64.wrap (1 + 8 * (n : Int) + 8) = 1 + 8 * (n : Int) + 8 := by rw [IntKind.wrap_i64] <;> omega
  have f5 : IntKind.i64.wrap (m : Int) = (m : Int) := by rw [IntKind.wrap_i64] <;> omega
  have f6 : IntKind.i64.wrap (8 * (m : Int)) = 8 * (m : Int) := by rw [IntKind.wrap_i64] <;> omega
  have f7 : IntKind.i64.wrap (1 + 8 * (n : Int) + 9 + 8 * (m : Int)) = 1 + 8 * (n : Int) + 9 + 8 * (m : Int) := by rw [IntKind.wrap_i64] <;> omega
  have f8 : IntKind.i64.wrap (1 + 8 * (n : Int) + 4) = 1 + 8 * (n : Int) + 4 := by rw [IntKind.wrap_i64] <;> omega
  obtain ⟨W0, hW0⟩ : ∃ W0, w.alloc (.cells #[.slice none 0 0, .int .i64 0, .int .i64 0, .slice none 0 0] 24) = W0 := ⟨_, rfl⟩
  have B0 : Blk W0 w.heap.size #[.slice none 0 0, .int .i64 0, .int .i64 0, .slice none 0 0] 24 := hW0 ▸ Blk.new w _ _
  have hB : Below w.heap.size w W0 := hW0 ▸ below_alloc w _
  have hz : w.heap.size < W0.heap.size := B0.lt
  have HB := hide hB
  have HB0 := hide B0
  have NO : Hid (∀ w1 a b c d, Blk w1 w.heap.size #[a, b, c, d] 24 → Below w.heap.size w w1 → w.heap.size ≤ w1.heap.size → ¬ (s.size = 1 + 8 * n + 9 + 8 * m) → ∃ p r, Ending.returned (.tuple #[.agg #[.slice none 0 0, .int .i64 0, .int .i64 0, .slice none 0 0], .int .i64 3]) = .returned (.tuple #[fV p D.fl D.ce r, .int .i64 E]) ∧ Pts ((((w1.setCell ⟨w.heap.size, 0, none⟩ (.slice none 0 0)).setCell ⟨w.heap.size, 1, none⟩ (.int .i64 0)).setCell ⟨w.heap.size, 2, none⟩ (.int .i64 0)).setCell ⟨w.heap.size, 3, none⟩ (.slice none 0 0)) p D.P ∧ Pts ((((w1.setCell ⟨w.heap.size, 0, none⟩ (.slice none 0 0)).setCell ⟨w.heap.size, 1, none⟩ (.int .i64 0)).setCell ⟨w.heap.size, 2, none⟩ (.int .i64 0)).setCell ⟨w.heap.size, 3, none⟩ (.slice none 0 0)) r D.R ∧ Below w.heap.size w ((((w1.setCell ⟨w.heap.size, 0, none⟩ (.slice none 0 0)).setCell ⟨w.heap.size, 1, none⟩ (.int .i64 0)).setCell ⟨w.heap.size, 2, none⟩ (.int .i64 0)).setCell ⟨w.heap.size, 3, none⟩ (.slice none 0 0))) := by
    intro w1 a b c d h1 h2 h3 h4
    obtain ⟨e1, e2⟩ := HNO.out h4
    subst e1 e2
    exact ⟨.slice none 0 0, .slice none 0 0, rfl, (PRow.nil _ 0).pts, (PRow.nil _ 0).pts, below_set4 h2 _ _ _ _ _ (Nat.le_refl _) h3⟩
  clear hB
  have m0 := B0.cell 0 rfl
  have m1 := B0.cell 1 rfl
  have m2 := B0.cell 2 rfl
  have m3 := B0.cell 3 rfl
  have fz := B0.frozen
  clear B0
  by_cases h1 : s.size < 1
  · clear HYE x0 x1 L1 L2 N1 N2
    go_enter Try.func30, Try.ntmps30
    go_wp2_with fail
    refine bodyPost_ret (fence_back Try.results30 _ _ w.heap.size _ _ _ _ _ rfl rfl (HB0.out.set4 _ _ _ _)) rfl ?_
    exact NO.out _ _ _ _ _ HB0.out HB.out (by omega) (by omega)
  have y0 := x0.out (by omega)
  clear x0
  by_cases h2 : s.size < 1 + 8 * n + 9
  · clear HYE x1 L1 L2 N1 N2
    have h2' : (s.size : Int) < 1 + 8 * (n : Int) + 9 := by omega
    go_enter Try.func30, Try.ntmps30
    go_wp2_with fail
    refine bodyPost_ret (fence_back Try.results30 _ _ w.heap.size _ _ _ _ _ rfl rfl (HB0.out.set4 _ _ _ _)) rfl ?_
    exact NO.out _ _ _ _ _ HB0.out HB.out (by omega) (by omega)
  have y1 := x1.out (by omega)
  have h2' : decide ((s.size : Int) < 1 + 8 * (n : Int) + 9) = false := by simp only [decide_eq_false_iff_not]; omega
  clear x1
  by_cases h3 : s.size = 1 + 8 * n + 9 + 8 * m
  · have h3' : ((s.size : Int) != 1 + 8 * (n : Int) + 9 + 8 * (m : Int)) = false := by simp; omega
    obtain ⟨hE, hD1, hD2⟩ := HYE.out h3
    have HE1 : Hid (E = 0 → D = ⟨P, fl, ce, R⟩) := hide hD1
    have HE2 : Hid (E ≠ 0 → D = ⟨[], 0, 0, []⟩) := hide hD2
    have l1 := L1.out (by omega)
    have l2 := L2.out (by omega)
    have k1 := N1.out (by omega)
    have k2 := N2.out (by omega)
    have CH := fun W (p r : Value) (h1 : Pts W p P) (h2 : Pts W r R) => rcheck_any P R fl ce p r W h1 h2 (by have := HL1.out; omega) (by have := HL2.out; omega)
    rw [← hE] at CH
    clear HYE L1 L2 N1 N2 hE hD1 hD2 HNO NO m0 m1 m2 m3 fz
    go_enter Try.func30, Try.ntmps30
    go_wp2_with fail
    refine (l1 _).mono ?_
    rintro e w1 ⟨p, rfl, hp, hb1⟩
    have B1 := HB0.out.after hb1
    have hp1 := hp
    have HB1 := below_next HB.out (Nat.le_refl _) hb1
    obtain ⟨ap, cp, rfl⟩ := hp.form
    rw [HL1.out] at hp1 hp ⊢
    clear hb1 HB HB0 l1 hW0 hp
    go_wp2_with fail
    refine (k1 _).mono ?_
    rintro e w2 ⟨rfl, hb2⟩
    replace B1 := B1.after hb2
    replace hp1 := hp1.below hb2
    replace HB1 := below_next HB1 (Nat.le_refl _) hb2
    clear hb2 k1
    go_wp2_with fail
    refine (k2 _).mono ?_
    rintro e w3 ⟨rfl, hb3⟩
    replace B1 := B1.after hb3
    replace hp1 := hp1.below hb3
    replace HB1 := below_next HB1 (Nat.le_refl _) hb3
    clear hb3 k2
    go_wp2_with fail
    refine (l2 _).mono ?_
    rintro e w4 ⟨r, rfl, hr, hb4⟩
    replace B1 := B1.after hb4
    replace hp1 := hp1.below hb4
    replace HB1 := below_next HB1 (Nat.le_refl _) hb4
    have hr1 := hr
    obtain ⟨ar, cr, rfl⟩ := hr.form
    rw [HL2.out] at hr1 hr ⊢
    clear hb4 l2 hr f0 f1 f2 f3 f4 f5 f6 f7 f8 y0 y1 h2' h3'
    obtain ⟨W5, hW5⟩ : ∃ W5, w4.alloc (.cells #[.slice ap n cp, .int .i64 fl, .int .i64 ce, .slice ar m cr] 24) = W5 := ⟨_, rfl⟩
    have B2 : Blk W5 w4.heap.size #[.slice ap n cp, .int .i64 fl, .int .i64 ce, .slice ar m cr] 24 := hW5 ▸ Blk.new w4 _ _
    have hb5 : Below w4.heap.size w4 W5 := hW5 ▸ below_alloc w4 _
    replace B1 := B1.after hb5
    replace hp1 := hp1.below hb5
    replace hr1 := hr1.below hb5
    replace HB1 := below_next HB1 (Nat.le_refl _) hb5
    clear hb5
    have a0 := B2.cell 0 rfl
    have a1 := B2.cell 1 rfl
    have a2 := B2.cell 2 rfl
    have a3 := B2.cell 3 rfl
    go_wp2_with fail
    clear a0 a1 a2 a3
    try rw [hW5]
    clear hW5
    refine (CH _ _ _ hp1.pts hr1.pts).mono ?_
    rintro e w6 ⟨rfl, hb6⟩
    replace B1 := B1.after hb6
    replace B2 := B2.after hb6
    replace hp1 := hp1.below hb6
    replace hr1 := hr1.below hb6
    replace HB1 := below_next HB1 (Nat.le_refl _) hb6
    have hz6 : w.heap.size ≤ w6.heap.size := by have := B1.lt; omega
    have a0 := B2.cell 0 rfl
    have a1 := B2.cell 1 rfl
    have a2 := B2.cell 2 rfl
    have a3 := B2.cell 3 rfl
    have m0 := B1.cell 0 rfl
    have m1 := B1.cell 1 rfl
    have m2 := B1.cell 2 rfl
    have m3 := B1.cell 3 rfl
    have fz := B1.frozen
    have HBB := hide B1
    have HB6 := hide HB1
    have HP6 := hide hp1
    have HR6 := hide hr1
    clear hb6 CH B1 B2 HB1 hp1 hr1
    by_cases h4 : E = 0
    · have hD := HE1.out h4
      subst h4
      clear HE1 HE2
      go_wp2_with fail
      refine bodyPost_ret (fence_back Try.results30 _ _ w.heap.size _ _ _ _ _ rfl rfl (HBB.out.set4 _ _ _ _)) rfl ?_
      subst hD
      have hg := grown_set4 w6 w.heap.size (.slice ap n cp) (.int .i64 fl) (.int .i64 ce) (.slice ar m cr)
      exact ⟨.slice ap n cp, .slice ar m cr, rfl, (HP6.out.grown hg (HP6.out.noblk HBB.out (by decide))).pts, (HR6.out.grown hg (HR6.out.noblk HBB.out (by decide))).pts, below_set4 HB6.out _ _ _ _ _ (Nat.le_refl _) hz6⟩
    · have hD := HE2.out h4
      have h4' : (E != 0) = true := by simp only [bne_iff_ne, ne_eq]; exact h4
      clear HE1 HE2
      go_wp2_with fail
      refine bodyPost_ret (fence_back Try.results30 _ _ w.heap.size _ _ _ _ _ rfl rfl (HBB.out.set4 _ _ _ _)) rfl ?_
      subst hD
      exact ⟨.slice none 0 0, .slice none 0 0, rfl, (PRow.nil _ 0).pts, (PRow.nil _ 0).pts, below_set4 HB6.out _ _ _ _ _ (Nat.le_refl _) hz6⟩
  · have h3' : ((s.size : Int) != 1 + 8 * (n : Int) + 9 + 8 * (m : Int)) = true := by simp only [bne_iff_ne, ne_eq]; omega
    clear HYE L1 L2 N1 N2
    go_enter Try.func30, Try.ntmps30
    go_wp2_with fail
    refine bodyPost_ret (fence_back Try.results30 _ _ w.heap.size _ _ _ _ _ rfl rfl (HB0.out.set4 _ _ _ _)) rfl ?_
    exact NO.out _ _ _ _ _ HB0.out HB.out (by omega) (by omega)
end Go.Proofs.Ytnenbbkkhnlgbaa
