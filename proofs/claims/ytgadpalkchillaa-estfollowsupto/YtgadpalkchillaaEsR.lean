/- The document's filter: measures, spans, cuts, silence. -/
import Derived.Test.YtgadpalkchillaaEsO
import Derived.Test.YtgadpalkchillaaKept
import Derived.Test.YtgadpalkchillaaRefMid
namespace Go.Proofs.Ytgadpalkchillaa
open Go.RowKit Go.Great

theorem rthere_any (m : Mea) (w : World) : Calls Try.prog 29 #[mV m] w fun e w' => e = .returned (.bool (mth m)) ∧ Below w.heap.size w w' := by
  obtain ⟨o, x, e⟩ := m
  cases o
  · go_enter Try.func29, Try.ntmps29
    go_wp2
    all_goals go_ret
    all_goals exact ⟨by simp [mth], below_alloc _ _⟩
  · go_enter Try.func29, Try.ntmps29
    go_wp2
    all_goals go_ret
    all_goals exact ⟨by simp [mth], below_alloc _ _⟩
set_option maxRecDepth 100000 in
theorem rspan_any (m : Mea) (hm : MOk m) (w : World) : Calls Try.prog 30 #[mV m] w fun e w' => e = .returned (spV (mlo m) (mhi m)) ∧ Below w.heap.size w w' := by
  obtain ⟨o, x, e⟩ := m
  have HX := hide hm.x
  have HE := hide hm.e
  clear hm
  obtain ⟨W0, hW0, b0, M0, R0, hz0⟩ := two_boxes w #[.bool o, .int .i64 x, .int .i64 e] #[.int .i64 0, .int .i64 0] 38 28
  have c1 : ∀ z : BelowW W0, z.q.cell? ⟨w.heap.size, 1, none⟩ = some (.int .i64 x) := M0.at 1 rfl
  have c2 : ∀ z : BelowW W0, z.q.cell? ⟨w.heap.size, 2, none⟩ = some (.int .i64 e) := M0.at 2 rfl
  have Hb := hide b0
  have HR := hide R0
  have hne : Nonempty (BelowW W0) := ⟨⟨W0, Below.refl _ _⟩⟩
  have SU := hide (fun w => ref_sub_any x e w HX.out HE.out)
  have AD := hide (fun w => ref_add_any x e w HX.out HE.out)
  clear b0 M0 R0
  go_enter Try.func30, Try.ntmps30
  go_wp2_with fail
  refine reg_last_calm 11 rfl rfl _ rfl (by kernel_rfl) (by kernel_rfl) (by kernel_rfl) ?_
  simp only [List.take_succ_cons, List.take_zero]
  repeat (go_big_quiet_step (first
    | (go_at_call 31; exact calm_of (SU.out _))
    | (go_at_call 32; exact calm_of (AD.out _))))
  refine wpQuiet_nil ?_
  rintro _ ⟨z, rfl⟩
  have HR1 := hide (HR.out.after z.h)
  have Hb1 := hide (below_next Hb.out (Nat.le_refl _) z.h)
  clear c1 c2 hne HR Hb
  obtain ⟨W1, hz⟩ := z
  have r0 : W1.cell? ⟨w.heap.size + 1, 0, none⟩ = some (.int .i64 0) := HR1.out.cell 0 rfl
  have r1 : W1.cell? ⟨w.heap.size + 1, 1, none⟩ = some (.int .i64 0) := HR1.out.cell 1 rfl
  have f0 : W1.frozen? ⟨w.heap.size + 1, 0, none⟩ = false := HR1.out.frozen 0
  have f1 : W1.frozen? ⟨w.heap.size + 1, 1, none⟩ = false := HR1.out.frozen 1
  go_simp
  go_wp2_with fail
  refine bodyPost_ret (span_back (p := 2) (by kernel_rfl) _ _ (w.heap.size + 1) _ _ rfl (HR1.out.set2 _ _)) rfl ⟨rfl, ?_⟩
  exact below_set (below_set Hb1.out _ _ _ (by omega) Hb1.out.size) _ _ _ (by omega) (by rw [setCell_size]; exact Hb1.out.size)
theorem span_back2 {fn : Func} {p u : Tmp} (h : fn.results = #[.cell p 28, .tmp u]) (tmps : Array Value) (w : World) (g : Nat) (x y b : Value) (hp : tmps.getD p undef = .pointer (some ⟨g, 0, none⟩)) (hq : tmps.getD u undef = b) (hg : Blk w g #[x, y] 28) : (results fn tmps).run Try.prog w = .ok (.tuple #[.agg #[x, y], b]) w :=
  res_back2 h Try.underlying28 (by kernel_rfl) tmps w g b hp hq hg
theorem ret_cut {a b c d : Int} {x y : Bool} (h : a = c) (g : b = d) (k : x = y) : Ending.returned (.tuple #[.agg #[.int .i64 a, .int .i64 b], .bool x]) = .returned (.tuple #[spV c d, .bool y]) := by rw [h, g, k]
theorem cut_none {l h a b : Int} (h1 : l ≤ h) (h2 : a ≤ b) : imin h b < imax l a ↔ (h < a ∨ b < l) := by
  unfold imin imax
  split <;> split <;> omega
set_option maxHeartbeats 1000000 in
theorem rcut_any (w : World) (l h : Int) (m : Mea) (hlh : l ≤ h) (hm : MOk m) : Calls Try.prog 33 #[spV l h, mV m] w fun e w' => e = .returned (.tuple #[spV (cutL l h m) (cutH l h m), .bool (cutN l h m)]) ∧ Below w.heap.size w w' := by
  obtain ⟨W0, hW0, b0, K0, M0, R0, hz0⟩ := three_boxes w #[.int .i64 l, .int .i64 h] #[.bool m.o, .int .i64 m.x, .int .i64 m.e] #[.int .i64 0, .int .i64 0] 28 38 28
  have TH := hide (rthere_any m)
  have SP := hide (rspan_any m hm)
  have Hb0 := hide b0
  have HK0 := hide K0
  have HR0 := hide R0
  have m0 : W0.cell? ⟨w.heap.size + 1, 0, none⟩ = some (.bool m.o) := M0.cell 0 rfl
  have m1 : W0.cell? ⟨w.heap.size + 1, 1, none⟩ = some (.int .i64 m.x) := M0.cell 1 rfl
  have m2 : W0.cell? ⟨w.heap.size + 1, 2, none⟩ = some (.int .i64 m.e) := M0.cell 2 rfl
  have HM0 := hide M0
  have HLH := hide hlh
  clear b0 K0 R0 M0 hlh hm
  by_cases hth : mth m = true
  · rw [hth] at TH
    have eL : Hid (cutL l h m = if imin h (mhi m) < imax l (mlo m) then mlo m else imax l (mlo m)) := hide (by unfold cutL; rw [if_pos hth])
    have eH : Hid (cutH l h m = if imin h (mhi m) < imax l (mlo m) then mhi m else imin h (mhi m)) := hide (by unfold cutH; rw [if_pos hth])
    have eN : Hid (cutN l h m = decide (imin h (mhi m) < imax l (mlo m))) := hide (by unfold cutN; rw [hth]; simp)
    have hml0 := hide (m_le hth)
    clear hth
    obtain ⟨ml, hml⟩ : ∃ ml, Hid (mlo m = ml) := ⟨_, hide rfl⟩
    obtain ⟨mh, hmh⟩ : ∃ mh, Hid (mhi m = mh) := ⟨_, hide rfl⟩
    rw [hml.out, hmh.out] at eL eH eN SP hml0
    have CN := hide (cut_none HLH.out hml0.out)
    go_enter Try.func33, Try.ntmps33
    go_upto_region 3 with (go_at_call 29; refine (TH.out _).mono ?_; rintro e w1 ⟨rfl, hb1⟩)
    have HM1 := hide (HM0.out.after hb1)
    have HK1 := hide (HK0.out.after hb1)
    have HR1 := hide (HR0.out.after hb1)
    have Hb1 := hide (below_next Hb0.out (Nat.le_refl _) hb1)
    clear hb1 HM0 HK0 HR0 Hb0 m0 m1 m2 hW0 hz0
    have m0 : w1.cell? ⟨w.heap.size + 1, 0, none⟩ = some (.bool m.o) := HM1.out.cell 0 rfl
    have m1 : w1.cell? ⟨w.heap.size + 1, 1, none⟩ = some (.int .i64 m.x) := HM1.out.cell 1 rfl
    have m2 : w1.cell? ⟨w.heap.size + 1, 2, none⟩ = some (.int .i64 m.e) := HM1.out.cell 2 rfl
    go_upto_region 4 with (go_at_call 30; refine (SP.out _).mono ?_; rintro e w2 ⟨rfl, hb2⟩)
    have hz2 : w.heap.size + 3 ≤ w2.heap.size := by have := HR1.out.lt; have := hb2.size; omega
    have HT2 := hide (Blk.new w2 #[.int .i64 ml, .int .i64 mh] 28)
    have HK2 := hide ((HK1.out.after hb2).alloc (.cells #[.int .i64 ml, .int .i64 mh] 28))
    have HR2 := hide ((HR1.out.after hb2).alloc (.cells #[.int .i64 ml, .int .i64 mh] 28))
    have Hb2 := hide (below_next (below_next Hb1.out (Nat.le_refl _) hb2) (Nat.le_refl _) (below_alloc w2 (.cells #[.int .i64 ml, .int .i64 mh] 28)))
    clear hb2 HM1 HK1 HR1 Hb1 m0 m1 m2
    generalize w2.alloc (.cells #[.int .i64 ml, .int .i64 mh] 28) = W2 at *
    generalize w2.heap.size = d at *
    have k0 : W2.cell? ⟨w.heap.size, 0, none⟩ = some (.int .i64 l) := HK2.out.cell 0 rfl
    have k1 : W2.cell? ⟨w.heap.size, 1, none⟩ = some (.int .i64 h) := HK2.out.cell 1 rfl
    have t0 : W2.cell? ⟨d, 0, none⟩ = some (.int .i64 ml) := HT2.out.cell 0 rfl
    have t1 : W2.cell? ⟨d, 1, none⟩ = some (.int .i64 mh) := HT2.out.cell 1 rfl
    have r0 : W2.cell? ⟨w.heap.size + 1 + 1, 0, none⟩ = some (.int .i64 0) := HR2.out.cell 0 rfl
    have r1 : W2.cell? ⟨w.heap.size + 1 + 1, 1, none⟩ = some (.int .i64 0) := HR2.out.cell 1 rfl
    have f0 := HR2.out.frozen 0
    have f1 := HR2.out.frozen 1
    have fin : ∀ x y : Value, Below w.heap.size w ((W2.setCell ⟨w.heap.size + 1 + 1, 0, none⟩ x).setCell ⟨w.heap.size + 1 + 1, 1, none⟩ y) := fun x y => below_set (below_set Hb2.out _ _ _ (by omega) Hb2.out.size) _ _ _ (by omega) (by rw [setCell_size]; exact Hb2.out.size)
    have FIN := hide fin
    clear fin
    by_cases hc : h < ml ∨ mh < l
    · have hc' : (decide (h < ml) || decide (mh < l)) = true := by simpa using hc
      have hp := CN.out.2 hc
      rw [if_pos hp] at eL eH
      rw [decide_eq_true hp] at eN
      clear hp
      go_wp2_with fail
      all_goals refine bodyPost_ret (span_back2 (p := 4) (u := 5) (by kernel_rfl) _ _ (w.heap.size + 1 + 1) _ _ _ rfl rfl (HR2.out.set2 _ _)) rfl ⟨ret_cut eL.out.symm eH.out.symm eN.out.symm, FIN.out _ _⟩
    · have hc1 : ¬ h < ml := by omega
      have hc2 : ¬ mh < l := by omega
      have hp : ¬ imin h mh < imax l ml := fun g => hc (CN.out.1 g)
      rw [if_neg hp] at eL eH
      rw [decide_eq_false hp] at eN
      clear hp hc
      obtain ⟨X, hL⟩ : ∃ L, Hid (imax l ml = L) := ⟨_, hide rfl⟩
      obtain ⟨Y, hH⟩ : ∃ H, Hid (imin h mh = H) := ⟨_, hide rfl⟩
      rw [hL.out] at eL
      rw [hH.out] at eH
      go_wp2_with fail
      all_goals refine bodyPost_ret (span_back2 (p := 4) (u := 5) (by kernel_rfl) _ _ (w.heap.size + 1 + 1) _ _ _ rfl rfl (HR2.out.set2 _ _)) rfl ⟨ret_cut ?_ ?_ eN.out.symm, FIN.out _ _⟩
      all_goals first
        | (rw [eL.out, ← hL.out]; unfold imax; split <;> omega)
        | (rw [eH.out, ← hH.out]; unfold imin; split <;> omega)
  · have hth' : mth m = false := by simpa using hth
    rw [hth'] at TH
    have eL : Hid (l = cutL l h m) := hide (by unfold cutL; rw [if_neg hth])
    have eH : Hid (h = cutH l h m) := hide (by unfold cutH; rw [if_neg hth])
    have eN : Hid (false = cutN l h m) := hide (by unfold cutN; rw [hth']; rfl)
    clear hth hth'
    go_enter Try.func33, Try.ntmps33
    go_upto_region 2 with (go_at_call 29; refine (TH.out _).mono ?_; rintro e w1 ⟨rfl, hb1⟩)
    have HK1 := hide (HK0.out.after hb1)
    have HR1 := hide (HR0.out.after hb1)
    have Hb1 := hide (below_next Hb0.out (Nat.le_refl _) hb1)
    clear hb1 HM0 HK0 HR0 Hb0 m0 m1 m2 hW0 hz0
    have k0 : w1.cell? ⟨w.heap.size, 0, none⟩ = some (.int .i64 l) := HK1.out.cell 0 rfl
    have k1 : w1.cell? ⟨w.heap.size, 1, none⟩ = some (.int .i64 h) := HK1.out.cell 1 rfl
    have r0 : w1.cell? ⟨w.heap.size + 1 + 1, 0, none⟩ = some (.int .i64 0) := HR1.out.cell 0 rfl
    have r1 : w1.cell? ⟨w.heap.size + 1 + 1, 1, none⟩ = some (.int .i64 0) := HR1.out.cell 1 rfl
    have f0 := HR1.out.frozen 0
    have f1 := HR1.out.frozen 1
    go_wp2_with fail
    refine bodyPost_ret (span_back2 (p := 4) (u := 5) (by kernel_rfl) _ _ (w.heap.size + 1 + 1) _ _ _ rfl rfl (HR1.out.set2 _ _)) rfl ⟨ret_cut eL.out eH.out eN.out, ?_⟩
    exact below_set (below_set Hb1.out _ _ _ (by omega) Hb1.out.size) _ _ _ (by omega) (by rw [setCell_size]; exact Hb1.out.size)
theorem rquiet_any (n : Int) (m : Mea) (h0 : 0 ≤ n) (h1 : n < 1099511627776) (w : World) : Calls Try.prog 34 #[.int .i64 n, mV m] w fun e w' => e = .returned (.int .i64 (qt m n)) ∧ Below w.heap.size w w' := by
  have TH := hide (rthere_any m)
  obtain ⟨W0, hW0⟩ : ∃ W0, w.alloc (.cells #[.bool m.o, .int .i64 m.x, .int .i64 m.e] 38) = W0 := ⟨_, rfl⟩
  have HM0 : Hid (Blk W0 w.heap.size #[.bool m.o, .int .i64 m.x, .int .i64 m.e] 38) := hide (by rw [← hW0]; exact Blk.new _ _ _)
  have Hb : Hid (Below w.heap.size w W0) := hide (by rw [← hW0]; exact below_alloc _ _)
  have m0 : W0.cell? ⟨w.heap.size, 0, none⟩ = some (.bool m.o) := HM0.out.cell 0 rfl
  have m1 : W0.cell? ⟨w.heap.size, 1, none⟩ = some (.int .i64 m.x) := HM0.out.cell 1 rfl
  have m2 : W0.cell? ⟨w.heap.size, 2, none⟩ = some (.int .i64 m.e) := HM0.out.cell 2 rfl
  rcases (show mth m = true ∨ mth m = false by cases mth m <;> simp) with hth | hth
  · rw [hth] at TH
    have HQ := hide (qt_yes (q := n) hth)
    go_enter Try.func34, Try.ntmps34
    go_wp2_with (go_at_call 29; refine (TH.out _).mono ?_; rintro e w1 ⟨rfl, hb1⟩)
    go_ret
    exact ⟨ret_int HQ.out.symm, below_next Hb.out (Nat.le_refl _) hb1⟩
  · rw [hth] at TH
    have HQ : Hid (qt m n = n + 1) := hide (by rw [qt_no hth]; exact sat_in (by unfold I64; omega))
    have g1 : ¬ 1099511627776 < n + 1 := by omega
    go_enter Try.func34, Try.ntmps34
    go_wp2_with (go_at_call 29; refine (TH.out _).mono ?_; rintro e w1 ⟨rfl, hb1⟩)
    all_goals go_ret
    all_goals exact ⟨ret_int (by rw [HQ.out]), below_next Hb.out (Nat.le_refl _) hb1⟩
end Go.Proofs.Ytgadpalkchillaa
