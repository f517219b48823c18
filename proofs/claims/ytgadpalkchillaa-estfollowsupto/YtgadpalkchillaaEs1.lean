/- Package est: the small functions over measures and spans. -/
import Derived.Test.YtgadpalkchillaaGn0
import Derived.Test.YtgadpalkchillaaEsM
namespace Go.Proofs.Ytgadpalkchillaa
open Go.RowKit Go.Great

/-- a measure's value -/
abbrev mV (m : Mea) : Value := .agg #[.bool m.o, .int .i64 m.x, .int .i64 m.e]
/-- a span's value -/
abbrev spV (l h : Int) : Value := .agg #[.int .i64 l, .int .i64 h]
theorem span_back {fn : Func} {p : Tmp} (h : fn.results = #[.cell p 28]) (tmps : Array Value) (w : World) (g : Nat) (x y : Value) (hp : tmps.getD p undef = .pointer (some ⟨g, 0, none⟩)) (hg : Blk w g #[x, y] 28) : (results fn tmps).run Try.prog w = .ok (.agg #[x, y]) w :=
  res_back h Try.underlying28 (by kernel_rfl) tmps w g hp hg
theorem there_any (m : Mea) (w : World) : Calls Try.prog 41 #[mV m] w fun e w' => e = .returned (.bool (mth m)) ∧ Below w.heap.size w w' := by
  obtain ⟨o, x, e⟩ := m
  cases o
  · go_enter Try.func41, Try.ntmps41
    go_wp2
    all_goals go_ret
    all_goals exact ⟨by simp [mth], below_alloc _ _⟩
  · go_enter Try.func41, Try.ntmps41
    go_wp2
    all_goals go_ret
    all_goals exact ⟨by simp [mth], below_alloc _ _⟩
theorem ret_span {a b c d : Int} (h : a = c) (g : b = d) : Ending.returned (.agg #[.int .i64 a, .int .i64 b]) = .returned (spV c d) := by rw [h, g]
theorem third_box (w : World) (A B C : Array Value) (t u v : TypeId) : Blk (((w.alloc (.cells A t)).alloc (.cells B u)).alloc (.cells C v)) (w.heap.size + 1 + 1) C v := by
  obtain ⟨W0, h, _, _, _, B3, _⟩ := three_boxes w A B C t u v
  rw [h]
  exact B3
theorem around_any (a b c d : Int) (w : World) : Calls Try.prog 27 #[spV a b, spV c d] w fun e w' => e = .returned (spV (imin a c) (imax b d)) ∧ Below w.heap.size w w' := by
  go_enter Try.func27, Try.ntmps27
  go_wp2
  all_goals refine bodyPost_ret (span_back (p := 4) (by kernel_rfl) _ _ (w.heap.size + 1 + 1) _ _ rfl (third_box _ _ _ _ _ _ _)) rfl ⟨ret_span ?_ ?_, b3 _ _ _ _⟩
  all_goals
    first | unfold imin | unfold imax
    split <;> omega
theorem spanE_any (m : Mea) (hm : MOk m) (w : World) : Calls Try.prog 42 #[mV m] w fun e w' => e = .returned (spV (mlo m) (mhi m)) ∧ Below w.heap.size w w' := by
  obtain ⟨o, x, e⟩ := m
  have HX := hide hm.x
  have HE := hide hm.e
  clear hm
  obtain ⟨W0, hW0, b0, M0, R0, hz0⟩ := two_boxes w #[.bool o, .int .i64 x, .int .i64 e] #[.int .i64 0, .int .i64 0] 38 28
  have c1 : W0.cell? ⟨w.heap.size, 1, none⟩ = some (.int .i64 x) := M0.cell 1 rfl
  have c2 : W0.cell? ⟨w.heap.size, 2, none⟩ = some (.int .i64 e) := M0.cell 2 rfl
  have r0 : W0.cell? ⟨w.heap.size + 1, 0, none⟩ = some (.int .i64 0) := R0.cell 0 rfl
  have r1 : W0.cell? ⟨w.heap.size + 1, 1, none⟩ = some (.int .i64 0) := R0.cell 1 rfl
  have f0 := R0.frozen 0
  have f1 := R0.frozen 1
  have Hb := hide b0
  have HR := hide R0
  clear b0 M0 R0
  go_enter Try.func42, Try.ntmps42
  go_wp2_with fail
  refine reg_last 11 rfl rfl _ rfl (by kernel_rfl) (by kernel_rfl) (by kernel_rfl) ?_
  simp only [List.take_succ_cons, List.take_zero]
  repeat (quiet_step (first
    | (go_at_call 44; exact Calls.quiet_of_same (sub_any _ _ _ HX.out HE.out))
    | (go_at_call 43; exact Calls.quiet_of_same (add_any _ _ _ HX.out HE.out))))
  refine wpQuiet_nil ?_
  intro nq
  go_simp
  go_wp2_with fail
  refine bodyPost_ret (span_back (p := 2) (by kernel_rfl) _ _ (w.heap.size + 1) _ _ rfl ((blk_drewN HR.out nq).set2 _ _)) rfl ⟨rfl, ?_⟩
  exact below_set (below_set (below_drewN Hb.out nq) _ _ _ (by omega) (by have := (below_drewN Hb.out nq).size; omega)) _ _ _ (by omega) (by rw [setCell_size]; have := (below_drewN Hb.out nq).size; omega)
/-- what a span and a filter's block are behind a cut -/
def CutEnd (w : World) (B : Nat) (t : Fi) (l h : Int) (m : Mea) (e : Ending) (w' : World) : Prop :=
  e = .returned (spV (cutL l h m) (cutH l h m)) ∧ Blk w' B (fC { t with j := jmp (cutN l h m) t.j }) 72 ∧ w.grownBy w' (some B)
set_option maxHeartbeats 1000000 in
theorem cut_any (w : World) (B : Nat) (t : Fi) (l h : Int) (m : Mea) (hB : Blk w B (fC t) 72) (hj : 0 ≤ t.j ∧ t.j ≤ 65535) (hm : MOk m) : Calls Try.prog 28 #[.pointer (some ⟨B, 0, none⟩), spV l h, mV m] w (CutEnd w B t l h m) := by
  obtain ⟨W0, hW0, b0, K0, M0, R0, hz0⟩ := three_boxes w #[.int .i64 l, .int .i64 h] #[.bool m.o, .int .i64 m.x, .int .i64 m.e] #[.int .i64 0, .int .i64 0] 28 38 28
  have hlB := hB.lt
  have TH := hide (there_any m)
  have SP := hide (spanE_any m hm)
  have HB0 := hide (hB.below b0 hlB)
  have Hb0 := hide b0
  have HK0 := hide K0
  have HR0 := hide R0
  have m0 : W0.cell? ⟨w.heap.size + 1, 0, none⟩ = some (.bool m.o) := M0.cell 0 rfl
  have m1 : W0.cell? ⟨w.heap.size + 1, 1, none⟩ = some (.int .i64 m.x) := M0.cell 1 rfl
  have m2 : W0.cell? ⟨w.heap.size + 1, 2, none⟩ = some (.int .i64 m.e) := M0.cell 2 rfl
  have HM0 := hide M0
  clear hB b0 K0 R0 M0
  by_cases hth : mth m = true
  · rw [hth] at TH
    have eL : Hid (cutL l h m = if imin h (mhi m) < imax l (mlo m) then mlo m else imax l (mlo m)) := hide (by unfold cutL; rw [if_pos hth])
    have eH : Hid (cutH l h m = if imin h (mhi m) < imax l (mlo m) then mhi m else imin h (mhi m)) := hide (by unfold cutH; rw [if_pos hth])
    have eN : Hid (cutN l h m = decide (imin h (mhi m) < imax l (mlo m))) := hide (by unfold cutN; rw [hth]; simp)
    clear hth
    obtain ⟨ml, hml⟩ : ∃ ml, Hid (mlo m = ml) := ⟨_, hide rfl⟩
    obtain ⟨mh, hmh⟩ : ∃ mh, Hid (mhi m = mh) := ⟨_, hide rfl⟩
    rw [hml.out, hmh.out] at eL eH eN SP
    go_enter Try.func28, Try.ntmps28
    go_upto_region 3 with (go_at_call 41; refine (TH.out _).mono ?_; rintro e w1 ⟨rfl, hb1⟩)
    have HM1 := hide (HM0.out.after hb1)
    have HK1 := hide (HK0.out.after hb1)
    have HR1 := hide (HR0.out.after hb1)
    have HB1 := hide (HB0.out.after hb1)
    have Hb1 := hide (below_next Hb0.out (Nat.le_refl _) hb1)
    clear hb1 HM0 HK0 HR0 HB0 Hb0 m0 m1 m2 hW0 hz0
    have m0 : w1.cell? ⟨w.heap.size + 1, 0, none⟩ = some (.bool m.o) := HM1.out.cell 0 rfl
    have m1 : w1.cell? ⟨w.heap.size + 1, 1, none⟩ = some (.int .i64 m.x) := HM1.out.cell 1 rfl
    have m2 : w1.cell? ⟨w.heap.size + 1, 2, none⟩ = some (.int .i64 m.e) := HM1.out.cell 2 rfl
    go_upto_region 4 with (go_at_call 42; refine (SP.out _).mono ?_; rintro e w2 ⟨rfl, hb2⟩)
    have hz2 : w.heap.size + 3 ≤ w2.heap.size := by have := HR1.out.lt; have := hb2.size; omega
    have HT2 := hide (Blk.new w2 #[.int .i64 ml, .int .i64 mh] 28)
    have HK2 := hide ((HK1.out.after hb2).alloc (.cells #[.int .i64 ml, .int .i64 mh] 28))
    have HR2 := hide ((HR1.out.after hb2).alloc (.cells #[.int .i64 ml, .int .i64 mh] 28))
    have HB2 := hide ((HB1.out.after hb2).alloc (.cells #[.int .i64 ml, .int .i64 mh] 28))
    have Hb2 := hide (below_next (below_next Hb1.out (Nat.le_refl _) hb2) (Nat.le_refl _) (below_alloc w2 (.cells #[.int .i64 ml, .int .i64 mh] 28)))
    clear hb2 HM1 HK1 HR1 HB1 Hb1 m0 m1 m2
    have hz3 : (w2.alloc (.cells #[.int .i64 ml, .int .i64 mh] 28)).heap.size = w2.heap.size + 1 := size_alloc _ _
    generalize w2.alloc (.cells #[.int .i64 ml, .int .i64 mh] 28) = W2 at *
    generalize w2.heap.size = d at *
    have k0 : W2.cell? ⟨w.heap.size, 0, none⟩ = some (.int .i64 l) := HK2.out.cell 0 rfl
    have k1 : W2.cell? ⟨w.heap.size, 1, none⟩ = some (.int .i64 h) := HK2.out.cell 1 rfl
    have t0 : W2.cell? ⟨d, 0, none⟩ = some (.int .i64 ml) := HT2.out.cell 0 rfl
    have t1 : W2.cell? ⟨d, 1, none⟩ = some (.int .i64 mh) := HT2.out.cell 1 rfl
    have r0 : W2.cell? ⟨w.heap.size + 1 + 1, 0, none⟩ = some (.int .i64 0) := HR2.out.cell 0 rfl
    have r1 : W2.cell? ⟨w.heap.size + 1 + 1, 1, none⟩ = some (.int .i64 0) := HR2.out.cell 1 rfl
    have b8 : W2.cell? ⟨B, 8, none⟩ = some (.int .i64 t.j) := HB2.out.cell 8 rfl
    have f0 := HR2.out.frozen 0
    have f1 := HR2.out.frozen 1
    have f8 := HB2.out.frozen 8
    obtain ⟨L, hL⟩ : ∃ L, Hid (imax l ml = L) := ⟨_, hide rfl⟩
    obtain ⟨H, hH⟩ : ∃ H, Hid (imin h mh = H) := ⟨_, hide rfl⟩
    rw [hL.out, hH.out] at eL eH eN
    go_upto_region 5 with fail
    rw [show (if l < ml then ml else l) = L from hL.out, show (if mh < h then mh else h) = H from hH.out]
    have n1 : ¬ B = w.heap.size + 1 + 1 := by omega
    have n3 : ¬ d = w.heap.size + 1 + 1 := by omega
    have n4 : ¬ d + 1 = w.heap.size + 1 + 1 := by omega
    have HL3 : Hid (Blk (W2.alloc (.cells #[.int .i64 L, .int .i64 H] 28)) (d + 1) #[.int .i64 L, .int .i64 H] 28) := hide (by have := Blk.new W2 #[.int .i64 L, .int .i64 H] 28; rwa [hz3] at this)
    have HT3 := hide (HT2.out.alloc (.cells #[.int .i64 L, .int .i64 H] 28))
    have HR3 := hide (HR2.out.alloc (.cells #[.int .i64 L, .int .i64 H] 28))
    have HB3 := hide (HB2.out.alloc (.cells #[.int .i64 L, .int .i64 H] 28))
    have G3 := hide (grown_below (below_next Hb2.out (Nat.le_refl _) (below_alloc W2 (.cells #[.int .i64 L, .int .i64 H] 28))) (some B))
    clear HT2 HK2 HR2 HB2 Hb2 k0 k1 t0 t1 r0 r1 b8 f0 f1 f8
    generalize W2.alloc (.cells #[.int .i64 L, .int .i64 H] 28) = W3 at *
    have l0 : W3.cell? ⟨d + 1, 0, none⟩ = some (.int .i64 L) := HL3.out.cell 0 rfl
    have l1 : W3.cell? ⟨d + 1, 1, none⟩ = some (.int .i64 H) := HL3.out.cell 1 rfl
    have t0 : W3.cell? ⟨d, 0, none⟩ = some (.int .i64 ml) := HT3.out.cell 0 rfl
    have t1 : W3.cell? ⟨d, 1, none⟩ = some (.int .i64 mh) := HT3.out.cell 1 rfl
    have r0 : W3.cell? ⟨w.heap.size + 1 + 1, 0, none⟩ = some (.int .i64 0) := HR3.out.cell 0 rfl
    have r1 : W3.cell? ⟨w.heap.size + 1 + 1, 1, none⟩ = some (.int .i64 0) := HR3.out.cell 1 rfl
    have b8 : W3.cell? ⟨B, 8, none⟩ = some (.int .i64 t.j) := HB3.out.cell 8 rfl
    have f0 := HR3.out.frozen 0
    have f1 := HR3.out.frozen 1
    have f8 := HB3.out.frozen 8
    by_cases hc : H < L
    · have hc' : decide (H < L) = true := by simpa using hc
      rw [hc'] at eN
      rw [if_pos hc] at eL eH
      clear hc'
      have HJ := hide hj
      obtain ⟨j, hjj⟩ : ∃ j, Hid (imin (t.j + 1) 65535 = j) := ⟨_, hide rfl⟩
      have hw1 : wrap64 (t.j + 1) = t.j + 1 := by unfold wrap64; omega
      clear hj
      go_upto_region 7 with fail
      rw [show (if 65535 < t.j + 1 then 65535 else t.j + 1) = j from hjj.out]
      have HT4 := hide (HT3.out.setOther (show d ≠ B by omega) 8 (.int .i64 j))
      have HR4 := hide (HR3.out.setOther (show w.heap.size + 1 + 1 ≠ B by omega) 8 (.int .i64 j))
      have HB4 : Hid (Blk (W3.setCell ⟨B, 8, none⟩ (.int .i64 j)) B (fC { t with j := j }) 72) := hide (HB3.out.set 8 (.int .i64 j))
      have G4 := hide (grown_more G3.out (grown_set W3 B 8 (.int .i64 j)))
      clear HT3 HR3 HB3 G3 l0 l1 t0 t1 r0 r1 b8 f0 f1 f8 HL3
      generalize W3.setCell ⟨B, 8, none⟩ (.int .i64 j) = W4 at *
      have t0 : W4.cell? ⟨d, 0, none⟩ = some (.int .i64 ml) := HT4.out.cell 0 rfl
      have t1 : W4.cell? ⟨d, 1, none⟩ = some (.int .i64 mh) := HT4.out.cell 1 rfl
      have r0 : W4.cell? ⟨w.heap.size + 1 + 1, 0, none⟩ = some (.int .i64 0) := HR4.out.cell 0 rfl
      have r1 : W4.cell? ⟨w.heap.size + 1 + 1, 1, none⟩ = some (.int .i64 0) := HR4.out.cell 1 rfl
      have f0 := HR4.out.frozen 0
      have f1 := HR4.out.frozen 1
      go_wp2_with fail
      refine bodyPost_ret (span_back (p := 6) (by kernel_rfl) _ _ (w.heap.size + 1 + 1) _ _ rfl (HR4.out.set2 _ _)) rfl ⟨ret_span eL.out.symm eH.out.symm, ?_, ?_⟩
      · rw [eN.out, show jmp true t.j = j from hjj.out]
        exact (HB4.out.setOther n1 _ _).setOther n1 _ _
      · exact grown_then (grown_then G4.out (grown_set _ _ _ _) (fun q e => .inr (by injection e with e; omega))) (grown_set _ _ _ _) (fun q e => .inr (by injection e with e; omega))
    · have hc' : decide (H < L) = false := by simpa using hc
      rw [hc'] at eN
      rw [if_neg hc] at eL eH
      clear hj
      go_wp2_with fail
      refine bodyPost_ret (span_back (p := 6) (by kernel_rfl) _ _ (w.heap.size + 1 + 1) _ _ rfl (HR3.out.set2 _ _)) rfl ⟨ret_span eL.out.symm eH.out.symm, ?_, ?_⟩
      · rw [eN.out, show jmp false t.j = t.j from rfl]
        exact (HB3.out.setOther n1 _ _).setOther n1 _ _
      · exact grown_then (grown_then G3.out (grown_set _ _ _ _) (fun q e => .inr (by injection e with e; omega))) (grown_set _ _ _ _) (fun q e => .inr (by injection e with e; omega))
  · have hth' : mth m = false := by simpa using hth
    rw [hth'] at TH
    have eL : Hid (l = cutL l h m) := hide (by unfold cutL; rw [if_neg hth])
    have eH : Hid (h = cutH l h m) := hide (by unfold cutH; rw [if_neg hth])
    have eN : Hid (cutN l h m = false) := hide (by unfold cutN; rw [hth']; rfl)
    clear hth hth'
    go_enter Try.func28, Try.ntmps28
    go_upto_region 2 with (go_at_call 41; refine (TH.out _).mono ?_; rintro e w1 ⟨rfl, hb1⟩)
    have HK1 := hide (HK0.out.after hb1)
    have HR1 := hide (HR0.out.after hb1)
    have HB1 := hide (HB0.out.after hb1)
    have G1 := hide (grown_below (below_next Hb0.out (Nat.le_refl _) hb1) (some B))
    clear hb1 HM0 HK0 HR0 HB0 Hb0 m0 m1 m2 hW0 hz0
    have k0 : w1.cell? ⟨w.heap.size, 0, none⟩ = some (.int .i64 l) := HK1.out.cell 0 rfl
    have k1 : w1.cell? ⟨w.heap.size, 1, none⟩ = some (.int .i64 h) := HK1.out.cell 1 rfl
    have r0 : w1.cell? ⟨w.heap.size + 1 + 1, 0, none⟩ = some (.int .i64 0) := HR1.out.cell 0 rfl
    have r1 : w1.cell? ⟨w.heap.size + 1 + 1, 1, none⟩ = some (.int .i64 0) := HR1.out.cell 1 rfl
    have f0 := HR1.out.frozen 0
    have f1 := HR1.out.frozen 1
    have n1 : ¬ B = w.heap.size + 1 + 1 := by omega
    go_wp2_with fail
    refine bodyPost_ret (span_back (p := 6) (by kernel_rfl) _ _ (w.heap.size + 1 + 1) _ _ rfl (HR1.out.set2 _ _)) rfl ⟨ret_span eL.out eH.out, ?_, ?_⟩
    · rw [eN.out, show jmp false t.j = t.j from rfl]
      exact (HB1.out.setOther n1 _ _).setOther n1 _ _
    · exact grown_then (grown_then G1.out (grown_set _ _ _ _) (fun q e => .inr (by injection e with e; omega))) (grown_set _ _ _ _) (fun q e => .inr (by injection e with e; omega))
end Go.Proofs.Ytgadpalkchillaa
