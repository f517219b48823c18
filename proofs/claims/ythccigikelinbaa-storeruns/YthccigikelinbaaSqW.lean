/- StoreRuns: the pair of flashes that an image makes. -/
import Derived.Test.YthccigikelinbaaSqU
import Derived.Laws.ResultCell
namespace Go.Proofs.Ythccigikelinbaa
open Go.RowKit Go.Great

theorem pair_back (tmps : Array Value) (w : World) (g : Nat) (x0 x1 x2 x3 : Value) (b : Value) (hp : tmps.getD 2 undef = .pointer (some ⟨g, 0, none⟩)) (hq : tmps.getD 3 undef = b) (hg : Bl w g #[x0, x1, x2, x3] 28) : (results Try.f10 tmps).run Try.prog w = .ok (.tuple #[.agg #[x0, x1, x2, x3], b]) w := by
  rw [results_cell_tmp Try.results10]
  have := run_loadVar_row (P := Try.prog) w g 28 28 #[x0, x1, x2, x3] (0, 0) _ hg Try.underlying28 rfl (by kernel_rfl)
  rw [hp, hq]
  simp [asAddr, this, Result.andThen]
def flV (R X : Value) : Value := .tuple #[.agg #[R, .pointer none, X, .pointer none], .bool true]
def FlEnd (w : World) (C : List UInt8) (e : Ending) (w' : World) : Prop := ∃ R X D cap, e = .returned (flV (fp R) (fp X)) ∧ w.heap.size ≤ R ∧ w.heap.size ≤ X ∧ w.heap.size ≤ D ∧ R ≠ X ∧ R ≠ D ∧ Fl w' R (st0 C) ∧ Rf w' X D cap (st0 C) ∧ Below w.heap.size w w'
theorem fl_fin {w w2 : World} {R X D cap g1 g : Nat} {σ ρ : St} {a b c d e f : Value} (hg : w.heap.size = g) (hF : Fl w2 R σ) (hQ : Rf w2 X D cap ρ) (hb : Below g w w2) (h1 : R ≠ g1) (h2 : R ≠ g) (h3 : g1 ≠ X) (h4 : g1 ≠ D) (h5 : g ≠ X) (h6 : g ≠ D) (h7 : g ≤ g1) : Fl ((((((w2.setCell ⟨g1, 0, none⟩ a).setCell ⟨g1, 2, none⟩ b).setCell ⟨g, 0, none⟩ c).setCell ⟨g, 1, none⟩ d).setCell ⟨g, 2, none⟩ e).setCell ⟨g, 3, none⟩ f) R σ ∧ Rf ((((((w2.setCell ⟨g1, 0, none⟩ a).setCell ⟨g1, 2, none⟩ b).setCell ⟨g, 0, none⟩ c).setCell ⟨g, 1, none⟩ d).setCell ⟨g, 2, none⟩ e).setCell ⟨g, 3, none⟩ f) X D cap ρ ∧ Below g w ((((((w2.setCell ⟨g1, 0, none⟩ a).setCell ⟨g1, 2, none⟩ b).setCell ⟨g, 0, none⟩ c).setCell ⟨g, 1, none⟩ d).setCell ⟨g, 2, none⟩ e).setCell ⟨g, 3, none⟩ f) := by
  have hz : g ≤ w2.heap.size := by rw [← hg]; exact hb.size
  refine ⟨(((((hF.setO h1 _ _).setO h1 _ _).setO h2 _ _).setO h2 _ _).setO h2 _ _).setO h2 _ _, (((((hQ.set3 h3 h4 _ _).set3 h3 h4 _ _).set3 h5 h6 _ _).set3 h5 h6 _ _).set3 h5 h6 _ _).set3 h5 h6 _ _, ?_⟩
  refine set_below (set_below (set_below (set_below (set_below (set_below hb g1 0 _ h7 hz) g1 2 _ h7 ?_) g 0 _ (Nat.le_refl _) ?_) g 1 _ (Nat.le_refl _) ?_) g 2 _ (Nat.le_refl _) ?_) g 3 _ (Nat.le_refl _) ?_
  all_goals simp only [size_set]; exact hz
theorem fl_fin5 {w w2 : World} {R X D cap g1 g : Nat} {σ ρ : St} {b c d e f : Value} (hg : w.heap.size = g) (hF : Fl w2 R σ) (hQ : Rf w2 X D cap ρ) (hb : Below g w w2) (h1 : R ≠ g1) (h2 : R ≠ g) (h3 : g1 ≠ X) (h4 : g1 ≠ D) (h5 : g ≠ X) (h6 : g ≠ D) (h7 : g ≤ g1) : Fl (((((w2.setCell ⟨g1, 2, none⟩ b).setCell ⟨g, 0, none⟩ c).setCell ⟨g, 1, none⟩ d).setCell ⟨g, 2, none⟩ e).setCell ⟨g, 3, none⟩ f) R σ ∧ Rf (((((w2.setCell ⟨g1, 2, none⟩ b).setCell ⟨g, 0, none⟩ c).setCell ⟨g, 1, none⟩ d).setCell ⟨g, 2, none⟩ e).setCell ⟨g, 3, none⟩ f) X D cap ρ ∧ Below g w (((((w2.setCell ⟨g1, 2, none⟩ b).setCell ⟨g, 0, none⟩ c).setCell ⟨g, 1, none⟩ d).setCell ⟨g, 2, none⟩ e).setCell ⟨g, 3, none⟩ f) := by
  have hz : g ≤ w2.heap.size := by rw [← hg]; exact hb.size
  refine ⟨((((hF.setO h1 _ _).setO h2 _ _).setO h2 _ _).setO h2 _ _).setO h2 _ _, ((((hQ.set3 h3 h4 _ _).set3 h5 h6 _ _).set3 h5 h6 _ _).set3 h5 h6 _ _).set3 h5 h6 _ _, ?_⟩
  refine set_below (set_below (set_below (set_below (set_below hb g1 2 _ h7 hz) g 0 _ (Nat.le_refl _) ?_) g 1 _ (Nat.le_refl _) ?_) g 2 _ (Nat.le_refl _) ?_) g 3 _ (Nat.le_refl _) ?_
  all_goals simp only [size_set]; exact hz
set_option maxRecDepth 100000 in
set_option maxHeartbeats 2000000 in
theorem flash_bad (s : ByteArray) (h0 : s.size ≠ 0) (hs : s.size ≠ 8192) (w : World) : Calls Try.prog 10 #[.string s] w fun e w' => e = .returned (flV (.pointer none) (.pointer none)) ∧ Below w.heap.size w w' := by
  have hne := ne_empty h0
  have A1 := fun w => of_out w s hs
  have A2 := fun w => rof_out w s hs
  clear hs h0
  go_enter Try.func10, Try.ntmps10
  go_wp2_with fail
  refine (A1 _).mono ?_
  rintro e w1 ⟨rfl, hw1⟩
  obtain rfl := hw1.symm
  go_wp2_with fail
  refine (A2 _).mono ?_
  rintro e w1 ⟨rfl, hw1⟩
  obtain rfl := hw1.symm
  go_wp2_with fail
  refine bodyPost_ret (pair_back _ _ w.heap.size (.pointer none) (.pointer none) (.pointer none) (.pointer none) (.bool true) rfl rfl ((Bl.new w _ _).below (below_alloc _ _))) rfl ?_
  exact ⟨rfl, below_next (below_alloc _ _) (Nat.le_refl _) (below_alloc _ _)⟩
set_option maxRecDepth 100000 in
set_option maxHeartbeats 2000000 in
theorem flash_in (s : ByteArray) (hs : s.size = 8192) (w : World) : Calls Try.prog 10 #[.string s] w fun e w' => FlEnd w s.data.toList e w' := by
  have hne := ne_empty (j := s) (by omega)
  have A1 := fun w => of_in w s hs
  have A2 := fun w => rof_in w s hs
  clear hs
  obtain ⟨W0, hW0⟩ : ∃ W0, (w.alloc (.cells #[.pointer none, .pointer none, .pointer none, .pointer none] 28)).alloc (.cells #[.pointer none, .pointer none, .pointer none, .pointer none] 28) = W0 := ⟨_, rfl⟩
  have HB0 : Hid (Below w.heap.size w W0) := hide (by rw [← hW0]; exact below_next (below_alloc _ _) (Nat.le_refl _) (below_alloc _ _))
  have HP0 : Hid (Bl W0 w.heap.size #[.pointer none, .pointer none, .pointer none, .pointer none] 28) := hide (by rw [← hW0]; exact (Bl.new w _ _).below (below_alloc _ _))
  have HP1 : Hid (Bl W0 (w.heap.size + 1) #[.pointer none, .pointer none, .pointer none, .pointer none] 28) := hide (by rw [← hW0]; have := Bl.new (w.alloc (.cells #[.pointer none, .pointer none, .pointer none, .pointer none] 28)) #[.pointer none, .pointer none, .pointer none, .pointer none] 28; simpa using this)
  go_enter Try.func10, Try.ntmps10
  go_wp2_with fail
  refine (A1 _).mono ?_
  rintro e w1 ⟨rfl, f1, b1⟩
  have hz0 := HB0.out.size
  have hg1 := HP1.out.lt
  have HF1 := hide f1
  have HB1 := hide b1
  have H01 := hide (HP0.out.below b1)
  have H11 := hide (HP1.out.below b1)
  have hzb := b1.size
  clear f1 b1
  obtain ⟨R, hRR⟩ : ∃ R, W0.heap.size = R := ⟨_, rfl⟩
  rw [hRR] at HF1 HB1 hg1 ⊢
  clear A1 hW0
  go_wp2_with fail
  refine (A2 _).mono ?_
  rintro e w2 ⟨X, D, cap, rfl, hX, hD, q2, b2⟩
  have HQ2 := hide q2
  have HF2 := hide (HF1.out.below b2)
  have H02 := hide (H01.out.below b2)
  have H12 := hide (H11.out.below b2)
  have hR1 := HF1.out.lt
  have HB2 : Hid (Below w.heap.size w w2) := hide (below_next (below_next HB0.out (Nat.le_refl _) (by rw [hRR]; exact HB1.out)) (Nat.le_refl _) b2)
  clear q2 b2 A2
  obtain ⟨g, hgg⟩ : ∃ g, w.heap.size = g := ⟨_, rfl⟩
  rw [hgg] at H02 H12 HB2 hg1 ⊢
  have hz2 : g ≤ w2.heap.size := by rw [← hgg]; exact HB2.out.size
  have u0 := H02.out.cell 0 (v := .pointer none) rfl
  have u1 := H02.out.cell 1 (v := .pointer none) rfl
  have u2 := H02.out.cell 2 (v := .pointer none) rfl
  have u3 := H02.out.cell 3 (v := .pointer none) rfl
  have v0 := H12.out.cell 0 (v := .pointer none) rfl
  have v1 := H12.out.cell 1 (v := .pointer none) rfl
  have v2 := H12.out.cell 2 (v := .pointer none) rfl
  have v3 := H12.out.cell 3 (v := .pointer none) rfl
  have fz0 := H02.out.fz
  have fz1 := H12.out.fz
  have hRg : g + 1 < R := hg1
  obtain ⟨g1, hg1e⟩ : ∃ g1, g + 1 = g1 := ⟨_, rfl⟩
  rw [hg1e] at H12 v0 v1 v2 v3 fz1 ⊢
  have hd1 : ¬ g = g1 := by omega
  have hd2 : ¬ g1 = g := by omega
  go_wp2_with fail
  have z : Bl _ g #[fp R, .pointer none, .pointer none, .pointer none] 28 := ((H02.out.setOther (C := g1) (by omega) 0 (fp R)).setOther (C := g1) (by omega) 2 (fp X)).set 0 (fp R)
  have z1 : Bl _ g #[fp R, .pointer none, .pointer none, .pointer none] 28 := z.set 1 (.pointer none)
  have z2 : Bl _ g #[fp R, .pointer none, fp X, .pointer none] 28 := z1.set 2 (fp X)
  have z3 : Bl _ g #[fp R, .pointer none, fp X, .pointer none] 28 := z2.set 3 (.pointer none)
  obtain ⟨y1, y2, y3⟩ := fl_fin (a := fp R) (b := fp X) (c := fp R) (d := .pointer none) (e := fp X) (f := .pointer none) hgg HF2.out HQ2.out HB2.out (g1 := g1) (by omega) (by omega) (by omega) (by omega) (by omega) (by omega) (by omega)
  refine bodyPost_ret (pair_back _ _ g (fp R) (.pointer none) (fp X) (.pointer none) (.bool true) rfl rfl z3) rfl ?_
  exact ⟨R, X, D, cap, rfl, by omega, by omega, by omega, by omega, by omega, y1, y2, by rw [hgg]; exact y3⟩
set_option maxRecDepth 100000 in
set_option maxHeartbeats 2000000 in
theorem flash_new (w : World) : Calls Try.prog 10 #[.string ⟨#[]⟩] w fun e w' => FlEnd w (List.replicate 8192 255) e w' := by
  obtain ⟨W0, hW0⟩ : ∃ W0, (w.alloc (.cells #[.pointer none, .pointer none, .pointer none, .pointer none] 28)).alloc (.cells #[.pointer none, .pointer none, .pointer none, .pointer none] 28) = W0 := ⟨_, rfl⟩
  have HB0 : Hid (Below w.heap.size w W0) := hide (by rw [← hW0]; exact below_next (below_alloc _ _) (Nat.le_refl _) (below_alloc _ _))
  have HP0 : Hid (Bl W0 w.heap.size #[.pointer none, .pointer none, .pointer none, .pointer none] 28) := hide (by rw [← hW0]; exact (Bl.new w _ _).below (below_alloc _ _))
  have HP1 : Hid (Bl W0 (w.heap.size + 1) #[.pointer none, .pointer none, .pointer none, .pointer none] 28) := hide (by rw [← hW0]; have := Bl.new (w.alloc (.cells #[.pointer none, .pointer none, .pointer none, .pointer none] 28)) #[.pointer none, .pointer none, .pointer none, .pointer none] 28; simpa using this)
  go_enter Try.func10, Try.ntmps10
  go_wp2_with fail
  refine (new_any _).mono ?_
  rintro e w1 ⟨rfl, f1, b1⟩
  have hz0 := HB0.out.size
  have hg1 := HP1.out.lt
  have H01 := hide (HP0.out.below b1)
  have H11 := hide (HP1.out.below b1)
  have hzb := b1.size
  obtain ⟨R, hRR⟩ : ∃ R, W0.heap.size = R := ⟨_, rfl⟩
  have HB1 : Hid (Below w.heap.size w w1) := hide (below_next HB0.out (Nat.le_refl _) b1)
  rw [hRR] at f1 hg1 hzb ⊢
  have HF1 := hide f1
  have hRl := f1.lt
  clear f1 b1 hW0
  obtain ⟨g, hgg⟩ : ∃ g, w.heap.size = g := ⟨_, rfl⟩
  rw [hgg] at H01 H11 HB1 hg1 hz0 ⊢
  have hz1 : g ≤ w1.heap.size := by omega
  have v0 := H11.out.cell 0 (v := .pointer none) rfl
  have fz1 := H11.out.fz
  go_upto_region 4 with fail
  have HF2 := hide (HF1.out.setO (B := g + 1) (by omega) 0 (fp R))
  have HB2 := hide (set_below HB1.out (g + 1) 0 (fp R) (by omega) hz1)
  have H02 := hide (H01.out.setOther (C := g + 1) (by omega) 0 (fp R))
  have H12 : Hid (Bl _ (g + 1) #[fp R, .pointer none, .pointer none, .pointer none] 28) := hide (H11.out.set 0 (fp R))
  obtain ⟨w2, hw2⟩ : ∃ w2, w1.setCell ⟨g + 1, 0, none⟩ (fp R) = w2 := ⟨_, rfl⟩
  have hz2 : w2.heap.size = w1.heap.size := by rw [← hw2]; exact size_set _ _ _
  rw [hw2] at HF2 HB2 H02 H12
  have RN := rnew_any w2
  have hw2' : w1.setCell ⟨g + 1, 0, none⟩ (.pointer (some ⟨R, 0, none⟩)) = w2 := hw2
  rw [hw2']
  clear hw2 hw2' v0 fz1
  go_wp2_with fail
  refine RN.mono ?_
  rintro e w3 ⟨X, D, cap, rfl, hX, hD, q3, b3⟩
  have HQ3 := hide q3
  have HF3 := hide (HF2.out.below b3)
  have H03 := hide (H02.out.below b3)
  have H13 := hide (H12.out.below b3)
  have HB3 : Hid (Below g w w3) := hide (by rw [← hgg] at HB2 ⊢; exact below_next HB2.out (Nat.le_refl _) b3)
  have hz3 : g ≤ w3.heap.size := by rw [← hgg]; exact HB3.out.size
  clear q3 b3 RN
  have u0 := H03.out.cell 0 (v := .pointer none) rfl
  have u1 := H03.out.cell 1 (v := .pointer none) rfl
  have u2 := H03.out.cell 2 (v := .pointer none) rfl
  have u3 := H03.out.cell 3 (v := .pointer none) rfl
  have v0 := H13.out.cell 0 (v := fp R) rfl
  have v1 := H13.out.cell 1 (v := .pointer none) rfl
  have v2 := H13.out.cell 2 (v := .pointer none) rfl
  have v3 := H13.out.cell 3 (v := .pointer none) rfl
  have fz0 := H03.out.fz
  have fz1 := H13.out.fz
  obtain ⟨g1, hg1e⟩ : ∃ g1, g + 1 = g1 := ⟨_, rfl⟩
  rw [hg1e] at H13 v0 v1 v2 v3 fz1 ⊢
  have hd1 : ¬ g = g1 := by omega
  have hd2 : ¬ g1 = g := by omega
  go_wp2_with fail
  go_region
  all_goals go_wp2_with fail
  all_goals
    have z : Bl _ g #[fp R, .pointer none, .pointer none, .pointer none] 28 := (H03.out.setOther (C := g1) (by omega) 2 (fp X)).set 0 (fp R)
    have z1 : Bl _ g #[fp R, .pointer none, .pointer none, .pointer none] 28 := z.set 1 (.pointer none)
    have z2 : Bl _ g #[fp R, .pointer none, fp X, .pointer none] 28 := z1.set 2 (fp X)
    have z3 : Bl _ g #[fp R, .pointer none, fp X, .pointer none] 28 := z2.set 3 (.pointer none)
    obtain ⟨y1, y2, y3⟩ := fl_fin5 (b := fp X) (c := fp R) (d := .pointer none) (e := fp X) (f := .pointer none) hgg HF3.out HQ3.out HB3.out (g1 := g1) (by omega) (by omega) (by omega) (by omega) (by omega) (by omega) (by omega)
    refine bodyPost_ret (pair_back _ _ g (fp R) (.pointer none) (fp X) (.pointer none) (.bool true) rfl rfl z3.drew) rfl ?_
    exact ⟨R, X, D, cap, rfl, by omega, by omega, by omega, by omega, by omega, y1.drew, y2.drew, by rw [hgg]; exact y3.drew⟩
end Go.Proofs.Ythccigikelinbaa
