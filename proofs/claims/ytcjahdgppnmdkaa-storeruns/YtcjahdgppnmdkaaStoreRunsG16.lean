/- SqW, LwRu. -/
import Derived.Test.YtcjahdgppnmdkaaStoreRunsG14
import Derived.Laws.ResultCell
import Derived.Test.YtcjahdgppnmdkaaStoreRunsG15
import Derived.Test.YtcjahdgppnmdkaaStoreRunsG10
import Derived.Test.YtcjahdgppnmdkaaStoreRunsG12
set_option maxRecDepth 100000
namespace Go.Proofs.Ytcjahdgppnmdkaa
open Go.RowKit Go.Great
theorem pair_back (tmps : Array Value) (w : World) (g : Nat) (x0 x1 x2 x3 : Value) (b : Value) (hp : tmps.getD 2 undef = .pointer (some ⟨g, 0, none⟩)) (hq : tmps.getD 3 undef = b) (hg : Bl w g #[x0, x1, x2, x3] 28) : (results Try.f14 tmps).run Try.prog w = .ok (.tuple #[.agg #[x0, x1, x2, x3], b]) w := by
  rw [results_cell_tmp Try.results14]
  have := run_loadVar_row (P := Try.prog) w g 28 28 #[x0, x1, x2, x3] (0, 0) _ hg Try.underlying28 rfl (by kernel_rfl)
  rw [hp, hq]
  simp [asAddr, this, Result.andThen]
def flV (R X : Value) : Value := .tuple #[.agg #[R, .pointer none, X, .pointer none], .bool true]
def FlEnd (w : World) (C : List UInt8) (e : Ending) (w' : World) : Prop := ∃ R X D cap, e = .returned (flV (fp R) (fp X)) ∧ w.heap.size ≤ R ∧ w.heap.size ≤ X ∧ w.heap.size ≤ D ∧ R ≠ X ∧ R ≠ D ∧ Fl w' R (st0 C) ∧ Rf w' X D cap (st0 C) ∧ Below w.heap.size w w'
theorem fl_fin {w w2 : World} {R X D cap g1 g : Nat} {σ ρ : St} {a b c d e f : Value} (hg : w.heap.size = g) (hF : Fl w2 R σ) (hQ : Rf w2 X D cap ρ) (hb : Below g w w2) (h1 : R ≠ g1) (h2 : R ≠ g) (h3 : g1 ≠ X) (h4 : g1 ≠ D) (h5 : g ≠ X) (h6 : g ≠ D) (h7 : g ≤ g1) : Fl ((((((w2.setCell ⟨g1, 0, none⟩ a).setCell ⟨g1, 2, none⟩ b).setCell ⟨g, 0, none⟩ c).setCell ⟨g, 1, none⟩ d).setCell ⟨g, 2, none⟩ e).setCell ⟨g, 3, none⟩ f) R σ ∧ Rf ((((((w2.setCell ⟨g1, 0, none⟩ a).setCell ⟨g1, 2, none⟩ b).setCell ⟨g, 0, none⟩ c).setCell ⟨g, 1, none⟩ d).setCell ⟨g, 2, none⟩ e).setCell ⟨g, 3, none⟩ f) X D cap ρ ∧ Below g w ((((((w2.setCell ⟨g1, 0, none⟩ a).setCell ⟨g1, 2, none⟩ b).setCell ⟨g, 0, none⟩ c).setCell ⟨g, 1, none⟩ d).setCell ⟨g, 2, none⟩ e).setCell ⟨g, 3, none⟩ f) := by
  have hz : g ≤ w2.heap.size := by rw [← hg]; exact hb.size
  refine ⟨(((((hF.setO h1 _ _).setO h1 _ _).setO h2 _ _).setO h2 _ _).setO h2 _ _).setO h2 _ _, (((((hQ.set3 h3 h4 _ _).set3 h3 h4 _ _).set3 h5 h6 _ _).set3 h5 h6 _ _).set3 h5 h6 _ _).set3 h5 h6 _ _, ?_⟩
  refine set_below (set_below (set_below (set_below (set_below (set_below hb g1 0 _ h7 hz) g1 2 _ h7 ?_) g 0 _ (Nat.le_refl _) ?_) g 1 _ (Nat.le_refl _) ?_) g 2 _ (Nat.le_refl _) ?_) g 3 _ (Nat.le_refl _) ?_
  all_goals simp only [size_set]; exact hz
theorem fl_fin5 {w w2 : World} {R X D cap g1 g : Nat} {σ ρ : St} {b c d e f : Value} (hg : w.heap.size = g) (hF : Fl w2 R σ) (hQ : Rf w2 X D cap ρ) (hb : Below g w w2) (h1 : R ≠ g1) (h2 : R ≠ g) (h3 : g1 ≠ X) (h4 : g1 ≠ D) (h5 : g ≠ X) (h6 : g ≠ D) (h7 : g ≤ g1) : Fl (((((w2.setCell ⟨g1, 2, none⟩ b).setCell ⟨g, 0, none⟩ c).setCell ⟨g, 1, none⟩ d).setCell ⟨g, 2, none⟩ e).setCell ⟨g, 3, none⟩ f) R σ ∧ Rf (((((w2.setCell ⟨g1, 2, none⟩ b).setCell ⟨g, 0, none⟩ c).setCell ⟨g, 1, none⟩ d).setCell ⟨g, 2, none⟩ e).setCell ⟨g, 3, none⟩ f) X D cap ρ ∧ Below g w (((((w2.setCell ⟨g1, 2, none⟩ b).setCell ⟨g, 0, none⟩ c).setCell ⟨g, 1, none⟩ d).setCell ⟨g, 2, none⟩ e).setCell ⟨g, 3, none⟩ f) := by
  have hz : g ≤ w2.heap.size := by rw [← hg]; exact hb.size
  refine ⟨((((hF.setO h1 _ _).setO h2 _ _).setO h2 _ _).setO h2 _ _).setO h2 _ _, ((((hQ.set3 h3 h4 _ _).set3 h5 h6 _ _).set3 h5 h6 _ _).set3 h5 h6 _ _).set3 h5 h6 _ _, ?_⟩
  refine set_below (set_below (set_below (set_below (set_below hb g1 2 _ h7 hz) g 0 _ (Nat.le_refl _) ?_) g 1 _ (Nat.le_refl _) ?_) g 2 _ (Nat.le_refl _) ?_) g 3 _ (Nat.le_refl _) ?_
  all_goals simp only [size_set]; exact hz
set_option maxRecDepth 100000 in
set_option maxHeartbeats 2000000 in
theorem flash_bad (s : ByteArray) (h0 : s.size ≠ 0) (hs : s.size ≠ 8192) (w : World) : Calls Try.prog 14 #[.string s] w fun e w' => e = .returned (flV (.pointer none) (.pointer none)) ∧ Below w.heap.size w w' := by
  have hne := ne_empty h0
  have A1 := fun w => of_out w s hs
  have A2 := fun w => rof_out w s hs
  clear hs h0
  go_enter Try.func14, Try.ntmps14
  go_wp2_with fail
  refine (A1 _).mono ?_
  rintro e w1 ⟨rfl, hw1⟩
  obtain rfl := hw1.symm
  go_wp2_with fail
  refine (A2 _).mono ?_
  rintro e w1 ⟨rfl, hw1⟩
  obtain rfl := hw1.symm
  go_wp2_with fail
  refine bodyPost_ret (pair_back _ _ w.heap.size (.pointer none) (.pointer none) (.pointer none) (.pointer none) (.bool true) rfl rfl ((Bl.new w _ _).below (below_alloc _ _))) rfl ?_
  exact ⟨rfl, below_next (below_alloc _ _) (Nat.le_refl _) (below_alloc _ _)⟩
set_option maxRecDepth 100000 in
set_option maxHeartbeats 2000000 in
theorem flash_in (s : ByteArray) (hs : s.size = 8192) (w : World) : Calls Try.prog 14 #[.string s] w fun e w' => FlEnd w s.data.toList e w' := by
  have hne := ne_empty (j := s) (by omega)
  have A1 := fun w => of_in w s hs
  have A2 := fun w => rof_in w s hs
  clear hs
  obtain ⟨W0, hW0⟩ : ∃ W0, (w.alloc (.cells #[.pointer none, .pointer none, .pointer none, .pointer none] 28)).alloc (.cells #[.pointer none, .pointer none, .pointer none, .pointer none] 28) = W0 := ⟨_, rfl⟩
  have HB0 : Hid (Below w.heap.size w W0) := hide (by rw [← hW0]; exact below_next (below_alloc _ _) (Nat.le_refl _) (below_alloc _ _))
  have HP0 : Hid (Bl W0 w.heap.size #[.pointer none, .pointer none, .pointer none, .pointer none] 28) := hide (by rw [← hW0]; exact (Bl.new w _ _).below (below_alloc _ _))
  have HP1 : Hid (Bl W0 (w.heap.size + 1) #[.pointer none, .pointer none, .pointer none, .pointer none] 28) := hide (by rw [← hW0]; have := Bl.new (w.alloc (.cells #[.pointer none, .pointer none, .pointer none, .pointer none] 28)) #[.pointer none, .pointer none, .pointer none, .pointer none] 28; simpa using this)
  go_enter Try.func14, Try.ntmps14
  go_wp2_with fail
  refine (A1 _).mono ?_
  rintro e w1 ⟨rfl, f1, b1⟩
  have hz0 := HB0.out.size
  have hg1 := HP1.out.lt
  have HF1 := hide f1
  have HB1 := hide b1
  have H01 := hide (HP0.out.below b1)
  have H11 := hide (HP1.out.below b1)
  have hzb := b1.size
  clear f1 b1
  obtain ⟨R, hRR⟩ : ∃ R, W0.heap.size = R := ⟨_, rfl⟩
  rw [hRR] at HF1 HB1 hg1 ⊢
  clear A1 hW0
  go_wp2_with fail
  refine (A2 _).mono ?_
  rintro e w2 ⟨X, D, cap, rfl, hX, hD, q2, b2⟩
  have HQ2 := hide q2
  have HF2 := hide (HF1.out.below b2)
  have H02 := hide (H01.out.below b2)
  have H12 := hide (H11.out.below b2)
  have hR1 := HF1.out.lt
  have HB2 : Hid (Below w.heap.size w w2) := hide (below_next (below_next HB0.out (Nat.le_refl _) (by rw [hRR]; exact HB1.out)) (Nat.le_refl _) b2)
  clear q2 b2 A2
  obtain ⟨g, hgg⟩ : ∃ g, w.heap.size = g := ⟨_, rfl⟩
  rw [hgg] at H02 H12 HB2 hg1 ⊢
  have hz2 : g ≤ w2.heap.size := by rw [← hgg]; exact HB2.out.size
  have u0 := H02.out.cell 0 (v := .pointer none) rfl
  have u1 := H02.out.cell 1 (v := .pointer none) rfl
  have u2 := H02.out.cell 2 (v := .pointer none) rfl
  have u3 := H02.out.cell 3 (v := .pointer none) rfl
  have v0 := H12.out.cell 0 (v := .pointer none) rfl
  have v1 := H12.out.cell 1 (v := .pointer none) rfl
  have v2 := H12.out.cell 2 (v := .pointer none) rfl
  have v3 := H12.out.cell 3 (v := .pointer none) rfl
  have fz0 := H02.out.fz
  have fz1 := H12.out.fz
  have hRg : g + 1 < R := hg1
  obtain ⟨g1, hg1e⟩ : ∃ g1, g + 1 = g1 := ⟨_, rfl⟩
  rw [hg1e] at H12 v0 v1 v2 v3 fz1 ⊢
  have hd1 : ¬ g = g1 := by omega
  have hd2 : ¬ g1 = g := by omega
  go_wp2_with fail
  have z : Bl _ g #[fp R, .pointer none, .pointer none, .pointer none] 28 := ((H02.out.setOther (C := g1) (by omega) 0 (fp R)).setOther (C := g1) (by omega) 2 (fp X)).set 0 (fp R)
  have z1 : Bl _ g #[fp R, .pointer none, .pointer none, .pointer none] 28 := z.set 1 (.pointer none)
  have z2 : Bl _ g #[fp R, .pointer none, fp X, .pointer none] 28 := z1.set 2 (fp X)
  have z3 : Bl _ g #[fp R, .pointer none, fp X, .pointer none] 28 := z2.set 3 (.pointer none)
  obtain ⟨y1, y2, y3⟩ := fl_fin (a := fp R) (b := fp X) (c := fp R) (d := .pointer none) (e := fp X) (f := .pointer none) hgg HF2.out HQ2.out HB2.out (g1 := g1) (by omega) (by omega) (by omega) (by omega) (by omega) (by omega) (by omega)
  refine bodyPost_ret (pair_back _ _ g (fp R) (.pointer none) (fp X) (.pointer none) (.bool true) rfl rfl z3) rfl ?_
  exact ⟨R, X, D, cap, rfl, by omega, by omega, by omega, by omega, by omega, y1, y2, by rw [hgg]; exact y3⟩
set_option maxRecDepth 100000 in
set_option maxHeartbeats 2000000 in
theorem flash_new (w : World) : Calls Try.prog 14 #[.string ⟨#[]⟩] w fun e w' => FlEnd w (List.replicate 8192 255) e w' := by
  obtain ⟨W0, hW0⟩ : ∃ W0, (w.alloc (.cells #[.pointer none, .pointer none, .pointer none, .pointer none] 28)).alloc (.cells #[.pointer none, .pointer none, .pointer none, .pointer none] 28) = W0 := ⟨_, rfl⟩
  have HB0 : Hid (Below w.heap.size w W0) := hide (by rw [← hW0]; exact below_next (below_alloc _ _) (Nat.le_refl _) (below_alloc _ _))
  have HP0 : Hid (Bl W0 w.heap.size #[.pointer none, .pointer none, .pointer none, .pointer none] 28) := hide (by rw [← hW0]; exact (Bl.new w _ _).below (below_alloc _ _))
  have HP1 : Hid (Bl W0 (w.heap.size + 1) #[.pointer none, .pointer none, .pointer none, .pointer none] 28) := hide (by rw [← hW0]; have := Bl.new (w.alloc (.cells #[.pointer none, .pointer none, .pointer none, .pointer none] 28)) #[.pointer none, .pointer none, .pointer none, .pointer none] 28; simpa using this)
  go_enter Try.func14, Try.ntmps14
  go_wp2_with fail
  refine (new_any _).mono ?_
  rintro e w1 ⟨rfl, f1, b1⟩
  have hz0 := HB0.out.size
  have hg1 := HP1.out.lt
  have H01 := hide (HP0.out.below b1)
  have H11 := hide (HP1.out.below b1)
  have hzb := b1.size
  obtain ⟨R, hRR⟩ : ∃ R, W0.heap.size = R := ⟨_, rfl⟩
  have HB1 : Hid (Below w.heap.size w w1) := hide (below_next HB0.out (Nat.le_refl _) b1)
  rw [hRR] at f1 hg1 hzb ⊢
  have HF1 := hide f1
  have hRl := f1.lt
  clear f1 b1 hW0
  obtain ⟨g, hgg⟩ : ∃ g, w.heap.size = g := ⟨_, rfl⟩
  rw [hgg] at H01 H11 HB1 hg1 hz0 ⊢
  have hz1 : g ≤ w1.heap.size := by omega
  have v0 := H11.out.cell 0 (v := .pointer none) rfl
  have fz1 := H11.out.fz
  go_upto_region 4 with fail
  have HF2 := hide (HF1.out.setO (B := g + 1) (by omega) 0 (fp R))
  have HB2 := hide (set_below HB1.out (g + 1) 0 (fp R) (by omega) hz1)
  have H02 := hide (H01.out.setOther (C := g + 1) (by omega) 0 (fp R))
  have H12 : Hid (Bl _ (g + 1) #[fp R, .pointer none, .pointer none, .pointer none] 28) := hide (H11.out.set 0 (fp R))
  obtain ⟨w2, hw2⟩ : ∃ w2, w1.setCell ⟨g + 1, 0, none⟩ (fp R) = w2 := ⟨_, rfl⟩
  have hz2 : w2.heap.size = w1.heap.size := by rw [← hw2]; exact size_set _ _ _
  rw [hw2] at HF2 HB2 H02 H12
  have RN := rnew_any w2
  have hw2' : w1.setCell ⟨g + 1, 0, none⟩ (.pointer (some ⟨R, 0, none⟩)) = w2 := hw2
  rw [hw2']
  clear hw2 hw2' v0 fz1
  go_wp2_with fail
  refine RN.mono ?_
  rintro e w3 ⟨X, D, cap, rfl, hX, hD, q3, b3⟩
  have HQ3 := hide q3
  have HF3 := hide (HF2.out.below b3)
  have H03 := hide (H02.out.below b3)
  have H13 := hide (H12.out.below b3)
  have HB3 : Hid (Below g w w3) := hide (by rw [← hgg] at HB2 ⊢; exact below_next HB2.out (Nat.le_refl _) b3)
  have hz3 : g ≤ w3.heap.size := by rw [← hgg]; exact HB3.out.size
  clear q3 b3 RN
  have u0 := H03.out.cell 0 (v := .pointer none) rfl
  have u1 := H03.out.cell 1 (v := .pointer none) rfl
  have u2 := H03.out.cell 2 (v := .pointer none) rfl
  have u3 := H03.out.cell 3 (v := .pointer none) rfl
  have v0 := H13.out.cell 0 (v := fp R) rfl
  have v1 := H13.out.cell 1 (v := .pointer none) rfl
  have v2 := H13.out.cell 2 (v := .pointer none) rfl
  have v3 := H13.out.cell 3 (v := .pointer none) rfl
  have fz0 := H03.out.fz
  have fz1 := H13.out.fz
  obtain ⟨g1, hg1e⟩ : ∃ g1, g + 1 = g1 := ⟨_, rfl⟩
  rw [hg1e] at H13 v0 v1 v2 v3 fz1 ⊢
  have hd1 : ¬ g = g1 := by omega
  have hd2 : ¬ g1 = g := by omega
  go_wp2_with fail
  go_region
  all_goals go_wp2_with fail
  all_goals
    have z : Bl _ g #[fp R, .pointer none, .pointer none, .pointer none] 28 := (H03.out.setOther (C := g1) (by omega) 2 (fp X)).set 0 (fp R)
    have z1 : Bl _ g #[fp R, .pointer none, .pointer none, .pointer none] 28 := z.set 1 (.pointer none)
    have z2 : Bl _ g #[fp R, .pointer none, fp X, .pointer none] 28 := z1.set 2 (fp X)
    have z3 : Bl _ g #[fp R, .pointer none, fp X, .pointer none] 28 := z2.set 3 (.pointer none)
    obtain ⟨y1, y2, y3⟩ := fl_fin5 (b := fp X) (c := fp R) (d := .pointer none) (e := fp X) (f := .pointer none) hgg HF3.out HQ3.out HB3.out (g1 := g1) (by omega) (by omega) (by omega) (by omega) (by omega) (by omega) (by omega)
    refine bodyPost_ret (pair_back _ _ g (fp R) (.pointer none) (fp X) (.pointer none) (.bool true) rfl rfl z3.drew) rfl ?_
    exact ⟨R, X, D, cap, rfl, by omega, by omega, by omega, by omega, by omega, y1.drew, y2.drew, by rw [hgg]; exact y3.drew⟩
end Go.Proofs.Ytcjahdgppnmdkaa
set_option maxRecDepth 100000
namespace Go.Proofs.Ytcjahdgppnmdkaa
open Go.RowKit Go.Great
theorem tw_new {w w1 : World} {R X D cap : Nat} {C : List UInt8} (hR : w.heap.size ≤ R) (hX : w.heap.size ≤ X) (hD : w.heap.size ≤ D) (n1 : R ≠ X) (n2 : R ≠ D) (hF : Fl w1 R (st0 C)) (hQ : Rf w1 X D cap (st0 C)) (hb : Below w.heap.size w w1) : Tw w.heap.size w (w1.alloc (.cells #[fp R, .pointer none, fp X, .pointer none] 28)) w1.heap.size R X D cap (st0 C) (st0 C) (.pointer none) (.pointer none) := by
  have h1 := hF.lt
  have h2 := hQ.ltX
  have h3 := hQ.lt
  have hA := below_alloc w1 (.cells #[fp R, .pointer none, fp X, .pointer none] 28)
  exact ⟨hb.size, hR, hX, hD, Nat.le_refl _, by omega, by omega, by omega, n1, n2, hF.below hA, hQ.below hA, rel_new C, Bl.new _ _ _, below_next hb (Nat.le_refl _) hA, .inl ⟨rfl, rfl⟩⟩
set_option maxHeartbeats 2000000 in
set_option maxRecDepth 100000 in
theorem runs_bad (s : ByteArray) (h0 : s.size ≠ 0) (hs : s.size ≠ 8192) (v : Value) (w : World) : Calls Try.prog 3 #[.string s, v] w fun e w' => e = .returned (.bool true) ∧ Below w.heap.size w w' := by
  have M := flash_bad s h0 hs w
  unfold flV at M
  clear hs h0
  go_enter Try.func3, Try.ntmps3
  go_wp2_with fail
  refine M.mono ?_
  rintro e w1 ⟨rfl, b1⟩
  have HB1 := hide (below_next b1 (Nat.le_refl _) (below_alloc w1 (.cells #[.pointer none, .pointer none, .pointer none, .pointer none] 28)))
  clear M b1
  go_wp2_with fail
  refine (awake7 _).mono ?_
  rintro e w3 ⟨rfl, b3⟩
  have HB3 := hide (below_next HB1.out (Nat.le_refl _) b3)
  clear b3
  go_wp2_with fail
  go_ret
  exact ⟨rfl, HB3.out⟩
set_option maxHeartbeats 2000000 in
set_option maxRecDepth 100000 in
theorem runs_good (s : ByteArray) (C0 : List UInt8) (M : ∀ w, Calls Try.prog 14 #[.string s] w fun e w' => FlEnd w C0 e w') (v : Value) (w : World) (cs : List Cl7) (hv : CallsL7 w v cs) : Calls Try.prog 3 #[.string s, v] w fun e w' => e = .returned (.bool true) ∧ Below w.heap.size w w' := by
  obtain ⟨hml, ⟨va, vc, rfl, hcell⟩, hall⟩ := hv
  have HALL := hide hall
  have HCELL := hide hcell
  obtain ⟨n, hn⟩ : ∃ n, cs.length = n := ⟨_, rfl⟩
  have HN := hide hn
  have hn9 : (n : Int) ≤ 9223372036854775807 := by unfold maxLen at hml; omega
  rw [hn]
  clear hall hcell hn hml
  go_enter Try.func3, Try.ntmps3
  go_wp2_with fail
  refine (M _).mono ?_
  rintro e w1 ⟨R, X, D, cap, rfl, h1, h2, h3, h4, h5, hF, hQ, hb⟩
  have H1 := hide (tw_new h1 h2 h3 h4 h5 hF hQ hb)
  clear M h1 h2 h3 h4 h5 hF hQ hb
  unfold flV
  go_upto_region 2 with fail
  obtain ⟨w2, hw2⟩ : ∃ w2, w1.alloc (.cells #[fp R, .pointer none, fp X, .pointer none] 28) = w2 := ⟨_, rfl⟩
  have hw2' : w1.alloc (.cells #[.pointer (some ⟨R, 0, none⟩), .pointer none, .pointer (some ⟨X, 0, none⟩), .pointer none] 28) = w2 := hw2
  rw [hw2']
  rw [hw2] at H1
  clear hw2'
  obtain ⟨P, hP⟩ : ∃ P, w1.heap.size = P := ⟨_, rfl⟩
  rw [hP] at H1
  have p0 := H1.out.p.cell 0 (v := fp R) rfl
  have BT := pboot_any w.heap.size w w2 P R X D cap _ _ _ _ H1.out
  rw [hP]
  clear hw2 hP
  go_wp2_with fail
  refine BT.mono ?_
  rintro e w3 ⟨rfl, σ, ρ, sp, tp, h3⟩
  have H3 := hide h3
  clear h3 BT p0 H1
  go_wp2_with fail
  go_loopw [7] (fun v wr => ∃ (i : Nat) (σ ρ : St) (sp tp : Value), v = .int .i64 (i : Int) ∧ i ≤ n ∧ Hid (Tw w.heap.size w wr P R X D cap σ ρ sp tp)) (fun v _ => n - (intOf v).toNat)
  case atStart => exact ⟨0, _, _, _, _, rfl, Nat.zero_le _, H3⟩
  case round =>
    clear H3
    obtain ⟨i, σ, ρ, sp, tp, rfl, hi, HB⟩ := hrel
    by_cases hlt : i < n
    · have hlc : i < cs.length := by rw [HN.out]; exact hlt
      obtain ⟨g, o, rfl, hg, hc⟩ := HCELL.out (by omega)
      obtain ⟨a0, a1, a2⟩ := hc i hlc
      have hI := HALL.out cs[i] (List.getElem_mem hlc)
      obtain ⟨⟨k, m, d⟩, hcl⟩ : ∃ c, cs[i] = c := ⟨_, rfl⟩
      rw [hcl] at a0 a1 a2 hI
      simp only at a0 a1 a2 hI
      have b0 := (HB.out.b.cell (p := ⟨g, o + i * 3, none⟩) hg).trans a0
      have b1 := (HB.out.b.cell (p := ⟨g, o + i * 3 + 1, none⟩) hg).trans a1
      have b2 := (HB.out.b.cell (p := ⟨g, o + i * 3 + 2, none⟩) hg).trans a2
      have DD := dz_any w.heap.size w wr P R X D cap σ ρ sp tp HB.out k m d hI.1 hI.2.1 hI.2.2
      clear hc a0 a1 a2 hI hcl hlc hg
      go_wp2_with fail
      refine DD.mono ?_
      rintro e w2 ⟨rfl, σ2, ρ2, sp2, tp2, h2⟩
      have H2 := hide h2
      clear h2 DD b0 b1 b2
      go_wp2_with fail
      go_roundw
      case rel => exact ⟨i + 1, σ2, ρ2, sp2, tp2, by go_num, by omega, H2⟩
      case measure => simp [intOf]; omega
    · obtain rfl : i = n := by omega
      go_wp2_with fail
      go_loopw [8] (fun v wr => ∃ (j : Nat) (σ ρ : St) (sp tp : Value), v = .int .i64 ((j : Int) - 1) ∧ j ≤ 5 ∧ Hid (Tw w.heap.size w wr P R X D cap σ ρ sp tp)) (fun v _ => (5 - intOf v).toNat)
      case atStart => exact ⟨0, _, _, _, _, rfl, by omega, HB⟩
      case round =>
        clear HB
        obtain ⟨j, σ, ρ, sp, tp, rfl, hj, HB⟩ := hrel
        by_cases hlt : j < 5
        · have hcd : ((j : Int) - 1 < 4) := by omega
          obtain ⟨q, hq⟩ : ∃ q : Int, (j : Int) - 1 = q := ⟨_, rfl⟩
          have DD := dz_any w.heap.size w _ P R X D cap σ ρ sp tp HB.out 1 q ⟨#[]⟩ (by unfold I64; omega) (by unfold I64; omega) (by show (0 : Nat) ≤ _; omega)
          have hq1 : -1 ≤ q := by omega
          have hq4 : q < 4 := by omega
          have HJ : Hid (q = (j : Int) - 1) := hide hq.symm
          rw [hq] at hcd ⊢
          clear hq hcd
          go_wp2_with fail
          refine DD.mono ?_
          rintro e w2 ⟨rfl, σ2, ρ2, sp2, tp2, h2⟩
          have H2 := hide h2
          clear h2 DD
          go_wp2_with fail
          go_roundw
          case rel => exact ⟨j + 1, σ2, ρ2, sp2, tp2, by have := HJ.out; congr 1; omega, by omega, H2⟩
          case measure => simp only [intOf]; have := HJ.out; omega
        · have hcd : ¬ ((j : Int) - 1 < 4) := by omega
          obtain ⟨q, hq⟩ : ∃ q : Int, (j : Int) - 1 = q := ⟨_, rfl⟩
          have hq4 : ¬ q < 4 := by omega
          have hq5 : q ≤ 4 := by omega
          rw [hq]
          clear hq hcd
          go_wp2_with fail
          refine (awake7 _).mono ?_
          rintro e w2 ⟨rfl, b2⟩
          have H2 := hide (HB.out.below b2)
          have DD := dz_any w.heap.size w w2 P R X D cap σ ρ sp tp H2.out 4 0 ⟨#[]⟩ (by unfold I64; omega) (by unfold I64; omega) (by show (0 : Nat) ≤ _; omega)
          clear b2
          go_wp2_with fail
          refine DD.mono ?_
          rintro e w3 ⟨rfl, σ3, ρ3, sp3, tp3, h3⟩
          have H3 := hide h3
          clear h3 DD
          go_wp2_with fail
          go_ret
          exact ⟨rfl, H3.out.b⟩
/-- StoreRuns -/
theorem StoreRuns_walk (s : ByteArray) (v : Value) (w : World) (_hs : s.size ≤ 140737488351232) (hv : ∃ cs, CallsL7 w v cs) : Calls Try.prog 3 #[.string s, v] w fun e w' => e = .returned (.bool true) ∧ Below w.heap.size w w' := by
  obtain ⟨cs, hv⟩ := hv
  by_cases h0 : s.size = 0
  · obtain rfl : s = ⟨#[]⟩ := by
      apply ByteArray.ext
      exact Array.eq_empty_of_size_eq_zero h0
    exact runs_good _ _ (fun w => flash_new w) v w cs hv
  · by_cases h1 : s.size = 8192
    · exact runs_good _ _ (fun w => flash_in s h1 w) v w cs hv
    · exact runs_bad s h0 h1 v w
end Go.Proofs.Ytcjahdgppnmdkaa
