/- What each parameter may be: package params and the reference; ParamsRanges. -/
import Derived.Test.YtfhcfngogfefjaaPa7
import Derived.Test.YtfhcfngogfefjaaKq5
namespace Go.Proofs.Ytfhcfngogfefjaa
open Go.RowKit Go.Great

/-- a variable that holds a span -/
def Sp (w : World) (g : Nat) (x y : Int) : Prop := w.heap[g]? = some (.cells #[.int .i64 x, .int .i64 y] 30 (0, 0))
theorem Sp.c0 {w : World} {g : Nat} {x y : Int} (h : Sp w g x y) : w.cell? ⟨g, 0, none⟩ = some (.int .i64 x) := by unfold Sp at h; simp [World.cell?, h]
theorem Sp.c1 {w : World} {g : Nat} {x y : Int} (h : Sp w g x y) : w.cell? ⟨g, 1, none⟩ = some (.int .i64 y) := by unfold Sp at h; simp [World.cell?, h]
theorem Sp.fz {w : World} {g : Nat} {x y : Int} (h : Sp w g x y) (i : Nat) : w.frozen? ⟨g, i, none⟩ = false := by unfold Sp at h; simp [World.frozen?, h]
theorem Sp.below {w w' : World} {g : Nat} {x y : Int} (h : Sp w g x y) (hb : Below w.heap.size w w') : Sp w' g x y := by
  unfold Sp at h ⊢; rw [hb.block g (lt_of_block h), h]
theorem Sp.set {w : World} {g : Nat} {x y : Int} (h : Sp w g x y) (a b : Int) : Sp ((w.setCell ⟨g, 0, none⟩ (.int .i64 a)).setCell ⟨g, 1, none⟩ (.int .i64 b)) g a b := by
  have := heap_set (heap_set h 0 (.int .i64 a)) 1 (.int .i64 b)
  simpa [Sp] using this
theorem below_sp {B : Nat} {w w1 : World} {g : Nat} (h : Below B w w1) (hg : B ≤ g) (a b : Value) : Below B w ((w1.setCell ⟨g, 0, none⟩ a).setCell ⟨g, 1, none⟩ b) :=
  (h.setCell (p := ⟨g, 0, none⟩) hg a).setCell (p := ⟨g, 1, none⟩) hg b
theorem span_back {fn : Func} (h : fn.results = #[.cell 2 30, .tmp 3]) (tmps : Array Value) (w : World) (g : Nat) (x y : Int) (b : Value) (hp : tmps.getD 2 undef = .pointer (some ⟨g, 0, none⟩)) (hq : tmps.getD 3 undef = b) (hg : Sp w g x y) : (results fn tmps).run Try.prog w = .ok (.tuple #[.agg #[.int .i64 x, .int .i64 y], b]) w := by
  rw [results_cell_tmp h]
  have := run_loadVar_row (P := Try.prog) w g 30 30 #[.int .i64 x, .int .i64 y] (0, 0) _ hg Try.underlying30 rfl (by kernel_rfl)
  rw [hp, hq]
  simp [asAddr, this, Result.andThen]
set_option maxHeartbeats 1000000 in
theorem range_ok (k : Nat) (hk : k < 24) (w : World) : Calls Try.prog 16 #[.int .i64 k] w fun e w' => e = .returned (.tuple #[.agg #[.int .i64 (loL.getD k 0), .int .i64 (hiL.getD k 0)], .int .i64 0]) ∧ Below w.heap.size w w' := by
  have HP := hide (isParam_any k)
  rw [decide_eq_true (show 0 ≤ (k : Int) by omega), decide_eq_true (show (k : Int) ≤ 23 by omega)] at HP
  have HR := hide rows_any
  have hx := tab_ix k hk
  unfold rowC at hx
  generalize loL.getD k 0 = x at hx ⊢
  generalize hiL.getD k 0 = y at hx ⊢
  generalize deL.getD k 0 = z at hx
  obtain ⟨T, HTab⟩ : ∃ T, Hid (tabC = T) := ⟨_, rfl⟩
  rw [HTab.out] at hx HR
  go_enter Try.func16, Try.ntmps16
  go_wp2_with fail
  refine (HP.out _).mono ?_
  rintro e w1 ⟨rfl, hw1⟩
  have HB1 : Hid (Below w.heap.size w w1) := by rw [hw1]; exact below_alloc _ _
  have HS1 : Hid (Sp w1 w.heap.size 0 0) := by show Sp _ _ _ _; rw [hw1]; exact heap_alloc_new _ _
  clear hw1
  go_wp2_with fail
  refine (HR.out _).mono ?_
  rintro e w2 ⟨rfl, hw2⟩
  have hb2 : Below w1.heap.size w1 w2 := by rw [hw2]; exact below_alloc _ _
  have HB2 : Hid (Below w.heap.size w w2) := below_next HB1.out (Nat.le_refl _) hb2
  have HS2 := hide (HS1.out.below hb2)
  clear hw2 hb2 HB1 HS1
  go_upto_region 4 with fail
  have hb3 := below_alloc w2 (.cells #[.int .i64 x, .int .i64 y, .int .i64 z] 54)
  have HB3 : Hid (Below w.heap.size w (w2.alloc (.cells #[.int .i64 x, .int .i64 y, .int .i64 z] 54))) := below_next HB2.out (Nat.le_refl _) hb3
  have HS3 := hide (HS2.out.below hb3)
  have q0 := HS3.out.c0
  have q1 := HS3.out.c1
  have fz := HS3.out.fz
  have r0 : (w2.alloc (.cells #[.int .i64 x, .int .i64 y, .int .i64 z] 54)).cell? ⟨w2.heap.size, 0, none⟩ = some (.int .i64 x) := by rw [World.cell?_alloc_new]; rfl
  have r1 : (w2.alloc (.cells #[.int .i64 x, .int .i64 y, .int .i64 z] 54)).cell? ⟨w2.heap.size, 1, none⟩ = some (.int .i64 y) := by rw [World.cell?_alloc_new]; rfl
  generalize w2.alloc (.cells #[.int .i64 x, .int .i64 y, .int .i64 z] 54) = w3 at HB3 HS3 q0 q1 fz r0 r1 ⊢
  clear hb3 HB2 HS2
  go_wp2_with fail
  refine bodyPost_ret (span_back Try.results16 _ _ w.heap.size _ _ _ rfl rfl (HS3.out.set _ _)) rfl ?_
  exact ⟨rfl, below_sp HB3.out (Nat.le_refl _) _ _⟩
set_option maxHeartbeats 1000000 in
theorem range_no (i : Int) (hi : ¬ (0 ≤ i ∧ i ≤ 23)) (w : World) : Calls Try.prog 16 #[.int .i64 i] w fun e w' => e = .returned (.tuple #[.agg #[.int .i64 0, .int .i64 0], .int .i64 1]) ∧ Below w.heap.size w w' := by
  have HP := hide (isParam_any i)
  have hf : (decide (0 ≤ i) && decide (i ≤ 23)) = false := by
    by_cases h1 : 0 ≤ i
    · simp; omega
    · simp; omega
  rw [hf] at HP
  clear hf hi
  go_enter Try.func16, Try.ntmps16
  go_wp2_with fail
  refine (HP.out _).mono ?_
  rintro e w1 ⟨rfl, hw1⟩
  have HB1 : Hid (Below w.heap.size w w1) := by rw [hw1]; exact below_alloc _ _
  have HS1 : Hid (Sp w1 w.heap.size 0 0) := by show Sp _ _ _ _; rw [hw1]; exact heap_alloc_new _ _
  have q0 := HS1.out.c0
  have q1 := HS1.out.c1
  have fz := HS1.out.fz
  clear hw1
  go_wp2_with fail
  refine bodyPost_ret (span_back Try.results16 _ _ w.heap.size _ _ _ rfl rfl (HS1.out.set _ _)) rfl ?_
  exact ⟨rfl, below_sp HB1.out (Nat.le_refl _) _ _⟩
set_option maxHeartbeats 1000000 in
theorem rrange_no (i : Int) (hi : ¬ (0 ≤ i ∧ i ≤ 23)) (w : World) : Calls Try.prog 17 #[.int .i64 i] w fun e w' => e = .returned (.tuple #[.agg #[.int .i64 0, .int .i64 0], .int .i64 1]) ∧ Below w.heap.size w w' := by
  have HB1 := hide (below_alloc w (.cells #[.int .i64 0, .int .i64 0] 30))
  have HS1 : Hid (Sp (w.alloc (.cells #[.int .i64 0, .int .i64 0] 30)) w.heap.size 0 0) := heap_alloc_new _ _
  by_cases h1 : i < 0
  · have d1 := decide_eq_true h1
    clear hi h1
    go_enter Try.func17, Try.ntmps17
    go_upto_region 1 with fail
    generalize w.alloc (.cells #[.int .i64 0, .int .i64 0] 30) = w1 at HB1 HS1 ⊢
    have q0 := HS1.out.c0
    have q1 := HS1.out.c1
    have fz := HS1.out.fz
    go_wp2_with fail
    refine bodyPost_ret (span_back Try.results17 _ _ w.heap.size _ _ _ rfl rfl (HS1.out.set _ _)) rfl ?_
    exact ⟨rfl, below_sp HB1.out (Nat.le_refl _) _ _⟩
  · have d1 := decide_eq_false h1
    have d2 : decide (24 ≤ i) = true := decide_eq_true (by omega)
    clear hi h1
    go_enter Try.func17, Try.ntmps17
    go_upto_region 1 with fail
    generalize w.alloc (.cells #[.int .i64 0, .int .i64 0] 30) = w1 at HB1 HS1 ⊢
    have q0 := HS1.out.c0
    have q1 := HS1.out.c1
    have fz := HS1.out.fz
    go_wp2_with fail
    refine bodyPost_ret (span_back Try.results17 _ _ w.heap.size _ _ _ rfl rfl (HS1.out.set _ _)) rfl ?_
    exact ⟨rfl, below_sp HB1.out (Nat.le_refl _) _ _⟩
set_option maxHeartbeats 4000000 in
theorem rrange_ok (k : Nat) (hk : k < 24) (w : World) : Calls Try.prog 17 #[.int .i64 k] w fun e w' => e = .returned (.tuple #[.agg #[.int .i64 (loL.getD k 0), .int .i64 (hiL.getD k 0)], .int .i64 0]) ∧ Below w.heap.size w w' := by
  have HLo := hide (lows_at k hk)
  have HHi := hide (highs_at k hk)
  have HB1 := hide (below_alloc w (.cells #[.int .i64 0, .int .i64 0] 30))
  have HS1 : Hid (Sp (w.alloc (.cells #[.int .i64 0, .int .i64 0] 30)) w.heap.size 0 0) := heap_alloc_new _ _
  generalize loL.getD k 0 = x at HLo ⊢
  generalize hiL.getD k 0 = y at HHi ⊢
  go_enter Try.func17, Try.ntmps17
  go_upto_region 1 with fail
  generalize w.alloc (.cells #[.int .i64 0, .int .i64 0] 30) = w1 at HB1 HS1 ⊢
  go_wp2_with fail
  refine wp_region_held_drew (S := fun _ => True) (by kernel_rfl) (trivial) (fun hHeld => ?_)
  refine take_at (i := 1) (v := .int .i64 k) (d := some 12) rfl rfl (by kernel_rfl) (by kernel_rfl) (by kernel_rfl) (fun _ _ _ h => h) (Or.inl ⟨by rfl, fun wS hSw => by go_simp; all_goals (rw [IntKind.wrap_i64]; omega)⟩) (by assumption) ?_
  simp only [Act.put, List.setIfInBounds_toArray, List.set_cons_zero, List.set_cons_succ]
  refine take_at (i := 5) (v := .int .i64 k) (d := some 16) rfl rfl (by kernel_rfl) (by kernel_rfl) (by kernel_rfl) (fun _ _ _ h => h) (Or.inl ⟨by rfl, fun wS hSw => by go_simp; all_goals (rw [IntKind.wrap_i64]; omega)⟩) (by assumption) ?_
  simp only [Act.put, List.setIfInBounds_toArray, List.set_cons_zero, List.set_cons_succ]
  refine wpAnyH_ready (rs := [0]) (by kernel_rfl) (by simp) ?_
  refine AllReadyH.cons rfl (fun K hK => ?_) AllReadyH.nil
  go_simp
  refine (HLo.out _).mono ?_
  rintro e w2 ⟨g2, rfl, hc2, hg2, hB2⟩
  replace hB2 := below_undrew hB2
  have HB2 : Hid (Below w.heap.size w w2) := below_next HB1.out (Nat.le_refl _) hB2
  have HS2 := hide (HS1.out.below hB2)
  clear hB2 HB1 HS1
  refine hK.out _ _ (trivial) (fun hHeld => ?_)
  clear hK K
  refine take_at (i := 2) (v := .pointer (some ⟨g2, k, none⟩)) (d := some 13) rfl rfl (by kernel_rfl) (by kernel_rfl) (by kernel_rfl) (fun _ _ _ h => h) (Or.inl ⟨by rfl, fun wS hSw => by go_simp; all_goals (rw [IntKind.wrap_i64]; omega)⟩) (by assumption) ?_
  simp only [Act.put, List.setIfInBounds_toArray, List.set_cons_zero, List.set_cons_succ]
  refine wpAnyH_ready (rs := [3, 4]) (by kernel_rfl) (by simp) ?_
  refine AllReadyH.cons rfl (fun K hK => ?_) (AllReadyH.cons rfl (fun K hK => ?_) AllReadyH.nil)
  · go_simp
    refine hK.out _ _ (trivial) (fun hHeld => ?_)
    clear hK K
    refine wpAnyH_ready (rs := [4]) (by kernel_rfl) (by simp) ?_
    refine AllReadyH.cons rfl (fun K hK => ?_) AllReadyH.nil
    go_simp
    refine (HHi.out _).mono ?_
    rintro e w3 ⟨g3, rfl, hc3, hg3, hB3⟩
    have HB3 : Hid (Below w.heap.size w w3) := below_next HB2.out (Nat.le_refl _) hB3
    have HS3 := hide (HS2.out.below hB3)
    have hc2' := (hB3.cell (p := ⟨g2, k, none⟩) hg2).trans hc2
    have q0 := HS3.out.c0
    have q1 := HS3.out.c1
    have fz := HS3.out.fz
    clear hB3 HB2 HS2 hc2
    refine hK.out _ _ trivial (fun hHeld => ?_)
    clear hK K
    refine take_at (i := 6) (v := .pointer (some ⟨g3, k, none⟩)) (d := some 17) rfl rfl (by kernel_rfl) (by kernel_rfl) (by kernel_rfl) (fun _ _ _ h => h) (Or.inl ⟨by rfl, fun wS hSw => by go_simp; all_goals (rw [IntKind.wrap_i64]; omega)⟩) (by assumption) ?_
    simp only [Act.put, List.setIfInBounds_toArray, List.set_cons_zero, List.set_cons_succ]
    refine wpAnyH_ready (rs := [7]) (by kernel_rfl) (by simp) ?_
    refine AllReadyH.cons rfl (fun K hK => ?_) AllReadyH.nil
    go_simp
    refine hK.out _ _ (trivial) (fun hHeld => ?_)
    clear hK K
    refine take_at (i := 8) (v := .agg #[.int .i64 x, .int .i64 y]) (d := some 19) rfl rfl (by kernel_rfl) (by kernel_rfl) (by kernel_rfl) (fun _ _ _ h => h) (Or.inl ⟨by rfl, fun wS hSw => by go_simp; all_goals (rw [IntKind.wrap_i64]; omega)⟩) (by assumption) ?_
    simp only [Act.put, List.setIfInBounds_toArray, List.set_cons_zero, List.set_cons_succ]
    refine wpAnyH_ready (rs := [9]) (by kernel_rfl) (by simp) ?_
    refine AllReadyH.cons rfl (fun K hK => ?_) AllReadyH.nil
    go_simp
    refine hK.out _ _ (trivial) (fun hHeld => ?_)
    clear hK K
    refine take_at (i := 10) (v := .int .i64 0) (d := some 3) rfl rfl (by kernel_rfl) (by kernel_rfl) (by kernel_rfl) (fun _ _ _ h => h) (Or.inl ⟨by rfl, fun wS hSw => by go_simp; all_goals (rw [IntKind.wrap_i64]; omega)⟩) (by assumption) ?_
    simp only [Act.put, List.setIfInBounds_toArray, List.set_cons_zero, List.set_cons_succ]
    refine wpAnyH_done (by kernel_rfl) ?_ _
    go_simp
    clear q0 q1 fz
    go_wp2_with fail
    refine bodyPost_ret (span_back Try.results17 _ _ w.heap.size _ _ _ rfl rfl (HS3.out.set _ _)) rfl ?_
    exact ⟨rfl, below_sp HB3.out (Nat.le_refl _) _ _⟩
  · go_simp
    refine (HHi.out _).mono ?_
    rintro e w3 ⟨g3, rfl, hc3, hg3, hB3⟩
    have HB3 : Hid (Below w.heap.size w w3) := below_next HB2.out (Nat.le_refl _) hB3
    have HS3 := hide (HS2.out.below hB3)
    have hc2' := (hB3.cell (p := ⟨g2, k, none⟩) hg2).trans hc2
    have q0 := HS3.out.c0
    have q1 := HS3.out.c1
    have fz := HS3.out.fz
    clear hB3 HB2 HS2 hc2
    refine hK.out _ _ trivial (fun hHeld => ?_)
    clear hK K
    refine take_at (i := 6) (v := .pointer (some ⟨g3, k, none⟩)) (d := some 17) rfl rfl (by kernel_rfl) (by kernel_rfl) (by kernel_rfl) (fun _ _ _ h => h) (Or.inl ⟨by rfl, fun wS hSw => by go_simp; all_goals (rw [IntKind.wrap_i64]; omega)⟩) (by assumption) ?_
    simp only [Act.put, List.setIfInBounds_toArray, List.set_cons_zero, List.set_cons_succ]
    refine wpAnyH_ready (rs := [3, 7]) (by kernel_rfl) (by simp) ?_
    refine AllReadyH.cons rfl (fun K hK => ?_) (AllReadyH.cons rfl (fun K hK => ?_) AllReadyH.nil)
    · go_simp
      refine hK.out _ _ (trivial) (fun hHeld => ?_)
      clear hK K
      refine wpAnyH_ready (rs := [7]) (by kernel_rfl) (by simp) ?_
      refine AllReadyH.cons rfl (fun K hK => ?_) AllReadyH.nil
      go_simp
      refine hK.out _ _ (trivial) (fun hHeld => ?_)
      clear hK K
      refine take_at (i := 8) (v := .agg #[.int .i64 x, .int .i64 y]) (d := some 19) rfl rfl (by kernel_rfl) (by kernel_rfl) (by kernel_rfl) (fun _ _ _ h => h) (Or.inl ⟨by rfl, fun wS hSw => by go_simp; all_goals (rw [IntKind.wrap_i64]; omega)⟩) (by assumption) ?_
      simp only [Act.put, List.setIfInBounds_toArray, List.set_cons_zero, List.set_cons_succ]
      refine wpAnyH_ready (rs := [9]) (by kernel_rfl) (by simp) ?_
      refine AllReadyH.cons rfl (fun K hK => ?_) AllReadyH.nil
      go_simp
      refine hK.out _ _ (trivial) (fun hHeld => ?_)
      clear hK K
      refine take_at (i := 10) (v := .int .i64 0) (d := some 3) rfl rfl (by kernel_rfl) (by kernel_rfl) (by kernel_rfl) (fun _ _ _ h => h) (Or.inl ⟨by rfl, fun wS hSw => by go_simp; all_goals (rw [IntKind.wrap_i64]; omega)⟩) (by assumption) ?_
      simp only [Act.put, List.setIfInBounds_toArray, List.set_cons_zero, List.set_cons_succ]
      refine wpAnyH_done (by kernel_rfl) ?_ _
      go_simp
      clear q0 q1 fz
      go_wp2_with fail
      refine bodyPost_ret (span_back Try.results17 _ _ w.heap.size _ _ _ rfl rfl (HS3.out.set _ _)) rfl ?_
      exact ⟨rfl, below_sp HB3.out (Nat.le_refl _) _ _⟩
    · go_simp
      refine hK.out _ _ (trivial) (fun hHeld => ?_)
      clear hK K
      refine wpAnyH_ready (rs := [3]) (by kernel_rfl) (by simp) ?_
      refine AllReadyH.cons rfl (fun K hK => ?_) AllReadyH.nil
      go_simp
      refine hK.out _ _ (trivial) (fun hHeld => ?_)
      clear hK K
      refine take_at (i := 8) (v := .agg #[.int .i64 x, .int .i64 y]) (d := some 19) rfl rfl (by kernel_rfl) (by kernel_rfl) (by kernel_rfl) (fun _ _ _ h => h) (Or.inl ⟨by rfl, fun wS hSw => by go_simp; all_goals (rw [IntKind.wrap_i64]; omega)⟩) (by assumption) ?_
      simp only [Act.put, List.setIfInBounds_toArray, List.set_cons_zero, List.set_cons_succ]
      refine wpAnyH_ready (rs := [9]) (by kernel_rfl) (by simp) ?_
      refine AllReadyH.cons rfl (fun K hK => ?_) AllReadyH.nil
      go_simp
      refine hK.out _ _ (trivial) (fun hHeld => ?_)
      clear hK K
      refine take_at (i := 10) (v := .int .i64 0) (d := some 3) rfl rfl (by kernel_rfl) (by kernel_rfl) (by kernel_rfl) (fun _ _ _ h => h) (Or.inl ⟨by rfl, fun wS hSw => by go_simp; all_goals (rw [IntKind.wrap_i64]; omega)⟩) (by assumption) ?_
      simp only [Act.put, List.setIfInBounds_toArray, List.set_cons_zero, List.set_cons_succ]
      refine wpAnyH_done (by kernel_rfl) ?_ _
      go_simp
      clear q0 q1 fz
      go_wp2_with fail
      refine bodyPost_ret (span_back Try.results17 _ _ w.heap.size _ _ _ rfl rfl (HS3.out.set _ _)) rfl ?_
      exact ⟨rfl, below_sp HB3.out (Nat.le_refl _) _ _⟩
end Go.Proofs.Ytfhcfngogfefjaa
