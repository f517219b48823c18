/- Margins of package params. -/
import Derived.Test.YtnofpcoohbmnpaaPr2
namespace Go.Proofs.Ytnofpcoohbmnpaa
open Go.RowKit Go.Great

/-- a struct of margins -/
def marV (m : Mar) : Value := .agg #[.int .i64 m.brake, .int .i64 m.drift, .int .i64 m.jolt, .int .i64 m.fast, .int .i64 m.lane, .int .i64 m.drain]
def marZ : Mar := ⟨0, 0, 0, 0, 0, 0⟩
/-- what Margins answers -/
def marE (l : List Int) : Mar := if chk l = 0 then marL l else marZ
/-- what sound parameters are bounded by -/
theorem Sound.facts {l : List Int} (h : Sound l) : (48 ≤ (marL l).brake ∧ (marL l).brake ≤ 64) ∧ (2 ≤ (marL l).drift ∧ (marL l).drift ≤ 34) ∧ (86 ≤ (marL l).jolt ∧ (marL l).jolt ≤ 430) ∧ (2000 ≤ (marL l).fast ∧ (marL l).fast ≤ 65000) := by
  have b := h.inr.bounds
  have e := h.inr.errs
  unfold marL
  simp only
  omega
theorem upI_in (a b : Int) (h : 1 ≤ b) (h0 : 0 ≤ a) : 0 ≤ upI a b ∧ upI a b ≤ a := by
  have := ediv_in (-a) b h
  unfold upI
  by_cases z : a = 0
  · subst z; simp
  · have := this.2 (by omega); omega
theorem heap_setP {w : World} {g : Nat} {cs : Array Value} {t : TypeId} {fr : Nat × Nat} (h : w.heap[g]? = some (.cells cs t fr)) (i : Nat) (u : Value) : (w.setCell ⟨g, i, none⟩ u).heap[g]? = some (.cells (cs.setIfInBounds i u) t fr) := by
  have hlt := lt_of_block h
  have h' : w.heap[g] = .cells cs t fr := by simpa [Array.getElem?_eq_getElem hlt] using h
  show (w.heap.modify g _)[g]? = _
  rw [Array.getElem?_eq_getElem (by simpa using hlt), Array.getElem_modify_self, h']
  rfl
/-- a variable that holds margins -/
def Mb (w : World) (g : Nat) (c : Array Value) : Prop := w.heap[g]? = some (.cells c 54 (0, 0))
theorem Mb.at {w : World} {g : Nat} {c : Array Value} (h : Mb w g c) (i : Nat) (v : Value) (hc : c[i]? = some v) : w.cell? ⟨g, i, none⟩ = some v := by
  unfold Mb at h; simp [World.cell?, h, hc]
theorem Mb.fz {w : World} {g : Nat} {c : Array Value} (h : Mb w g c) (i : Nat) : w.frozen? ⟨g, i, none⟩ = false := by
  unfold Mb at h; simp [World.frozen?, h]
theorem Mb.set {w : World} {g : Nat} {c : Array Value} (h : Mb w g c) (i : Nat) (u : Value) : Mb (w.setCell ⟨g, i, none⟩ u) g (c.setIfInBounds i u) := heap_setP h i u
theorem Mb.below {w w' : World} {g : Nat} {c : Array Value} (h : Mb w g c) (hb : Below w.heap.size w w') : Mb w' g c := by
  unfold Mb at h ⊢; rw [hb.block g (lt_of_block h), h]
def arr6 (a b c d e f : Value) : Array Value := #[a, b, c, d, e, f]
theorem Mb.set6 {w : World} {g : Nat} {a0 a1 a2 a3 a4 a5 : Value} (h : Mb w g (arr6 a0 a1 a2 a3 a4 a5)) (u0 u1 u2 u3 u4 u5 : Value) : Mb ((((((w.setCell ⟨g, 0, none⟩ u0).setCell ⟨g, 1, none⟩ u1).setCell ⟨g, 2, none⟩ u2).setCell ⟨g, 3, none⟩ u3).setCell ⟨g, 4, none⟩ u4).setCell ⟨g, 5, none⟩ u5) g (arr6 u0 u1 u2 u3 u4 u5) := by
  have := (((((h.set 0 u0).set 1 u1).set 2 u2).set 3 u3).set 4 u4).set 5 u5
  exact this
theorem below_set6 {B : Nat} {w w1 : World} {g : Nat} (h : Below B w w1) (hg : B ≤ g) (u0 u1 u2 u3 u4 u5 : Value) : Below B w ((((((w1.setCell ⟨g, 0, none⟩ u0).setCell ⟨g, 1, none⟩ u1).setCell ⟨g, 2, none⟩ u2).setCell ⟨g, 3, none⟩ u3).setCell ⟨g, 4, none⟩ u4).setCell ⟨g, 5, none⟩ u5) :=
  (((((h.setCell (p := ⟨g, 0, none⟩) hg u0).setCell (p := ⟨g, 1, none⟩) hg u1).setCell (p := ⟨g, 2, none⟩) hg u2).setCell (p := ⟨g, 3, none⟩) hg u3).setCell (p := ⟨g, 4, none⟩) hg u4).setCell (p := ⟨g, 5, none⟩) hg u5
theorem mar_back {fn : Func} (h : fn.results = #[.cell 2 54, .tmp 3]) (tmps : Array Value) (w : World) (g : Nat) (u0 u1 u2 u3 u4 u5 : Value) (b : Value) (hp : tmps.getD 2 undef = .pointer (some ⟨g, 0, none⟩)) (hq : tmps.getD 3 undef = b) (hg : Mb w g (arr6 u0 u1 u2 u3 u4 u5)) : (results fn tmps).run Try.prog w = .ok (.tuple #[.agg #[u0, u1, u2, u3, u4, u5], b]) w := by
  rw [results_cell_tmp h]
  have := run_loadVar_row (P := Try.prog) w g 54 54 #[u0, u1, u2, u3, u4, u5] (0, 0) _ hg Try.underlying54 rfl (by kernel_rfl)
  rw [hp, hq]
  simp [asAddr, this, Result.andThen]
def zero6 : Array Value := arr6 (.int .i64 0) (.int .i64 0) (.int .i64 0) (.int .i64 0) (.int .i64 0) (.int .i64 0)
/-- the world within Margins: the result's block is laid, parameters are as they were -/
def MCx (w : World) (g o cap : Nat) (l : List Int) (wx : World) : Prop := Below w.heap.size w wx ∧ Mb wx w.heap.size zero6 ∧ (∀ i, i < 24 → wx.cell? ⟨g, o + i, none⟩ = some (.int .i64 (l.getD i 0))) ∧ Ints wx (.slice (some ⟨g, o, none⟩) 24 cap) l
theorem drewN_heap (w : World) (n : Nat) : (w.drewN n).heap = w.heap := by
  induction n with
  | zero => rfl
  | succ n ih => exact ih
theorem MCx.drewN {w : World} {g o cap : Nat} {l : List Int} {wx : World} (h : MCx w g o cap l wx) (q : Nat) : MCx w g o cap l (wx.drewN q) :=
  ⟨below_drewN h.1 q, by unfold Mb; rw [drewN_heap]; exact h.2.1, fun i hi => by rw [drewN_cell]; exact h.2.2.1 i hi, h.2.2.2.drewN q⟩
theorem run_max3 (x y z : Int) (ts : Array TypeId) (t : TypeId) (w : World) : (Builtin.max_ ts t #[.int .i64 x, .int .i64 y, .int .i64 z]).run Try.prog w = .ok (.int .i64 (max (max x y) z)) w := by
  have h : (if z > (if y > x then y else x) then z else if y > x then y else x) = max (max x y) z := by split <;> split <;> omega
  rw [← h]
  simp [Builtin.max_, Builtin.max2]
set_option maxHeartbeats 4000000 in
theorem margins_ok (l : List Int) (h : Sound l) (v : Value) (w : World) (hv : Ints w v l) : Calls Try.prog 18 #[v] w fun e w' => e = .returned (.tuple #[marV (marL l), .int .i64 0]) ∧ Below w.heap.size w w' := by
  have hck := fun W hW => check_any l v W hW
  have HSp := hide (fun W hW => speE_any l (by have := h.len; omega) v W hW)
  have HPl := hide (fun W hW => plaE_any l (by have := h.len; omega) v W hW)
  have HV := hide hv
  have hc0 := h.chk
  have hF := h.facts
  have hB0 := h.inr.bounds
  have hE0 := h.inr.errs
  obtain ⟨g, o, cap, rfl, hg, hcc⟩ := hv.open24 h.len
  have HC := hide hcc
  rw [hc0] at hck
  have hva := hv.below (below_alloc w (.cells #[.int .i64 0, .int .i64 0, .int .i64 0, .int .i64 0, .int .i64 0, .int .i64 0] 54))
  have HCK := hide (hck _ hva)
  clear hcc hv hck hc0 hva
  go_enter Try.func18, Try.ntmps18
  go_wp2_with fail
  refine HCK.out.mono ?_
  rintro e w1 ⟨rfl, hB1⟩
  have HN1 : Hid (w1.heap[w.heap.size]? = some (.cells #[.int .i64 0, .int .i64 0, .int .i64 0, .int .i64 0, .int .i64 0, .int .i64 0] 54 (0, 0))) := by
    show _ = _
    rw [hB1.block w.heap.size (by rw [size_alloc]; omega)]; exact heap_alloc_new _ _
  have HB1 : Hid (Below w.heap.size w w1) := below_over hB1
  have HM1 : Hid (MCx w g o cap l w1) := ⟨HB1.out, HN1.out, fun i hi => (HB1.out.cell (p := ⟨g, o + i, none⟩) hg).trans (HC.out i hi), HV.out.below HB1.out⟩
  have HC0 := HC
  clear hB1 HCK HC HV HN1 HB1
  obtain ⟨b0, b1, b2, b3, b4, b5, b6, b7, b8, b9, b10, b11, b12, b19, b20⟩ := hB0
  obtain ⟨e0, e1⟩ := hE0
  have d0 : w1.cell? ⟨g, o, none⟩ = some (.int .i64 (l.getD 0 0)) := HM1.out.2.2.1 0 (by omega)
  obtain ⟨se, HSE⟩ : ∃ x, Hid (speE l = x) := ⟨_, rfl⟩
  obtain ⟨pe, HPE⟩ : ∃ x, Hid (plaE l = x) := ⟨_, rfl⟩
  obtain ⟨p0, H0⟩ : ∃ x, Hid (l.getD 0 0 = x) := ⟨_, rfl⟩
  rw [HSE.out] at HSp e0
  rw [HPE.out] at HPl e1
  rw [H0.out] at d0 b0
  clear b1 b2 b3 b4 b6 b10 b11 b12 hF
  go_wp2_with fail
  go_quiet (first | (go_at_call 33; exact Calls.quiet_of (HSp.out _ (HM1.out.2.2.2.drewN _))))
  have HM2 := hide (HM1.out.drewN nq)
  generalize w1.drewN nq = w2 at HM2 ⊢
  have d5 := HM2.out.2.2.1 5 (by omega)
  have d7 := HM2.out.2.2.1 7 (by omega)
  have d8 := HM2.out.2.2.1 8 (by omega)
  have d9 := HM2.out.2.2.1 9 (by omega)
  obtain ⟨p5, H5⟩ : ∃ x, Hid (l.getD 5 0 = x) := ⟨_, rfl⟩
  obtain ⟨p7, H7⟩ : ∃ x, Hid (l.getD 7 0 = x) := ⟨_, rfl⟩
  obtain ⟨p8, H8⟩ : ∃ x, Hid (l.getD 8 0 = x) := ⟨_, rfl⟩
  obtain ⟨p9, H9⟩ : ∃ x, Hid (l.getD 9 0 = x) := ⟨_, rfl⟩
  rw [H5.out] at d5 b5
  rw [H7.out] at d7 b7
  rw [H8.out] at d8 b8
  rw [H9.out] at d9 b9
  have hmx := run_max3 p7 p8 p9
  obtain ⟨mx, HMX⟩ : ∃ x, Hid (max (max p7 p8) p9 = x) := ⟨_, rfl⟩
  rw [HMX.out] at hmx
  have hmb : 2000 ≤ mx ∧ mx ≤ 64000 := by have := HMX.out; omega
  clear d0 HM1 HSp
  go_wp2_with fail
  go_quiet (fail)
  have HM3 := hide (HM2.out.drewN nq)
  generalize w2.drewN nq = w3 at HM3 ⊢
  obtain ⟨br, HBR⟩ : ∃ x, Hid (64 - p0 = x) := ⟨_, rfl⟩
  obtain ⟨dr, HDR⟩ : ∃ x, Hid (p0 + se + 2 = x) := ⟨_, rfl⟩
  obtain ⟨jo, HJO⟩ : ∃ x, Hid (86 * (p5 + 1) = x) := ⟨_, rfl⟩
  rw [HBR.out, HDR.out, HJO.out]
  obtain ⟨fa, HFA⟩ : ∃ x, Hid (mx + 128 + jo + dr = x) := ⟨_, rfl⟩
  rw [HFA.out]
  have c1 : 48 ≤ br ∧ br ≤ 64 := by have := HBR.out; omega
  have c2 : 2 ≤ dr ∧ dr ≤ 34 := by have := HDR.out; omega
  have c3 : 86 ≤ jo ∧ jo ≤ 430 := by have := HJO.out; omega
  have c4 : 2000 ≤ fa ∧ fa ≤ 65000 := by have := HFA.out; omega
  have hwb := way_in fa br (by omega) (by omega) (by omega) (by omega)
  have HWay := fun W => hide (pway_any fa br W (by omega) (by omega) (by omega) (by omega))
  obtain ⟨wy, HWY⟩ : ∃ x, Hid (wayI fa br = x) := ⟨_, rfl⟩
  rw [HWY.out] at hwb HWay
  have HUp := fun W => hide (pup_any wy 6400 W (by unfold I64; omega) (by omega))
  have hub := upI_in wy 6400 (by omega) hwb.1
  obtain ⟨up, HUP⟩ : ∃ x, Hid (upI wy 6400 = x) := ⟨_, rfl⟩
  rw [HUP.out] at hub HUp
  have d19 := HM3.out.2.2.1 19 (by omega)
  have d20 := HM3.out.2.2.1 20 (by omega)
  obtain ⟨p19, H19⟩ : ∃ x, Hid (l.getD 19 0 = x) := ⟨_, rfl⟩
  obtain ⟨p20, H20⟩ : ∃ x, Hid (l.getD 20 0 = x) := ⟨_, rfl⟩
  rw [H19.out] at d19 b19
  rw [H20.out] at d20 b20
  have HDn := fun W => hide (pdown_any (1824 * p20) 1024 W (by unfold I64; omega) (by omega))
  have hdb : 0 ≤ 1824 * p20 / 1024 ∧ 1824 * p20 / 1024 ≤ 1824000 := by omega
  obtain ⟨dn, HDN⟩ : ∃ x, Hid (1824 * p20 / 1024 = x) := ⟨_, rfl⟩
  rw [HDN.out] at hdb HDn
  clear d5 d7 d8 d9 HM2 hmx
  go_wp2_with fail
  refine wp_region_held_drew (S := fun wx => wx.cell? ⟨g, o + 19, none⟩ = some (.int .i64 p19) ∧ wx.cell? ⟨g, o + 20, none⟩ = some (.int .i64 p20)) (by kernel_rfl) (by exact ⟨d19, d20⟩) (fun hHeld => ?_)
  refine take_at (i := 0) (v := .int .i64 br) (d := some 46) rfl rfl (by kernel_rfl) (by kernel_rfl) (by kernel_rfl) (fun _ _ _ h => h) (Or.inl ⟨by rfl, fun wS ⟨hS0, hS1⟩ => by go_simp; all_goals (rw [IntKind.wrap_i64]; omega)⟩) (by assumption) ?_
  simp only [Act.put, List.setIfInBounds_toArray, List.set_cons_zero, List.set_cons_succ]
  refine take_at (i := 1) (v := .int .i64 dr) (d := some 47) rfl rfl (by kernel_rfl) (by kernel_rfl) (by kernel_rfl) (fun _ _ _ h => h) (Or.inl ⟨by rfl, fun wS ⟨hS0, hS1⟩ => by go_simp; all_goals (rw [IntKind.wrap_i64]; omega)⟩) (by assumption) ?_
  simp only [Act.put, List.setIfInBounds_toArray, List.set_cons_zero, List.set_cons_succ]
  refine take_at (i := 2) (v := .int .i64 jo) (d := some 48) rfl rfl (by kernel_rfl) (by kernel_rfl) (by kernel_rfl) (fun _ _ _ h => h) (Or.inl ⟨by rfl, fun wS ⟨hS0, hS1⟩ => by go_simp; all_goals (rw [IntKind.wrap_i64]; omega)⟩) (by assumption) ?_
  simp only [Act.put, List.setIfInBounds_toArray, List.set_cons_zero, List.set_cons_succ]
  refine take_at (i := 3) (v := .int .i64 fa) (d := some 49) rfl rfl (by kernel_rfl) (by kernel_rfl) (by kernel_rfl) (fun _ _ _ h => h) (Or.inl ⟨by rfl, fun wS ⟨hS0, hS1⟩ => by go_simp; all_goals (rw [IntKind.wrap_i64]; omega)⟩) (by assumption) ?_
  simp only [Act.put, List.setIfInBounds_toArray, List.set_cons_zero, List.set_cons_succ]
  refine take_at (i := 4) (v := .int .i64 fa) (d := some 50) rfl rfl (by kernel_rfl) (by kernel_rfl) (by kernel_rfl) (fun _ _ _ h => h) (Or.inl ⟨by rfl, fun wS ⟨hS0, hS1⟩ => by go_simp; all_goals (rw [IntKind.wrap_i64]; omega)⟩) (by assumption) ?_
  simp only [Act.put, List.setIfInBounds_toArray, List.set_cons_zero, List.set_cons_succ]
  refine take_at (i := 5) (v := .int .i64 br) (d := some 51) rfl rfl (by kernel_rfl) (by kernel_rfl) (by kernel_rfl) (fun _ _ _ h => h) (Or.inl ⟨by rfl, fun wS ⟨hS0, hS1⟩ => by go_simp; all_goals (rw [IntKind.wrap_i64]; omega)⟩) (by assumption) ?_
  simp only [Act.put, List.setIfInBounds_toArray, List.set_cons_zero, List.set_cons_succ]
  refine take_at (i := 8) (v := .slice (some ⟨g, o, none⟩) 24 cap) (d := some 54) rfl rfl (by kernel_rfl) (by kernel_rfl) (by kernel_rfl) (fun _ _ _ h => h) (Or.inl ⟨by rfl, fun wS ⟨hS0, hS1⟩ => by go_simp; all_goals (rw [IntKind.wrap_i64]; omega)⟩) (by assumption) ?_
  simp only [Act.put, List.setIfInBounds_toArray, List.set_cons_zero, List.set_cons_succ]
  refine take_at (i := 13) (v := .slice (some ⟨g, o, none⟩) 24 cap) (d := some 59) rfl rfl (by kernel_rfl) (by kernel_rfl) (by kernel_rfl) (fun _ _ _ h => h) (Or.inl ⟨by rfl, fun wS ⟨hS0, hS1⟩ => by go_simp; all_goals (rw [IntKind.wrap_i64]; omega)⟩) (by assumption) ?_
  simp only [Act.put, List.setIfInBounds_toArray, List.set_cons_zero, List.set_cons_succ]
  refine take_at (i := 14) (v := .pointer (some ⟨g, o + 19, none⟩)) (d := some 60) rfl rfl (by kernel_rfl) (by kernel_rfl) (by kernel_rfl) (fun _ _ _ h => h) (Or.inl ⟨by rfl, fun wS ⟨hS0, hS1⟩ => by go_simp; all_goals (rw [IntKind.wrap_i64]; omega)⟩) (by assumption) ?_
  simp only [Act.put, List.setIfInBounds_toArray, List.set_cons_zero, List.set_cons_succ]
  refine take_at (i := 15) (v := .int .i64 p19) (d := some 61) rfl rfl (by kernel_rfl) (by kernel_rfl) (by kernel_rfl) (fun _ _ _ h => h) (Or.inl ⟨by rfl, fun wS ⟨hS0, hS1⟩ => by go_simp; all_goals (rw [IntKind.wrap_i64]; omega)⟩) (by assumption) ?_
  simp only [Act.put, List.setIfInBounds_toArray, List.set_cons_zero, List.set_cons_succ]
  refine take_at (i := 16) (v := .slice (some ⟨g, o, none⟩) 24 cap) (d := some 62) rfl rfl (by kernel_rfl) (by kernel_rfl) (by kernel_rfl) (fun _ _ _ h => h) (Or.inl ⟨by rfl, fun wS ⟨hS0, hS1⟩ => by go_simp; all_goals (rw [IntKind.wrap_i64]; omega)⟩) (by assumption) ?_
  simp only [Act.put, List.setIfInBounds_toArray, List.set_cons_zero, List.set_cons_succ]
  refine take_at (i := 17) (v := .pointer (some ⟨g, o + 20, none⟩)) (d := some 63) rfl rfl (by kernel_rfl) (by kernel_rfl) (by kernel_rfl) (fun _ _ _ h => h) (Or.inl ⟨by rfl, fun wS ⟨hS0, hS1⟩ => by go_simp; all_goals (rw [IntKind.wrap_i64]; omega)⟩) (by assumption) ?_
  simp only [Act.put, List.setIfInBounds_toArray, List.set_cons_zero, List.set_cons_succ]
  refine take_at (i := 18) (v := .int .i64 p20) (d := some 64) rfl rfl (by kernel_rfl) (by kernel_rfl) (by kernel_rfl) (fun _ _ _ h => h) (Or.inl ⟨by rfl, fun wS ⟨hS0, hS1⟩ => by go_simp; all_goals (rw [IntKind.wrap_i64]; omega)⟩) (by assumption) ?_
  simp only [Act.put, List.setIfInBounds_toArray, List.set_cons_zero, List.set_cons_succ]
  refine take_at (i := 19) (v := .int .i64 (1824 * p20)) (d := some 65) rfl rfl (by kernel_rfl) (by kernel_rfl) (by kernel_rfl) (fun _ _ _ h => h) (Or.inl ⟨by rfl, fun wS ⟨hS0, hS1⟩ => by go_simp; all_goals (rw [IntKind.wrap_i64]; omega)⟩) (by assumption) ?_
  simp only [Act.put, List.setIfInBounds_toArray, List.set_cons_zero, List.set_cons_succ]
  refine wpAnyH_ready (rs := [6]) (by kernel_rfl) (by simp) ?_
  refine AllReadyH.cons rfl (fun K hK => ?_) AllReadyH.nil
  go_simp
  refine (HWay _).out.mono ?_
  rintro e w4 ⟨rfl, hw4⟩
  obtain rfl := hw4.symm
  refine hK.out _ _ (by exact ⟨d19, d20⟩) (fun hHeld => ?_)
  clear hK K
  refine wpAnyH_ready (rs := [7]) (by kernel_rfl) (by simp) ?_
  refine AllReadyH.cons rfl (fun K hK => ?_) AllReadyH.nil
  go_simp
  refine (HUp _).out.mono ?_
  rintro e w4 ⟨rfl, hw4⟩
  obtain rfl := hw4.symm
  refine hK.out _ _ (by exact ⟨d19, d20⟩) (fun hHeld => ?_)
  clear hK K
  refine wpAnyH_ready (rs := [9]) (by kernel_rfl) (by simp) ?_
  refine AllReadyH.cons rfl (fun K hK => ?_) AllReadyH.nil
  go_simp
  refine (HPl.out _ (HM3.out.2.2.2.drewN 1)).mono ?_
  rintro e w4 ⟨rfl, q, hw4⟩
  have HM4 : Hid (MCx w g o cap l w4) := by rw [hw4]; exact (HM3.out.drewN 1).drewN q
  have x19 := HM4.out.2.2.1 19 (by omega)
  have x20 := HM4.out.2.2.1 20 (by omega)
  rw [H19.out] at x19
  rw [H20.out] at x20
  clear hw4 d19 d20 hHeld HM3
  refine hK.out _ _ (⟨x19, x20⟩) (fun hHeld => ?_)
  clear hK K
  refine take_at (i := 10) (v := .int .i64 (12 * pe)) (d := some 56) rfl rfl (by kernel_rfl) (by kernel_rfl) (by kernel_rfl) (fun _ _ _ h => h) (Or.inl ⟨by rfl, fun wS ⟨hS0, hS1⟩ => by go_simp; all_goals (rw [IntKind.wrap_i64]; omega)⟩) (by assumption) ?_
  simp only [Act.put, List.setIfInBounds_toArray, List.set_cons_zero, List.set_cons_succ]
  refine take_at (i := 11) (v := .int .i64 (up + 12 * pe)) (d := some 57) rfl rfl (by kernel_rfl) (by kernel_rfl) (by kernel_rfl) (fun _ _ _ h => h) (Or.inl ⟨by rfl, fun wS ⟨hS0, hS1⟩ => by go_simp; all_goals (rw [IntKind.wrap_i64]; omega)⟩) (by assumption) ?_
  simp only [Act.put, List.setIfInBounds_toArray, List.set_cons_zero, List.set_cons_succ]
  refine take_at (i := 12) (v := .int .i64 (up + 12 * pe + 100)) (d := some 58) rfl rfl (by kernel_rfl) (by kernel_rfl) (by kernel_rfl) (fun _ _ _ h => h) (Or.inl ⟨by rfl, fun wS ⟨hS0, hS1⟩ => by go_simp; all_goals (rw [IntKind.wrap_i64]; omega)⟩) (by assumption) ?_
  simp only [Act.put, List.setIfInBounds_toArray, List.set_cons_zero, List.set_cons_succ]
  refine wpAnyH_ready (rs := [20]) (by kernel_rfl) (by simp) ?_
  refine AllReadyH.cons rfl (fun K hK => ?_) AllReadyH.nil
  go_simp
  refine (HDn _).out.mono ?_
  rintro e w5 ⟨rfl, hw5⟩
  obtain rfl := hw5.symm
  refine hK.out _ _ (by exact ⟨x19, x20⟩) (fun hHeld => ?_)
  clear hK K
  refine take_at (i := 21) (v := .int .i64 (p19 + dn)) (d := some 67) rfl rfl (by kernel_rfl) (by kernel_rfl) (by kernel_rfl) (fun _ _ _ h => h) (Or.inl ⟨by rfl, fun wS ⟨hS0, hS1⟩ => by go_simp; all_goals (rw [IntKind.wrap_i64]; omega)⟩) (by assumption) ?_
  simp only [Act.put, List.setIfInBounds_toArray, List.set_cons_zero, List.set_cons_succ]
  refine take_at (i := 22) (v := .agg #[.int .i64 br, .int .i64 dr, .int .i64 jo, .int .i64 fa, .int .i64 (up + 12 * pe + 100), .int .i64 (p19 + dn)]) (d := some 68) rfl rfl (by kernel_rfl) (by kernel_rfl) (by kernel_rfl) (fun _ _ _ h => h) (Or.inl ⟨by rfl, fun wS ⟨hS0, hS1⟩ => by go_simp; all_goals (rw [IntKind.wrap_i64]; omega)⟩) (by assumption) ?_
  simp only [Act.put, List.setIfInBounds_toArray, List.set_cons_zero, List.set_cons_succ]
  have z0 := HM4.out.2.1.at 0 (.int .i64 0) rfl
  have z1 := HM4.out.2.1.at 1 (.int .i64 0) rfl
  have z2 := HM4.out.2.1.at 2 (.int .i64 0) rfl
  have z3 := HM4.out.2.1.at 3 (.int .i64 0) rfl
  have z4 := HM4.out.2.1.at 4 (.int .i64 0) rfl
  have z5 := HM4.out.2.1.at 5 (.int .i64 0) rfl
  have fz := HM4.out.2.1.fz
  have HB5 := hide (below_set6 HM4.out.1 (Nat.le_refl _) (.int .i64 br) (.int .i64 dr) (.int .i64 jo) (.int .i64 fa) (.int .i64 (up + 12 * pe + 100)) (.int .i64 (p19 + dn)))
  have HM5 := hide (HM4.out.2.1.set6 (.int .i64 br) (.int .i64 dr) (.int .i64 jo) (.int .i64 fa) (.int .i64 (up + 12 * pe + 100)) (.int .i64 (p19 + dn)))
  have y19 := (HB5.out.cell (p := ⟨g, o + 19, none⟩) hg).trans (HC0.out 19 (by omega))
  have y20 := (HB5.out.cell (p := ⟨g, o + 20, none⟩) hg).trans (HC0.out 20 (by omega))
  rw [H19.out] at y19
  rw [H20.out] at y20
  clear hHeld
  refine wpAnyH_ready (rs := [23]) (by kernel_rfl) (by simp) ?_
  refine AllReadyH.cons rfl (fun K hK => ?_) AllReadyH.nil
  go_simp
  refine hK.out _ _ (⟨y19, y20⟩) (fun hHeld => ?_)
  clear hK K
  refine take_at (i := 24) (v := .int .i64 0) (d := some 3) rfl rfl (by kernel_rfl) (by kernel_rfl) (by kernel_rfl) (fun _ _ _ h => h) (Or.inl ⟨by rfl, fun wS ⟨hS0, hS1⟩ => by go_simp; all_goals (rw [IntKind.wrap_i64]; omega)⟩) (by assumption) ?_
  simp only [Act.put, List.setIfInBounds_toArray, List.set_cons_zero, List.set_cons_succ]
  refine wpAnyH_done (by kernel_rfl) ?_ _
  go_simp
  clear x19 x20 z0 z1 z2 z3 z4 z5 fz y19 y20 hHeld
  go_wp2_with fail
  refine bodyPost_ret (mar_back Try.results18 _ _ w.heap.size _ _ _ _ _ _ _ rfl rfl HM5.out) rfl ?_
  refine ⟨?_, HB5.out⟩
  unfold marV marL
  simp only
  rw [H0.out, HSE.out, H5.out, H7.out, H8.out, H9.out, HMX.out, HBR.out, HDR.out, HJO.out, HFA.out, HWY.out, HUP.out, HPE.out, H19.out, H20.out, HDN.out]
  rfl
set_option maxHeartbeats 1000000 in
theorem margins_no (l : List Int) (h : chk l ≠ 0) (v : Value) (w : World) (hv : Ints w v l) : Calls Try.prog 18 #[v] w fun e w' => e = .returned (.tuple #[marV marZ, .int .i64 (chk l)]) ∧ Below w.heap.size w w' := by
  have hva := hv.below (below_alloc w (.cells zero6 54))
  have hck := check_any l v _ hva
  obtain ⟨a, cap, rfl, _⟩ := hv
  generalize chk l = c at hck h ⊢
  generalize l.length = n at hck ⊢
  have hne : (c != 0) = true := by simp [h]
  unfold zero6 arr6 at hck hva
  clear h hva
  go_enter Try.func18, Try.ntmps18
  go_wp2_with fail
  refine hck.mono ?_
  rintro e w1 ⟨rfl, hB1⟩
  have HM1 : Hid (Mb w1 w.heap.size zero6) := by
    show _ = _
    rw [hB1.block w.heap.size (by rw [size_alloc]; omega)]; exact heap_alloc_new _ _
  have HB1 : Hid (Below w.heap.size w w1) := below_over hB1
  have z0 := HM1.out.at 0 (.int .i64 0) rfl
  have z1 := HM1.out.at 1 (.int .i64 0) rfl
  have z2 := HM1.out.at 2 (.int .i64 0) rfl
  have z3 := HM1.out.at 3 (.int .i64 0) rfl
  have z4 := HM1.out.at 4 (.int .i64 0) rfl
  have z5 := HM1.out.at 5 (.int .i64 0) rfl
  have fz := HM1.out.fz
  clear hB1 hck
  go_wp2_with fail
  refine bodyPost_ret (mar_back Try.results18 _ _ w.heap.size _ _ _ _ _ _ _ rfl rfl (HM1.out.set6 _ _ _ _ _ _)) rfl ?_
  exact ⟨rfl, below_set6 HB1.out (Nat.le_refl _) _ _ _ _ _ _⟩
theorem margins_any (l : List Int) (v : Value) (w : World) (hv : Ints w v l) : Calls Try.prog 18 #[v] w fun e w' => e = .returned (.tuple #[marV (marE l), .int .i64 (chk l)]) ∧ Below w.heap.size w w' := by
  unfold marE
  by_cases h : chk l = 0
  · rw [if_pos h, h]; exact margins_ok l (sound_of h) v w hv
  · rw [if_neg h]; exact margins_no l h v w hv
end Go.Proofs.Ytnofpcoohbmnpaa
