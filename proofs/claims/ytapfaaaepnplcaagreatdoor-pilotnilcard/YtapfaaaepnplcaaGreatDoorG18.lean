/- Pa4, Pa5, Pa6, NoP. -/
import Derived.Test.YtapfaaaepnplcaaGreatDoorG05
import Derived.Test.YtapfaaaepnplcaaGreatDoorG03
set_option maxRecDepth 100000
set_option maxHeartbeats 4000000
namespace Go.Proofs.YtapfaaaepnplcaaGreatDoor
open Go.RowKit Go.Great
/-- a struct of margins -/
def marV (m : Mar) : Value := .agg #[.int .i64 m.brake, .int .i64 m.drift, .int .i64 m.jolt, .int .i64 m.fast, .int .i64 m.lane, .int .i64 m.drain]
def marZ : Mar := ⟨0, 0, 0, 0, 0, 0⟩
/-- what Margins answers -/
def marE (l : List Int) : Mar := if chk l = 0 then marL l else marZ
/-- what sound parameters are bounded by -/
theorem Sound.facts {l : List Int} (h : Sound l) : (48 ≤ (marL l).brake ∧ (marL l).brake ≤ 64) ∧ (2 ≤ (marL l).drift ∧ (marL l).drift ≤ 34) ∧ (86 ≤ (marL l).jolt ∧ (marL l).jolt ≤ 430) ∧ (2000 ≤ (marL l).fast ∧ (marL l).fast ≤ 65000) := by
  have b := h.inr.bounds
  have e := h.inr.errs
  unfold marL
  simp only
  omega
theorem upI_in (a b : Int) (h : 1 ≤ b) (h0 : 0 ≤ a) : 0 ≤ upI a b ∧ upI a b ≤ a := by
  have := ediv_in (-a) b h
  unfold upI
  by_cases z : a = 0
  · subst z; simp
  · have := this.2 (by omega); omega
theorem heap_setP {w : World} {g : Nat} {cs : Array Value} {t : TypeId} {fr : Nat × Nat} (h : w.heap[g]? = some (.cells cs t fr)) (i : Nat) (u : Value) : (w.setCell ⟨g, i, none⟩ u).heap[g]? = some (.cells (cs.setIfInBounds i u) t fr) := by
  have hlt := lt_of_block h
  have h' : w.heap[g] = .cells cs t fr := by simpa [Array.getElem?_eq_getElem hlt] using h
  show (w.heap.modify g _)[g]? = _
  rw [Array.getElem?_eq_getElem (by simpa using hlt), Array.getElem_modify_self, h']
  rfl
/-- a variable that holds margins -/
def Mb (w : World) (g : Nat) (c : Array Value) : Prop := w.heap[g]? = some (.cells c 56 (0, 0))
theorem Mb.at {w : World} {g : Nat} {c : Array Value} (h : Mb w g c) (i : Nat) (v : Value) (hc : c[i]? = some v) : w.cell? ⟨g, i, none⟩ = some v := by
  unfold Mb at h; simp [World.cell?, h, hc]
theorem Mb.fz {w : World} {g : Nat} {c : Array Value} (h : Mb w g c) (i : Nat) : w.frozen? ⟨g, i, none⟩ = false := by
  unfold Mb at h; simp [World.frozen?, h]
theorem Mb.set {w : World} {g : Nat} {c : Array Value} (h : Mb w g c) (i : Nat) (u : Value) : Mb (w.setCell ⟨g, i, none⟩ u) g (c.setIfInBounds i u) := heap_setP h i u
theorem Mb.below {w w' : World} {g : Nat} {c : Array Value} (h : Mb w g c) (hb : Below w.heap.size w w') : Mb w' g c := by
  unfold Mb at h ⊢; rw [hb.block g (lt_of_block h), h]
def arr6 (a b c d e f : Value) : Array Value := #[a, b, c, d, e, f]
theorem Mb.set6 {w : World} {g : Nat} {a0 a1 a2 a3 a4 a5 : Value} (h : Mb w g (arr6 a0 a1 a2 a3 a4 a5)) (u0 u1 u2 u3 u4 u5 : Value) : Mb ((((((w.setCell ⟨g, 0, none⟩ u0).setCell ⟨g, 1, none⟩ u1).setCell ⟨g, 2, none⟩ u2).setCell ⟨g, 3, none⟩ u3).setCell ⟨g, 4, none⟩ u4).setCell ⟨g, 5, none⟩ u5) g (arr6 u0 u1 u2 u3 u4 u5) := by
  have := (((((h.set 0 u0).set 1 u1).set 2 u2).set 3 u3).set 4 u4).set 5 u5
  exact this
theorem below_set6 {B : Nat} {w w1 : World} {g : Nat} (h : Below B w w1) (hg : B ≤ g) (u0 u1 u2 u3 u4 u5 : Value) : Below B w ((((((w1.setCell ⟨g, 0, none⟩ u0).setCell ⟨g, 1, none⟩ u1).setCell ⟨g, 2, none⟩ u2).setCell ⟨g, 3, none⟩ u3).setCell ⟨g, 4, none⟩ u4).setCell ⟨g, 5, none⟩ u5) :=
  (((((h.setCell (p := ⟨g, 0, none⟩) hg u0).setCell (p := ⟨g, 1, none⟩) hg u1).setCell (p := ⟨g, 2, none⟩) hg u2).setCell (p := ⟨g, 3, none⟩) hg u3).setCell (p := ⟨g, 4, none⟩) hg u4).setCell (p := ⟨g, 5, none⟩) hg u5
theorem mar_back {fn : Func} (h : fn.results = #[.cell 2 56, .tmp 3]) (tmps : Array Value) (w : World) (g : Nat) (u0 u1 u2 u3 u4 u5 : Value) (b : Value) (hp : tmps.getD 2 undef = .pointer (some ⟨g, 0, none⟩)) (hq : tmps.getD 3 undef = b) (hg : Mb w g (arr6 u0 u1 u2 u3 u4 u5)) : (results fn tmps).run Tryz.prog w = .ok (.tuple #[.agg #[u0, u1, u2, u3, u4, u5], b]) w := by
  rw [results_cell_tmp h]
  have := run_loadVar_row (P := Tryz.prog) w g 56 56 #[u0, u1, u2, u3, u4, u5] (0, 0) _ hg Tryz.underlying56 rfl (by kernel_rfl)
  rw [hp, hq]
  simp [asAddr, this, Result.andThen]
def zero6 : Array Value := arr6 (.int .i64 0) (.int .i64 0) (.int .i64 0) (.int .i64 0) (.int .i64 0) (.int .i64 0)
/-- the world within Margins: the result's block is laid, parameters are as they were -/
def MCx (w : World) (g o cap : Nat) (l : List Int) (wx : World) : Prop := Below w.heap.size w wx ∧ Mb wx w.heap.size zero6 ∧ (∀ i, i < 24 → wx.cell? ⟨g, o + i, none⟩ = some (.int .i64 (l.getD i 0))) ∧ Ints wx (.slice (some ⟨g, o, none⟩) 24 cap) l
theorem drewN_heap (w : World) (n : Nat) : (w.drewN n).heap = w.heap := by
  induction n with
  | zero => rfl
  | succ n ih => exact ih
theorem MCx.drewN {w : World} {g o cap : Nat} {l : List Int} {wx : World} (h : MCx w g o cap l wx) (q : Nat) : MCx w g o cap l (wx.drewN q) :=
  ⟨below_drewN h.1 q, by unfold Mb; rw [drewN_heap]; exact h.2.1, fun i hi => by rw [drewN_cell]; exact h.2.2.1 i hi, h.2.2.2.drewN q⟩
theorem run_max3 (x y z : Int) (ts : Array TypeId) (t : TypeId) (w : World) : (Builtin.max_ ts t #[.int .i64 x, .int .i64 y, .int .i64 z]).run Tryz.prog w = .ok (.int .i64 (max (max x y) z)) w := by
  have h : (if z > (if y > x then y else x) then z else if y > x then y else x) = max (max x y) z := by split <;> split <;> omega
  rw [← h]
  simp [Builtin.max_, Builtin.max2]
theorem margins_ok (l : List Int) (h : Sound l) (v : Value) (w : World) (hv : Ints w v l) : Calls Tryz.prog 89 #[v] w fun e w' => e = .returned (.tuple #[marV (marL l), .int .i64 0]) ∧ Below w.heap.size w w' := by
  have hck := fun W hW => check_any l v W hW
  have HSp := hide (fun W hW => speE_any l (by have := h.len; omega) v W hW)
  have HPl := hide (fun W hW => plaE_any l (by have := h.len; omega) v W hW)
  have HV := hide hv
  have hc0 := h.chk
  have hF := h.facts
  have hB0 := h.inr.bounds
  have hE0 := h.inr.errs
  obtain ⟨g, o, cap, rfl, hg, hcc⟩ := hv.open24 h.len
  have HC := hide hcc
  rw [hc0] at hck
  have hva := hv.below (below_alloc w (.cells #[.int .i64 0, .int .i64 0, .int .i64 0, .int .i64 0, .int .i64 0, .int .i64 0] 56))
  have HCK := hide (hck _ hva)
  clear hcc hv hck hc0 hva
  go_enter Tryz.func89, Tryz.ntmps89
  go_wp2_with fail
  refine HCK.out.mono ?_
  rintro e w1 ⟨rfl, hB1⟩
  have HN1 : Hid (w1.heap[w.heap.size]? = some (.cells #[.int .i64 0, .int .i64 0, .int .i64 0, .int .i64 0, .int .i64 0, .int .i64 0] 56 (0, 0))) := by
    show _ = _
    rw [hB1.block w.heap.size (by rw [size_alloc]; omega)]; exact heap_alloc_new _ _
  have HB1 : Hid (Below w.heap.size w w1) := below_over hB1
  have HM1 : Hid (MCx w g o cap l w1) := ⟨HB1.out, HN1.out, fun i hi => (HB1.out.cell (p := ⟨g, o + i, none⟩) hg).trans (HC.out i hi), HV.out.below HB1.out⟩
  have HC0 := HC
  clear hB1 HCK HC HV HN1 HB1
  obtain ⟨b0, b1, b2, b3, b4, b5, b6, b7, b8, b9, b10, b11, b12, b19, b20⟩ := hB0
  obtain ⟨e0, e1⟩ := hE0
  have d0 : w1.cell? ⟨g, o, none⟩ = some (.int .i64 (l.getD 0 0)) := HM1.out.2.2.1 0 (by omega)
  obtain ⟨se, HSE⟩ : ∃ x, Hid (speE l = x) := ⟨_, rfl⟩
  obtain ⟨pe, HPE⟩ : ∃ x, Hid (plaE l = x) := ⟨_, rfl⟩
  obtain ⟨p0, H0⟩ : ∃ x, Hid (l.getD 0 0 = x) := ⟨_, rfl⟩
  rw [HSE.out] at HSp e0
  rw [HPE.out] at HPl e1
  rw [H0.out] at d0 b0
  clear b1 b2 b3 b4 b6 b10 b11 b12 hF
  go_wp2_with fail
  go_quiet (first | (go_at_call 164; exact Calls.quiet_of (HSp.out _ (HM1.out.2.2.2.drewN _))))
  have HM2 := hide (HM1.out.drewN nq)
  generalize w1.drewN nq = w2 at HM2 ⊢
  have d5 := HM2.out.2.2.1 5 (by omega)
  have d7 := HM2.out.2.2.1 7 (by omega)
  have d8 := HM2.out.2.2.1 8 (by omega)
  have d9 := HM2.out.2.2.1 9 (by omega)
  obtain ⟨p5, H5⟩ : ∃ x, Hid (l.getD 5 0 = x) := ⟨_, rfl⟩
  obtain ⟨p7, H7⟩ : ∃ x, Hid (l.getD 7 0 = x) := ⟨_, rfl⟩
  obtain ⟨p8, H8⟩ : ∃ x, Hid (l.getD 8 0 = x) := ⟨_, rfl⟩
  obtain ⟨p9, H9⟩ : ∃ x, Hid (l.getD 9 0 = x) := ⟨_, rfl⟩
  rw [H5.out] at d5 b5
  rw [H7.out] at d7 b7
  rw [H8.out] at d8 b8
  rw [H9.out] at d9 b9
  have hmx := run_max3 p7 p8 p9
  obtain ⟨mx, HMX⟩ : ∃ x, Hid (max (max p7 p8) p9 = x) := ⟨_, rfl⟩
  rw [HMX.out] at hmx
  have hmb : 2000 ≤ mx ∧ mx ≤ 64000 := by have := HMX.out; omega
  clear d0 HM1 HSp
  go_wp2_with fail
  go_quiet (fail)
  have HM3 := hide (HM2.out.drewN nq)
  generalize w2.drewN nq = w3 at HM3 ⊢
  obtain ⟨br, HBR⟩ : ∃ x, Hid (64 - p0 = x) := ⟨_, rfl⟩
  obtain ⟨dr, HDR⟩ : ∃ x, Hid (p0 + se + 2 = x) := ⟨_, rfl⟩
  obtain ⟨jo, HJO⟩ : ∃ x, Hid (86 * (p5 + 1) = x) := ⟨_, rfl⟩
  rw [HBR.out, HDR.out, HJO.out]
  obtain ⟨fa, HFA⟩ : ∃ x, Hid (mx + 128 + jo + dr = x) := ⟨_, rfl⟩
  rw [HFA.out]
  have c1 : 48 ≤ br ∧ br ≤ 64 := by have := HBR.out; omega
  have c2 : 2 ≤ dr ∧ dr ≤ 34 := by have := HDR.out; omega
  have c3 : 86 ≤ jo ∧ jo ≤ 430 := by have := HJO.out; omega
  have c4 : 2000 ≤ fa ∧ fa ≤ 65000 := by have := HFA.out; omega
  have hwb := way_in fa br (by omega) (by omega) (by omega) (by omega)
  have HWay := fun W => hide (pway_any fa br W (by omega) (by omega) (by omega) (by omega))
  obtain ⟨wy, HWY⟩ : ∃ x, Hid (wayI fa br = x) := ⟨_, rfl⟩
  rw [HWY.out] at hwb HWay
  have HUp := fun W => hide (pup_any wy 6400 W (by unfold I64; omega) (by omega))
  have hub := upI_in wy 6400 (by omega) hwb.1
  obtain ⟨up, HUP⟩ : ∃ x, Hid (upI wy 6400 = x) := ⟨_, rfl⟩
  rw [HUP.out] at hub HUp
  have d19 := HM3.out.2.2.1 19 (by omega)
  have d20 := HM3.out.2.2.1 20 (by omega)
  obtain ⟨p19, H19⟩ : ∃ x, Hid (l.getD 19 0 = x) := ⟨_, rfl⟩
  obtain ⟨p20, H20⟩ : ∃ x, Hid (l.getD 20 0 = x) := ⟨_, rfl⟩
  rw [H19.out] at d19 b19
  rw [H20.out] at d20 b20
  have HDn := fun W => hide (pdown_any (1824 * p20) 1024 W (by unfold I64; omega) (by omega))
  have hdb : 0 ≤ 1824 * p20 / 1024 ∧ 1824 * p20 / 1024 ≤ 1824000 := by omega
  obtain ⟨dn, HDN⟩ : ∃ x, Hid (1824 * p20 / 1024 = x) := ⟨_, rfl⟩
  rw [HDN.out] at hdb HDn
  clear d5 d7 d8 d9 HM2 hmx
  go_wp2_with fail
  refine wp_region_held_drew (S := fun wx => wx.cell? ⟨g, o + 19, none⟩ = some (.int .i64 p19) ∧ wx.cell? ⟨g, o + 20, none⟩ = some (.int .i64 p20)) (by kernel_rfl) (by exact ⟨d19, d20⟩) (fun hHeld => ?_)
  refine take_at (i := 0) (v := .int .i64 br) (d := some 46) rfl rfl (by kernel_rfl) (by kernel_rfl) (by kernel_rfl) (fun _ _ _ h => h) (Or.inl ⟨by rfl, fun wS ⟨hS0, hS1⟩ => by go_simp; all_goals (rw [IntKind.wrap_i64]; omega)⟩) (by assumption) ?_
  simp only [Act.put, List.setIfInBounds_toArray, List.set_cons_zero, List.set_cons_succ]
  refine take_at (i := 1) (v := .int .i64 dr) (d := some 47) rfl rfl (by kernel_rfl) (by kernel_rfl) (by kernel_rfl) (fun _ _ _ h => h) (Or.inl ⟨by rfl, fun wS ⟨hS0, hS1⟩ => by go_simp; all_goals (rw [IntKind.wrap_i64]; omega)⟩) (by assumption) ?_
  simp only [Act.put, List.setIfInBounds_toArray, List.set_cons_zero, List.set_cons_succ]
  refine take_at (i := 2) (v := .int .i64 jo) (d := some 48) rfl rfl (by kernel_rfl) (by kernel_rfl) (by kernel_rfl) (fun _ _ _ h => h) (Or.inl ⟨by rfl, fun wS ⟨hS0, hS1⟩ => by go_simp; all_goals (rw [IntKind.wrap_i64]; omega)⟩) (by assumption) ?_
  simp only [Act.put, List.setIfInBounds_toArray, List.set_cons_zero, List.set_cons_succ]
  refine take_at (i := 3) (v := .int .i64 fa) (d := some 49) rfl rfl (by kernel_rfl) (by kernel_rfl) (by kernel_rfl) (fun _ _ _ h => h) (Or.inl ⟨by rfl, fun wS ⟨hS0, hS1⟩ => by go_simp; all_goals (rw [IntKind.wrap_i64]; omega)⟩) (by assumption) ?_
  simp only [Act.put, List.setIfInBounds_toArray, List.set_cons_zero, List.set_cons_succ]
  refine take_at (i := 4) (v := .int .i64 fa) (d := some 50) rfl rfl (by kernel_rfl) (by kernel_rfl) (by kernel_rfl) (fun _ _ _ h => h) (Or.inl ⟨by rfl, fun wS ⟨hS0, hS1⟩ => by go_simp; all_goals (rw [IntKind.wrap_i64]; omega)⟩) (by assumption) ?_
  simp only [Act.put, List.setIfInBounds_toArray, List.set_cons_zero, List.set_cons_succ]
  refine take_at (i := 5) (v := .int .i64 br) (d := some 51) rfl rfl (by kernel_rfl) (by kernel_rfl) (by kernel_rfl) (fun _ _ _ h => h) (Or.inl ⟨by rfl, fun wS ⟨hS0, hS1⟩ => by go_simp; all_goals (rw [IntKind.wrap_i64]; omega)⟩) (by assumption) ?_
  simp only [Act.put, List.setIfInBounds_toArray, List.set_cons_zero, List.set_cons_succ]
  refine take_at (i := 8) (v := .slice (some ⟨g, o, none⟩) 24 cap) (d := some 54) rfl rfl (by kernel_rfl) (by kernel_rfl) (by kernel_rfl) (fun _ _ _ h => h) (Or.inl ⟨by rfl, fun wS ⟨hS0, hS1⟩ => by go_simp; all_goals (rw [IntKind.wrap_i64]; omega)⟩) (by assumption) ?_
  simp only [Act.put, List.setIfInBounds_toArray, List.set_cons_zero, List.set_cons_succ]
  refine take_at (i := 13) (v := .slice (some ⟨g, o, none⟩) 24 cap) (d := some 59) rfl rfl (by kernel_rfl) (by kernel_rfl) (by kernel_rfl) (fun _ _ _ h => h) (Or.inl ⟨by rfl, fun wS ⟨hS0, hS1⟩ => by go_simp; all_goals (rw [IntKind.wrap_i64]; omega)⟩) (by assumption) ?_
  simp only [Act.put, List.setIfInBounds_toArray, List.set_cons_zero, List.set_cons_succ]
  refine take_at (i := 14) (v := .pointer (some ⟨g, o + 19, none⟩)) (d := some 60) rfl rfl (by kernel_rfl) (by kernel_rfl) (by kernel_rfl) (fun _ _ _ h => h) (Or.inl ⟨by rfl, fun wS ⟨hS0, hS1⟩ => by go_simp; all_goals (rw [IntKind.wrap_i64]; omega)⟩) (by assumption) ?_
  simp only [Act.put, List.setIfInBounds_toArray, List.set_cons_zero, List.set_cons_succ]
  refine take_at (i := 15) (v := .int .i64 p19) (d := some 61) rfl rfl (by kernel_rfl) (by kernel_rfl) (by kernel_rfl) (fun _ _ _ h => h) (Or.inl ⟨by rfl, fun wS ⟨hS0, hS1⟩ => by go_simp; all_goals (rw [IntKind.wrap_i64]; omega)⟩) (by assumption) ?_
  simp only [Act.put, List.setIfInBounds_toArray, List.set_cons_zero, List.set_cons_succ]
  refine take_at (i := 16) (v := .slice (some ⟨g, o, none⟩) 24 cap) (d := some 62) rfl rfl (by kernel_rfl) (by kernel_rfl) (by kernel_rfl) (fun _ _ _ h => h) (Or.inl ⟨by rfl, fun wS ⟨hS0, hS1⟩ => by go_simp; all_goals (rw [IntKind.wrap_i64]; omega)⟩) (by assumption) ?_
  simp only [Act.put, List.setIfInBounds_toArray, List.set_cons_zero, List.set_cons_succ]
  refine take_at (i := 17) (v := .pointer (some ⟨g, o + 20, none⟩)) (d := some 63) rfl rfl (by kernel_rfl) (by kernel_rfl) (by kernel_rfl) (fun _ _ _ h => h) (Or.inl ⟨by rfl, fun wS ⟨hS0, hS1⟩ => by go_simp; all_goals (rw [IntKind.wrap_i64]; omega)⟩) (by assumption) ?_
  simp only [Act.put, List.setIfInBounds_toArray, List.set_cons_zero, List.set_cons_succ]
  refine take_at (i := 18) (v := .int .i64 p20) (d := some 64) rfl rfl (by kernel_rfl) (by kernel_rfl) (by kernel_rfl) (fun _ _ _ h => h) (Or.inl ⟨by rfl, fun wS ⟨hS0, hS1⟩ => by go_simp; all_goals (rw [IntKind.wrap_i64]; omega)⟩) (by assumption) ?_
  simp only [Act.put, List.setIfInBounds_toArray, List.set_cons_zero, List.set_cons_succ]
  refine take_at (i := 19) (v := .int .i64 (1824 * p20)) (d := some 65) rfl rfl (by kernel_rfl) (by kernel_rfl) (by kernel_rfl) (fun _ _ _ h => h) (Or.inl ⟨by rfl, fun wS ⟨hS0, hS1⟩ => by go_simp; all_goals (rw [IntKind.wrap_i64]; omega)⟩) (by assumption) ?_
  simp only [Act.put, List.setIfInBounds_toArray, List.set_cons_zero, List.set_cons_succ]
  refine wpAnyH_ready (rs := [6]) (by kernel_rfl) (by simp) ?_
  refine AllReadyH.cons rfl (fun K hK => ?_) AllReadyH.nil
  go_simp
  refine (HWay _).out.mono ?_
  rintro e w4 ⟨rfl, hw4⟩
  obtain rfl := hw4.symm
  refine hK.out _ _ (by exact ⟨d19, d20⟩) (fun hHeld => ?_)
  clear hK K
  refine wpAnyH_ready (rs := [7]) (by kernel_rfl) (by simp) ?_
  refine AllReadyH.cons rfl (fun K hK => ?_) AllReadyH.nil
  go_simp
  refine (HUp _).out.mono ?_
  rintro e w4 ⟨rfl, hw4⟩
  obtain rfl := hw4.symm
  refine hK.out _ _ (by exact ⟨d19, d20⟩) (fun hHeld => ?_)
  clear hK K
  refine wpAnyH_ready (rs := [9]) (by kernel_rfl) (by simp) ?_
  refine AllReadyH.cons rfl (fun K hK => ?_) AllReadyH.nil
  go_simp
  refine (HPl.out _ (HM3.out.2.2.2.drewN 1)).mono ?_
  rintro e w4 ⟨rfl, q, hw4⟩
  have HM4 : Hid (MCx w g o cap l w4) := by rw [hw4]; exact (HM3.out.drewN 1).drewN q
  have x19 := HM4.out.2.2.1 19 (by omega)
  have x20 := HM4.out.2.2.1 20 (by omega)
  rw [H19.out] at x19
  rw [H20.out] at x20
  clear hw4 d19 d20 hHeld HM3
  refine hK.out _ _ (⟨x19, x20⟩) (fun hHeld => ?_)
  clear hK K
  refine take_at (i := 10) (v := .int .i64 (12 * pe)) (d := some 56) rfl rfl (by kernel_rfl) (by kernel_rfl) (by kernel_rfl) (fun _ _ _ h => h) (Or.inl ⟨by rfl, fun wS ⟨hS0, hS1⟩ => by go_simp; all_goals (rw [IntKind.wrap_i64]; omega)⟩) (by assumption) ?_
  simp only [Act.put, List.setIfInBounds_toArray, List.set_cons_zero, List.set_cons_succ]
  refine take_at (i := 11) (v := .int .i64 (up + 12 * pe)) (d := some 57) rfl rfl (by kernel_rfl) (by kernel_rfl) (by kernel_rfl) (fun _ _ _ h => h) (Or.inl ⟨by rfl, fun wS ⟨hS0, hS1⟩ => by go_simp; all_goals (rw [IntKind.wrap_i64]; omega)⟩) (by assumption) ?_
  simp only [Act.put, List.setIfInBounds_toArray, List.set_cons_zero, List.set_cons_succ]
  refine take_at (i := 12) (v := .int .i64 (up + 12 * pe + 100)) (d := some 58) rfl rfl (by kernel_rfl) (by kernel_rfl) (by kernel_rfl) (fun _ _ _ h => h) (Or.inl ⟨by rfl, fun wS ⟨hS0, hS1⟩ => by go_simp; all_goals (rw [IntKind.wrap_i64]; omega)⟩) (by assumption) ?_
  simp only [Act.put, List.setIfInBounds_toArray, List.set_cons_zero, List.set_cons_succ]
  refine wpAnyH_ready (rs := [20]) (by kernel_rfl) (by simp) ?_
  refine AllReadyH.cons rfl (fun K hK => ?_) AllReadyH.nil
  go_simp
  refine (HDn _).out.mono ?_
  rintro e w5 ⟨rfl, hw5⟩
  obtain rfl := hw5.symm
  refine hK.out _ _ (by exact ⟨x19, x20⟩) (fun hHeld => ?_)
  clear hK K
  refine take_at (i := 21) (v := .int .i64 (p19 + dn)) (d := some 67) rfl rfl (by kernel_rfl) (by kernel_rfl) (by kernel_rfl) (fun _ _ _ h => h) (Or.inl ⟨by rfl, fun wS ⟨hS0, hS1⟩ => by go_simp; all_goals (rw [IntKind.wrap_i64]; omega)⟩) (by assumption) ?_
  simp only [Act.put, List.setIfInBounds_toArray, List.set_cons_zero, List.set_cons_succ]
  refine take_at (i := 22) (v := .agg #[.int .i64 br, .int .i64 dr, .int .i64 jo, .int .i64 fa, .int .i64 (up + 12 * pe + 100), .int .i64 (p19 + dn)]) (d := some 68) rfl rfl (by kernel_rfl) (by kernel_rfl) (by kernel_rfl) (fun _ _ _ h => h) (Or.inl ⟨by rfl, fun wS ⟨hS0, hS1⟩ => by go_simp; all_goals (rw [IntKind.wrap_i64]; omega)⟩) (by assumption) ?_
  simp only [Act.put, List.setIfInBounds_toArray, List.set_cons_zero, List.set_cons_succ]
  have z0 := HM4.out.2.1.at 0 (.int .i64 0) rfl
  have z1 := HM4.out.2.1.at 1 (.int .i64 0) rfl
  have z2 := HM4.out.2.1.at 2 (.int .i64 0) rfl
  have z3 := HM4.out.2.1.at 3 (.int .i64 0) rfl
  have z4 := HM4.out.2.1.at 4 (.int .i64 0) rfl
  have z5 := HM4.out.2.1.at 5 (.int .i64 0) rfl
  have fz := HM4.out.2.1.fz
  have HB5 := hide (below_set6 HM4.out.1 (Nat.le_refl _) (.int .i64 br) (.int .i64 dr) (.int .i64 jo) (.int .i64 fa) (.int .i64 (up + 12 * pe + 100)) (.int .i64 (p19 + dn)))
  have HM5 := hide (HM4.out.2.1.set6 (.int .i64 br) (.int .i64 dr) (.int .i64 jo) (.int .i64 fa) (.int .i64 (up + 12 * pe + 100)) (.int .i64 (p19 + dn)))
  have y19 := (HB5.out.cell (p := ⟨g, o + 19, none⟩) hg).trans (HC0.out 19 (by omega))
  have y20 := (HB5.out.cell (p := ⟨g, o + 20, none⟩) hg).trans (HC0.out 20 (by omega))
  rw [H19.out] at y19
  rw [H20.out] at y20
  clear hHeld
  refine wpAnyH_ready (rs := [23]) (by kernel_rfl) (by simp) ?_
  refine AllReadyH.cons rfl (fun K hK => ?_) AllReadyH.nil
  go_simp
  refine hK.out _ _ (⟨y19, y20⟩) (fun hHeld => ?_)
  clear hK K
  refine take_at (i := 24) (v := .int .i64 0) (d := some 3) rfl rfl (by kernel_rfl) (by kernel_rfl) (by kernel_rfl) (fun _ _ _ h => h) (Or.inl ⟨by rfl, fun wS ⟨hS0, hS1⟩ => by go_simp; all_goals (rw [IntKind.wrap_i64]; omega)⟩) (by assumption) ?_
  simp only [Act.put, List.setIfInBounds_toArray, List.set_cons_zero, List.set_cons_succ]
  refine wpAnyH_done (by kernel_rfl) ?_ _
  go_simp
  clear x19 x20 z0 z1 z2 z3 z4 z5 fz y19 y20 hHeld
  go_wp2_with fail
  refine bodyPost_ret (mar_back Tryz.results89 _ _ w.heap.size _ _ _ _ _ _ _ rfl rfl HM5.out) rfl ?_
  refine ⟨?_, HB5.out⟩
  unfold marV marL
  simp only
  rw [H0.out, HSE.out, H5.out, H7.out, H8.out, H9.out, HMX.out, HBR.out, HDR.out, HJO.out, HFA.out, HWY.out, HUP.out, HPE.out, H19.out, H20.out, HDN.out]
  rfl
theorem margins_no (l : List Int) (h : chk l ≠ 0) (v : Value) (w : World) (hv : Ints w v l) : Calls Tryz.prog 89 #[v] w fun e w' => e = .returned (.tuple #[marV marZ, .int .i64 (chk l)]) ∧ Below w.heap.size w w' := by
  have hva := hv.below (below_alloc w (.cells zero6 56))
  have hck := check_any l v _ hva
  obtain ⟨a, cap, rfl, _⟩ := hv
  generalize chk l = c at hck h ⊢
  generalize l.length = n at hck ⊢
  have hne : (c != 0) = true := by simp [h]
  unfold zero6 arr6 at hck hva
  clear h hva
  go_enter Tryz.func89, Tryz.ntmps89
  go_wp2_with fail
  refine hck.mono ?_
  rintro e w1 ⟨rfl, hB1⟩
  have HM1 : Hid (Mb w1 w.heap.size zero6) := by
    show _ = _
    rw [hB1.block w.heap.size (by rw [size_alloc]; omega)]; exact heap_alloc_new _ _
  have HB1 : Hid (Below w.heap.size w w1) := below_over hB1
  have z0 := HM1.out.at 0 (.int .i64 0) rfl
  have z1 := HM1.out.at 1 (.int .i64 0) rfl
  have z2 := HM1.out.at 2 (.int .i64 0) rfl
  have z3 := HM1.out.at 3 (.int .i64 0) rfl
  have z4 := HM1.out.at 4 (.int .i64 0) rfl
  have z5 := HM1.out.at 5 (.int .i64 0) rfl
  have fz := HM1.out.fz
  clear hB1 hck
  go_wp2_with fail
  refine bodyPost_ret (mar_back Tryz.results89 _ _ w.heap.size _ _ _ _ _ _ _ rfl rfl (HM1.out.set6 _ _ _ _ _ _)) rfl ?_
  exact ⟨rfl, below_set6 HB1.out (Nat.le_refl _) _ _ _ _ _ _⟩
theorem margins_any (l : List Int) (v : Value) (w : World) (hv : Ints w v l) : Calls Tryz.prog 89 #[v] w fun e w' => e = .returned (.tuple #[marV (marE l), .int .i64 (chk l)]) ∧ Below w.heap.size w w' := by
  unfold marE
  by_cases h : chk l = 0
  · rw [if_pos h, h]; exact margins_ok l (sound_of h) v w hv
  · rw [if_neg h]; exact margins_no l h v w hv
end Go.Proofs.YtapfaaaepnplcaaGreatDoor
set_option maxRecDepth 100000
set_option maxHeartbeats 4000000
namespace Go.Proofs.YtapfaaaepnplcaaGreatDoor
open Go.RowKit Go.Great
/-- margins as sound parameters have them -/
def MarIn (m : Mar) : Prop := (48 ≤ m.brake ∧ m.brake ≤ 64) ∧ (2 ≤ m.drift ∧ m.drift ≤ 34) ∧ (86 ≤ m.jolt ∧ m.jolt ≤ 430) ∧ (2000 ≤ m.fast ∧ m.fast ≤ 65000)
theorem land_in (m : Mar) (hm : MarIn m) (fall h : Int) (f0 : 2000 ≤ fall) (f1 : fall ≤ 16000) (h0 : 0 ≤ h) (h1 : h ≤ 536870912) : 104 ≤ landI m fall h ∧ landI m fall h ≤ 4000000000000 := by
  obtain ⟨a, b, c, d⟩ := hm
  have w0 := way_in m.fast m.brake (by omega) (by omega) (by omega) (by omega)
  have u := upI_in (h * 6400 + wayI m.fast m.brake + 16 * m.fast) (fall - m.drift) (by omega) (by omega)
  have e1 := (ediv_in m.fast m.brake (by omega)).1 (by omega)
  unfold landI
  omega
theorem land_any (m : Mar) (hm : MarIn m) (fall h : Int) (f0 : 2000 ≤ fall) (f1 : fall ≤ 16000) (h0 : 0 ≤ h) (h1 : h ≤ 536870912) (w : World) : Calls Tryz.prog 351 #[marV m, .int .i64 fall, .int .i64 h] w fun e w' => e = .returned (.int .i64 (landI m fall h)) ∧ Below w.heap.size w w' := by
  obtain ⟨a, b, c, d⟩ := hm
  have w0 := way_in m.fast m.brake (by omega) (by omega) (by omega) (by omega)
  have u := upI_in (h * 6400 + wayI m.fast m.brake + 16 * m.fast) (fall - m.drift) (by omega) (by omega)
  have e1 := (ediv_in m.fast m.brake (by omega)).1 (by omega)
  have HWay := fun W => hide (pway_any m.fast m.brake W (by omega) (by omega) (by omega) (by omega))
  have HDn := fun W => hide (pdown_any m.fast m.brake W (by unfold I64; omega) (by omega))
  have HD2 := fun W => hide (pdown_any fall 32 W (by unfold I64; omega) (by omega))
  have HUp := fun W => hide (pup_any (h * 6400 + wayI m.fast m.brake + 16 * m.fast) (fall - m.drift) W (by unfold I64; omega) (by omega))
  obtain ⟨brake, drift, jolt, fast, lane, drain⟩ := m
  unfold marV landI
  simp only at a b c d w0 u e1 HWay HDn HUp ⊢
  generalize wayI fast brake = wy at w0 u HWay HUp ⊢
  generalize upI (h * 6400 + wy + 16 * fast) (fall - drift) = uu at u HUp ⊢
  generalize fast / brake = q at e1 HDn ⊢
  have hq2 : 0 ≤ fall / 32 ∧ fall / 32 ≤ 16000 := by omega
  generalize fall / 32 = q2 at hq2 HD2 ⊢
  go_enter Tryz.func351, Tryz.ntmps351
  go_wp2_with fail
  have HB0 := hide (below_alloc w (.cells #[.int .i64 brake, .int .i64 drift, .int .i64 jolt, .int .i64 fast, .int .i64 lane, .int .i64 drain] 56))
  have HM0 : Hid (Mb (w.alloc (.cells #[.int .i64 brake, .int .i64 drift, .int .i64 jolt, .int .i64 fast, .int .i64 lane, .int .i64 drain] 56)) w.heap.size #[.int .i64 brake, .int .i64 drift, .int .i64 jolt, .int .i64 fast, .int .i64 lane, .int .i64 drain]) := heap_alloc_new _ _
  generalize w.alloc (.cells #[.int .i64 brake, .int .i64 drift, .int .i64 jolt, .int .i64 fast, .int .i64 lane, .int .i64 drain] 56) = w1 at HB0 HM0 ⊢
  have x0 := HM0.out.at 0 _ rfl
  have x3 := HM0.out.at 3 _ rfl
  go_quiet (first | (go_at_call 166; exact Calls.quiet_of_same (HWay _).out))
  have HB1 := hide (below_drewN HB0.out nq)
  have HM1 : Hid (Mb (w1.drewN nq) w.heap.size #[.int .i64 brake, .int .i64 drift, .int .i64 jolt, .int .i64 fast, .int .i64 lane, .int .i64 drain]) := by unfold Mb; rw [drewN_heap]; exact HM0.out
  generalize w1.drewN nq = w2 at HB1 HM1 ⊢
  clear x0 x3
  have x0 := HM1.out.at 0 _ rfl
  have x1 := HM1.out.at 1 _ rfl
  have x3 := HM1.out.at 3 _ rfl
  go_wp2_with fail
  go_quiet (first | (go_at_call_of 168 fast; exact Calls.quiet_of_same (HDn _).out) | (go_at_call_of 168 fall; exact Calls.quiet_of_same (HD2 _).out) | (go_at_call 165; exact Calls.quiet_of_same (HUp _).out))
  have HB2 := hide (below_drewN HB1.out nq)
  go_wp2_with fail
  go_ret
  exact ⟨rfl, HB2.out⟩
theorem Sound.marIn {l : List Int} (h : Sound l) : MarIn (marL l) := h.facts
/-- what LandTicks answers -/
def landE (l : List Int) (h : Int) : Int × Int := if chk l = 0 then (if 0 ≤ h ∧ h ≤ 536870912 then (landI (marL l) (l.getD 9 0) h, 0) else (0, 1)) else (0, chk l)
theorem marV_form (m : Mar) : marV m = .agg (arr6 (.int .i64 m.brake) (.int .i64 m.drift) (.int .i64 m.jolt) (.int .i64 m.fast) (.int .i64 m.lane) (.int .i64 m.drain)) := rfl
theorem landE_cases (l : List Int) (h : Int) : (chk l ≠ 0 ∧ landE l h = (0, chk l)) ∨ (Sound l ∧ ¬ (0 ≤ h ∧ h ≤ 536870912) ∧ landE l h = (0, 1)) ∨ (Sound l ∧ (0 ≤ h ∧ h ≤ 536870912) ∧ landE l h = (landI (marL l) (l.getD 9 0) h, 0)) := by
  unfold landE
  by_cases hc : chk l = 0
  · rw [if_pos hc]
    by_cases hin : 0 ≤ h ∧ h ≤ 536870912
    · rw [if_pos hin]; exact .inr (.inr ⟨sound_of hc, hin, rfl⟩)
    · rw [if_neg hin]; exact .inr (.inl ⟨sound_of hc, hin, rfl⟩)
  · rw [if_neg hc]; exact .inl ⟨hc, rfl⟩
theorem landTicks_any (l : List Int) (h : Int) (v : Value) (w : World) (hv : Ints w v l) : Calls Tryz.prog 300 #[v, .int .i64 h] w fun e w' => e = .returned (.tuple #[.int .i64 (landE l h).1, .int .i64 (landE l h).2]) ∧ Below w.heap.size w w' := by
  have hm := margins_any l v w hv
  rcases landE_cases l h with ⟨hc, hE⟩ | ⟨hs, hin, hE⟩ | ⟨hs, hin, hE⟩
  · rw [hE, marE, if_neg hc] at *
    obtain ⟨a, cap, rfl, _⟩ := hv
    generalize chk l = c at hm hc ⊢
    generalize l.length = n at hm ⊢
    have hne : (c != 0) = true := by simp [hc]
    unfold marV marZ at hm
    clear hc hE
    go_enter Tryz.func300, Tryz.ntmps300
    go_wp2_with fail
    refine hm.mono ?_
    rintro e w1 ⟨rfl, hB1⟩
    have HB1 := hide hB1
    clear hB1 hm
    go_wp2_with fail
    go_ret2
    exact ⟨rfl, HB1.out.alloc HB1.out.size _⟩
  · rw [hE]
    rw [marE, if_pos hs.chk, hs.chk] at hm
    have HW := fun W => hide (within_any h 0 536870912 W)
    have hf : (decide (0 ≤ h) && decide (h ≤ 536870912)) = false := by
      by_cases h1 : 0 ≤ h
      · simp; omega
      · simp; omega
    rw [hf] at HW
    obtain ⟨a, cap, rfl, _⟩ := hv
    generalize marL l = m at hm
    generalize l.length = n at hm ⊢
    obtain ⟨m0, m1, m2, m3, m4, m5⟩ := m
    unfold marV at hm
    simp only at hm ⊢
    clear hE hs hin hf
    go_enter Tryz.func300, Tryz.ntmps300
    go_wp2_with fail
    refine hm.mono ?_
    rintro e w1 ⟨rfl, hB1⟩
    have HB1 := hide hB1
    clear hB1 hm
    go_wp2_with fail
    refine (HW _).out.mono ?_
    rintro e w2 ⟨rfl, hw2⟩
    obtain rfl := hw2.symm
    go_wp2_with fail
    go_ret2
    exact ⟨rfl, HB1.out.alloc HB1.out.size _⟩
  · rw [hE]
    rw [marE, if_pos hs.chk, hs.chk] at hm
    have HW := fun W => hide (within_any h 0 536870912 W)
    rw [decide_eq_true hin.1, decide_eq_true hin.2] at HW
    obtain ⟨g, o, cap, rfl, hg, hcc⟩ := hv.open24 hs.len
    have b9 := hs.inr.bounds.2.2.2.2.2.2.2.2.2.1
    have c9 := hcc 9 (by omega)
    have HL := fun W => hide (land_any (marL l) hs.marIn (l.getD 9 0) h b9.1 b9.2 hin.1 hin.2 W)
    generalize landI (marL l) (l.getD 9 0) h = r at HL ⊢
    generalize marL l = m at hm HL
    generalize l.getD 9 0 = fall at c9 HL b9
    obtain ⟨m0, m1, m2, m3, m4, m5⟩ := m
    unfold marV at hm HL
    simp only at hm HL ⊢
    clear hE hs hin hcc hv b9
    go_enter Tryz.func300, Tryz.ntmps300
    go_wp2_with fail
    refine hm.mono ?_
    rintro e w1 ⟨rfl, hB1⟩
    have HB1 := hide hB1
    have d9 := (hB1.cell (p := ⟨g, o + 9, none⟩) hg).trans c9
    clear hB1 hm c9
    go_wp2_with fail
    refine (HW _).out.mono ?_
    rintro e w2 ⟨rfl, hw2⟩
    obtain rfl := hw2.symm
    clear HW hw2
    go_wp2_with fail
    have HB2 := hide (HB1.out.alloc HB1.out.size (.cells #[.int .i64 m0, .int .i64 m1, .int .i64 m2, .int .i64 m3, .int .i64 m4, .int .i64 m5] 56))
    have HM2 : Hid (Mb (w1.alloc (.cells #[.int .i64 m0, .int .i64 m1, .int .i64 m2, .int .i64 m3, .int .i64 m4, .int .i64 m5] 56)) w1.heap.size #[.int .i64 m0, .int .i64 m1, .int .i64 m2, .int .i64 m3, .int .i64 m4, .int .i64 m5]) := heap_alloc_new _ _
    have e9 := ((below_alloc w1 (.cells #[.int .i64 m0, .int .i64 m1, .int .i64 m2, .int .i64 m3, .int .i64 m4, .int .i64 m5] 56)).cell (p := ⟨g, o + 9, none⟩) (Nat.lt_of_lt_of_le hg HB1.out.size)).trans d9
    have hlt : w1.heap.size < (w1.alloc (.cells #[.int .i64 m0, .int .i64 m1, .int .i64 m2, .int .i64 m3, .int .i64 m4, .int .i64 m5] 56)).heap.size := by rw [size_alloc]; omega
    have hgl : g < (w1.alloc (.cells #[.int .i64 m0, .int .i64 m1, .int .i64 m2, .int .i64 m3, .int .i64 m4, .int .i64 m5] 56)).heap.size := by have := HB1.out.size; rw [size_alloc]; omega
    generalize w1.alloc (.cells #[.int .i64 m0, .int .i64 m1, .int .i64 m2, .int .i64 m3, .int .i64 m4, .int .i64 m5] 56) = w2 at HB2 HM2 e9 hlt hgl ⊢
    generalize w1.heap.size = N at HM2 hlt ⊢
    have y0 := HM2.out.at 0 _ rfl
    have y1 := HM2.out.at 1 _ rfl
    have y2 := HM2.out.at 2 _ rfl
    have y3 := HM2.out.at 3 _ rfl
    have y4 := HM2.out.at 4 _ rfl
    have y5 := HM2.out.at 5 _ rfl
    clear d9
    go_region_held3 (fun wx => wx.cell? ⟨N, 0, none⟩ = some (.int .i64 m0) ∧ wx.cell? ⟨N, 1, none⟩ = some (.int .i64 m1) ∧ wx.cell? ⟨N, 2, none⟩ = some (.int .i64 m2) ∧ wx.cell? ⟨N, 3, none⟩ = some (.int .i64 m3) ∧ wx.cell? ⟨N, 4, none⟩ = some (.int .i64 m4) ∧ wx.cell? ⟨N, 5, none⟩ = some (.int .i64 m5) ∧ wx.cell? ⟨g, o + 9, none⟩ = some (.int .i64 fall)) (go_keep) (first | (go_at_call 351; refine (HL _).out.mono ?_; rintro e w3 ⟨rfl, hB3⟩; replace hB3 := below_undrew hB3; have HB3 : Hid (Below w.heap.size w w3) := below_next HB2.out (Nat.le_refl _) hB3; have s0 := (hB3.cell (p := ⟨N, 0, none⟩) hlt).trans y0; have s1 := (hB3.cell (p := ⟨N, 1, none⟩) hlt).trans y1; have s2 := (hB3.cell (p := ⟨N, 2, none⟩) hlt).trans y2; have s3 := (hB3.cell (p := ⟨N, 3, none⟩) hlt).trans y3; have s4 := (hB3.cell (p := ⟨N, 4, none⟩) hlt).trans y4; have s5 := (hB3.cell (p := ⟨N, 5, none⟩) hlt).trans y5; have s9 := (hB3.cell (p := ⟨g, o + 9, none⟩) hgl).trans e9; clear hB3))
    go_wp2_with fail
    go_ret2
    exact ⟨rfl, HB3.out⟩
theorem leg_in (d v a : Int) (d0 : 0 ≤ d) (d1 : d ≤ 1000000000) (v0 : 1 ≤ v) (v1 : v ≤ 64000) (a0 : 4 ≤ a) : 800 ≤ legI d v a ∧ legI d v a ≤ 20000000000000 := by
  have u := upI_in (19200 * d) v v0 (by omega)
  have e := (ediv_in v a (by omega)).1 (by omega)
  unfold legI
  omega
theorem leg_any (d v a : Int) (d0 : 0 ≤ d) (d1 : d ≤ 1000000000) (v0 : 1 ≤ v) (v1 : v ≤ 64000) (a0 : 4 ≤ a) (w : World) : Calls Tryz.prog 352 #[.int .i64 d, .int .i64 v, .int .i64 a] w fun e w' => e = .returned (.int .i64 (legI d v a)) ∧ w' = w := by
  have u := upI_in (19200 * d) v v0 (by omega)
  have e := (ediv_in v a (by omega)).1 (by omega)
  have H1 := pdown_any v a w (by unfold I64; omega) (by omega)
  have H2 := pup_any (19200 * d) v w (by unfold I64; omega) (by omega)
  unfold legI
  generalize upI (19200 * d) v = uu at u H2 ⊢
  generalize v / a = q at e H1 ⊢
  go_enter Tryz.func352, Tryz.ntmps352
  go_wp2_with fail
  refine H1.mono ?_
  rintro e w1 ⟨rfl, hw⟩
  obtain rfl := hw.symm
  go_wp2_with fail
  refine H2.mono ?_
  rintro e w1 ⟨rfl, hw⟩
  obtain rfl := hw.symm
  go_wp2_with fail
  go_ret
  exact ⟨rfl, rfl⟩
/-- what ReturnTicks answers -/
def retE (l : List Int) (h d : Int) : Int × Int := if chk l = 0 then (if (0 ≤ h ∧ h ≤ 536870912) ∧ 0 ≤ d ∧ d ≤ 536870912 then (retI l h d, 0) else (0, 1)) else (0, chk l)
theorem retE_cases (l : List Int) (h d : Int) : (chk l ≠ 0 ∧ retE l h d = (0, chk l)) ∨ (Sound l ∧ ¬ ((0 ≤ h ∧ h ≤ 536870912) ∧ 0 ≤ d ∧ d ≤ 536870912) ∧ retE l h d = (0, 1)) ∨ (Sound l ∧ ((0 ≤ h ∧ h ≤ 536870912) ∧ 0 ≤ d ∧ d ≤ 536870912) ∧ retE l h d = (retI l h d, 0)) := by
  unfold retE
  by_cases hc : chk l = 0
  · rw [if_pos hc]
    by_cases hin : (0 ≤ h ∧ h ≤ 536870912) ∧ 0 ≤ d ∧ d ≤ 536870912
    · rw [if_pos hin]; exact .inr (.inr ⟨sound_of hc, hin, rfl⟩)
    · rw [if_neg hin]; exact .inr (.inl ⟨sound_of hc, hin, rfl⟩)
  · rw [if_neg hc]; exact .inl ⟨hc, rfl⟩
theorem in_no (h : Int) (hn : ¬ (0 ≤ h ∧ h ≤ 536870912)) : (decide (0 ≤ h) && decide (h ≤ 536870912)) = false := by
  by_cases h1 : 0 ≤ h
  · simp; omega
  · simp; omega
theorem in_yes (h : Int) (hn : 0 ≤ h ∧ h ≤ 536870912) : (decide (0 ≤ h) && decide (h ≤ 536870912)) = true := by
  rw [decide_eq_true hn.1, decide_eq_true hn.2]; rfl
theorem returnTicks_any (l : List Int) (h d : Int) (v : Value) (w : World) (hv : Ints w v l) : Calls Tryz.prog 301 #[v, .int .i64 h, .int .i64 d] w fun e w' => e = .returned (.tuple #[.int .i64 (retE l h d).1, .int .i64 (retE l h d).2]) ∧ Below w.heap.size w w' := by
  have hm := check_any l v w hv
  have HW1 := fun W => hide (within_any h 0 536870912 W)
  have HW2 := fun W => hide (within_any d 0 536870912 W)
  rcases retE_cases l h d with ⟨hc, hE⟩ | ⟨hs, hin, hE⟩ | ⟨hs, hin, hE⟩
  · rw [hE]
    obtain ⟨a, cap, rfl, _⟩ := hv
    generalize chk l = c at hm hc ⊢
    generalize l.length = n at hm ⊢
    have hne : (c != 0) = true := by simp [hc]
    clear hc hE
    go_enter Tryz.func301, Tryz.ntmps301
    go_wp2_with fail
    refine hm.mono ?_
    rintro e w1 ⟨rfl, hB1⟩
    have HB1 := hide hB1
    clear hB1 hm
    go_wp2_with fail
    go_ret2
    exact ⟨rfl, HB1.out⟩
  · rw [hE]
    rw [hs.chk] at hm
    obtain ⟨a, cap, rfl, _⟩ := hv
    generalize l.length = n at hm ⊢
    by_cases h1 : 0 ≤ h ∧ h ≤ 536870912
    · rw [in_yes h h1] at HW1
      rw [in_no d (fun h2 => hin ⟨h1, h2⟩)] at HW2
      clear hE hs hin h1
      go_enter Tryz.func301, Tryz.ntmps301
      go_wp2_with fail
      refine hm.mono ?_
      rintro e w1 ⟨rfl, hB1⟩
      have HB1 := hide hB1
      clear hB1 hm
      go_wp2_with fail
      refine (HW1 _).out.mono ?_
      rintro e w2 ⟨rfl, hw2⟩
      obtain rfl := hw2.symm
      go_wp2_with fail
      refine (HW2 _).out.mono ?_
      rintro e w2 ⟨rfl, hw2⟩
      obtain rfl := hw2.symm
      go_wp2_with fail
      go_ret2
      exact ⟨rfl, HB1.out⟩
    · rw [in_no h h1] at HW1
      clear hE hs hin h1 HW2
      go_enter Tryz.func301, Tryz.ntmps301
      go_wp2_with fail
      refine hm.mono ?_
      rintro e w1 ⟨rfl, hB1⟩
      have HB1 := hide hB1
      clear hB1 hm
      go_wp2_with fail
      refine (HW1 _).out.mono ?_
      rintro e w2 ⟨rfl, hw2⟩
      obtain rfl := hw2.symm
      go_wp2_with fail
      go_ret2
      exact ⟨rfl, HB1.out⟩
  · rw [hE]
    rw [hs.chk] at hm
    rw [in_yes h hin.1] at HW1
    rw [in_yes d hin.2] at HW2
    obtain ⟨g, o, cap, rfl, hg, hcc⟩ := hv.open24 hs.len
    obtain ⟨-, -, -, -, -, -, b6, b7, b8, b9, b10, -⟩ := hs.inr.bounds
    have c6 := hcc 6 (by omega)
    have c7 := hcc 7 (by omega)
    have c8 := hcc 8 (by omega)
    have c9 := hcc 9 (by omega)
    have c10 := hcc 10 (by omega)
    unfold retI
    simp only
    generalize l.getD 6 0 = p6 at b6 c6 ⊢
    generalize l.getD 7 0 = p7 at b7 c7 ⊢
    generalize l.getD 8 0 = p8 at b8 c8 ⊢
    generalize l.getD 9 0 = p9 at b9 c9 ⊢
    generalize l.getD 10 0 = p10 at b10 c10 ⊢
    obtain ⟨mx, HMX⟩ : ∃ x, Hid ((if h < p10 then p10 else h) = x) := ⟨_, rfl⟩
    have hmx : max h p10 = mx := by rw [← HMX.out]; split <;> omega
    rw [hmx]
    have hmb : 1000 ≤ mx ∧ mx ≤ 536870912 := by have := hmx; omega
    have l1 := leg_in (mx + 1000) p8 p6 (by omega) (by omega) (by omega) (by omega) (by omega)
    have l2 := leg_in d p7 p6 (by omega) (by omega) (by omega) (by omega) (by omega)
    have L1 := fun W => hide (leg_any (mx + 1000) p8 p6 (by omega) (by omega) (by omega) (by omega) (by omega) W)
    have L2 := fun W => hide (leg_any d p7 p6 (by omega) (by omega) (by omega) (by omega) (by omega) W)
    have D1 := fun W => hide (pdown_any (p8 + p9) p6 W (by unfold I64; omega) (by omega))
    have U1 := fun W => hide (pup_any (12800 * (mx + 1000)) p9 W (by unfold I64; omega) (by omega))
    have u1 := upI_in (12800 * (mx + 1000)) p9 (by omega) (by omega)
    have q1 := (ediv_in (p8 + p9) p6 (by omega)).1 (by omega)
    generalize legI (mx + 1000) p8 p6 = x1 at l1 L1 ⊢
    generalize legI d p7 p6 = x2 at l2 L2 ⊢
    generalize upI (12800 * (mx + 1000)) p9 = x3 at u1 U1 ⊢
    generalize (p8 + p9) / p6 = x4 at q1 D1 ⊢
    clear hE hs hcc hv hmx
    go_enter Tryz.func301, Tryz.ntmps301
    go_wp2_with fail
    refine hm.mono ?_
    rintro e w1 ⟨rfl, hB1⟩
    have HB1 := hide hB1
    replace c6 := (hB1.cell (p := ⟨g, o + 6, none⟩) hg).trans c6
    replace c7 := (hB1.cell (p := ⟨g, o + 7, none⟩) hg).trans c7
    replace c8 := (hB1.cell (p := ⟨g, o + 8, none⟩) hg).trans c8
    replace c9 := (hB1.cell (p := ⟨g, o + 9, none⟩) hg).trans c9
    replace c10 := (hB1.cell (p := ⟨g, o + 10, none⟩) hg).trans c10
    clear hB1 hm
    go_wp2_with fail
    refine (HW1 _).out.mono ?_
    rintro e w2 ⟨rfl, hw2⟩
    obtain rfl := hw2.symm
    clear hw2
    go_wp2_with fail
    refine (HW2 _).out.mono ?_
    rintro e w2 ⟨rfl, hw2⟩
    obtain rfl := hw2.symm
    clear hw2 HW1 HW2
    go_wp2_with fail
    go_quiet (fail)
    rw [← drewN_cell w1 nq] at c7 c10
    have HB2 := hide (below_drewN HB1.out nq)
    generalize w1.drewN nq = w2 at c7 c10 HB2 ⊢
    clear c6 c8 c9
    have hmi := HMX.out
    go_wp2_with fail
    clear hmi
    go_quiet (first | (go_at_call_of 352 mx; exact Calls.quiet_of_same (L1 _).out) | (go_at_call_of 352 d; exact Calls.quiet_of_same (L2 _).out))
    have HB3 := hide (below_drewN HB2.out nq)
    generalize w2.drewN nq = w3 at HB3 ⊢
    clear c7 c10
    go_wp2_with fail
    refine (D1 _).out.mono ?_
    rintro e w4 ⟨rfl, hw4⟩
    obtain rfl := hw4.symm
    clear hw4
    go_wp2_with fail
    refine (U1 _).out.mono ?_
    rintro e w4 ⟨rfl, hw4⟩
    obtain rfl := hw4.symm
    clear hw4
    go_wp2_with fail
    go_ret2
    exact ⟨rfl, HB3.out⟩
/-- what Slack answers -/
def slackE (l : List Int) (h : Int) : Int × Int := if chk l = 0 then (if 1 ≤ h ∧ h ≤ 536870912 then (slackI l h, 0) else (0, 1)) else (0, chk l)
theorem slackE_cases (l : List Int) (h : Int) : (chk l ≠ 0 ∧ slackE l h = (0, chk l)) ∨ (Sound l ∧ ¬ (1 ≤ h ∧ h ≤ 536870912) ∧ slackE l h = (0, 1)) ∨ (Sound l ∧ (1 ≤ h ∧ h ≤ 536870912) ∧ slackE l h = (slackI l h, 0)) := by
  unfold slackE
  by_cases hc : chk l = 0
  · rw [if_pos hc]
    by_cases hin : 1 ≤ h ∧ h ≤ 536870912
    · rw [if_pos hin]; exact .inr (.inr ⟨sound_of hc, hin, rfl⟩)
    · rw [if_neg hin]; exact .inr (.inl ⟨sound_of hc, hin, rfl⟩)
  · rw [if_neg hc]; exact .inl ⟨hc, rfl⟩
theorem slack_in (m : Mar) (hm : MarIn m) (r : Int) (r0 : 104 ≤ r) (r1 : r ≤ 4000000000000) : 0 ≤ m.drift * r ∧ m.drift * r ≤ 136000000000000 := by
  obtain ⟨a, b, c, d⟩ := hm
  refine ⟨Int.mul_nonneg (by omega) (by omega), ?_⟩
  have := Int.mul_le_mul (a := m.drift) (b := r) (c := 34) (d := 4000000000000) (by omega) (by omega) (by omega) (by omega)
  omega
end Go.Proofs.YtapfaaaepnplcaaGreatDoor
set_option maxRecDepth 100000
set_option maxHeartbeats 2000000
namespace Go.Proofs.YtapfaaaepnplcaaGreatDoor
open Go.RowKit Go.Great
theorem take_deL (k : Nat) (h : k < 24) : deL.take (k + 1) = deL.take k ++ [deL.getD k 0] := by
  have hl : k < deL.length := h
  rw [List.take_add_one, List.getElem?_eq_getElem hl, List.getD, List.getElem?_eq_getElem hl]
  rfl
theorem defaults_any (w : World) : Calls Tryz.prog 40 #[] w fun e w' => ∃ v, e = .returned v ∧ IRow w' w.heap.size v deL ∧ Below w.heap.size w w' := by
  obtain ⟨i0, hi, hz0, hz1, hz2⟩ := info_parts info_int
  have HR := hide rows_any
  have HX := hide tab_ix
  go_enter Tryz.func40, Tryz.ntmps40
  go_wp2_with (at_make; refine wpList_make_own _ rfl (.const (.int .i64 0)) (.const (.int .i64 24)) 48 rfl w.heap.size 3 i0 _ 1 Tryz.underlying48 hi hz0 hz1 .i64 .i64 _ 24 rfl rfl (by rfl) ?b1 ?b2 ?b3 ?_)
  case b1 => rw [hz2]; omega
  case b2 => unfold maxLen; omega
  case b3 => exact Nat.le_refl _
  intro w1 hown1 hgrow1
  have HB1 : Hid (Below w.heap.size w w1) := (Below.refl w.heap.size w).grown hgrow1 (Nat.le_refl _) (fun k e => by cases e)
  have HO1 : Hid (IRow w1 w.heap.size (.slice (some ⟨w.heap.size, 0, none⟩) 0 24) []) := hown1
  clear hown1 hgrow1
  go_wp2_with fail
  refine (HR.out _).mono ?_
  rintro e w2 ⟨rfl, hw2⟩
  have HB2 : Hid (Below w.heap.size w w2) := by rw [hw2]; exact HB1.out.alloc HB1.out.size _
  have HO2 : Hid (IRow w2 w.heap.size (.slice (some ⟨w.heap.size, 0, none⟩) 0 24) []) := by rw [hw2]; exact HO1.out.alloc _
  clear hw2 HR HB1 HO1
  obtain ⟨T, HTab⟩ : ∃ T, Hid (tabC = T) := ⟨_, rfl⟩
  rw [HTab.out] at HX ⊢
  go_wp2_with fail
  go_loopw [1, 6] (fun v i wx => ∃ k : Nat, k ≤ 24 ∧ i = .int .i64 k ∧ v = .slice (some ⟨w.heap.size, 0, none⟩) k 24 ∧ IRow wx w.heap.size v (deL.take k) ∧ Below w.heap.size w wx) (fun _ i _ => 24 - (intOf i).toNat)
  case atStart => exact ⟨0, by omega, rfl, rfl, HO2.out, HB2.out⟩
  case round =>
    obtain ⟨k, hk, rfl, rfl, hR, hB⟩ := hrel
    have HB := hide hB
    have HRr := hide hR
    clear hR hB HO2 HB2
    by_cases hlt : k < 24
    · have hx := HX.out k hlt
      unfold rowC at hx
      have HT := hide (take_deL k hlt)
      generalize loL.getD k 0 = x at hx
      generalize hiL.getD k 0 = y at hx
      generalize deL.getD k 0 = z at hx HT
      have hlen : (deL.take k).length = k := by rw [List.length_take]; show min k 24 = k; omega
      have HLE := hide hlen
      clear hlen
      generalize deL.take k = L at HT HLE HRr
      have HO3 : Hid (((wr.alloc (.cells #[.int .i64 x, .int .i64 y, .int .i64 z] 63)).alloc (.cells #[.int .i64 z] 3)).ownsRow w.heap.size 3 1 (.slice (some ⟨w.heap.size, 0, none⟩) k 24) k (L.map (Value.int .i64))) := by
        have := (HRr.out.alloc (.cells #[.int .i64 x, .int .i64 y, .int .i64 z] 63)).alloc (.cells #[.int .i64 z] 3)
        unfold IRow at this
        rw [HLE.out] at this
        exact this
      have hws := HB.out.size
      go_wp2_with (at_builtin; refine wpList_append_fits _ rfl (.tmp 9) (.tmp 12) 48 rfl w.heap.size 3 i0 1 Tryz.underlying48 hi hz1 w.heap.size k 24 _ rfl HO3.out ⟨wr.heap.size + 1, 0, none⟩ 1 1 [.int .i64 z] rfl rfl ?c1 ?c2 ?c3 ?_)
      case c1 => exact new_cell1 _ _ (by rw [size_alloc]) _ _
      case c2 => intro u hu; simp at hu; subst hu; rfl
      case c3 => omega
      intro w5 hown5 hgrow5
      have HR5 : Hid (IRow w5 w.heap.size (.slice (some ⟨w.heap.size, 0, none⟩) (k + 1) 24) (deL.take (k + 1))) := by
        show World.ownsRow _ _ _ _ _ _ _
        rw [HT.out, List.length_append, HLE.out, List.map_append]; exact hown5
      have HB5 : Hid (Below w.heap.size w w5) := ((HB.out.alloc hws _).alloc (by rw [size_alloc]; omega) _).grown hgrow5 (by rw [size_alloc, size_alloc]; omega) (fun k e => by injection e with e; omega)
      clear hown5 hgrow5 HO3 hi hz0 hz1 hz2
      go_wp2_with fail
      go_roundw
      case rel => exact ⟨k + 1, by omega, by go_num, rfl, HR5.out, HB5.out⟩
      case measure => simp [intOf]; omega
    · obtain rfl : k = 24 := by omega
      clear hi hz0 hz1 hz2
      go_wp2_with fail
      go_ret
      exact ⟨_, rfl, HRr.out, HB.out⟩
theorem deL_sound : Sound deL := sound_of (by decide)
end Go.Proofs.YtapfaaaepnplcaaGreatDoor
set_option maxRecDepth 100000
namespace Go.Proofs.YtapfaaaepnplcaaGreatDoor
open Go.RowKit Go.Great
theorem wrap_id (n : Int) (h : -9223372036854775808 ≤ n ∧ n ≤ 9223372036854775807) : wrap64 n = n := by unfold wrap64; omega
def andL (d : List UInt8) (i : Nat) (c : UInt8) : UInt8 := c &&& d.getD i 0
theorem onL_cons (C : List UInt8) (a : Nat) (b : UInt8) (d : List UInt8) (h : a < C.length) : onL (C.set a (C.getD a 0 &&& b)) (a + 1) d.length (andL d) = onL C a (d.length + 1) (andL (b :: d)) := by
  apply List.ext_getElem
  · simp [onL]
  · intro k h1 h2
    have hk : k < C.length := by simpa [onL] using h2
    rw [onL_at, onL_at]
    simp only [List.getElem_set]
    by_cases e : a = k
    · subst e
      rw [if_neg (by omega), if_pos rfl, if_pos (by omega), Nat.sub_self, getD_at _ _ h]
      rfl
    · simp only [if_neg e]
      by_cases c : a + 1 ≤ k ∧ k < a + 1 + d.length
      · rw [if_pos c, if_pos (by omega)]
        obtain ⟨m, hm⟩ : ∃ m, k - a = m + 1 := ⟨k - a - 1, by omega⟩
        rw [hm, show k - (a + 1) = m by omega]
        rfl
      · rw [if_neg c, if_neg (by omega)]
theorem stepS_pre (σ : St) (har : σ.ar = true → 1 ≤ σ.lf ∧ σ.lf ≤ 9223372036854775807) (h0 : 0 ≤ σ.st) (h1 : σ.st + 1 ≤ 9223372036854775807) : stepS σ = ({ σ with lf := if σ.ar then σ.lf - 1 else σ.lf, st := σ.st + 1 }, ⟨#[]⟩, true) := by
  unfold stepS
  have e1 : wrap64 (σ.st + 1) = σ.st + 1 := wrap_id _ (by omega)
  have e3 : (if σ.ar = true then wrap64 (σ.lf - 1) else σ.lf) = if σ.ar = true then σ.lf - 1 else σ.lf := by
    by_cases hr : σ.ar = true
    · have := har hr
      rw [if_pos hr, if_pos hr, wrap_id _ (by omega)]
    · rw [if_neg hr, if_neg hr]
  have e2 : ¬ (σ.ar = true ∧ σ.lf = 0) := by intro hc; have := har hc.1; omega
  rw [if_neg e2, e1, e3]
theorem progB_pre (σ : St) (a : Nat) (b : UInt8) (har : σ.ar = true → 1 ≤ σ.lf ∧ σ.lf ≤ 9223372036854775807) (h0 : 0 ≤ σ.st) (h1 : σ.st + 1 ≤ 9223372036854775807) : progB σ a b = ({ σ with C := σ.C.set a (σ.C.getD a 0 &&& b), lf := if σ.ar then σ.lf - 1 else σ.lf, st := σ.st + 1 }, true) := by
  unfold progB
  rw [stepS_pre σ har h0 h1]
  rfl
theorem progS_pre (d : List UInt8) : ∀ (σ : St) (a : Nat), (σ.ar = true → (d.length : Int) ≤ σ.lf ∧ σ.lf ≤ 9223372036854775807) → a + d.length ≤ σ.C.length → 0 ≤ σ.st → σ.st + d.length ≤ 9223372036854775807 →
    progS σ a d = ({ σ with C := onL σ.C a d.length (andL d), st := σ.st + d.length, lf := if σ.ar then σ.lf - d.length else σ.lf }, true) := by
  induction d with
  | nil =>
    intro σ a _ _ _ _
    rw [progS, List.length_nil, onL_zero]
    obtain ⟨C, off, st, ar, lf, jk⟩ := σ
    simp
  | cons b t ih =>
    intro σ a har hlen h0 h1
    rw [List.length_cons] at hlen
    have hl : (((b :: t).length : Nat) : Int) = (t.length : Int) + 1 := by rw [List.length_cons]; omega
    rw [hl] at h1 har ⊢
    have hpb := progB_pre σ a b (fun hr => by have := har hr; omega) h0 (by omega)
    rw [progS, hpb, if_pos rfl]
    have ih2 := ih { σ with C := σ.C.set a (σ.C.getD a 0 &&& b), lf := if σ.ar then σ.lf - 1 else σ.lf, st := σ.st + 1 } (a + 1) (by
        intro hr
        have := har hr
        show (t.length : Int) ≤ (if σ.ar = true then σ.lf - 1 else σ.lf) ∧ (if σ.ar = true then σ.lf - 1 else σ.lf) ≤ _
        rw [if_pos hr]
        omega) (by
        show a + 1 + t.length ≤ (σ.C.set a (σ.C.getD a 0 &&& b)).length
        rw [List.length_set]; omega) (by show 0 ≤ σ.st + 1; omega) (by show σ.st + 1 + (t.length : Int) ≤ _; omega)
    rw [ih2]
    have e1 : σ.st + 1 + (t.length : Int) = σ.st + ((t.length : Int) + 1) := by omega
    have e2 : (if σ.ar = true then (if σ.ar = true then σ.lf - 1 else σ.lf) - (t.length : Int) else (if σ.ar = true then σ.lf - 1 else σ.lf)) = if σ.ar = true then σ.lf - ((t.length : Int) + 1) else σ.lf := by
      by_cases hr : σ.ar = true
      · rw [if_pos hr, if_pos hr, if_pos hr]; omega
      · rw [if_neg hr, if_neg hr, if_neg hr]
    show (({ C := onL (σ.C.set a (σ.C.getD a 0 &&& b)) (a + 1) t.length (andL t), off := σ.off, st := σ.st + 1 + (t.length : Int), ar := σ.ar, lf := (if σ.ar = true then (if σ.ar = true then σ.lf - 1 else σ.lf) - (t.length : Int) else (if σ.ar = true then σ.lf - 1 else σ.lf)), jk := σ.jk } : St), true) = _
    rw [e1, e2, onL_cons _ _ _ _ (by omega)]
    rfl
theorem progS_app (d1 d2 : List UInt8) : ∀ (σ : St) (a : Nat), progS σ a (d1 ++ d2) = if (progS σ a d1).2 then progS (progS σ a d1).1 (a + d1.length) d2 else ((progS σ a d1).1, false) := by
  induction d1 with
  | nil => intro σ a; simp [progS]
  | cons b t ih =>
    intro σ a
    rw [List.cons_append, progS, progS]
    cases h : (progB σ a b).2
    · simp
    · simp only [if_true]
      rw [ih, List.length_cons, show a + 1 + t.length = a + (t.length + 1) by omega]
/-- a program that is cut: in its byte L -/
theorem progS_cut (d : List UInt8) (L : Nat) (hL : L < d.length) (σ : St) (a : Nat) (har : σ.ar = true) (hlf : σ.lf = L) (hlen : a + d.length ≤ σ.C.length) (h0 : 0 ≤ σ.st) (h1 : σ.st + d.length ≤ 9223372036854775807) (h2 : L ≤ 9223372036854775807) :
    progS σ a d = ({ C := (onL σ.C a L (andL d)).set (a + L) (σ.C.getD (a + L) 0 &&& (d.getD L 0 ||| arB σ.jk 0)), off := true, st := σ.st + L, ar := false, lf := 0, jk := ⟨#[]⟩ }, false) := by
  have hd : d = d.take L ++ (d.getD L 0 :: d.drop (L + 1)) := by
    rw [getD_at d 0 hL]
    rw [← List.drop_eq_getElem_cons hL, List.take_append_drop]
  have hl : (d.take L).length = L := by rw [List.length_take]; omega
  have hp := progS_pre (d.take L) σ a (by intro _; rw [hl, hlf]; omega) (by rw [hl]; omega) h0 (by rw [hl]; omega)
  rw [hl] at hp
  have hon : onL σ.C a L (andL (d.take L)) = onL σ.C a L (andL d) := by
    apply onL_congr
    intro i c hi
    unfold andL
    congr 1
    rw [List.getD_eq_getElem?_getD, List.getD_eq_getElem?_getD, List.getElem?_take_of_lt hi]
  rw [hon] at hp
  conv => lhs; rw [hd]
  rw [progS_app, hp, hl]
  simp only [if_true, har, hlf, Int.sub_self]
  have hst : stepS { C := onL σ.C a L (andL d), off := σ.off, st := σ.st + L, ar := true, lf := 0, jk := σ.jk } = ({ C := onL σ.C a L (andL d), off := true, st := σ.st + L, ar := false, lf := 0, jk := ⟨#[]⟩ }, σ.jk, false) := by
    simp [stepS]
  rw [progS]
  unfold progB
  rw [hst]
  simp only [Bool.false_eq_true, if_false]
  rw [onL_next _ _ _ _ (by omega)]
end Go.Proofs.YtapfaaaepnplcaaGreatDoor
