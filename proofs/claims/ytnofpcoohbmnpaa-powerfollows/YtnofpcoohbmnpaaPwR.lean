/- The document's battery: New, Need, Tier. -/
import Derived.Test.YtnofpcoohbmnpaaPwO
import Derived.Test.YtnofpcoohbmnpaaPr5
import Derived.Test.YtnofpcoohbmnpaaKept
import Derived.Test.YtnofpcoohbmnpaaKo5
namespace Go.Proofs.Ytnofpcoohbmnpaa
open Go.RowKit Go.Great

set_option maxHeartbeats 1000000 in
theorem rintsP (l : List Int) (hl : l.length = 24) (v : Value) (w : World) (hv : Ints w v l) : Calls Try.prog 20 #[v] w fun e w' => ∃ u, e = .returned u ∧ IRow w' w.heap.size u l ∧ Below w.heap.size w w' := by
  obtain ⟨i0, hi, hz0, hz1, hz2⟩ := info_parts info_int
  obtain ⟨g, o, cap, rfl, hg, hcc⟩ := hv.open24 hl
  have HV := hide hv
  have HL := hide hl
  clear hcc hv hl
  go_enter Try.func20, Try.ntmps20
  go_wp2_with (at_builtin; refine wpList_append_own _ rfl (.tmp 4) (.tmp 5) 22 rfl w.heap.size 3 i0 _ 1 8 Try.underlying22 hi hz0 hz1 hz2 rfl (by decide) (.slice none 0 0) 0 [] rfl (IRow.nil w w.heap.size) ⟨g, o, none⟩ 24 cap (l.map (Value.int .i64)) rfl ?c0 ?c1 ?c2 ?c3 ?c4 ?c5 ?_)
  case c0 => rw [List.length_map, HL.out]
  case c1 => exact ints_news (w := w) (ao := some ⟨g, o, none⟩) (cap := cap) (by rw [HL.out]; exact HV.out) _ rfl
  case c2 => exact map_one l
  case c3 => unfold maxLen; omega
  case c4 => omega
  case c5 => exact Nat.le_refl _
  intro v' w5 hown5 hgrow5 _
  have HR5 : Hid (IRow w5 w.heap.size v' l) := by
    show World.ownsRow _ _ _ _ _ _ _
    rw [HL.out]; exact hown5
  have HB5 : Hid (Below w.heap.size w w5) := (Below.refl _ _).grown hgrow5 (Nat.le_refl _) (fun j e => by cases e)
  clear hown5 hgrow5 hi hz0 hz1 hz2
  go_wp2_with fail
  go_ret
  exact ⟨v', rfl, HR5.out, HB5.out⟩
theorem rclampP (x lo hi : Int) (w : World) : Calls Try.prog 50 #[.int .i64 x, .int .i64 lo, .int .i64 hi] w fun e w' => e = .returned (.int .i64 (clamp x lo hi)) ∧ w' = w := by
  go_enter Try.func50, Try.ntmps50
  go_wp2_with fail
  all_goals go_ret
  all_goals refine ⟨ret_int ?_, rfl⟩
  all_goals unfold clamp
  all_goals (repeat' split)
  all_goals omega
/-- the document's battery's cells -/
abbrev rbC (u : Value) (t : Ba) : Array Value := #[u, .int .i64 (drn t.l), .bool t.kn, .int .i64 t.lo, .int .i64 t.hi]
theorem rb_back2 {fn : Func} {p u : Tmp} (h : fn.results = #[.cell p 33, .tmp u]) (tmps : Array Value) (w : World) (g : Nat) (c0 c1 c2 c3 c4 b : Value) (hp : tmps.getD p undef = .pointer (some ⟨g, 0, none⟩)) (hq : tmps.getD u undef = b) (hg : Blk w g #[c0, c1, c2, c3, c4] 33) : (results fn tmps).run Try.prog w = .ok (.tuple #[.agg #[c0, c1, c2, c3, c4], b]) w :=
  res_back2 h Try.underlying33 (by kernel_rfl) tmps w g b hp hq hg
theorem put5 {w W : World} {n B : Nat} {t : TypeId} {c0 c1 c2 c3 c4 : Value} (hW : Blk W B #[c0, c1, c2, c3, c4] t) (hb : Below n w W) (hn : n ≤ B) (y0 y1 y2 y3 y4 : Value) :
    Blk (((((W.setCell ⟨B, 0, none⟩ y0).setCell ⟨B, 1, none⟩ y1).setCell ⟨B, 2, none⟩ y2).setCell ⟨B, 3, none⟩ y3).setCell ⟨B, 4, none⟩ y4) B #[y0, y1, y2, y3, y4] t ∧ Below n w (((((W.setCell ⟨B, 0, none⟩ y0).setCell ⟨B, 1, none⟩ y1).setCell ⟨B, 2, none⟩ y2).setCell ⟨B, 3, none⟩ y3).setCell ⟨B, 4, none⟩ y4) := by
  have hl := hW.lt
  refine ⟨((((hW.set 0 y0).set 1 y1).set 2 y2).set 3 y3).set 4 y4, ?_⟩
  refine below_set (below_set (below_set (below_set (below_set hb _ _ _ hn ?_) _ _ _ hn ?_) _ _ _ hn ?_) _ _ _ hn ?_) _ _ _ hn ?_
  all_goals (repeat rw [setCell_size])
  all_goals omega
theorem irow_set {W : World} {base B : Nat} {u : Value} {l : List Int} (h : IRow W base u l) (hB : B < base) (i : Nat) (x : Value) : IRow (W.setCell ⟨B, i, none⟩ x) base u l :=
  h.grown (grown_set W B i x) (.inr (fun e => by have := (World.ownsRow.lt h B e).1; omega))
theorem irow_low {W : World} {base n : Nat} {u : Value} {l : List Int} (h : IRow W base u l) (hn : n ≤ base) : IRow W n u l := by
  refine ⟨h.1, ?_⟩
  rcases h.2 with q | ⟨g2, cap2, cur2, q1, q2, q3⟩
  · exact .inl q
  · exact .inr ⟨g2, cap2, cur2, q1, Nat.le_trans hn q2, q3⟩
set_option maxHeartbeats 1000000 in
theorem rnewP_no (w : World) (l : List Int) (v : Value) (hv : Ints w v l) (hc : chk l ≠ 0) : Calls Try.prog 9 #[v] w fun e w' => e = .returned (.tuple #[.agg #[.slice none 0 0, .int .i64 0, .bool false, .int .i64 0, .int .i64 0], .int .i64 (chk l)]) ∧ Below w.heap.size w w' := by
  have MA := hide (fun W (hW : Ints W v l) => rmargins_any l v W hW)
  have HV := hide hv
  have hne : (chk l != 0) = true := by simp [hc]
  obtain ⟨a, cap, rfl, _⟩ := hv
  generalize l.length = n at *
  generalize chk l = c at *
  generalize marE l = m at *
  obtain ⟨m1, m2, m3, m4, m5, m6⟩ := m
  rw [show marV ⟨m1, m2, m3, m4, m5, m6⟩ = .agg #[.int .i64 m1, .int .i64 m2, .int .i64 m3, .int .i64 m4, .int .i64 m5, .int .i64 m6] from rfl] at MA
  have HR := hide (Blk.new w #[.slice none 0 0, .int .i64 0, .bool false, .int .i64 0, .int .i64 0] 33)
  have Hb := hide (below_alloc w (.cells #[.slice none 0 0, .int .i64 0, .bool false, .int .i64 0, .int .i64 0] 33))
  go_enter Try.func9, Try.ntmps9
  go_upto_region 1 with fail
  replace HV := hide (HV.out.below Hb.out)
  generalize w.alloc (.cells #[.slice none 0 0, .int .i64 0, .bool false, .int .i64 0, .int .i64 0] 33) = W0 at *
  go_upto_region 2 with (go_at_call 19; refine (MA.out _ HV.out).mono ?_; rintro e w1 ⟨rfl, hb1⟩)
  replace HR := hide ((HR.out.after hb1).alloc (.cells #[.int .i64 m1, .int .i64 m2, .int .i64 m3, .int .i64 m4, .int .i64 m5, .int .i64 m6] 54))
  replace Hb := hide (below_next (below_next Hb.out (Nat.le_refl _) hb1) (Nat.le_refl _) (below_alloc w1 (.cells #[.int .i64 m1, .int .i64 m2, .int .i64 m3, .int .i64 m4, .int .i64 m5, .int .i64 m6] 54)))
  clear hb1
  generalize w1.alloc (.cells #[.int .i64 m1, .int .i64 m2, .int .i64 m3, .int .i64 m4, .int .i64 m5, .int .i64 m6] 54) = W1 at *
  have c0 : W1.cell? ⟨w.heap.size, 0, none⟩ = some (.slice none 0 0) := HR.out.cell 0 rfl
  have c1 : W1.cell? ⟨w.heap.size, 1, none⟩ = some (.int .i64 0) := HR.out.cell 1 rfl
  have c2 : W1.cell? ⟨w.heap.size, 2, none⟩ = some (.bool false) := HR.out.cell 2 rfl
  have c3 : W1.cell? ⟨w.heap.size, 3, none⟩ = some (.int .i64 0) := HR.out.cell 3 rfl
  have c4 : W1.cell? ⟨w.heap.size, 4, none⟩ = some (.int .i64 0) := HR.out.cell 4 rfl
  have f0 := HR.out.frozen 0
  have f1 := HR.out.frozen 1
  have f2 := HR.out.frozen 2
  have f3 := HR.out.frozen 3
  have f4 := HR.out.frozen 4
  go_wp2_with fail
  have P5 := put5 HR.out Hb.out (Nat.le_refl _) (.slice none 0 0) (.int .i64 0) (.bool false) (.int .i64 0) (.int .i64 0)
  exact bodyPost_ret (rb_back2 (p := 2) (u := 3) (by kernel_rfl) _ _ w.heap.size _ _ _ _ _ _ rfl rfl P5.1) rfl ⟨rfl, P5.2⟩
set_option maxHeartbeats 1000000 in
theorem rnewP_any (w : World) (l : List Int) (v : Value) (hv : Ints w v l) (hs : Sound l) : Calls Try.prog 9 #[v] w fun e w' => ∃ u, e = .returned (.tuple #[.agg (rbC u (bN l)), .int .i64 0]) ∧ IRow w' w.heap.size u l ∧ Below w.heap.size w w' := by
  have MA := hide (fun W (hW : Ints W v l) => rmargins_any l v W hW)
  rw [hs.chk, show marE l = marL l by unfold marE; rw [if_pos hs.chk]] at MA
  have HV := hide hv
  have IN := hide (fun W (hW : Ints W v l) => rintsP l hs.len v W hW)
  obtain ⟨g, o, cap, rfl, hg, hc⟩ := hv.open24 hs.len
  have hdr : Hid ((marL l).drain = drn l) := hide rfl
  generalize marL l = m at *
  obtain ⟨m1, m2, m3, m4, m5, m6⟩ := m
  rw [show marV ⟨m1, m2, m3, m4, m5, m6⟩ = .agg #[.int .i64 m1, .int .i64 m2, .int .i64 m3, .int .i64 m4, .int .i64 m5, .int .i64 m6] from rfl] at MA
  simp only at hdr
  have HLn := hide hs.len
  clear hv hc hs
  have HR := hide (Blk.new w #[.slice none 0 0, .int .i64 0, .bool false, .int .i64 0, .int .i64 0] 33)
  have Hb := hide (below_alloc w (.cells #[.slice none 0 0, .int .i64 0, .bool false, .int .i64 0, .int .i64 0] 33))
  go_enter Try.func9, Try.ntmps9
  go_upto_region 1 with fail
  replace HV := hide (HV.out.below Hb.out)
  generalize w.alloc (.cells #[.slice none 0 0, .int .i64 0, .bool false, .int .i64 0, .int .i64 0] 33) = W0 at *
  go_upto_region 2 with (go_at_call 19; refine (MA.out _ HV.out).mono ?_; rintro e w1 ⟨rfl, hb1⟩)
  have hwl : w.heap.size < w1.heap.size := (HR.out.after hb1).lt
  have HM := hide (Blk.new w1 #[.int .i64 m1, .int .i64 m2, .int .i64 m3, .int .i64 m4, .int .i64 m5, .int .i64 m6] 54)
  replace HR := hide ((HR.out.after hb1).alloc (.cells #[.int .i64 m1, .int .i64 m2, .int .i64 m3, .int .i64 m4, .int .i64 m5, .int .i64 m6] 54))
  replace Hb := hide (below_next (below_next Hb.out (Nat.le_refl _) hb1) (Nat.le_refl _) (below_alloc w1 (.cells #[.int .i64 m1, .int .i64 m2, .int .i64 m3, .int .i64 m4, .int .i64 m5, .int .i64 m6] 54)))
  replace HV := hide ((HV.out.below hb1).below (below_alloc w1 (.cells #[.int .i64 m1, .int .i64 m2, .int .i64 m3, .int .i64 m4, .int .i64 m5, .int .i64 m6] 54)))
  clear hb1
  generalize w1.heap.size = d at *
  generalize w1.alloc (.cells #[.int .i64 m1, .int .i64 m2, .int .i64 m3, .int .i64 m4, .int .i64 m5, .int .i64 m6] 54) = W1 at *
  have e5 : W1.cell? ⟨d, 5, none⟩ = some (.int .i64 m6) := HM.out.cell 5 rfl
  have FA : Hid (∀ W2 : World, Below W1.heap.size W1 W2 → W2.cell? ⟨w.heap.size, 0, none⟩ = some (.slice none 0 0) ∧ W2.cell? ⟨w.heap.size, 1, none⟩ = some (.int .i64 0) ∧ W2.cell? ⟨w.heap.size, 2, none⟩ = some (.bool false) ∧ W2.cell? ⟨w.heap.size, 3, none⟩ = some (.int .i64 0) ∧ W2.cell? ⟨w.heap.size, 4, none⟩ = some (.int .i64 0) ∧ (∀ i, W2.frozen? ⟨w.heap.size, i, none⟩ = false) ∧ W2.cell? ⟨d, 5, none⟩ = some (.int .i64 m6)) := hide (fun W2 hb => ⟨(HR.out.after hb).cell 0 rfl, (HR.out.after hb).cell 1 rfl, (HR.out.after hb).cell 2 rfl, (HR.out.after hb).cell 3 rfl, (HR.out.after hb).cell 4 rfl, (HR.out.after hb).frozen, (HM.out.after hb).cell 5 rfl⟩)
  go_upto_region 4 with fail
  refine wp_region_held_drew (S := fun wx => wx.cell? ⟨d, 5, none⟩ = some (.int .i64 m6)) (by kernel_rfl) (e5) (fun hHeld => ?_)
  refine take_at (i := 0) (v := .slice (some ⟨g, o, none⟩) 24 cap) (d := some 15) rfl rfl (by kernel_rfl) (by kernel_rfl) (by kernel_rfl) (fun _ _ _ h => h) (Or.inl ⟨by rfl, fun wS hSw => by go_simp; all_goals (rw [IntKind.wrap_i64]; omega)⟩) (by assumption) ?_
  simp only [Act.put, List.setIfInBounds_toArray, List.set_cons_zero, List.set_cons_succ]
  refine take_at (i := 2) (v := .pointer (some ⟨d, 5, none⟩)) (d := some 17) rfl rfl (by kernel_rfl) (by kernel_rfl) (by kernel_rfl) (fun _ _ _ h => h) (Or.inl ⟨by rfl, fun wS hSw => by go_simp; all_goals (rw [IntKind.wrap_i64]; omega)⟩) (by assumption) ?_
  simp only [Act.put, List.setIfInBounds_toArray, List.set_cons_zero, List.set_cons_succ]
  refine take_at (i := 3) (v := .int .i64 m6) (d := some 18) rfl rfl (by kernel_rfl) (by kernel_rfl) (by kernel_rfl) (fun _ _ _ h => h) (Or.inl ⟨by rfl, fun wS hSw => by go_simp; all_goals (rw [IntKind.wrap_i64]; omega)⟩) (by assumption) ?_
  simp only [Act.put, List.setIfInBounds_toArray, List.set_cons_zero, List.set_cons_succ]
  clear hHeld
  refine wpAnyH_ready (rs := [1]) (by kernel_rfl) (by simp) ?_
  refine AllReadyH.cons rfl (fun K hK => ?_) AllReadyH.nil
  go_simp
  refine (IN.out _ (HV.out.drewN 1)).mono ?_
  rintro e w2 ⟨u, rfl, hR2, hb2⟩
  have hb3 : Below W1.heap.size W1 w2 := below_next (below_drewN (Below.refl _ _) 1) (Nat.le_refl _) hb2
  obtain ⟨c0, c1, c2, c3, c4, fz, e5'⟩ := FA.out w2 hb3
  have HR2 := hide (HR.out.after hb3)
  have HM2 := hide (HM.out.after hb3)
  obtain ⟨ua, uc, hu⟩ := hR2.shape
  rw [HLn.out] at hu
  subst hu
  have f0 := fz 0
  have f1 := fz 1
  have f2 := fz 2
  have f3 := fz 3
  have f4 := fz 4
  have HI2 : Hid (IRow w2 W1.heap.size (.slice ua 24 uc) l) := hide hR2
  have Hb2 := hide (below_next Hb.out (Nat.le_refl _) hb3)
  clear hb2 hb3 hR2
  refine hK.out _ _ (e5') (fun hHeld => ?_)
  clear hK K
  refine take_at (i := 4) (v := .agg #[.slice ua 24 uc, .int .i64 m6, .bool false, .int .i64 0, .int .i64 0]) (d := some 19) rfl rfl (by kernel_rfl) (by kernel_rfl) (by kernel_rfl) (fun _ _ _ h => h) (Or.inl ⟨by rfl, fun wS hSw => by go_simp; all_goals (rw [IntKind.wrap_i64]; omega)⟩) (by assumption) ?_
  simp only [Act.put, List.setIfInBounds_toArray, List.set_cons_zero, List.set_cons_succ]
  clear hHeld
  refine wpAnyH_ready (rs := [5]) (by kernel_rfl) (by simp) ?_
  refine AllReadyH.cons rfl (fun K hK => ?_) AllReadyH.nil
  go_simp
  have P5 := put5 HR2.out Hb2.out (Nat.le_refl _) (.slice ua 24 uc) (.int .i64 m6) (.bool false) (.int .i64 0) (.int .i64 0)
  refine hK.out _ _ ((((((HM2.out.setOther (show d ≠ w.heap.size by omega) _ _).setOther (show d ≠ w.heap.size by omega) _ _).setOther (show d ≠ w.heap.size by omega) _ _).setOther (show d ≠ w.heap.size by omega) _ _).setOther (show d ≠ w.heap.size by omega) _ _).cell 5 rfl) (fun hHeld => ?_)
  clear hK K
  clear hHeld
  refine wpAnyH_ready (rs := [6]) (by kernel_rfl) (by simp) ?_
  refine AllReadyH.cons rfl (fun K hK => ?_) AllReadyH.nil
  go_simp
  refine hK.out _ _ ((((((HM2.out.setOther (show d ≠ w.heap.size by omega) _ _).setOther (show d ≠ w.heap.size by omega) _ _).setOther (show d ≠ w.heap.size by omega) _ _).setOther (show d ≠ w.heap.size by omega) _ _).setOther (show d ≠ w.heap.size by omega) _ _).cell 5 rfl) (fun hHeld => ?_)
  clear hK K
  refine wpAnyH_done (by kernel_rfl) ?_ _
  go_simp
  have HI3 := hide (irow_low (irow_set (irow_set (irow_set (irow_set (irow_set HI2.out (show w.heap.size < W1.heap.size from HR.out.lt) 0 (.slice ua 24 uc)) HR.out.lt 1 (.int .i64 m6)) HR.out.lt 2 (.bool false)) HR.out.lt 3 (.int .i64 0)) HR.out.lt 4 (.int .i64 0)) (Nat.le_of_lt (show w.heap.size < W1.heap.size from HR.out.lt)))
  rw [hdr.out] at P5 HI3 ⊢
  go_wp2_with fail
  exact bodyPost_ret (rb_back2 (p := 2) (u := 3) (by kernel_rfl) _ _ w.heap.size _ _ _ _ _ _ rfl rfl P5.1) rfl ⟨_, rfl, HI3.out, P5.2⟩
end Go.Proofs.Ytnofpcoohbmnpaa
