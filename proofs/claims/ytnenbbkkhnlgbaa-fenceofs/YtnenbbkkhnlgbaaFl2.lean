/- The statements' own helpers: the same, kept; the chapter's fence and boxes. -/
import Derived.Test.YtnenbbkkhnlgbaaFl1
namespace Go.Proofs.Ytnenbbkkhnlgbaa
open Go.RowKit Go.Great

set_option maxHeartbeats 4000000 in
theorem samePts_true (l : List Pt) (v u : Value) (w : World) (hv : Pts w v l) (hu : Pts w u l) (hl : l.length ≤ 4611686018427387904) : Calls Try.prog 67 #[v, u] w fun e w' => e = .returned (.bool true) ∧ ∃ n, w' = w.drewN n := by
  obtain ⟨a, c, rfl, hc⟩ := hv
  obtain ⟨b, c2, rfl, hd⟩ := hu
  have HC := hide hc
  have HD := hide hd
  clear hc hd
  obtain ⟨m, hm⟩ : ∃ m, l.length = m := ⟨_, rfl⟩
  have HM := hide hm
  rw [hm] at HC HD hl ⊢
  clear hm
  go_enter Try.func67, Try.ntmps67
  go_wp2_with fail
  go_loopw [5] (fun i wx => ∃ k q : Nat, k ≤ m ∧ i = .int .i64 k ∧ wx = w.drewN q) (fun i _ => m - (intOf i).toNat)
  case atStart => exact ⟨0, 0, by omega, rfl, rfl⟩
  case round =>
    obtain ⟨k, q, hk, rfl, rfl⟩ := hrel
    by_cases hlt : k < m
    · obtain ⟨ga, oa, rfl, hga, hca⟩ := HC.out (by omega)
      obtain ⟨gb, ob, rfl, hgb, hcb⟩ := HD.out (by omega)
      have a0 : w.cell? ⟨ga, oa + k * 2, none⟩ = some (.int .i64 (ptx l k)) := (hca k hlt).1
      have a1 : w.cell? ⟨ga, oa + k * 2 + 1, none⟩ = some (.int .i64 (pty l k)) := (hca k hlt).2
      have b0 : w.cell? ⟨gb, ob + k * 2, none⟩ = some (.int .i64 (ptx l k)) := (hcb k hlt).1
      have b1 : w.cell? ⟨gb, ob + k * 2 + 1, none⟩ = some (.int .i64 (pty l k)) := (hcb k hlt).2
      have heq := fun wx => point_neq (ptx l k) (pty l k) (ptx l k) (pty l k) wx
      simp only [decide_true, Bool.and_self, Bool.not_true] at heq
      generalize ptx l k = x at *
      generalize pty l k = y at *
      clear hca hcb HC HD
      go_wp2_with fail
      go_quiet (fail)
      go_wp2_with fail
      go_roundw
      case rel => exact ⟨k + 1, q + nq, by omega, by go_num, rfl⟩
      case measure => simp [intOf]; omega
    · go_wp2_with fail
      go_ret
      exact ⟨rfl, q, rfl⟩
theorem samePts_below (l : List Pt) (v u : Value) (w : World) (hv : Pts w v l) (hu : Pts w u l) (hl : l.length ≤ 4611686018427387904) : Calls Try.prog 67 #[v, u] w fun e w' => e = .returned (.bool true) ∧ Below w.heap.size w w' :=
  (samePts_true l v u w hv hu hl).mono fun _ _ ⟨h1, n, h2⟩ => ⟨h1, h2 ▸ below_drewN (Below.refl _ _) n⟩
set_option maxRecDepth 100000 in
set_option maxHeartbeats 4000000 in
theorem same_true (P R : List Pt) (fl ce : Int) (p r p' r' : Value) (w : World) (hp : Pts w p P) (hr : Pts w r R) (hp' : Pts w p' P) (hr' : Pts w r' R) (hP : P.length ≤ 4611686018427387904) (hR : R.length ≤ 4611686018427387904) : Calls Try.prog 31 #[fV p fl ce r, fV p' fl ce r'] w fun e w' => e = .returned (.bool true) ∧ Below w.heap.size w w' := by
  have S1 := fun W (hb : Below w.heap.size w W) => samePts_below P p p' W (hp.below hb) (hp'.below hb) hP
  have S2 := fun W (hb : Below w.heap.size w W) => samePts_below R r r' W (hr.below hb) (hr'.below hb) hR
  obtain ⟨ap, cp, rfl, hc1⟩ := hp
  obtain ⟨ar, cr, rfl, hc2⟩ := hr
  obtain ⟨ap', cp', rfl, hc3⟩ := hp'
  obtain ⟨ar', cr', rfl, hc4⟩ := hr'
  generalize P.length = n1 at *
  generalize R.length = n2 at *
  clear hc1 hc2 hc3 hc4 hP hR
  simp only [fV] at *
  go_enter Try.func31, Try.ntmps31
  go_wp2_with fail
  obtain ⟨W0, hW0, hB, B0, B1, hz⟩ := two_boxes w #[.slice ap n1 cp, .int .i64 fl, .int .i64 ce, .slice ar n2 cr] #[.slice ap' n1 cp', .int .i64 fl, .int .i64 ce, .slice ar' n2 cr'] 24 24
  rw [hW0]
  clear hW0
  refine (S1 W0 hB).mono ?_
  rintro e w1 ⟨rfl, hb1⟩
  replace B0 := B0.after hb1
  replace B1 := B1.after hb1
  replace hB := below_next hB (Nat.le_refl _) hb1
  clear hb1 S1
  have a1 := B0.cell 1 rfl
  have a2 := B0.cell 2 rfl
  have a3 := B0.cell 3 rfl
  have b1 := B1.cell 1 rfl
  have b2' := B1.cell 2 rfl
  have b3' := B1.cell 3 rfl
  clear B0 B1
  go_wp2_with fail
  refine (S2 w1 hB).mono ?_
  rintro e w2 ⟨rfl, hb2⟩
  go_wp2_with fail
  go_ret
  exact ⟨by first | rfl | exact ret_bool (by simp), below_next hB (Nat.le_refl _) hb2⟩
theorem Lnt.back {w : World} {g n cap : Nat} {l : List Pt} (h : Lnt w (.slice (some ⟨g, 0, none⟩) n cap) l) : n = l.length ∧ n + 1 ≤ cap ∧ g < w.heap.size ∧ w.cell? ⟨g, n * 2, none⟩ = some (.int .i64 (-77)) ∧ w.cell? ⟨g, n * 2 + 1, none⟩ = some (.int .i64 (-77)) := by
  have hlt := h.lt g rfl
  obtain ⟨g', cap', e, h1, h2⟩ := h
  injection e with e1 e2 e3
  injection e1 with e1
  injection e1 with e1
  subst e1 e3
  refine ⟨e2, by omega, hlt, ?_⟩
  obtain ⟨a, c, e4, hc⟩ := h1
  obtain ⟨g3, o, e5, _, hcc⟩ := hc (by simp)
  rw [e5] at e4
  injection e4 with e4 _ _
  injection e4 with e4
  injection e4 with e6 e7
  subst e6 e7
  have := hcc l.length (by simp)
  have e : (l ++ [mark]).getD l.length (0, 0) = mark := by rw [List.getD, List.getElem?_append_right (Nat.le_refl _)]; simp
  rw [e, Nat.zero_add] at this
  rw [e2]
  exact this
set_option maxRecDepth 100000 in
set_option maxHeartbeats 4000000 in
theorem keptF_any (P R : List Pt) (fl ce : Int) (p r p' r' : Value) (w : World) (hp : Pts w p P) (hr : Pts w r R) (hp' : Lnt w p' P) (hr' : Lnt w r' R) (hP : P.length ≤ 4611686018427387904) (hR : R.length ≤ 4611686018427387904) : Calls Try.prog 20 #[fV p' fl ce r', fV p fl ce r] w fun e w' => e = .returned (.bool true) ∧ Below w.heap.size w w' := by
  have SM := fun W (hb : Below w.heap.size w W) => same_true P R fl ce p' r' p r W (hp'.pts.below hb) (hr'.pts.below hb) (hp.below hb) (hr.below hb) hP hR
  have hlp := hp'
  have hlr := hr'
  obtain ⟨g1, c1, rfl, _, _⟩ := hp'
  obtain ⟨g2, c2, rfl, _, _⟩ := hr'
  obtain ⟨_, hcp, hg1, x0, x1⟩ := hlp.back
  obtain ⟨_, hcr, hg2, y0, y1⟩ := hlr.back
  obtain ⟨ap, cp, rfl, hc1⟩ := hp
  obtain ⟨ar, cr, rfl, hc2⟩ := hr
  clear hlp hlr hc1 hc2
  generalize P.length = n1 at *
  generalize R.length = n2 at *
  simp only [fV] at *
  have heq := fun wx => point_eql (-77) (-77) (-77) (-77) wx
  simp only [decide_true, Bool.and_self] at heq
  go_enter Try.func20, Try.ntmps20
  obtain ⟨W0, hW0, hB, B0, B1, hz⟩ := two_boxes w #[.slice (some ⟨g1, 0, none⟩) n1 c1, .int .i64 fl, .int .i64 ce, .slice (some ⟨g2, 0, none⟩) n2 c2] #[.slice ap n1 cp, .int .i64 fl, .int .i64 ce, .slice ar n2 cr] 24 24
  have a0 := B0.cell 0 rfl
  have a3 := B0.cell 3 rfl
  have b0 := B1.cell 0 rfl
  have b3 := B1.cell 3 rfl
  go_wp2_with fail
  try rw [hW0]
  clear a0 a3 b0 b3 hW0
  have MT := fun z : BelowW W0 => SM z.q (below_next hB (Nat.le_refl _) z.h)
  have a0 := B0.at 0 rfl
  have a1 := B0.at 1 rfl
  have a2 := B0.at 2 rfl
  have a3 := B0.at 3 rfl
  have b0 := B1.at 0 rfl
  have b1 := B1.at 1 rfl
  have b2' := B1.at 2 rfl
  have b3' := B1.at 3 rfl
  have k0 := fun z : BelowW W0 => z.cell ((hB.cell (p := ⟨g1, n1 * 2, none⟩) hg1).trans x0) (by omega)
  have k1 := fun z : BelowW W0 => z.cell ((hB.cell (p := ⟨g1, n1 * 2 + 1, none⟩) hg1).trans x1) (by omega)
  have k2 := fun z : BelowW W0 => z.cell ((hB.cell (p := ⟨g2, n2 * 2, none⟩) hg2).trans y0) (by omega)
  have k3 := fun z : BelowW W0 => z.cell ((hB.cell (p := ⟨g2, n2 * 2 + 1, none⟩) hg2).trans y1) (by omega)
  have hne : Nonempty (BelowW W0) := ⟨⟨W0, Below.refl _ _⟩⟩
  refine wp_region_calm (by kernel_rfl) (by kernel_rfl) ?_
  repeat (go_big_quiet_step (first | (go_at_call 31; exact calm_of (MT _)) | (go_at_call 41; exact calm_of (atF_below _ _ _))))
  refine wpQuiet_nil ?_
  rintro w5 ⟨⟨q3, hq⟩, e3⟩
  have e4 : w5 = q3 := e3
  clear e3
  subst e4
  go_wp2_with fail
  go_ret
  exact ⟨by first | rfl | exact ret_bool (by simp), below_next hB (Nat.le_refl _) hq⟩
def smP : List Pt := [(0, 0), (100, 0), (100, 100), (0, 100)]
def smR : List Pt := [(10, 10), (90, 90), (50, 50)]
def smPC : Array Value := #[.int .i64 0, .int .i64 0, .int .i64 100, .int .i64 0, .int .i64 100, .int .i64 100, .int .i64 0, .int .i64 100]
def smRC : Array Value := #[.int .i64 10, .int .i64 10, .int .i64 90, .int .i64 90, .int .i64 50, .int .i64 50]
set_option maxRecDepth 100000 in
set_option maxHeartbeats 4000000 in
theorem small_any (w : World) : Calls Try.prog 44 #[] w fun e w' => ∃ p r, e = .returned (fV p (-5) 50 r) ∧ Pts w' p smP ∧ Pts w' r smR ∧ Below w.heap.size w w' := by
  have B0 := Blk.new w #[.slice none 0 0, .int .i64 0, .int .i64 0, .slice none 0 0] 24
  have hB := below_alloc w (.cells #[.slice none 0 0, .int .i64 0, .int .i64 0, .slice none 0 0] 24)
  have hz := size_alloc w (.cells #[.slice none 0 0, .int .i64 0, .int .i64 0, .slice none 0 0] 24)
  go_enter Try.func44, Try.ntmps44
  go_wp2_with fail
  refine (atF_below _ _ _).mono ?_
  rintro e v0 ⟨rfl, hb⟩
  replace B0 := B0.after hb
  replace hB := below_next hB (Nat.le_refl _) hb
  replace hz := Nat.le_trans (Nat.le_of_eq hz.symm) hb.size
  clear hb
  go_wp2_with fail
  refine (atF_below _ _ _).mono ?_
  rintro e v1 ⟨rfl, hb⟩
  replace B0 := B0.after hb
  replace hB := below_next hB (Nat.le_refl _) hb
  replace hz := Nat.le_trans hz hb.size
  clear hb
  go_wp2_with fail
  refine (atF_below _ _ _).mono ?_
  rintro e v2 ⟨rfl, hb⟩
  replace B0 := B0.after hb
  replace hB := below_next hB (Nat.le_refl _) hb
  replace hz := Nat.le_trans hz hb.size
  clear hb
  go_wp2_with fail
  refine (atF_below _ _ _).mono ?_
  rintro e v3 ⟨rfl, hb⟩
  replace B0 := B0.after hb
  replace hB := below_next hB (Nat.le_refl _) hb
  replace hz := Nat.le_trans hz hb.size
  clear hb
  have P0 := Blk.new v3 smPC 39
  have hb3 := below_alloc v3 (.cells smPC 39)
  replace B0 := B0.after hb3
  replace hB := below_next hB (Nat.le_refl _) hb3
  have hz3 := hb3.size
  unfold smPC at P0 B0 hB hz3
  clear hb3
  go_wp2_with fail
  refine (atF_below _ _ _).mono ?_
  rintro e v4 ⟨rfl, hb⟩
  replace B0 := B0.after hb
  replace P0 := P0.after hb
  replace hB := below_next hB (Nat.le_refl _) hb
  have hz4 := Nat.le_trans hz3 hb.size
  clear hb
  go_wp2_with fail
  refine (atF_below _ _ _).mono ?_
  rintro e v5 ⟨rfl, hb⟩
  replace B0 := B0.after hb
  replace P0 := P0.after hb
  replace hB := below_next hB (Nat.le_refl _) hb
  replace hz4 := Nat.le_trans hz4 hb.size
  clear hb
  go_wp2_with fail
  refine (atF_below _ _ _).mono ?_
  rintro e v6 ⟨rfl, hb⟩
  replace B0 := B0.after hb
  replace P0 := P0.after hb
  replace hB := below_next hB (Nat.le_refl _) hb
  replace hz4 := Nat.le_trans hz4 hb.size
  clear hb
  have R0 := Blk.new v6 smRC 39
  have hb6 := below_alloc v6 (.cells smRC 39)
  replace B0 := B0.after hb6
  replace P0 := P0.after hb6
  replace hB := below_next hB (Nat.le_refl _) hb6
  have hz6 := hb6.size
  unfold smRC at R0 B0 P0 hB hz6
  clear hb6
  have m0 := B0.cell 0 rfl
  have m1 := B0.cell 1 rfl
  have m2 := B0.cell 2 rfl
  have m3 := B0.cell 3 rfl
  have fz := B0.frozen
  have HB0 := hide B0
  have HP0 := hide P0
  have HR0 := hide R0
  have HB := hide hB
  obtain ⟨V, hV⟩ : ∃ V, v6.alloc (.cells #[.int .i64 10, .int .i64 10, .int .i64 90, .int .i64 90, .int .i64 50, .int .i64 50] 39) = V := ⟨_, rfl⟩
  rw [hV] at m0 m1 m2 m3 fz HB0 HP0 HR0 HB hz6
  clear B0 P0 R0 hB
  go_wp2_with fail
  refine bodyPost_ret (fence_one (p := 0) (by kernel_rfl) _ _ w.heap.size _ _ _ _ rfl (HB0.out.set4 _ _ _ _)) rfl ?_
  refine ⟨_, _, rfl, pts_new (HP0.out.grown (grown_set4 _ _ _ _ _ _) (by simp; omega)) smP rfl 4 4 rfl, pts_new (HR0.out.grown (grown_set4 _ _ _ _ _ _) (by simp; omega)) smR rfl 3 3 rfl, below_set4 HB.out _ _ _ _ _ (by omega) (by omega)⟩
theorem box_one {fn : Func} {p : Tmp} (h : fn.results = #[.cell p 34]) (tmps : Array Value) (w : World) (g : Nat) (x y z u v t : Value) (hp : tmps.getD p undef = .pointer (some ⟨g, 0, none⟩)) (hg : Blk w g #[x, y, z, u, v, t] 34) : (results fn tmps).run Try.prog w = .ok (.agg #[x, y, z, u, v, t]) w := by
  rw [results_one h]
  have := run_loadVar_row (P := Try.prog) w g 34 34 #[x, y, z, u, v, t] (0, 0) _ hg Try.underlying34 rfl (by kernel_rfl)
  rw [hp]
  simp [asAddr, this, Result.andThen]
set_option maxRecDepth 100000 in
theorem box_any (a b c d e f : Int) (w : World) : Calls Try.prog 45 #[.int .i64 a, .int .i64 b, .int .i64 c, .int .i64 d, .int .i64 e, .int .i64 f] w fun r w' => r = .returned (bV (a, b) (c, d) (e, f)) ∧ Below w.heap.size w w' := by
  go_enter Try.func45, Try.ntmps45
  go_wp2_with fail
  exact bodyPost_ret (box_one (p := 12) (by kernel_rfl) _ _ w.heap.size _ _ _ _ _ _ rfl (Blk.new _ _ _)) rfl ⟨rfl, below_alloc _ _⟩
end Go.Proofs.Ytnenbbkkhnlgbaa
