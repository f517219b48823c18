/- FenceHolds, FenceLanes, FenceRallies. -/
import Derived.Test.YtnenbbkkhnlgbaaFlO
namespace Go.Proofs.Ytnenbbkkhnlgbaa
open Go.RowKit Go.Great

set_option maxRecDepth 100000 in
set_option maxHeartbeats 4000000 in
theorem holds_core (v : Value) (x0 x1 y0 y1 z0 z1 : Int) (w : World) (h : FenIn w v) : Calls Try.prog 4 #[v, .agg #[.int .i64 x0, .int .i64 x1, .int .i64 y0, .int .i64 y1, .int .i64 z0, .int .i64 z1]] w fun e w' => e = .returned (.bool true) ∧ Below w.heap.size w w' := by
  obtain ⟨P, R, fl, ce, p, r, rfl, hp, hr⟩ := h
  have hP := long_ok hp
  have hR := long_ok hr
  have AW := awakeF_any
  have LE := fun W (hb : Below w.heap.size w W) => lentF_any P R fl ce p r W ⟨hp.1.below hb, hp.2⟩ ⟨hr.1.below hb, hr.2⟩
  have CO := fun W p' r' (h1 : Lnt W p' P) (h2 : Lnt W r' R) => holds_fn P R fl ce p' r' (x0, x1) (y0, y1) (z0, z1) W h1.pts h2.pts hP hR
  have CR := fun W (hb : Below w.heap.size w W) => rholds_fn P R fl ce p r (x0, x1) (y0, y1) (z0, z1) W (hp.1.below hb) (hr.1.below hb) hP hR
  have KE := fun W (hb : Below w.heap.size w W) p' r' (h1 : Lnt W p' P) (h2 : Lnt W r' R) => keptF_any P R fl ce p r p' r' W (hp.1.below hb) (hr.1.below hb) h1 h2 hP hR
  generalize holI P fl ce R (x0, x1) (y0, y1) (z0, z1) = I at CO CR
  generalize holE P fl ce R (x0, x1) (y0, y1) (z0, z1) = E at CO CR
  obtain ⟨ap, cp, rfl, hcl⟩ := hp.1
  obtain ⟨ar, cr, rfl, hcl'⟩ := hr.1
  clear hcl hcl' hp hr hP hR
  generalize hn1 : P.length = n1 at *
  generalize hn2 : R.length = n2 at *
  have HN1 := hide hn1
  have HN2 := hide hn2
  clear hn1 hn2
  simp only [fV, bV] at *
  go_enter Try.func4, Try.ntmps4
  go_wp2_with fail
  obtain ⟨V0, hV0, hB, B0, BX, hz⟩ := two_boxes w #[.slice ap n1 cp, .int .i64 fl, .int .i64 ce, .slice ar n2 cr] #[.int .i64 x0, .int .i64 x1, .int .i64 y0, .int .i64 y1, .int .i64 z0, .int .i64 z1] 24 34
  rw [hV0]
  clear hz hV0
  refine (LE _ hB).mono ?_
  rintro e w1 ⟨p', r', rfl, h1, h2, hb1⟩
  replace B0 := B0.after hb1
  replace BX := BX.after hb1
  replace hB := below_next hB (Nat.le_refl _) hb1
  clear hb1 LE
  obtain ⟨g1, c1, e1⟩ := h1.slice
  obtain ⟨g2, c2, e2⟩ := h2.slice
  rw [HN1.out] at e1
  rw [HN2.out] at e2
  subst e1 e2
  have B1 := Blk.new w1 #[.slice (some ⟨g1, 0, none⟩) n1 c1, .int .i64 fl, .int .i64 ce, .slice (some ⟨g2, 0, none⟩) n2 c2] 24
  have hb2 := below_alloc w1 (.cells #[.slice (some ⟨g1, 0, none⟩) n1 c1, .int .i64 fl, .int .i64 ce, .slice (some ⟨g2, 0, none⟩) n2 c2] 24)
  obtain ⟨W0, hW0⟩ : ∃ W0, w1.alloc (.cells #[.slice (some ⟨g1, 0, none⟩) n1 c1, .int .i64 fl, .int .i64 ce, .slice (some ⟨g2, 0, none⟩) n2 c2] 24) = W0 := ⟨_, rfl⟩
  rw [hW0] at B1 hb2
  replace B0 := B0.after hb2
  replace BX := BX.after hb2
  replace hB := below_next hB (Nat.le_refl _) hb2
  replace h1 := h1.below hb2
  replace h2 := h2.below hb2
  clear hb2
  have b00 := B0.cell 0 rfl
  have b01 := B0.cell 1 rfl
  have b02 := B0.cell 2 rfl
  have b03 := B0.cell 3 rfl
  have b10 := B1.cell 0 rfl
  have b11 := B1.cell 1 rfl
  have b12 := B1.cell 2 rfl
  have b13 := B1.cell 3 rfl
  have x0 := BX.cell 0 rfl
  have x1 := BX.cell 1 rfl
  have x2 := BX.cell 2 rfl
  have x3 := BX.cell 3 rfl
  have x4 := BX.cell 4 rfl
  have x5 := BX.cell 5 rfl
  go_wp2_with fail
  try rw [hW0]
  clear hW0
  generalize w1.heap.size = G at *
  refine (CO _ _ _ h1 h2).mono ?_
  rintro e w2 ⟨rfl, hb⟩
  replace B0 := B0.after hb
  replace B1 := B1.after hb
  replace BX := BX.after hb
  replace hB := below_next hB (Nat.le_refl _) hb
  replace h1 := h1.below hb
  replace h2 := h2.below hb
  clear hb CO b00 b10 b01 b11 b02 b12 b03 b13 x0 x1 x2 x3 x4 x5
  have b00 := B0.cell 0 rfl
  have b01 := B0.cell 1 rfl
  have b02 := B0.cell 2 rfl
  have b03 := B0.cell 3 rfl
  have x0 := BX.cell 0 rfl
  have x1 := BX.cell 1 rfl
  have x2 := BX.cell 2 rfl
  have x3 := BX.cell 3 rfl
  have x4 := BX.cell 4 rfl
  have x5 := BX.cell 5 rfl
  go_wp2_with fail
  refine (CR _ hB).mono ?_
  rintro e w3 ⟨rfl, hb⟩
  replace B0 := B0.after hb
  replace B1 := B1.after hb
  replace hB := below_next hB (Nat.le_refl _) hb
  replace h1 := h1.below hb
  replace h2 := h2.below hb
  clear hb CR b00 b01 b02 b03 x0 x1 x2 x3 x4 x5
  have hII : (I == I) = true := by simp
  have hEE : (E == E) = true := by simp
  go_wp2_with fail
  refine (AW _).mono ?_
  rintro e w4 ⟨rfl, hb⟩
  replace B0 := B0.after hb
  replace B1 := B1.after hb
  replace hB := below_next hB (Nat.le_refl _) hb
  replace h1 := h1.below hb
  replace h2 := h2.below hb
  clear hb AW
  have b00 := B0.cell 0 rfl
  have b01 := B0.cell 1 rfl
  have b02 := B0.cell 2 rfl
  have b03 := B0.cell 3 rfl
  have b10 := B1.cell 0 rfl
  have b11 := B1.cell 1 rfl
  have b12 := B1.cell 2 rfl
  have b13 := B1.cell 3 rfl
  go_wp2_with fail
  refine (KE _ hB _ _ h1 h2).mono ?_
  rintro e w5 ⟨rfl, hb⟩
  go_wp2_with fail
  go_ret
  exact ⟨by first | rfl | exact ret_bool (by simp), below_next hB (Nat.le_refl _) hb⟩
set_option maxRecDepth 100000 in
set_option maxHeartbeats 4000000 in
theorem lanes_core (v : Value) (a0 a1 b0 b1 rm : Int) (w : World) (h : FenIn w v) : Calls Try.prog 5 #[v, .agg #[.int .i64 a0, .int .i64 a1, .int .i64 b0, .int .i64 b1, .int .i64 rm]] w fun e w' => e = .returned (.bool true) ∧ Below w.heap.size w w' := by
  obtain ⟨P, R, fl, ce, p, r, rfl, hp, hr⟩ := h
  have hP := long_ok hp
  have hR := long_ok hr
  have AW := awakeF_any
  have LE := fun W (hb : Below w.heap.size w W) => lentF_any P R fl ce p r W ⟨hp.1.below hb, hp.2⟩ ⟨hr.1.below hb, hr.2⟩
  have CO := fun W p' r' (h1 : Lnt W p' P) (h2 : Lnt W r' R) => laneF_any P R fl ce p' r' (a0, a1) (b0, b1) rm W h1.pts h2.pts hP hR
  have CR := fun W (hb : Below w.heap.size w W) => rlaneF_any P R fl ce p r (a0, a1) (b0, b1) rm W (hp.1.below hb) (hr.1.below hb) hP hR
  have KE := fun W (hb : Below w.heap.size w W) p' r' (h1 : Lnt W p' P) (h2 : Lnt W r' R) => keptF_any P R fl ce p r p' r' W (hp.1.below hb) (hr.1.below hb) h1 h2 hP hR
  generalize lanI P fl ce R (a0, a1) (b0, b1) rm = I at CO CR
  generalize wayE P fl ce R [(a0, a1), (b0, b1)] rm = E at CO CR
  obtain ⟨ap, cp, rfl, hcl⟩ := hp.1
  obtain ⟨ar, cr, rfl, hcl'⟩ := hr.1
  clear hcl hcl' hp hr hP hR
  generalize hn1 : P.length = n1 at *
  generalize hn2 : R.length = n2 at *
  have HN1 := hide hn1
  have HN2 := hide hn2
  clear hn1 hn2
  simp only [fV, pV] at *
  go_enter Try.func5, Try.ntmps5
  go_wp2_with fail
  obtain ⟨V0, hV0, hB, B0, BX, hz⟩ := two_boxes w #[.slice ap n1 cp, .int .i64 fl, .int .i64 ce, .slice ar n2 cr] #[.int .i64 a0, .int .i64 a1, .int .i64 b0, .int .i64 b1, .int .i64 rm] 24 41
  rw [hV0]
  clear hz hV0
  refine (LE _ hB).mono ?_
  rintro e w1 ⟨p', r', rfl, h1, h2, hb1⟩
  replace B0 := B0.after hb1
  replace BX := BX.after hb1
  replace hB := below_next hB (Nat.le_refl _) hb1
  clear hb1 LE
  obtain ⟨g1, c1, e1⟩ := h1.slice
  obtain ⟨g2, c2, e2⟩ := h2.slice
  rw [HN1.out] at e1
  rw [HN2.out] at e2
  subst e1 e2
  have B1 := Blk.new w1 #[.slice (some ⟨g1, 0, none⟩) n1 c1, .int .i64 fl, .int .i64 ce, .slice (some ⟨g2, 0, none⟩) n2 c2] 24
  have hb2 := below_alloc w1 (.cells #[.slice (some ⟨g1, 0, none⟩) n1 c1, .int .i64 fl, .int .i64 ce, .slice (some ⟨g2, 0, none⟩) n2 c2] 24)
  obtain ⟨W0, hW0⟩ : ∃ W0, w1.alloc (.cells #[.slice (some ⟨g1, 0, none⟩) n1 c1, .int .i64 fl, .int .i64 ce, .slice (some ⟨g2, 0, none⟩) n2 c2] 24) = W0 := ⟨_, rfl⟩
  rw [hW0] at B1 hb2
  replace B0 := B0.after hb2
  replace BX := BX.after hb2
  replace hB := below_next hB (Nat.le_refl _) hb2
  replace h1 := h1.below hb2
  replace h2 := h2.below hb2
  clear hb2
  have b00 := B0.cell 0 rfl
  have b01 := B0.cell 1 rfl
  have b02 := B0.cell 2 rfl
  have b03 := B0.cell 3 rfl
  have b10 := B1.cell 0 rfl
  have b11 := B1.cell 1 rfl
  have b12 := B1.cell 2 rfl
  have b13 := B1.cell 3 rfl
  have x0 := BX.cell 0 rfl
  have x1 := BX.cell 1 rfl
  have x2 := BX.cell 2 rfl
  have x3 := BX.cell 3 rfl
  have x4 := BX.cell 4 rfl
  go_wp2_with fail
  try rw [hW0]
  clear hW0
  generalize w1.heap.size = G at *
  refine (CO _ _ _ h1 h2).mono ?_
  rintro e w2 ⟨rfl, hb⟩
  replace B0 := B0.after hb
  replace B1 := B1.after hb
  replace BX := BX.after hb
  replace hB := below_next hB (Nat.le_refl _) hb
  replace h1 := h1.below hb
  replace h2 := h2.below hb
  clear hb CO b00 b10 b01 b11 b02 b12 b03 b13 x0 x1 x2 x3 x4
  have b00 := B0.cell 0 rfl
  have b01 := B0.cell 1 rfl
  have b02 := B0.cell 2 rfl
  have b03 := B0.cell 3 rfl
  have x0 := BX.cell 0 rfl
  have x1 := BX.cell 1 rfl
  have x2 := BX.cell 2 rfl
  have x3 := BX.cell 3 rfl
  have x4 := BX.cell 4 rfl
  go_wp2_with fail
  refine (CR _ hB).mono ?_
  rintro e w3 ⟨rfl, hb⟩
  replace B0 := B0.after hb
  replace B1 := B1.after hb
  replace hB := below_next hB (Nat.le_refl _) hb
  replace h1 := h1.below hb
  replace h2 := h2.below hb
  clear hb CR b00 b01 b02 b03 x0 x1 x2 x3 x4
  have hII : (I == I) = true := by simp
  have hEE : (E == E) = true := by simp
  go_wp2_with fail
  refine (AW _).mono ?_
  rintro e w4 ⟨rfl, hb⟩
  replace B0 := B0.after hb
  replace B1 := B1.after hb
  replace hB := below_next hB (Nat.le_refl _) hb
  replace h1 := h1.below hb
  replace h2 := h2.below hb
  clear hb AW
  have b00 := B0.cell 0 rfl
  have b01 := B0.cell 1 rfl
  have b02 := B0.cell 2 rfl
  have b03 := B0.cell 3 rfl
  have b10 := B1.cell 0 rfl
  have b11 := B1.cell 1 rfl
  have b12 := B1.cell 2 rfl
  have b13 := B1.cell 3 rfl
  go_wp2_with fail
  refine (KE _ hB _ _ h1 h2).mono ?_
  rintro e w5 ⟨rfl, hb⟩
  go_wp2_with fail
  go_ret
  exact ⟨by first | rfl | exact ret_bool (by simp), below_next hB (Nat.le_refl _) hb⟩
set_option maxRecDepth 100000 in
set_option maxHeartbeats 4000000 in
theorem FenceRallies_walk (v : Value) (q0 q1 rm : Int) (w : World) (h : FenIn w v) : Calls Try.prog 6 #[v, .agg #[.int .i64 q0, .int .i64 q1], .int .i64 rm] w fun e w' => e = .returned (.bool true) ∧ Below w.heap.size w w' := by
  obtain ⟨P, R, fl, ce, p, r, rfl, hp, hr⟩ := h
  have hP := long_ok hp
  have hR := long_ok hr
  have AW := awakeF_any
  have LE := fun W (hb : Below w.heap.size w W) => lentF_any P R fl ce p r W ⟨hp.1.below hb, hp.2⟩ ⟨hr.1.below hb, hr.2⟩
  have CO := fun W p' r' (h1 : Lnt W p' P) (h2 : Lnt W r' R) => rallyF_any P R fl ce p' r' (q0, q1) rm W h1.pts h2.pts hP hR
  have CR := fun W (hb : Below w.heap.size w W) => rrallyF_any P R fl ce p r (q0, q1) rm W (hp.1.below hb) (hr.1.below hb) hP hR
  have KE := fun W (hb : Below w.heap.size w W) p' r' (h1 : Lnt W p' P) (h2 : Lnt W r' R) => keptF_any P R fl ce p r p' r' W (hp.1.below hb) (hr.1.below hb) h1 h2 hP hR
  generalize ralI P fl ce R (q0, q1) rm = I at CO CR
  generalize wayE P fl ce R [(q0, q1)] rm = E at CO CR
  obtain ⟨ap, cp, rfl, hcl⟩ := hp.1
  obtain ⟨ar, cr, rfl, hcl'⟩ := hr.1
  clear hcl hcl' hp hr hP hR
  generalize hn1 : P.length = n1 at *
  generalize hn2 : R.length = n2 at *
  have HN1 := hide hn1
  have HN2 := hide hn2
  clear hn1 hn2
  simp only [fV, pV] at *
  go_enter Try.func6, Try.ntmps6
  go_wp2_with fail
  obtain ⟨V0, hV0, hB, B0, BX, hz⟩ := two_boxes w #[.slice ap n1 cp, .int .i64 fl, .int .i64 ce, .slice ar n2 cr] #[.int .i64 q0, .int .i64 q1] 24 39
  rw [hV0]
  clear hz hV0
  refine (LE _ hB).mono ?_
  rintro e w1 ⟨p', r', rfl, h1, h2, hb1⟩
  replace B0 := B0.after hb1
  replace BX := BX.after hb1
  replace hB := below_next hB (Nat.le_refl _) hb1
  clear hb1 LE
  obtain ⟨g1, c1, e1⟩ := h1.slice
  obtain ⟨g2, c2, e2⟩ := h2.slice
  rw [HN1.out] at e1
  rw [HN2.out] at e2
  subst e1 e2
  have B1 := Blk.new w1 #[.slice (some ⟨g1, 0, none⟩) n1 c1, .int .i64 fl, .int .i64 ce, .slice (some ⟨g2, 0, none⟩) n2 c2] 24
  have hb2 := below_alloc w1 (.cells #[.slice (some ⟨g1, 0, none⟩) n1 c1, .int .i64 fl, .int .i64 ce, .slice (some ⟨g2, 0, none⟩) n2 c2] 24)
  obtain ⟨W0, hW0⟩ : ∃ W0, w1.alloc (.cells #[.slice (some ⟨g1, 0, none⟩) n1 c1, .int .i64 fl, .int .i64 ce, .slice (some ⟨g2, 0, none⟩) n2 c2] 24) = W0 := ⟨_, rfl⟩
  rw [hW0] at B1 hb2
  replace B0 := B0.after hb2
  replace BX := BX.after hb2
  replace hB := below_next hB (Nat.le_refl _) hb2
  replace h1 := h1.below hb2
  replace h2 := h2.below hb2
  clear hb2
  have b00 := B0.cell 0 rfl
  have b01 := B0.cell 1 rfl
  have b02 := B0.cell 2 rfl
  have b03 := B0.cell 3 rfl
  have b10 := B1.cell 0 rfl
  have b11 := B1.cell 1 rfl
  have b12 := B1.cell 2 rfl
  have b13 := B1.cell 3 rfl
  have x0 := BX.cell 0 rfl
  have x1 := BX.cell 1 rfl
  go_wp2_with fail
  try rw [hW0]
  clear hW0
  generalize w1.heap.size = G at *
  refine (CO _ _ _ h1 h2).mono ?_
  rintro e w2 ⟨rfl, hb⟩
  replace B0 := B0.after hb
  replace B1 := B1.after hb
  replace BX := BX.after hb
  replace hB := below_next hB (Nat.le_refl _) hb
  replace h1 := h1.below hb
  replace h2 := h2.below hb
  clear hb CO b00 b10 b01 b11 b02 b12 b03 b13 x0 x1
  have b00 := B0.cell 0 rfl
  have b01 := B0.cell 1 rfl
  have b02 := B0.cell 2 rfl
  have b03 := B0.cell 3 rfl
  have x0 := BX.cell 0 rfl
  have x1 := BX.cell 1 rfl
  go_wp2_with fail
  refine (CR _ hB).mono ?_
  rintro e w3 ⟨rfl, hb⟩
  replace B0 := B0.after hb
  replace B1 := B1.after hb
  replace hB := below_next hB (Nat.le_refl _) hb
  replace h1 := h1.below hb
  replace h2 := h2.below hb
  clear hb CR b00 b01 b02 b03 x0 x1
  have hII : (I == I) = true := by simp
  have hEE : (E == E) = true := by simp
  go_wp2_with fail
  refine (AW _).mono ?_
  rintro e w4 ⟨rfl, hb⟩
  replace B0 := B0.after hb
  replace B1 := B1.after hb
  replace hB := below_next hB (Nat.le_refl _) hb
  replace h1 := h1.below hb
  replace h2 := h2.below hb
  clear hb AW
  have b00 := B0.cell 0 rfl
  have b01 := B0.cell 1 rfl
  have b02 := B0.cell 2 rfl
  have b03 := B0.cell 3 rfl
  have b10 := B1.cell 0 rfl
  have b11 := B1.cell 1 rfl
  have b12 := B1.cell 2 rfl
  have b13 := B1.cell 3 rfl
  go_wp2_with fail
  refine (KE _ hB _ _ h1 h2).mono ?_
  rintro e w5 ⟨rfl, hb⟩
  go_wp2_with fail
  go_ret
  exact ⟨by first | rfl | exact ret_bool (by simp), below_next hB (Nat.le_refl _) hb⟩
theorem FenceHolds_walk (v u : Value) (w : World) (h : FenIn w v) (hu : ∃ x y z : Pt, u = bV x y z) : Calls Try.prog 4 #[v, u] w fun e w' => e = .returned (.bool true) ∧ Below w.heap.size w w' := by
  obtain ⟨x, y, z, rfl⟩ := hu
  exact holds_core v x.1 x.2 y.1 y.2 z.1 z.2 w h
theorem FenceLanes_walk (v u : Value) (w : World) (h : FenIn w v) (hu : ∃ (a b : Pt) (r : Int), u = wV a b r) : Calls Try.prog 5 #[v, u] w fun e w' => e = .returned (.bool true) ∧ Below w.heap.size w w' := by
  obtain ⟨a, b, r, rfl⟩ := hu
  exact lanes_core v a.1 a.2 b.1 b.2 r w h
end Go.Proofs.Ytnenbbkkhnlgbaa
