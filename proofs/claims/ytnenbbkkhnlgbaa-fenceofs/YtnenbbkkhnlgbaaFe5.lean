/- Package fence: Holds, Lane, Rally. -/
import Derived.Test.YtnenbbkkhnlgbaaFe4
namespace Go.Proofs.Ytnenbbkkhnlgbaa
open Go.RowKit Go.Great

/-- a box, as the model has it -/
def bV (x y z : Pt) : Value := .agg #[.int .i64 x.1, .int .i64 x.2, .int .i64 y.1, .int .i64 y.2, .int .i64 z.1, .int .i64 z.2]
set_option maxRecDepth 100000 in
set_option maxHeartbeats 4000000 in
theorem holds_fn (P R : List Pt) (fl ce : Int) (p r : Value) (x y z : Pt) (w : World) (hp : Pts w p P) (hr : Pts w r R) (hP : P.length ≤ 4611686018427387904) (hR : R.length ≤ 4611686018427387904) : Calls Try.prog 21 #[fV p fl ce r, bV x y z] w fun e w' => e = .returned (.tuple #[.bool (holI P fl ce R x y z), .int .i64 (holE P fl ce R x y z)]) ∧ Below w.heap.size w w' := by
  have CH := fun W (hb : Below w.heap.size w W) => check_any P R fl ce p r W (hp.below hb) (hr.below hb) hP hR
  have IN := fun W (hb : Below w.heap.size w W) (hs : chk P fl ce R = 0) hx hy => inside_fn P p x y W (hp.below hb) (chk_ok hs).1 hx hy
  have BX := back_any x
  have BY := back_any y
  have BZ := back_any z
  have HI : Hid (holI P fl ce R x y z = (decide (chk P fl ce R = 0) && !(decide (x.2 < x.1) || decide (y.2 < y.1) || decide (z.2 < z.1)) && ((decide (fl ≤ z.1) && decide (z.2 ≤ ce)) && wiB P x y))) := rfl
  have HE : Hid (holE P fl ce R x y z = if chk P fl ce R = 0 then (if (decide (x.2 < x.1) || decide (y.2 < y.1) || decide (z.2 < z.1)) = true then 1 else 0) else chk P fl ce R) := rfl
  generalize holI P fl ce R x y z = I at HI ⊢
  generalize holE P fl ce R x y z = E at HE ⊢
  generalize chk P fl ce R = s at CH HI HE IN
  generalize wiB P x y = t at IN HI
  obtain ⟨x1, x2⟩ := x
  obtain ⟨y1, y2⟩ := y
  obtain ⟨z1, z2⟩ := z
  obtain ⟨ap, cp, rfl, hcl⟩ := hp
  obtain ⟨ar, cr, rfl, hcl'⟩ := hr
  generalize P.length = n1 at *
  generalize R.length = n2 at *
  clear hcl hcl' hP hR
  simp only [fV, bV, pV] at *
  have HC1 : Hid (s ≠ 0 → I = false ∧ E = s) := fun h => by
    rw [HI.out, HE.out, if_neg h]
    simp [h]
  have HC2 : Hid (s = 0 → (x2 < x1 ∨ y2 < y1 ∨ z2 < z1) → I = false ∧ E = 1) := fun h k => by
    rw [HI.out, HE.out, if_pos h]
    have : (decide (x2 < x1) || decide (y2 < y1) || decide (z2 < z1)) = true := by
      simp
      omega
    rw [this]
    simp
  have HC3 : Hid (s = 0 → ¬ x2 < x1 → ¬ y2 < y1 → ¬ z2 < z1 → I = (decide (fl ≤ z1) && decide (z2 ≤ ce) && t) ∧ E = 0) := fun h k1 k2 k3 => by
    rw [HI.out, HE.out, if_pos h]
    simp [h, k1, k2, k3]
  clear HI HE
  go_enter Try.func21, Try.ntmps21
  go_wp2_with fail
  obtain ⟨W0, hW0, hB, B0, B1, hz⟩ := two_boxes w #[.slice ap n1 cp, .int .i64 fl, .int .i64 ce, .slice ar n2 cr] #[.int .i64 x1, .int .i64 x2, .int .i64 y1, .int .i64 y2, .int .i64 z1, .int .i64 z2] 24 34
  rw [hW0]
  clear hW0 hz
  refine (CH _ hB).mono ?_
  rintro e w1 ⟨rfl, hb1⟩
  replace B0 := B0.after hb1
  replace B1 := B1.after hb1
  replace hB := below_next hB (Nat.le_refl _) hb1
  clear hb1 CH
  by_cases hs : s = 0
  · subst hs
    have k0 := B1.cell 0 rfl
    have k1 := B1.cell 1 rfl
    go_wp2_with fail
    refine (BX _).mono ?_
    rintro e w2 ⟨rfl, hb2⟩
    replace B0 := B0.after hb2
    replace B1 := B1.after hb2
    replace hB := below_next hB (Nat.le_refl _) hb2
    clear hb2 BX k0 k1
    have k2 := B1.cell 2 rfl
    have k3 := B1.cell 3 rfl
    by_cases hx : x2 < x1
    · obtain ⟨rfl, rfl⟩ := HC2.out (by trivial) (by omega)
      clear HC1 HC2 HC3 IN
      go_wp2_with fail
      go_ret2
      exact ⟨rfl, hB⟩
    · go_wp2_with fail
      refine (BY _).mono ?_
      rintro e w3 ⟨rfl, hb2⟩
      replace B0 := B0.after hb2
      replace B1 := B1.after hb2
      replace hB := below_next hB (Nat.le_refl _) hb2
      clear hb2 BY k2 k3
      have k4 := B1.cell 4 rfl
      have k5 := B1.cell 5 rfl
      by_cases hy : y2 < y1
      · obtain ⟨rfl, rfl⟩ := HC2.out (by trivial) (by omega)
        clear HC1 HC2 HC3 IN
        go_wp2_with fail
        go_ret2
        exact ⟨rfl, hB⟩
      · go_wp2_with fail
        refine (BZ _).mono ?_
        rintro e w4 ⟨rfl, hb2⟩
        replace B0 := B0.after hb2
        replace B1 := B1.after hb2
        replace hB := below_next hB (Nat.le_refl _) hb2
        clear hb2 BZ k4 k5
        have k0 := B1.cell 0 rfl
        have k1 := B1.cell 1 rfl
        have k2 := B1.cell 2 rfl
        have k3 := B1.cell 3 rfl
        have k4 := B1.cell 4 rfl
        have k5 := B1.cell 5 rfl
        have j0 := B0.cell 0 rfl
        have j1 := B0.cell 1 rfl
        have j2 := B0.cell 2 rfl
        by_cases hzz : z2 < z1
        · obtain ⟨rfl, rfl⟩ := HC2.out (by trivial) (by omega)
          clear HC1 HC2 HC3 IN
          go_wp2_with fail
          go_ret2
          exact ⟨rfl, hB⟩
        · obtain ⟨hI, rfl⟩ := HC3.out (by trivial) (by omega) (by omega) (by omega)
          have HII := hide hI
          have II := IN w4 hB (by trivial) (by omega) (by omega)
          clear hI HC1 HC2 HC3 IN
          by_cases hl : fl ≤ z1 ∧ z2 ≤ ce
          · obtain ⟨hl1, hl2⟩ := hl
            have HI2 : Hid (I = t) := hide (by rw [HII.out]; simp [hl1, hl2])
            clear HII
            go_wp2_with fail
            refine II.mono ?_
            rintro e w5 ⟨rfl, hb5⟩
            go_wp2_with fail
            go_ret2
            exact ⟨by rw [HI2.out]; rfl, below_next hB (Nat.le_refl _) hb5⟩
          · have HI2 : Hid (I = false) := hide (by
              rw [HII.out]
              rcases Decidable.not_and_iff_or_not.1 hl with h | h <;> simp [h])
            clear HII II
            by_cases hl1 : fl ≤ z1
            · have hl2 : ¬ z2 ≤ ce := fun h => hl ⟨hl1, h⟩
              clear hl
              go_wp2_with fail
              go_ret2
              exact ⟨by rw [HI2.out]; rfl, hB⟩
            · clear hl
              go_wp2_with fail
              go_ret2
              exact ⟨by rw [HI2.out]; rfl, hB⟩
  · obtain ⟨rfl, rfl⟩ := HC1.out hs
    clear HC1 HC2 HC3 IN
    go_wp2_with fail
    all_goals go_ret2
    all_goals exact ⟨rfl, hB⟩
theorem pts2g (w : World) (g : Nat) (hg : g = w.heap.size) (a b : Pt) : Pts (w.alloc (.cells #[.int .i64 a.1, .int .i64 a.2, .int .i64 b.1, .int .i64 b.2] 39)) (.slice (some ⟨g, 0, none⟩) 2 2) [a, b] := by
  subst hg
  exact pts_new (Blk.new _ _ _) [a, b] rfl 2 2 rfl
theorem pts1g (w : World) (g : Nat) (hg : g = w.heap.size) (a : Pt) : Pts (w.alloc (.cells #[.int .i64 a.1, .int .i64 a.2] 39)) (.slice (some ⟨g, 0, none⟩) 1 1) [a] := by
  subst hg
  exact pts_new (Blk.new _ _ _) [a] rfl 1 1 rfl
set_option maxRecDepth 100000 in
set_option maxHeartbeats 4000000 in
theorem laneF_any (P R : List Pt) (fl ce : Int) (p r : Value) (a b : Pt) (rm : Int) (w : World) (hp : Pts w p P) (hr : Pts w r R) (hP : P.length ≤ 4611686018427387904) (hR : R.length ≤ 4611686018427387904) : Calls Try.prog 23 #[fV p fl ce r, pV a, pV b, .int .i64 rm] w fun e w' => e = .returned (.tuple #[.bool (lanI P fl ce R a b rm), .int .i64 (wayE P fl ce R [a, b] rm)]) ∧ Below w.heap.size w w' := by
  have CH := fun W g hg (hb : Below w.heap.size w (W.alloc (.cells #[.int .i64 a.1, .int .i64 a.2, .int .i64 b.1, .int .i64 b.2] 39))) => way_any P R [a, b] fl ce p r (.slice (some ⟨g, 0, none⟩) 2 2) rm _ (hp.below hb) (hr.below hb) (pts2g W g hg a b) hP hR (by simp)
  have IN := fun W (hb : Below w.heap.size w W) (hs : wayE P fl ce R [a, b] rm = 0) => lane_fn P p a b rm W (hp.below hb) (chk_ok (way_ok hs).1).1 (fit_of (List.all_eq_true.1 (way_ok hs).2.1 a (by simp))) (fit_of (List.all_eq_true.1 (way_ok hs).2.1 b (by simp))) (way_ok hs).2.2
  have HI : Hid (lanI P fl ce R a b rm = (decide (wayE P fl ce R [a, b] rm = 0) && laB P a b rm)) := rfl
  generalize lanI P fl ce R a b rm = I at HI ⊢
  generalize wayE P fl ce R [a, b] rm = s at CH IN HI ⊢
  generalize laB P a b rm = t at IN HI
  obtain ⟨a1, a2⟩ := a
  obtain ⟨b1, b2'⟩ := b
  obtain ⟨ap, cp, rfl, hcl⟩ := hp
  obtain ⟨ar, cr, rfl, hcl'⟩ := hr
  generalize P.length = n1 at *
  generalize R.length = n2 at *
  clear hcl hcl' hP hR
  simp only [fV, pV] at *
  go_enter Try.func23, Try.ntmps23
  go_wp2_with fail
  obtain ⟨W0, hW0, hB, B0, B1, B2, hz⟩ := three_boxes w #[.slice ap n1 cp, .int .i64 fl, .int .i64 ce, .slice ar n2 cr] #[.int .i64 a1, .int .i64 a2] #[.int .i64 b1, .int .i64 b2'] 24 39 39
  rw [hW0]
  clear hW0
  refine (CH W0 _ (by omega) (below_next hB (Nat.le_refl _) (below_alloc _ _))).mono ?_
  rintro e w1 ⟨rfl, hb1⟩
  replace hb1 := below_over hb1
  replace B0 := B0.after hb1
  replace B1 := B1.after hb1
  replace B2 := B2.after hb1
  replace hB := below_next hB (Nat.le_refl _) hb1
  clear hb1 CH hz
  have k0 := B0.cell 0 rfl
  have k1 := B1.cell 0 rfl
  have k2 := B1.cell 1 rfl
  have k3 := B2.cell 0 rfl
  have k4 := B2.cell 1 rfl
  by_cases hs : s = 0
  · subst hs
    have HI2 : Hid (I = t) := hide (by rw [HI.out]; simp)
    clear HI
    have II := IN w1 hB (by trivial)
    clear IN
    go_wp2_with fail
    refine II.mono ?_
    rintro e w5 ⟨rfl, hb5⟩
    go_wp2_with fail
    go_ret2
    exact ⟨by rw [HI2.out]; rfl, below_next hB (Nat.le_refl _) hb5⟩
  · have HI2 : Hid (I = false) := hide (by rw [HI.out]; simp [hs])
    clear HI IN
    go_wp2_with fail
    all_goals go_ret2
    all_goals exact ⟨by rw [HI2.out]; rfl, hB⟩
set_option maxRecDepth 100000 in
set_option maxHeartbeats 4000000 in
theorem rallyF_any (P R : List Pt) (fl ce : Int) (p r : Value) (q : Pt) (rm : Int) (w : World) (hp : Pts w p P) (hr : Pts w r R) (hP : P.length ≤ 4611686018427387904) (hR : R.length ≤ 4611686018427387904) : Calls Try.prog 25 #[fV p fl ce r, pV q, .int .i64 rm] w fun e w' => e = .returned (.tuple #[.int .i64 (ralI P fl ce R q rm), .int .i64 (wayE P fl ce R [q] rm)]) ∧ Below w.heap.size w w' := by
  have CH := fun W g hg (hb : Below w.heap.size w (W.alloc (.cells #[.int .i64 q.1, .int .i64 q.2] 39))) => way_any P R [q] fl ce p r (.slice (some ⟨g, 0, none⟩) 1 1) rm _ (hp.below hb) (hr.below hb) (pts1g W g hg q) hP hR (by simp)
  have IN : Hid (wayE P fl ce R [q] rm = 0 → ∀ k, k < R.length → ∀ W (_ : Below w.heap.size w W), Calls Try.prog 55 #[p, pV q, pV (R.getD k (0, 0)), .int .i64 rm] W fun e w' => e = .returned (.bool (laB P q (R.getD k (0, 0)) rm)) ∧ Below W.heap.size W w') := fun hs k hk W hb => lane_fn P p q (R.getD k (0, 0)) rm W (hp.below hb) (chk_ok (way_ok hs).1).1 (fit_of (List.all_eq_true.1 (way_ok hs).2.1 q (by simp))) (fit_of (at_all (chk_fit (way_ok hs).1) hk)) (way_ok hs).2.2
  have FA := fun b => far_any q b
  have HR8 : Hid (wayE P fl ce R [q] rm = 0 → R.length ≤ 8) := fun hs => (chk_ok (way_ok hs).1).2.2.2.2.2.1
  have HI : Hid (ralI P fl ce R q rm = if wayE P fl ce R [q] rm = 0 then (ralR P q rm R 0 (-1, 0)).1 else 0) := rfl
  generalize ralI P fl ce R q rm = I at HI ⊢
  generalize wayE P fl ce R [q] rm = s at CH IN HI HR8 ⊢
  obtain ⟨ap, cp, rfl, hcl⟩ := hp
  obtain ⟨ar, cr, rfl, hcr⟩ := hr
  have HCR := hide hcr
  obtain ⟨n1, hn1⟩ : ∃ n, P.length = n := ⟨_, rfl⟩
  obtain ⟨n, hn⟩ : ∃ n, R.length = n := ⟨_, rfl⟩
  have HN := hide hn
  rw [hn1, hn] at CH ⊢
  rw [hn1, hn] at IN
  rw [hn] at HR8 hR
  clear hcl hcr hP hn hn1
  obtain ⟨q1, hq1⟩ : ∃ x, q.1 = x := ⟨_, rfl⟩
  obtain ⟨q2, hq2⟩ : ∃ x, q.2 = x := ⟨_, rfl⟩
  simp only [fV, pV] at *
  rw [hq1, hq2] at CH ⊢
  simp only [hq1, hq2] at IN FA
  clear hq1 hq2
  go_enter Try.func25, Try.ntmps25
  go_wp2_with fail
  obtain ⟨W0, hW0, hB, B0, B1, hz⟩ := two_boxes w #[.slice ap n1 cp, .int .i64 fl, .int .i64 ce, .slice ar n cr] #[.int .i64 q1, .int .i64 q2] 24 39
  rw [hW0]
  clear hW0
  refine (CH W0 _ (by omega) (below_next hB (Nat.le_refl _) (below_alloc _ _))).mono ?_
  rintro e w1 ⟨rfl, hb1⟩
  replace hb1 := below_over hb1
  replace B0 := B0.after hb1
  replace B1 := B1.after hb1
  replace hB := below_next hB (Nat.le_refl _) hb1
  clear hb1 CH hz
  have k3 := B0.cell 3 rfl
  by_cases hs : s = 0
  · subst hs
    have HI2 : Hid (I = (ralR P q rm R 0 (-1, 0)).1) := hide (by rw [HI.out, if_pos (by trivial)])
    have h8 := HR8.out (by trivial)
    have IN2 := hide (IN.out (by trivial))
    clear HI IN HR8
    go_wp2_with fail
    go_loopw [9, 10, 26] (fun be le i wx => ∃ k : Nat, ∃ be' le' : Int, k ≤ n ∧ i = .int .i64 k ∧ be = .int .i64 be' ∧ le = .int .i64 le' ∧ Hid (ralR P q rm R 0 (-1, 0) = ralR P q rm (R.drop k) k (be', le')) ∧ Hid (Below w.heap.size w wx) ∧ Hid (Blk wx w.heap.size #[.slice ap n1 cp, .int .i64 fl, .int .i64 ce, .slice ar n cr] 24) ∧ Hid (Blk wx (w.heap.size + 1) #[.int .i64 q1, .int .i64 q2] 39)) (fun _ _ i _ => n - (intOf i).toNat)
    case atStart => exact ⟨0, -1, 0, Nat.zero_le _, rfl, rfl, rfl, hide rfl, hide hB, hide B0, hide B1⟩
    case round =>
      obtain ⟨k, be', le', hk, rfl, rfl, rfl, hf', hbx, hBx, hBy⟩ := hrel
      clear B0 B1 hB k3
      by_cases hlt : k < n
      · obtain ⟨g, o, rfl, hg, hcc⟩ := HCR.out (by rw [HN.out]; omega)
        obtain ⟨c0, c1⟩ := hcc k (by rw [HN.out]; exact hlt)
        have q0 := (hbx.out.cell (p := ⟨g, o + k * 2, none⟩) hg).trans c0
        have q1' := (hbx.out.cell (p := ⟨g, o + k * 2 + 1, none⟩) hg).trans c1
        have LN := IN2.out k hlt
        have FK := FA (R.getD k (0, 0))
        have HE := hide (ralR_at P q rm (R := R) (k := k) (by rw [HN.out]; exact hlt) k (be', le'))
        clear c0 c1 hcc IN2 FA
        generalize farI q (R.getD k (0, 0)) = d at *
        generalize laB P q (R.getD k (0, 0)) rm = t at *
        generalize orE [q, R.getD k (0, 0)] = oe at *
        generalize (R.getD k (0, 0)).1 = x at *
        generalize (R.getD k (0, 0)).2 = y at *
        have hsx := hbx.out.size
        have lB := hBy.out.lt
        obtain ⟨W1, hW1⟩ : ∃ W1, wr.alloc (.cells #[.int .i64 x, .int .i64 y] 39) = W1 := ⟨_, rfl⟩
        have hb1 : Below wr.heap.size wr W1 := hW1 ▸ below_alloc _ _
        have B2 : Blk W1 wr.heap.size #[.int .i64 x, .int .i64 y] 39 := hW1 ▸ Blk.new _ _ _
        have m0 := B2.cell 0 rfl
        have m1 := B2.cell 1 rfl
        have m2 := (hBy.out.after hb1).cell 0 rfl
        have m3 := (hBy.out.after hb1).cell 1 rfl
        have hbn := below_next hbx.out (Nat.le_refl _) hb1
        go_wp2_with fail
        refine (FK _).mono ?_
        rintro e w5 ⟨rfl, hb5⟩
        clear m0 m1 m2 m3 q0 q1' hW1 FK
        have hb6 := below_next hbn (Nat.le_refl _) hb5
        have hb7 := below_next hb1 (Nat.le_refl _) hb5
        have m0 := (B2.after hb5).cell 0 rfl
        have m1 := (B2.after hb5).cell 1 rfl
        have m2 := (hBy.out.after hb7).cell 0 rfl
        have m3 := (hBy.out.after hb7).cell 1 rfl
        have m4 := (hBx.out.after hb7).cell 0 rfl
        by_cases hbt : be' < 0 ∨ d < le'
        · have HBT : Hid ((decide (be' < 0) || decide (d < le')) = true) := hide (by simpa using hbt)
          cases t
          · by_cases hb0 : be' < 0
            · go_wp2_with fail
              refine (LN _ hb6).mono ?_
              rintro e w6 ⟨rfl, hb8⟩
              go_wp2_with fail
              go_roundw
              case rel => exact ⟨k + 1, be', le', by omega, by go_num, rfl, rfl, hide (by rw [hf'.out, HE.out]; simp), hide (below_next hb6 (Nat.le_refl _) hb8), hide (hBx.out.after (below_next hb7 (Nat.le_refl _) hb8)), hide (hBy.out.after (below_next hb7 (Nat.le_refl _) hb8))⟩
              case measure => simp [intOf]; omega
            · have hd : d < le' := by omega
              go_wp2_with fail
              refine (LN _ hb6).mono ?_
              rintro e w6 ⟨rfl, hb8⟩
              go_wp2_with fail
              go_roundw
              case rel => exact ⟨k + 1, be', le', by omega, by go_num, rfl, rfl, hide (by rw [hf'.out, HE.out]; simp), hide (below_next hb6 (Nat.le_refl _) hb8), hide (hBx.out.after (below_next hb7 (Nat.le_refl _) hb8)), hide (hBy.out.after (below_next hb7 (Nat.le_refl _) hb8))⟩
              case measure => simp [intOf]; omega
          · by_cases hb0 : be' < 0
            · go_wp2_with fail
              refine (LN _ hb6).mono ?_
              rintro e w6 ⟨rfl, hb8⟩
              go_wp2_with fail
              go_roundw
              case rel => exact ⟨k + 1, k, d, by omega, by go_num, rfl, rfl, hide (by rw [hf'.out, HE.out, if_pos (by rw [show (decide ((be', le').1 < 0) || decide (d < (be', le').2)) = true from HBT.out]; rfl)]), hide (below_next hb6 (Nat.le_refl _) hb8), hide (hBx.out.after (below_next hb7 (Nat.le_refl _) hb8)), hide (hBy.out.after (below_next hb7 (Nat.le_refl _) hb8))⟩
              case measure => simp [intOf]; omega
            · have hd : d < le' := by omega
              go_wp2_with fail
              refine (LN _ hb6).mono ?_
              rintro e w6 ⟨rfl, hb8⟩
              go_wp2_with fail
              go_roundw
              case rel => exact ⟨k + 1, k, d, by omega, by go_num, rfl, rfl, hide (by rw [hf'.out, HE.out, if_pos (by rw [show (decide ((be', le').1 < 0) || decide (d < (be', le').2)) = true from HBT.out]; rfl)]), hide (below_next hb6 (Nat.le_refl _) hb8), hide (hBx.out.after (below_next hb7 (Nat.le_refl _) hb8)), hide (hBy.out.after (below_next hb7 (Nat.le_refl _) hb8))⟩
              case measure => simp [intOf]; omega
        · have hb0 : ¬ be' < 0 := fun h => hbt (Or.inl h)
          have hd : ¬ d < le' := fun h => hbt (Or.inr h)
          have HBT : Hid ((decide (be' < 0) || decide (d < le')) = false) := hide (by simp; omega)
          clear hbt LN
          go_wp2_with fail
          go_roundw
          case rel => exact ⟨k + 1, be', le', by omega, by go_num, rfl, rfl, hide (by rw [hf'.out, HE.out, if_neg (by rw [show (decide ((be', le').1 < 0) || decide (d < (be', le').2)) = false from HBT.out]; simp)]), hide hb6, hide (hBx.out.after hb7), hide (hBy.out.after hb7)⟩
          case measure => simp [intOf]; omega
      · go_wp2_with fail
        go_ret2
        exact ⟨by rw [HI2.out, hf'.out, ralR_end P q rm (by rw [HN.out]; omega)]; rfl, hbx.out⟩
  · have HI2 : Hid (I = 0) := hide (by rw [HI.out, if_neg hs])
    clear HI IN HR8
    go_wp2_with fail
    all_goals go_ret2
    all_goals exact ⟨by rw [HI2.out]; rfl, hB⟩
end Go.Proofs.Ytnenbbkkhnlgbaa
