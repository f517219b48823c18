/- The document's fence: Holds, lane, Lane, Rally. -/
import Derived.Test.YtnenbbkkhnlgbaaFf2
namespace Go.Proofs.Ytnenbbkkhnlgbaa
open Go.RowKit Go.Great

set_option maxRecDepth 100000 in
set_option maxHeartbeats 4000000 in
theorem rholds_fn (P R : List Pt) (fl ce : Int) (p r : Value) (x y z : Pt) (w : World) (hp : Pts w p P) (hr : Pts w r R) (hP : P.length ≤ 4611686018427387904) (hR : R.length ≤ 4611686018427387904) : Calls Try.prog 22 #[fV p fl ce r, bV x y z] w fun e w' => e = .returned (.tuple #[.bool (holI P fl ce R x y z), .int .i64 (holE P fl ce R x y z)]) ∧ Below w.heap.size w w' := by
  have CH := fun W (hb : Below w.heap.size w W) => rcheck_any P R fl ce p r W (hp.below hb) (hr.below hb) hP hR
  have IN := fun W (hb : Below w.heap.size w W) (hs : chk P fl ce R = 0) => rwithin_any P p x y W (hp.below hb) (chk_ok hs).1
  have HI : Hid (holI P fl ce R x y z = (decide (chk P fl ce R = 0) && !(decide (x.2 < x.1) || decide (y.2 < y.1) || decide (z.2 < z.1)) && ((decide (fl ≤ z.1) && decide (z.2 ≤ ce)) && wiB P x y))) := rfl
  have HE : Hid (holE P fl ce R x y z = if chk P fl ce R = 0 then (if (decide (x.2 < x.1) || decide (y.2 < y.1) || decide (z.2 < z.1)) = true then 1 else 0) else chk P fl ce R) := rfl
  generalize holI P fl ce R x y z = I at HI ⊢
  generalize holE P fl ce R x y z = E at HE ⊢
  generalize chk P fl ce R = s at CH HI HE IN
  generalize wiB P x y = t at IN HI
  obtain ⟨x1, x2⟩ := x
  obtain ⟨y1, y2⟩ := y
  obtain ⟨z1, z2⟩ := z
  obtain ⟨ap, cp, rfl, hcl⟩ := hp
  obtain ⟨ar, cr, rfl, hcl'⟩ := hr
  generalize P.length = n1 at *
  generalize R.length = n2 at *
  clear hcl hcl' hP hR
  simp only [fV, bV, pV] at *
  have HC1 : Hid (s ≠ 0 → I = false ∧ E = s) := fun h => by
    rw [HI.out, HE.out, if_neg h]
    simp [h]
  have HC2 : Hid (s = 0 → (x2 < x1 ∨ y2 < y1 ∨ z2 < z1) → I = false ∧ E = 1) := fun h k => by
    rw [HI.out, HE.out, if_pos h]
    have : (decide (x2 < x1) || decide (y2 < y1) || decide (z2 < z1)) = true := by
      simp
      omega
    rw [this]
    simp
  have HC3 : Hid (s = 0 → ¬ x2 < x1 → ¬ y2 < y1 → ¬ z2 < z1 → I = (decide (fl ≤ z1) && decide (z2 ≤ ce) && t) ∧ E = 0) := fun h k1 k2 k3 => by
    rw [HI.out, HE.out, if_pos h]
    simp [h, k1, k2, k3]
  clear HI HE
  go_enter Try.func22, Try.ntmps22
  go_wp2_with fail
  obtain ⟨W0, hW0, hB, B0, B1, hz⟩ := two_boxes w #[.slice ap n1 cp, .int .i64 fl, .int .i64 ce, .slice ar n2 cr] #[.int .i64 x1, .int .i64 x2, .int .i64 y1, .int .i64 y2, .int .i64 z1, .int .i64 z2] 24 34
  rw [hW0]
  clear hW0 hz
  refine (CH _ hB).mono ?_
  rintro e w1 ⟨rfl, hb1⟩
  replace B0 := B0.after hb1
  replace B1 := B1.after hb1
  replace hB := below_next hB (Nat.le_refl _) hb1
  clear hb1 CH
  by_cases hs : s = 0
  · subst hs
    have k0 := B1.cell 0 rfl
    have k1 := B1.cell 1 rfl
    have k2 := B1.cell 2 rfl
    have k3 := B1.cell 3 rfl
    have k4 := B1.cell 4 rfl
    have k5 := B1.cell 5 rfl
    have j0 := B0.cell 0 rfl
    by_cases hx : x2 < x1
    · obtain ⟨rfl, rfl⟩ := HC2.out (by trivial) (by omega)
      clear HC1 HC2 HC3 IN
      go_wp2_with fail
      go_ret2
      exact ⟨rfl, hB⟩
    · by_cases hy : y2 < y1
      · obtain ⟨rfl, rfl⟩ := HC2.out (by trivial) (by omega)
        clear HC1 HC2 HC3 IN
        go_wp2_with fail
        go_ret2
        exact ⟨rfl, hB⟩
      · by_cases hzz : z2 < z1
        · obtain ⟨rfl, rfl⟩ := HC2.out (by trivial) (by omega)
          clear HC1 HC2 HC3 IN
          go_wp2_with fail
          go_ret2
          exact ⟨rfl, hB⟩
        · obtain ⟨hI, rfl⟩ := HC3.out (by trivial) (by omega) (by omega) (by omega)
          have HII := hide hI
          have II := IN w1 hB (by trivial)
          clear hI HC1 HC2 HC3 IN
          go_wp2_with fail
          refine II.mono ?_
          rintro e w5 ⟨rfl, hb5⟩
          replace B0 := B0.after hb5
          replace B1 := B1.after hb5
          replace hB := below_next hB (Nat.le_refl _) hb5
          clear hb5 II k0 k1 k2 k3 k4 k5 j0
          have k4 := B1.cell 4 rfl
          have k5 := B1.cell 5 rfl
          have j1 := B0.cell 1 rfl
          have j2 := B0.cell 2 rfl
          cases t
          · have HI2 : Hid (I = false) := hide (by rw [HII.out]; simp)
            clear HII
            go_wp2_with fail
            go_ret2
            exact ⟨by rw [HI2.out]; rfl, hB⟩
          · by_cases hl1 : fl ≤ z1
            · have HI2 : Hid (I = decide (z2 ≤ ce)) := hide (by rw [HII.out]; simp [hl1])
              clear HII
              go_wp2_with fail
              all_goals go_ret2
              all_goals exact ⟨by rw [HI2.out]; rfl, hB⟩
            · have HI2 : Hid (I = false) := hide (by rw [HII.out]; simp [hl1])
              clear HII
              go_wp2_with fail
              go_ret2
              exact ⟨by rw [HI2.out]; rfl, hB⟩
  · obtain ⟨rfl, rfl⟩ := HC1.out hs
    clear HC1 HC2 HC3 IN
    go_wp2_with fail
    all_goals go_ret2
    all_goals exact ⟨rfl, hB⟩
theorem rcalls_span {v : Value} {x1 x2 y1 y2 : Int} {w : World} {t : Bool} (IN : ∀ W, Below w.heap.size w W → Calls Try.prog 53 #[v, .agg #[.int .i64 x1, .int .i64 x2], .agg #[.int .i64 y1, .int .i64 y2]] W fun e w' => e = .returned (.bool t) ∧ Below W.heap.size W w') {z1 z2 u1 u2 : Int} {W : World} (hb : Below w.heap.size w W) (e1 : z1 = x1) (e2 : z2 = x2) (e3 : u1 = y1) (e4 : u2 = y2) : Calls Try.prog 53 #[v, .agg #[.int .i64 z1, .int .i64 z2], .agg #[.int .i64 u1, .int .i64 u2]] W fun e w' => e = .returned (.bool t) ∧ Below W.heap.size W w' := by
  subst e1 e2 e3 e4
  exact IN W hb
set_option maxHeartbeats 4000000 in
theorem rlane_fn (P : List Pt) (v : Value) (a b : Pt) (r : Int) (w : World) (hv : Pts w v P) (hs : simE P = 0) (ha : Fit a) (hb : Fit b) (hr : 0 ≤ r) : Calls Try.prog 56 #[v, pV a, pV b, .int .i64 r] w fun e w' => e = .returned (.bool (laB P a b r)) ∧ Below w.heap.size w w' := by
  have HFA : Hid (1073741824 < r → laB P a b r = false) := fun h => ln_far P a b (by omega)
  have IN := fun W (hb : Below w.heap.size w W) => rwithin_any P v (lnX a b r) (lnY a b r) W (hv.below hb) hs
  simp only [laB] at IN HFA ⊢
  generalize wiB P (lnX a b r) (lnY a b r) = t at IN HFA ⊢
  obtain ⟨av, cap, rfl, hcl⟩ := hv
  clear hcl
  obtain ⟨a1, a2⟩ := a
  obtain ⟨b1, b2'⟩ := b
  obtain ⟨h1, h2, h3, h4⟩ := ha
  obtain ⟨h5, h6, h7, h8⟩ := hb
  simp only [pV, lnX, lnY] at *
  by_cases hf : 1073741824 < r
  · have HQ := hide (HFA.out hf)
    clear IN HFA
    go_enter Try.func56, Try.ntmps56
    go_wp2_with fail
    go_ret
    exact ⟨ret_bool HQ.out.symm, b2 _ _ _⟩
  · clear HFA
    obtain ⟨x1, hx1⟩ : ∃ x, min a1 b1 - r = x := ⟨_, rfl⟩
    obtain ⟨x2, hx2⟩ : ∃ x, max a1 b1 + r = x := ⟨_, rfl⟩
    obtain ⟨y1, hy1⟩ : ∃ x, min a2 b2' - r = x := ⟨_, rfl⟩
    obtain ⟨y2, hy2⟩ : ∃ x, max a2 b2' + r = x := ⟨_, rfl⟩
    rw [hx1, hx2, hy1, hy2] at IN
    have gx1 : (x1 = a1 - r ∧ a1 ≤ b1) ∨ (x1 = b1 - r ∧ b1 ≤ a1) := by omega
    have gx2 : (x2 = b1 + r ∧ a1 ≤ b1) ∨ (x2 = a1 + r ∧ b1 ≤ a1) := by omega
    have gy1 : (y1 = a2 - r ∧ a2 ≤ b2') ∨ (y1 = b2' - r ∧ b2' ≤ a2) := by omega
    have gy2 : (y2 = b2' + r ∧ a2 ≤ b2') ∨ (y2 = a2 + r ∧ b2' ≤ a2) := by omega
    have GX1 := hide gx1
    have GX2 := hide gx2
    have GY1 := hide gy1
    have GY2 := hide gy2
    clear hs hx1 hx2 hy1 hy2 gx1 gx2 gy1 gy2
    go_enter Try.func56, Try.ntmps56
    go_wp2_with fail
    all_goals
      refine (rcalls_span IN (b4 _ _ _ _ _) (by have := GX1.out; clear IN; omega) (by have := GX2.out; clear IN; omega) (by have := GY1.out; clear IN; omega) (by have := GY2.out; clear IN; omega)).mono ?_
      rintro e w9 ⟨rfl, hb9⟩
      go_wp2_with fail
      go_ret
      exact ⟨rfl, below_next (b4 _ _ _ _ _) (Nat.le_refl _) hb9⟩
set_option maxRecDepth 100000 in
set_option maxHeartbeats 4000000 in
theorem rlaneF_any (P R : List Pt) (fl ce : Int) (p r : Value) (a b : Pt) (rm : Int) (w : World) (hp : Pts w p P) (hr : Pts w r R) (hP : P.length ≤ 4611686018427387904) (hR : R.length ≤ 4611686018427387904) : Calls Try.prog 24 #[fV p fl ce r, pV a, pV b, .int .i64 rm] w fun e w' => e = .returned (.tuple #[.bool (lanI P fl ce R a b rm), .int .i64 (wayE P fl ce R [a, b] rm)]) ∧ Below w.heap.size w w' := by
  have CH := fun W (hb : Below w.heap.size w W) => rcheck_any P R fl ce p r W (hp.below hb) (hr.below hb) hP hR
  have IN : Hid (chk P fl ce R = 0 → fitB a = true → fitB b = true → 0 ≤ rm → ∀ W, Below w.heap.size w W → Calls Try.prog 56 #[p, pV a, pV b, .int .i64 rm] W fun e w' => e = .returned (.bool (laB P a b rm)) ∧ Below W.heap.size W w') := fun hs ha hb' hr' W hb => rlane_fn P p a b rm W (hp.below hb) (chk_ok hs).1 (fit_of ha) (fit_of hb') hr'
  have FA := rfits_any a
  have FB := rfits_any b
  have HI : Hid (lanI P fl ce R a b rm = (decide (wayE P fl ce R [a, b] rm = 0) && laB P a b rm)) := rfl
  have HE : Hid (wayE P fl ce R [a, b] rm = if chk P fl ce R = 0 then (if (fitB a && fitB b) = true then (if rm < 0 then 1 else 0) else 5) else chk P fl ce R) := hide (by
    unfold wayE
    simp only [List.all_cons, List.all_nil, Bool.and_true])
  generalize lanI P fl ce R a b rm = I at HI ⊢
  generalize wayE P fl ce R [a, b] rm = E at HI HE ⊢
  generalize laB P a b rm = t at IN HI
  generalize chk P fl ce R = s at CH IN HE
  generalize fitB a = f1 at *
  generalize fitB b = f2 at *
  have HC1 : Hid (s ≠ 0 → I = false ∧ E = s) := fun h => by rw [HI.out, HE.out, if_neg h]; simp [h]
  have HC2 : Hid (s = 0 → (f1 && f2) = false → I = false ∧ E = 5) := fun h k => by rw [HI.out, HE.out, if_pos h, k]; simp
  have HC3 : Hid (s = 0 → (f1 && f2) = true → rm < 0 → I = false ∧ E = 1) := fun h k q => by rw [HI.out, HE.out, if_pos h, k, if_pos rfl, if_pos q]; simp
  have HC4 : Hid (s = 0 → (f1 && f2) = true → ¬ rm < 0 → I = t ∧ E = 0) := fun h k q => by rw [HI.out, HE.out, if_pos h, k, if_pos rfl, if_neg q]; simp
  clear HI HE
  obtain ⟨a1, a2⟩ := a
  obtain ⟨b1, b2'⟩ := b
  obtain ⟨ap, cp, rfl, hcl⟩ := hp
  obtain ⟨ar, cr, rfl, hcl'⟩ := hr
  generalize P.length = n1 at *
  generalize R.length = n2 at *
  clear hcl hcl' hP hR
  simp only [fV, pV] at *
  go_enter Try.func24, Try.ntmps24
  go_wp2_with fail
  obtain ⟨W0, hW0, hB, B0, B1, B2, hz⟩ := three_boxes w #[.slice ap n1 cp, .int .i64 fl, .int .i64 ce, .slice ar n2 cr] #[.int .i64 a1, .int .i64 a2] #[.int .i64 b1, .int .i64 b2'] 24 39 39
  rw [hW0]
  clear hW0
  refine (CH W0 hB).mono ?_
  rintro e w1 ⟨rfl, hb1⟩
  replace B0 := B0.after hb1
  replace B1 := B1.after hb1
  replace B2 := B2.after hb1
  replace hB := below_next hB (Nat.le_refl _) hb1
  clear hb1 CH hz
  have k1 := B1.cell 0 rfl
  have k2 := B1.cell 1 rfl
  by_cases hs : s = 0
  · subst hs
    go_wp2_with fail
    refine (FA _).mono ?_
    rintro e w2 ⟨rfl, hb2⟩
    replace B0 := B0.after hb2
    replace B1 := B1.after hb2
    replace B2 := B2.after hb2
    replace hB := below_next hB (Nat.le_refl _) hb2
    clear hb2 FA k1 k2
    have k3 := B2.cell 0 rfl
    have k4 := B2.cell 1 rfl
    cases f1
    · obtain ⟨rfl, rfl⟩ := HC2.out (by trivial) (by trivial)
      clear HC1 HC2 HC3 HC4 IN
      go_wp2_with fail
      go_ret2
      exact ⟨rfl, hB⟩
    · go_wp2_with fail
      refine (FB _).mono ?_
      rintro e w3 ⟨rfl, hb2⟩
      replace B0 := B0.after hb2
      replace B1 := B1.after hb2
      replace B2 := B2.after hb2
      replace hB := below_next hB (Nat.le_refl _) hb2
      clear hb2 FB k3 k4
      have k0 := B0.cell 0 rfl
      have k1 := B1.cell 0 rfl
      have k2 := B1.cell 1 rfl
      have k3 := B2.cell 0 rfl
      have k4 := B2.cell 1 rfl
      cases f2
      · obtain ⟨rfl, rfl⟩ := HC2.out (by trivial) (by trivial)
        clear HC1 HC2 HC3 HC4 IN
        go_wp2_with fail
        go_ret2
        exact ⟨rfl, hB⟩
      · by_cases hr0 : rm < 0
        · obtain ⟨rfl, rfl⟩ := HC3.out (by trivial) (by trivial) (by omega)
          clear HC1 HC2 HC3 HC4 IN
          go_wp2_with fail
          go_ret2
          exact ⟨rfl, hB⟩
        · obtain ⟨hI, rfl⟩ := HC4.out (by trivial) (by trivial) (by omega)
          have HII := hide hI
          have II := IN.out (by trivial) (by trivial) (by trivial) (by omega) w3 hB
          clear HC1 HC2 HC3 HC4 IN hI
          go_wp2_with fail
          refine II.mono ?_
          rintro e w5 ⟨rfl, hb5⟩
          go_wp2_with fail
          go_ret2
          exact ⟨by rw [HII.out]; rfl, below_next hB (Nat.le_refl _) hb5⟩
  · obtain ⟨rfl, rfl⟩ := HC1.out hs
    clear HC1 HC2 HC3 HC4 IN
    go_wp2_with fail
    all_goals go_ret2
    all_goals exact ⟨rfl, hB⟩
set_option maxRecDepth 100000 in
set_option maxHeartbeats 4000000 in
theorem rrallyF_any (P R : List Pt) (fl ce : Int) (p r : Value) (q : Pt) (rm : Int) (w : World) (hp : Pts w p P) (hr : Pts w r R) (hP : P.length ≤ 4611686018427387904) (hR : R.length ≤ 4611686018427387904) : Calls Try.prog 26 #[fV p fl ce r, pV q, .int .i64 rm] w fun e w' => e = .returned (.tuple #[.int .i64 (ralI P fl ce R q rm), .int .i64 (wayE P fl ce R [q] rm)]) ∧ Below w.heap.size w w' := by
  have CH := fun W (hb : Below w.heap.size w W) => rcheck_any P R fl ce p r W (hp.below hb) (hr.below hb) hP hR
  have IN : Hid (chk P fl ce R = 0 → fitB q = true → 0 ≤ rm → ∀ k, k < R.length → ∀ W (_ : Below w.heap.size w W), Calls Try.prog 56 #[p, pV q, pV (R.getD k (0, 0)), .int .i64 rm] W fun e w' => e = .returned (.bool (laB P q (R.getD k (0, 0)) rm)) ∧ Below W.heap.size W w') := fun hs hq hr' k hk W hb => rlane_fn P p q (R.getD k (0, 0)) rm W (hp.below hb) (chk_ok hs).1 (fit_of hq) (fit_of (at_all (chk_fit hs) hk)) hr'
  have FA := fun b => rfar_any q b
  have FQ := rfits_any q
  have HR8 : Hid (chk P fl ce R = 0 → R.length ≤ 8) := fun hs => (chk_ok hs).2.2.2.2.2.1
  have HI : Hid (ralI P fl ce R q rm = if wayE P fl ce R [q] rm = 0 then (ralR P q rm R 0 (-1, 0)).1 else 0) := rfl
  have HE : Hid (wayE P fl ce R [q] rm = if chk P fl ce R = 0 then (if fitB q = true then (if rm < 0 then 1 else 0) else 5) else chk P fl ce R) := hide (by
    unfold wayE
    simp only [List.all_cons, List.all_nil, Bool.and_true])
  generalize ralI P fl ce R q rm = I at HI ⊢
  generalize wayE P fl ce R [q] rm = E at HI HE ⊢
  generalize chk P fl ce R = s at CH IN HE HR8
  generalize fitB q = f1 at *
  have HC1 : Hid (s ≠ 0 → I = 0 ∧ E = s) := fun h => by rw [HI.out, HE.out, if_neg h]; simp [h]
  have HC2 : Hid (s = 0 → f1 = false → I = 0 ∧ E = 5) := fun h k => by rw [HI.out, HE.out, if_pos h, k]; simp
  have HC3 : Hid (s = 0 → f1 = true → rm < 0 → I = 0 ∧ E = 1) := fun h k q => by rw [HI.out, HE.out, if_pos h, k, if_pos rfl, if_pos q]; simp
  have HC4 : Hid (s = 0 → f1 = true → ¬ rm < 0 → I = (ralR P q rm R 0 (-1, 0)).1 ∧ E = 0) := fun h k q => by rw [HI.out, HE.out, if_pos h, k, if_pos rfl, if_neg q]; simp
  clear HI HE
  obtain ⟨ap, cp, rfl, hcl⟩ := hp
  obtain ⟨ar, cr, rfl, hcr⟩ := hr
  have HCR := hide hcr
  obtain ⟨n1, hn1⟩ : ∃ n, P.length = n := ⟨_, rfl⟩
  obtain ⟨n, hn⟩ : ∃ n, R.length = n := ⟨_, rfl⟩
  have HN := hide hn
  rw [hn1, hn] at CH ⊢
  rw [hn1, hn] at IN
  rw [hn] at HR8 hR
  clear hcl hcr hP hn hn1
  obtain ⟨q1, hq1⟩ : ∃ x, q.1 = x := ⟨_, rfl⟩
  obtain ⟨q2, hq2⟩ : ∃ x, q.2 = x := ⟨_, rfl⟩
  simp only [fV, pV] at *
  rw [hq1, hq2] at FQ ⊢
  simp only [hq1, hq2] at IN FA
  clear hq1 hq2
  go_enter Try.func26, Try.ntmps26
  go_wp2_with fail
  obtain ⟨W0, hW0, hB, B0, B1, hz⟩ := two_boxes w #[.slice ap n1 cp, .int .i64 fl, .int .i64 ce, .slice ar n cr] #[.int .i64 q1, .int .i64 q2] 24 39
  rw [hW0]
  clear hW0
  refine (CH W0 hB).mono ?_
  rintro e w1 ⟨rfl, hb1⟩
  replace B0 := B0.after hb1
  replace B1 := B1.after hb1
  replace hB := below_next hB (Nat.le_refl _) hb1
  clear hb1 CH hz
  have k1 := B1.cell 0 rfl
  have k2 := B1.cell 1 rfl
  by_cases hs : s = 0
  · subst hs
    go_wp2_with fail
    refine (FQ _).mono ?_
    rintro e w2 ⟨rfl, hb2⟩
    replace B0 := B0.after hb2
    replace B1 := B1.after hb2
    replace hB := below_next hB (Nat.le_refl _) hb2
    clear hb2 FQ k1 k2
    cases f1
    · obtain ⟨rfl, rfl⟩ := HC2.out (by trivial) (by trivial)
      clear HC1 HC2 HC3 HC4 IN HR8
      go_wp2_with fail
      go_ret2
      exact ⟨rfl, hB⟩
    · by_cases hr0 : rm < 0
      · obtain ⟨rfl, rfl⟩ := HC3.out (by trivial) (by trivial) (by omega)
        clear HC1 HC2 HC3 HC4 IN HR8
        go_wp2_with fail
        go_ret2
        exact ⟨rfl, hB⟩
      · obtain ⟨hI, rfl⟩ := HC4.out (by trivial) (by trivial) (by omega)
        have HI2 := hide hI
        have h8 := HR8.out (by trivial)
        have IN2 := hide (IN.out (by trivial) (by trivial) (by omega))
        clear HC1 HC2 HC3 HC4 IN HR8 hI
        go_wp2_with fail
        go_loopw [9, 10, 11] (fun be le i wx => ∃ k : Nat, ∃ be' le' : Int, k ≤ n ∧ i = .int .i64 k ∧ be = .int .i64 be' ∧ le = .int .i64 le' ∧ Hid (ralR P q rm R 0 (-1, 0) = ralR P q rm (R.drop k) k (be', le')) ∧ Hid (Below w.heap.size w wx) ∧ Hid (Blk wx w.heap.size #[.slice ap n1 cp, .int .i64 fl, .int .i64 ce, .slice ar n cr] 24) ∧ Hid (Blk wx (w.heap.size + 1) #[.int .i64 q1, .int .i64 q2] 39)) (fun _ _ i _ => n - (intOf i).toNat)
        case atStart => exact ⟨0, -1, 0, Nat.zero_le _, rfl, rfl, rfl, hide rfl, hide hB, hide B0, hide B1⟩
        case round =>
          obtain ⟨k, be', le', hk, rfl, rfl, rfl, hf', hbx, hBx, hBy⟩ := hrel
          clear B0 B1 hB
          have j3 := hBx.out.cell 3 rfl
          by_cases hlt : k < n
          · obtain ⟨g, o, rfl, hg, hcc⟩ := HCR.out (by rw [HN.out]; omega)
            obtain ⟨c0, c1⟩ := hcc k (by rw [HN.out]; exact hlt)
            have q0 := (hbx.out.cell (p := ⟨g, o + k * 2, none⟩) hg).trans c0
            have q1' := (hbx.out.cell (p := ⟨g, o + k * 2 + 1, none⟩) hg).trans c1
            have LN := IN2.out k hlt
            have FK := FA (R.getD k (0, 0))
            have HE := hide (ralR_at P q rm (R := R) (k := k) (by rw [HN.out]; exact hlt) k (be', le'))
            clear c0 c1 hcc IN2 FA
            generalize farI q (R.getD k (0, 0)) = d at *
            generalize laB P q (R.getD k (0, 0)) rm = t at *
            generalize orE [q, R.getD k (0, 0)] = oe at *
            generalize (R.getD k (0, 0)).1 = x at *
            generalize (R.getD k (0, 0)).2 = y at *
            have hsx := hbx.out.size
            have gw : g < wr.heap.size := by omega
            have m0 := fun z : BelowW wr => z.cell q0 gw
            have m1 := fun z : BelowW wr => z.cell q1' gw
            have m2 := hBy.out.at 0 rfl
            have m3 := hBy.out.at 1 rfl
            have m4 := hBx.out.at 3 rfl
            have hne : Nonempty (BelowW wr) := ⟨⟨wr, Below.refl _ _⟩⟩
            go_wp2_with fail
            refine wp_region_calm (by kernel_rfl) (by kernel_rfl) ?_
            repeat (go_big_quiet_step (first | (go_at_call 57; exact calm_of (FK _))))
            refine wpQuiet_nil ?_
            rintro w5 ⟨⟨q3, hq⟩, e3⟩
            have e4 : w5 = q3 := e3
            clear e3
            subst e4
            clear m0 m1 m2 m3 m4 hne FK j3
            have hb6 := below_next hbx.out (Nat.le_refl _) hq
            have gs := hq.size
            have m0 := fun z : BelowW w5 => z.cell ((hq.cell (p := ⟨g, o + k * 2, none⟩) gw).trans q0) (by omega)
            have m1 := fun z : BelowW w5 => z.cell ((hq.cell (p := ⟨g, o + k * 2 + 1, none⟩) gw).trans q1') (by omega)
            have m2 := (hBy.out.after hq).at 0 rfl
            have m3 := (hBy.out.after hq).at 1 rfl
            have m4 := (hBx.out.after hq).at 3 rfl
            have m5 := (hBx.out.after hq).at 0 rfl
            have LN2 := fun z : BelowW w5 => LN z.q (below_next hb6 (Nat.le_refl _) z.h)
            have hne : Nonempty (BelowW w5) := ⟨⟨w5, Below.refl _ _⟩⟩
            clear q0 q1' LN
            cases t
            · go_wp2_with fail
              refine wp_region_calm (by kernel_rfl) (by kernel_rfl) ?_
              repeat (go_big_quiet_step (first | (go_at_call 56; exact calm_of (LN2 _))))
              refine wpQuiet_nil ?_
              rintro w6 ⟨⟨q3, hq2⟩, e3⟩
              have e4 : w6 = q3 := e3
              clear e3
              subst e4
              clear m0 m1 m2 m3 m4 m5 hne LN2
              have hb8 := below_next hq (Nat.le_refl _) hq2
              go_wp2_with fail
              go_roundw
              case rel => exact ⟨k + 1, be', le', by omega, by go_num, rfl, rfl, hide (by rw [hf'.out, HE.out]; simp), hide (below_next hbx.out (Nat.le_refl _) hb8), hide (hBx.out.after hb8), hide (hBy.out.after hb8)⟩
              case measure => simp [intOf]; omega
            · by_cases hb0 : be' < 0
              · have hd : decide (be' < 0) = true := by simpa using hb0
                have HBT : Hid ((decide (be' < 0) || decide (d < le')) = true) := hide (by simp [hb0])
                go_wp2_with fail
                refine wp_region_calm (by kernel_rfl) (by kernel_rfl) ?_
                repeat (go_big_quiet_step (first | (go_at_call 56; exact calm_of (LN2 _))))
                refine wpQuiet_nil ?_
                rintro w6 ⟨⟨q3, hq2⟩, e3⟩
                have e4 : w6 = q3 := e3
                clear e3
                subst e4
                clear m0 m1 m2 m3 m4 m5 hne LN2
                have hb8 := below_next hq (Nat.le_refl _) hq2
                go_wp2_with fail
                go_roundw
                case rel => exact ⟨k + 1, k, d, by omega, by go_num, rfl, rfl, hide (by rw [hf'.out, HE.out, if_pos (by rw [show (decide ((be', le').1 < 0) || decide (d < (be', le').2)) = true from HBT.out]; rfl)]), hide (below_next hbx.out (Nat.le_refl _) hb8), hide (hBx.out.after hb8), hide (hBy.out.after hb8)⟩
                case measure => simp [intOf]; omega
              · have hd : decide (be' < 0) = false := by simpa using hb0
                by_cases hdl : d < le'
                · have hd2 : decide (d < le') = true := by simpa using hdl
                  have HBT : Hid ((decide (be' < 0) || decide (d < le')) = true) := hide (by simp [hdl])
                  go_wp2_with fail
                  refine wp_region_calm (by kernel_rfl) (by kernel_rfl) ?_
                  repeat (go_big_quiet_step (first | (go_at_call 56; exact calm_of (LN2 _))))
                  refine wpQuiet_nil ?_
                  rintro w6 ⟨⟨q3, hq2⟩, e3⟩
                  have e4 : w6 = q3 := e3
                  clear e3
                  subst e4
                  clear m0 m1 m2 m3 m4 m5 hne LN2
                  have hb8 := below_next hq (Nat.le_refl _) hq2
                  go_wp2_with fail
                  go_roundw
                  case rel => exact ⟨k + 1, k, d, by omega, by go_num, rfl, rfl, hide (by rw [hf'.out, HE.out, if_pos (by rw [show (decide ((be', le').1 < 0) || decide (d < (be', le').2)) = true from HBT.out]; rfl)]), hide (below_next hbx.out (Nat.le_refl _) hb8), hide (hBx.out.after hb8), hide (hBy.out.after hb8)⟩
                  case measure => simp [intOf]; omega
                · have hd2 : decide (d < le') = false := by simpa using hdl
                  have HBT : Hid ((decide (be' < 0) || decide (d < le')) = false) := hide (by simp; omega)
                  go_wp2_with fail
                  refine wp_region_calm (by kernel_rfl) (by kernel_rfl) ?_
                  repeat (go_big_quiet_step (first | (go_at_call 56; exact calm_of (LN2 _))))
                  refine wpQuiet_nil ?_
                  rintro w6 ⟨⟨q3, hq2⟩, e3⟩
                  have e4 : w6 = q3 := e3
                  clear e3
                  subst e4
                  clear m0 m1 m2 m3 m4 m5 hne LN2
                  have hb8 := below_next hq (Nat.le_refl _) hq2
                  go_wp2_with fail
                  go_roundw
                  case rel => exact ⟨k + 1, be', le', by omega, by go_num, rfl, rfl, hide (by rw [hf'.out, HE.out, if_neg (by rw [show (decide ((be', le').1 < 0) || decide (d < (be', le').2)) = false from HBT.out]; simp)]), hide (below_next hbx.out (Nat.le_refl _) hb8), hide (hBx.out.after hb8), hide (hBy.out.after hb8)⟩
                  case measure => simp [intOf]; omega
          · go_wp2_with fail
            go_ret2
            exact ⟨by rw [HI2.out, hf'.out, ralR_end P q rm (by rw [HN.out]; omega)]; rfl, hbx.out⟩
  · obtain ⟨rfl, rfl⟩ := HC1.out hs
    clear HC1 HC2 HC3 HC4 IN HR8
    go_wp2_with fail
    all_goals go_ret2
    all_goals exact ⟨rfl, hB⟩
end Go.Proofs.Ytnenbbkkhnlgbaa
