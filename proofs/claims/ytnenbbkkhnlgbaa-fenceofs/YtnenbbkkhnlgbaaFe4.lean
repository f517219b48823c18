/- Package fence: Holds, isLane, checkWay, Lane, Rally. -/
import Derived.Test.YtnenbbkkhnlgbaaFe3
namespace Go.Proofs.Ytnenbbkkhnlgbaa
open Go.RowKit Go.Great

theorem ints2g (w : World) (g : Nat) (hg : g = w.heap.size) (a b : Int) : Ints (w.alloc (.cells #[.int .i64 a, .int .i64 b] 3)) (.slice (some ⟨g, 0, none⟩) 2 2) [a, b] :=
  ints_row (heap_alloc_at w _ _ hg) 2 2 rfl
theorem b4 (w : World) (x y z u : Obj) : Below w.heap.size w ((((w.alloc x).alloc y).alloc z).alloc u) := below_next (b3 w x y z) (Nat.le_refl _) (below_alloc _ _)
theorem calls_span {v : Value} {x1 x2 y1 y2 : Int} {w : World} {t : Bool} (IN : ∀ W, Below w.heap.size w W → Calls Try.prog 52 #[v, .agg #[.int .i64 x1, .int .i64 x2], .agg #[.int .i64 y1, .int .i64 y2]] W fun e w' => e = .returned (.bool t) ∧ Below W.heap.size W w') {z1 z2 u1 u2 : Int} {W : World} (hb : Below w.heap.size w W) (e1 : z1 = x1) (e2 : z2 = x2) (e3 : u1 = y1) (e4 : u2 = y2) : Calls Try.prog 52 #[v, .agg #[.int .i64 z1, .int .i64 z2], .agg #[.int .i64 u1, .int .i64 u2]] W fun e w' => e = .returned (.bool t) ∧ Below W.heap.size W w' := by
  subst e1 e2 e3 e4
  exact IN W hb
set_option maxHeartbeats 4000000 in
theorem lane_fn (P : List Pt) (v : Value) (a b : Pt) (r : Int) (w : World) (hv : Pts w v P) (hs : simE P = 0) (ha : Fit a) (hb : Fit b) (hr : 0 ≤ r) : Calls Try.prog 55 #[v, pV a, pV b, .int .i64 r] w fun e w' => e = .returned (.bool (laB P a b r)) ∧ Below w.heap.size w w' := by
  obtain ⟨r', hr'⟩ : ∃ r', min r 536870913 = r' := ⟨_, rfl⟩
  have hr0 : 0 ≤ r' := by omega
  have hr1 : r' ≤ 536870913 := by omega
  have IN := fun W (hb : Below w.heap.size w W) => inside_fn P v (lnX a b r') (lnY a b r') W (hv.below hb) hs (ln_le a b hr0).1 (ln_le a b hr0).2
  rw [← ln_min P a b r, hr']
  simp only [laB] at IN ⊢
  generalize wiB P (lnX a b r') (lnY a b r') = t at IN ⊢
  obtain ⟨av, cap, rfl, hcl⟩ := hv
  clear hcl
  obtain ⟨a1, a2⟩ := a
  obtain ⟨b1, b2'⟩ := b
  obtain ⟨h1, h2, h3, h4⟩ := ha
  obtain ⟨h5, h6, h7, h8⟩ := hb
  simp only [pV, lnX, lnY] at *
  obtain ⟨x1, hx1⟩ : ∃ x, min a1 b1 - r' = x := ⟨_, rfl⟩
  obtain ⟨x2, hx2⟩ : ∃ x, max a1 b1 + r' = x := ⟨_, rfl⟩
  obtain ⟨y1, hy1⟩ : ∃ x, min a2 b2' - r' = x := ⟨_, rfl⟩
  obtain ⟨y2, hy2⟩ : ∃ x, max a2 b2' + r' = x := ⟨_, rfl⟩
  rw [hx1, hx2, hy1, hy2] at IN
  have gr : (r' = r ∧ r ≤ 536870913) ∨ (r' = 536870913 ∧ 536870913 ≤ r) := by omega
  have gx1 : (x1 = a1 - r' ∧ a1 ≤ b1) ∨ (x1 = b1 - r' ∧ b1 ≤ a1) := by omega
  have gx2 : (x2 = b1 + r' ∧ a1 ≤ b1) ∨ (x2 = a1 + r' ∧ b1 ≤ a1) := by omega
  have gy1 : (y1 = a2 - r' ∧ a2 ≤ b2') ∨ (y1 = b2' - r' ∧ b2' ≤ a2) := by omega
  have gy2 : (y2 = b2' + r' ∧ a2 ≤ b2') ∨ (y2 = a2 + r' ∧ b2' ≤ a2) := by omega
  have GR := hide gr
  have GX1 := hide gx1
  have GX2 := hide gx2
  have GY1 := hide gy1
  have GY2 := hide gy2
  clear hs hx1 hx2 hy1 hy2 hr' gr gx1 gx2 gy1 gy2
  go_enter Try.func55, Try.ntmps55
  go_wp2_with fail
  all_goals
    refine (calls_span IN (b4 _ _ _ _ _) (by have := GR.out; have := GX1.out; clear IN; omega) (by have := GR.out; have := GX2.out; clear IN; omega) (by have := GR.out; have := GY1.out; clear IN; omega) (by have := GR.out; have := GY2.out; clear IN; omega)).mono ?_
    rintro e w9 ⟨rfl, hb9⟩
    go_wp2_with fail
    go_ret
    exact ⟨rfl, below_next (b4 _ _ _ _ _) (Nat.le_refl _) hb9⟩
set_option maxRecDepth 100000 in
set_option maxHeartbeats 4000000 in
theorem way_any (P R ps : List Pt) (fl ce : Int) (p r v : Value) (rm : Int) (w : World) (hp : Pts w p P) (hr : Pts w r R) (hv : Pts w v ps) (hP : P.length ≤ 4611686018427387904) (hR : R.length ≤ 4611686018427387904) (hps : ps.length ≤ 4611686018427387904) : Calls Try.prog 54 #[fV p fl ce r, .int .i64 rm, v] w fun e w' => e = .returned (.int .i64 (wayE P fl ce R ps rm)) ∧ Below w.heap.size w w' := by
  have CH := fun W (hb : Below w.heap.size w W) => check_any P R fl ce p r W (hp.below hb) (hr.below hb) hP hR
  have HC : Hid (wayE P fl ce R ps rm = if chk P fl ce R = 0 then (if ps.all fitB then (if rm < 0 then 1 else 0) else 5) else chk P fl ce R) := rfl
  generalize wayE P fl ce R ps rm = c at HC ⊢
  have MB := fun (a b : Int) (W : World) (g : Nat) (hg : g = W.heap.size) => fmay_any [a, b] _ _ (ints2g W g hg a b) (by simp)
  simp only [mays2] at MB
  generalize chk P fl ce R = s at CH HC
  obtain ⟨al, hal⟩ : ∃ al, ps.all fitB = al := ⟨_, rfl⟩
  rw [hal] at HC
  have HC1 : Hid (s ≠ 0 → c = s) := fun h => by rw [HC.out, if_neg h]
  have HC2 : Hid (s = 0 → al = false → c = 5) := fun h e => by subst h e; exact HC.out
  have HC3 : Hid (s = 0 → al = true → rm < 0 → c = 1) := fun h e k => by subst h e; rw [HC.out, if_pos rfl, if_pos rfl, if_pos k]
  have HC4 : Hid (s = 0 → al = true → ¬ rm < 0 → c = 0) := fun h e k => by subst h e; rw [HC.out, if_pos rfl, if_pos rfl, if_neg k]
  have HAL := hide hal
  clear HC hal
  obtain ⟨ap, cp, rfl, _⟩ := hp
  obtain ⟨ar, cr, rfl, _⟩ := hr
  obtain ⟨av, cv, rfl, hcv⟩ := hv
  obtain ⟨n, hn⟩ : ∃ n, ps.length = n := ⟨_, rfl⟩
  obtain ⟨n1, hn1⟩ : ∃ n, P.length = n := ⟨_, rfl⟩
  obtain ⟨n2, hn2⟩ : ∃ n, R.length = n := ⟨_, rfl⟩
  have HN := hide hn
  have HCR := hide hcv
  rw [hn] at hps ⊢
  rw [hn1, hn2] at CH ⊢
  clear hn hn1 hn2 hcv hP hR
  simp only [fV] at *
  go_enter Try.func54, Try.ntmps54
  go_wp2_with fail
  refine (CH _ (below_alloc _ _)).mono ?_
  rintro e w1 ⟨rfl, hb1⟩
  have hB0 := below_over hb1
  clear hb1 CH
  by_cases hs : s = 0
  · subst hs
    go_wp2_with fail
    go_loopw [17] (fun i wx => ∃ k : Nat, k ≤ n ∧ i = .int .i64 k ∧ Hid (∀ j, j < k → fitB (ps.getD j (0, 0)) = true) ∧ Hid (Below w.heap.size w wx)) (fun i _ => n - (intOf i).toNat)
    case atStart => exact ⟨0, Nat.zero_le _, rfl, hide (fun j h => by omega), hide hB0⟩
    case round =>
      obtain ⟨k, hk, rfl, hf', hbx⟩ := hrel
      clear hB0
      by_cases hlt : k < n
      · obtain ⟨g, o, rfl, hg, hcc⟩ := HCR.out (by rw [HN.out]; omega)
        obtain ⟨c0, c1⟩ := hcc k (by rw [HN.out]; exact hlt)
        have q0 := (hbx.out.cell (p := ⟨g, o + k * 2, none⟩) hg).trans c0
        have q1 := (hbx.out.cell (p := ⟨g, o + k * 2 + 1, none⟩) hg).trans c1
        have MQ := fun W g hg => MB (ps.getD k (0, 0)).1 (ps.getD k (0, 0)).2 W g hg
        rw [← fit_may (ps.getD k (0, 0))] at MQ
        obtain ⟨ft, hft⟩ : ∃ b, fitB (ps.getD k (0, 0)) = b := ⟨_, rfl⟩
        rw [hft] at MQ
        have HFT := hide hft
        clear hft c0 c1 hcc MB
        generalize (ps.getD k (0, 0)).1 = x at *
        generalize (ps.getD k (0, 0)).2 = y at *
        have hsx := hbx.out.size
        go_wp2_with fail
        refine (MQ _ _ (size_alloc _ _).symm).mono ?_
        rintro e w5 ⟨rfl, hw5⟩
        have hb5 : Below wr.heap.size wr w5 := by rw [hw5]; exact b2 _ _ _
        clear hw5 MQ q0 q1
        have hb6 := below_next hbx.out (Nat.le_refl _) hb5
        cases ft
        · go_wp2_with fail
          go_ret
          exact ⟨ret_int (HC2.out (by trivial) (by rw [← HAL.out]; exact all_not (by rw [HN.out]; exact hlt) HFT.out)).symm, hb6⟩
        · go_wp2_with fail
          go_roundw
          case rel => exact ⟨k + 1, by omega, by go_num, hide (fun j hj => by
            by_cases e : j = k
            · rw [e]; exact HFT.out
            · exact hf'.out j (by omega)), hide hb6⟩
          case measure => simp [intOf]; omega
      · have HA2 : Hid (al = true) := by rw [← HAL.out]; exact all_at (fun j hj => hf'.out j (by rw [HN.out] at hj; omega))
        by_cases hr0 : rm < 0
        · go_wp2_with fail
          all_goals go_ret
          all_goals exact ⟨ret_int (HC3.out (by trivial) HA2.out hr0).symm, hbx.out⟩
        · go_wp2_with fail
          all_goals go_ret
          all_goals exact ⟨ret_int (HC4.out (by trivial) HA2.out hr0).symm, hbx.out⟩
  · go_wp2_with fail
    all_goals go_ret
    all_goals exact ⟨ret_int (HC1.out hs).symm, hB0⟩
end Go.Proofs.Ytnenbbkkhnlgbaa
