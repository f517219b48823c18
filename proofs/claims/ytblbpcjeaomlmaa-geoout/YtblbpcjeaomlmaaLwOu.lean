/- GeoOut. -/
import Derived.Test.YtblbpcjeaomlmaaLwSt
import Derived.Test.YtblbpcjeaomlmaaLwGd
namespace Go.Proofs.Ytblbpcjeaomlmaa
open Go.RowKit Go.Great

theorem corner_side {l : List Pt} {k : Nat} (h : simE l = 0) (hk : k < l.length) : sdI l (ptx l k, pty l k) = 0 ∧ sdE l (ptx l k, pty l k) = 0 := by
  have hf : fitB (ptx l k, pty l k) = true := at_all (sim_len h).2.2 hk
  unfold sdI sdE
  rw [if_pos h, if_pos h, if_pos hf, if_pos hf]
  exact ⟨sid_on hk (on_corner _ _), rfl⟩
theorem mid_fit {a b c : Int} (h : 2 * c = a + b) (ha : -536870912 ≤ a) (ha' : a ≤ 536870912) (hb : -536870912 ≤ b) (hb' : b ≤ 536870912) : -536870912 ≤ c ∧ c ≤ 536870912 := by omega
theorem middle_side {l : List Pt} {k : Nat} {x y : Int} (h : simE l = 0) (hk : k < l.length) (hx : 2 * x = ptx l k + ptx l (nxt l.length k)) (hy : 2 * y = pty l k + pty l (nxt l.length k)) : sdI l (x, y) = 0 ∧ sdE l (x, y) = 0 := by
  obtain ⟨a1, a2, a3, a4⟩ := fits_of (sim_len h).2.2 k hk
  obtain ⟨b1, b2, b3, b4⟩ := fits_of (sim_len h).2.2 _ (nxt_lt (m := l.length) (k := k) (by omega))
  have e1 := mid_fit hx a1 a2 b1 b2
  have e2 := mid_fit hy a3 a4 b3 b4
  have hf : fitB (x, y) = true := (fit_iff _).2 ⟨e1.1, e1.2, e2.1, e2.2⟩
  unfold sdI sdE
  rw [if_pos h, if_pos h, if_pos hf, if_pos hf]
  exact ⟨sid_on hk (on_middle hx hy), rfl⟩
theorem far_side {l : List Pt} {r d : Int} (h : simE l = 0) (hr : ∀ k, k < l.length → ptx l k ≤ r) (h0 : -536870912 ≤ r) (hd : 1 ≤ d) (hrd : r + d ≤ 536870912) : sdI l (r + d, pty l 0) = -1 ∧ sdE l (r + d, pty l 0) = 0 := by
  obtain ⟨a1, a2, a3, a4⟩ := fits_of (sim_len h).2.2 0 (by have := (sim_len h).1; omega)
  have hf : fitB (r + d, pty l 0) = true := (fit_iff _).2 ⟨by show _ ≤ r + d; omega, hrd, a3, a4⟩
  unfold sdI sdE
  rw [if_pos h, if_pos h, if_pos hf, if_pos hf]
  exact ⟨par_far (fun k hk => by have := hr k hk; show ptx l k < r + d; omega) (by have := (sim_len h).1; omega), rfl⟩
set_option maxRecDepth 100000 in
set_option maxHeartbeats 8000000 in
theorem out_walk (l : List Pt) (v : Value) (d : Int) (hd : I64 d) (w : World) (hv : PtsIn w v l) : Calls Try.prog 12 #[v, .int .i64 d] w fun e w' => e = .returned (.bool true) ∧ Below w.heap.size w w' := by
  have AW := awake_any
  have LE := fun W' (hb : Below w.heap.size w W') => lent_any l v W' ⟨hv.1.below hb, hv.2⟩
  have hl : l.length ≤ 4611686018427387904 := by have := hv.2.2; omega
  have SI := fun (W : World) (g n cap : Nat) (h : Pts W (.slice (some ⟨g, 0, none⟩) n cap) (l ++ [mark])) => simple_any l _ W h.own hl
  have SO := fun (x y : Int) (W : World) (g n cap : Nat) (h : Pts W (.slice (some ⟨g, 0, none⟩) n cap) (l ++ [mark])) => side_own l x y hl h
  have HCO : Hid (∀ k, simE l = 0 → k < l.length → sdI l (ptx l k, pty l k) = 0 ∧ sdE l (ptx l k, pty l k) = 0) := fun k => corner_side
  have HMI : Hid (∀ k x y, simE l = 0 → k < l.length → 2 * x = ptx l k + ptx l (nxt l.length k) → 2 * y = pty l k + pty l (nxt l.length k) → sdI l (x, y) = 0 ∧ sdE l (x, y) = 0) := fun k x y => middle_side
  have HFA : Hid (∀ r d, simE l = 0 → (∀ k, k < l.length → ptx l k ≤ r) → -536870912 ≤ r → 1 ≤ d → r + d ≤ 536870912 → sdI l (r + d, pty l 0) = -1 ∧ sdE l (r + d, pty l 0) = 0) := fun r d => far_side
  have HSL := hide (@sim_len l)
  have HV := hide hv.1
  obtain ⟨a, cap, rfl, hc⟩ := hv.1
  clear hv hc
  obtain ⟨m, hm⟩ : ∃ m, l.length = m := ⟨_, rfl⟩
  have HM := hide hm
  rw [hm] at LE SI SO HCO HMI HFA hl ⊢
  clear hm
  obtain ⟨E, hE⟩ : ∃ E, simE l = E := ⟨_, rfl⟩
  have HE := hide hE
  rw [hE] at SI HCO HMI HFA
  clear hE
  have hd1 := hd.1
  have hd2 := hd.2
  clear hd
  go_enter Try.func12, Try.ntmps12
  go_wp2_with fail
  refine (LE _ (Below.refl _ _)).mono ?_
  rintro e w1 ⟨g1, c1, rfl, hP1, _, hb1⟩
  go_wp2_with fail
  refine (SI _ _ _ _ hP1).mono ?_
  rintro e w2 ⟨rfl, hb2⟩
  have hB := below_next hb1 (Nat.le_refl _) hb2
  clear hP1 hb1 hb2 SI
  by_cases hE0 : E = 0
  · subst hE0
    obtain ⟨h3, h64, hall⟩ := HSL.out HE.out
    have hml := HM.out
    obtain ⟨a', cap', hsl, hcc0⟩ := HV.out.below hB
    injection hsl with ea em ec
    subst ea ec
    obtain ⟨g, o, rfl, hg, hcc⟩ := hcc0 (by omega)
    have hpo : Poly w2 g o m cap l := by have := poly_of (cap := cap) (by omega) (by omega) hg hcc; rw [hml] at this; exact this
    have HPO := hide hpo
    have HFit := hide (fun k (hk : k < m) => fits_of hall k (by omega))
    have hm3 : 3 ≤ m := by omega
    have hm64 : m ≤ 64 := by omega
    have HCO' := hide (fun k => HCO.out k (by trivial))
    have HMI' := hide (fun k x y => HMI.out k x y (by trivial))
    have HFA' := hide (fun r d => HFA.out r d (by trivial))
    have HB := hide hB
    have HPI := hide (HB.out)
    obtain ⟨a0, a1⟩ := hpo.at' 0 (by omega)
    simp only [Nat.zero_mul, Nat.add_zero] at a0 a1
    have hx0 := (HFit.out 0 (by omega)).1
    have hx1 := (HFit.out 0 (by omega)).2.1
    clear hcc hcc0 em h3 h64 hall hml hpo hB HSL HV HM HE HCO HMI HFA
    simp only [pt] at hx0 hx1
    generalize hx : ptx l 0 = X0 at *
    have HX := hide hx
    clear hx
    go_wp2_with fail
    go_loopw [5, 6] (fun r i wx => ∃ (k : Nat) (z : Int), k ≤ m ∧ i = .int .i64 k ∧ r = .int .i64 z ∧ -536870912 ≤ z ∧ z ≤ 536870912 ∧ Hid (∀ j, j < k → ptx l j ≤ z) ∧ Hid (Below w2.heap.size w2 wx)) (fun _ i _ => m - (intOf i).toNat)
    case atStart => exact ⟨0, X0, by omega, rfl, rfl, hx0, hx1, hide (by intro j h; omega), hide (Below.refl _ _)⟩
    case round =>
      obtain ⟨k, z, hk, rfl, rfl, hz0, hz1, hf, hb⟩ := hrel
      by_cases hlt : k < m
      · have hpw := hide (HPO.out.below hb.out)
        have gl := hpw.out.lt
        obtain ⟨b0, b1⟩ := hpw.out.at' k hlt
        obtain ⟨n0, n1⟩ := hpw.out.at' _ (nxt_lt (k := k) (m := m) (by omega))
        obtain ⟨f1, f2, f3, f4⟩ := HFit.out k hlt
        obtain ⟨f5, f6, f7, f8⟩ := HFit.out _ (nxt_lt (k := k) (m := m) (by omega))
        simp only [pt] at f1 f2 f3 f4 f5 f6 f7 f8
        obtain ⟨s1, s2⟩ := HCO'.out k hlt
        have S1 := SO (ptx l k) (pty l k)
        rw [s1, s2] at S1
        have HMk := hide (fun x y => HMI'.out k x y hlt)
        have hrem : ((k : Int) + 1) % (m : Int) = ((nxt m k : Nat) : Int) := rfl
        have hnl : ((nxt m k : Nat) : Int) < m := by have := nxt_lt (m := m) (k := k) (by omega); omega
        have hm0 : (m : Int) ≠ 0 := by omega
        have hf' : Hid (∀ j, j < k + 1 → ptx l j ≤ max z (ptx l k)) := fun j hj => by
          by_cases e : j = k
          · subst e; omega
          · have := hf.out j (by omega); omega
        have hzz : -536870912 ≤ max z (ptx l k) ∧ max z (ptx l k) ≤ 536870912 := by omega
        have HZZ := hide hzz
        clear s1 s2 hf hzz
        generalize ptx l (nxt m k) = xb at *
        generalize pty l (nxt m k) = yb at *
        generalize hxa : ptx l k = xa at *
        generalize hya : pty l k = ya at *
        generalize nxt m k = kn at *
        clear hxa hya
        obtain ⟨W3, hW3⟩ : ∃ W3, W3 = wr := ⟨_, rfl⟩
        subst hW3
        have HBW := hide (below_next HB.out (Nat.le_refl _) hb.out)
        have HBk := hb
        clear hb
        go_upto_region 8 with fail
        obtain ⟨z', hz'⟩ : ∃ z', (if z < xa then xa else z) = z' := ⟨_, rfl⟩
        rw [hz']
        have hmx : z' = max z xa := by rw [← hz']; split <;> omega
        have HZ' : Hid ((-536870912 ≤ z' ∧ z' ≤ 536870912) ∧ ∀ j, j < k + 1 → ptx l j ≤ z') := by rw [hmx]; exact ⟨HZZ.out, hf'.out⟩
        clear hz' hmx HZZ hf' hz0 hz1
        go_cut [7, 8] (fun x y wx => x = .int .i64 0 ∧ y = .int .i64 0 ∧ Below W3.heap.size W3 wx)
        case first =>
          go_region_with (first
            | (go_at_call 21; refine (LE _ HBW.out.drew).mono ?_; rintro e w1 ⟨g1, c1', rfl, hP1, _, hb1⟩; have hb1' : Below W3.heap.size W3 w1 := below_next (Below.refl _ _).drew (Nat.le_refl _) hb1; have kk0 := (hb1'.cell (p := ⟨g, o + k * 2, none⟩) gl).trans b0; have kk1 := (hb1'.cell (p := ⟨g, o + k * 2 + 1, none⟩) gl).trans b1)
            | (go_at_call 27; refine (S1 _ _ _ _ hP1).mono ?_; rintro e w2 ⟨rfl, hb2⟩))
          all_goals go_wp2_with fail
          all_goals go_meet
          all_goals exact ⟨rfl, rfl, below_next hb1' (Nat.le_refl _) hb2⟩
        case rest =>
          obtain ⟨rfl, rfl, hb4⟩ := hcut
          obtain ⟨W4, hW4⟩ : ∃ W4, W4 = wc := ⟨_, rfl⟩
          subst hW4
          have b40 := (hb4.cell (p := ⟨g, o + k * 2, none⟩) gl).trans b0
          have b41 := (hb4.cell (p := ⟨g, o + k * 2 + 1, none⟩) gl).trans b1
          have n40 := (hb4.cell (p := ⟨g, o + kn * 2, none⟩) gl).trans n0
          have n41 := (hb4.cell (p := ⟨g, o + kn * 2 + 1, none⟩) gl).trans n1
          have gl4 : g < W4.heap.size := by have := hb4.size; omega
          have HB4 := hide (below_next HBW.out (Nat.le_refl _) hb4)
          have HK4 := hide (below_next HBk.out (Nat.le_refl _) hb4)
          clear b0 b1 n0 n1 hb4 S1 HBW HBk gl
          go_upto_region 12 with fail
          have Q0 : Blk (W4.alloc (.cells #[.int .i64 xb, .int .i64 yb] 23)) W4.heap.size #[.int .i64 xb, .int .i64 yb] 23 := Blk.new _ _ _
          have hb5 := below_alloc W4 (.cells #[.int .i64 xb, .int .i64 yb] 23)
          obtain ⟨W5, hW5⟩ : ∃ W5, W4.alloc (.cells #[.int .i64 xb, .int .i64 yb] 23) = W5 := ⟨_, rfl⟩
          rw [hW5] at Q0 hb5 ⊢
          clear hW5
          have b0 := (hb5.cell (p := ⟨g, o + k * 2, none⟩) gl4).trans b40
          have b1 := (hb5.cell (p := ⟨g, o + k * 2 + 1, none⟩) gl4).trans b41
          have gl5 : g < W5.heap.size := by have := hb5.size; omega
          have HB5 := hide (below_next HB4.out (Nat.le_refl _) hb5)
          have HK5 := hide (below_next HK4.out (Nat.le_refl _) hb5)
          have q0 := Q0.cell 0 rfl
          have q1 := Q0.cell 1 rfl
          clear b40 b41 n40 n41 hb5 HB4 HK4
          by_cases ev : (xa + xb).tmod 2 = 0
          · by_cases ew : (ya + yb).tmod 2 = 0
            · have dv : decide ((xa + xb).tmod 2 = 0) = true := decide_eq_true ev
              have dw : decide ((ya + yb).tmod 2 = 0) = true := decide_eq_true ew
              obtain ⟨s1, s2⟩ := HMk.out ((xa + xb).tdiv 2) ((ya + yb).tdiv 2) (by have := Int.tmod_add_mul_tdiv (xa + xb) 2; omega) (by have := Int.tmod_add_mul_tdiv (ya + yb) 2; omega)
              have hqx : -536870912 ≤ (xa + xb).tdiv 2 ∧ (xa + xb).tdiv 2 ≤ 536870912 := by have := Int.tmod_add_mul_tdiv (xa + xb) 2; omega
              have hqy : -536870912 ≤ (ya + yb).tdiv 2 ∧ (ya + yb).tdiv 2 ≤ 536870912 := by have := Int.tmod_add_mul_tdiv (ya + yb) 2; omega
              have S2 := SO ((xa + xb).tdiv 2) ((ya + yb).tdiv 2)
              rw [s1, s2] at S2
              clear s1 s2
              go_quiet (fail)
              go_upto_region 13 with fail
              have hb6 : Below W5.heap.size W5 (W5.drewN nq) := below_drewN (Below.refl _ _) _
              obtain ⟨W6, hW6⟩ : ∃ W6, W5.drewN nq = W6 := ⟨_, rfl⟩
              rw [hW6] at hb6 ⊢
              clear hW6
              have Q6 := Q0.after hb6
              have b60 := (hb6.cell (p := ⟨g, o + k * 2, none⟩) gl5).trans b0
              have b61 := (hb6.cell (p := ⟨g, o + k * 2 + 1, none⟩) gl5).trans b1
              have q60 := Q6.cell 0 rfl
              have q61 := Q6.cell 1 rfl
              have gl6 : g < W6.heap.size := by have := hb6.size; omega
              have HB6 := hide (below_next HB5.out (Nat.le_refl _) hb6)
              have HK6 := hide (below_next HK5.out (Nat.le_refl _) hb6)
              clear b0 b1 q0 q1 hb6 HB5 HK5 Q0 ev ew dv dw gl5
              generalize W4.heap.size = QB at *
              go_cut [7, 8] (fun x y wx => x = .int .i64 0 ∧ y = .int .i64 0 ∧ Below W6.heap.size W6 wx)
              case first =>
                refine wp_region_held_drew (S := fun wx => wx.cell? ⟨g, o + k * 2, none⟩ = some (.int .i64 xa) ∧ wx.cell? ⟨g, o + k * 2 + 1, none⟩ = some (.int .i64 ya) ∧ wx.cell? ⟨QB, 0, none⟩ = some (.int .i64 xb) ∧ wx.cell? ⟨QB, 1, none⟩ = some (.int .i64 yb)) (by kernel_rfl) (by exact ⟨b60, b61, q60, q61⟩) (fun hHeld => ?_)
                refine take_at (i := 0) (v := slc g o m cap) (d := some 81) rfl rfl (by kernel_rfl) (by kernel_rfl) (by kernel_rfl) (fun _ _ _ h => h) (Or.inl ⟨by rfl, fun wS ⟨hS0, hS1, hS2, hS3⟩ => by go_simp; all_goals (first | (rw [IntKind.wrap_i64]; omega) | (intro hq; exfalso; omega))⟩) (by assumption) ?_
                simp only [Act.put, List.setIfInBounds_toArray, List.set_cons_zero, List.set_cons_succ]
                refine take_at (i := 2) (v := slc g o m cap) (d := some 83) rfl rfl (by kernel_rfl) (by kernel_rfl) (by kernel_rfl) (fun _ _ _ h => h) (Or.inl ⟨by rfl, fun wS ⟨hS0, hS1, hS2, hS3⟩ => by go_simp; all_goals (first | (rw [IntKind.wrap_i64]; omega) | (intro hq; exfalso; omega))⟩) (by assumption) ?_
                simp only [Act.put, List.setIfInBounds_toArray, List.set_cons_zero, List.set_cons_succ]
                refine take_at (i := 3) (v := .int .i64 (k : Int)) (d := some 84) rfl rfl (by kernel_rfl) (by kernel_rfl) (by kernel_rfl) (fun _ _ _ h => h) (Or.inl ⟨by rfl, fun wS ⟨hS0, hS1, hS2, hS3⟩ => by go_simp; all_goals (first | (rw [IntKind.wrap_i64]; omega) | (intro hq; exfalso; omega))⟩) (by assumption) ?_
                simp only [Act.put, List.setIfInBounds_toArray, List.set_cons_zero, List.set_cons_succ]
                refine take_at (i := 4) (v := .pointer (some ⟨g, o + k * 2, none⟩)) (d := some 85) rfl rfl (by kernel_rfl) (by kernel_rfl) (by kernel_rfl) (fun _ _ _ h => h) (Or.inl ⟨by rfl, fun wS ⟨hS0, hS1, hS2, hS3⟩ => by go_simp; all_goals (first | (rw [IntKind.wrap_i64]; omega) | (intro hq; exfalso; omega))⟩) (by assumption) ?_
                simp only [Act.put, List.setIfInBounds_toArray, List.set_cons_zero, List.set_cons_succ]
                refine take_at (i := 5) (v := .pointer (some ⟨g, o + k * 2, none⟩)) (d := some 86) rfl rfl (by kernel_rfl) (by kernel_rfl) (by kernel_rfl) (fun _ _ _ h => h) (Or.inl ⟨by rfl, fun wS ⟨hS0, hS1, hS2, hS3⟩ => by go_simp; all_goals (first | (rw [IntKind.wrap_i64]; omega) | (intro hq; exfalso; omega))⟩) (by assumption) ?_
                simp only [Act.put, List.setIfInBounds_toArray, List.set_cons_zero, List.set_cons_succ]
                refine take_at (i := 6) (v := .int .i64 xa) (d := some 87) rfl rfl (by kernel_rfl) (by kernel_rfl) (by kernel_rfl) (fun _ _ _ h => h) (Or.inl ⟨by rfl, fun wS ⟨hS0, hS1, hS2, hS3⟩ => by go_simp; all_goals (first | (rw [IntKind.wrap_i64]; omega) | (intro hq; exfalso; omega))⟩) (by assumption) ?_
                simp only [Act.put, List.setIfInBounds_toArray, List.set_cons_zero, List.set_cons_succ]
                refine take_at (i := 7) (v := .pointer (some ⟨QB, 0, none⟩)) (d := some 88) rfl rfl (by kernel_rfl) (by kernel_rfl) (by kernel_rfl) (fun _ _ _ h => h) (Or.inl ⟨by rfl, fun wS ⟨hS0, hS1, hS2, hS3⟩ => by go_simp; all_goals (first | (rw [IntKind.wrap_i64]; omega) | (intro hq; exfalso; omega))⟩) (by assumption) ?_
                simp only [Act.put, List.setIfInBounds_toArray, List.set_cons_zero, List.set_cons_succ]
                refine take_at (i := 8) (v := .int .i64 xb) (d := some 89) rfl rfl (by kernel_rfl) (by kernel_rfl) (by kernel_rfl) (fun _ _ _ h => h) (Or.inl ⟨by rfl, fun wS ⟨hS0, hS1, hS2, hS3⟩ => by go_simp; all_goals (first | (rw [IntKind.wrap_i64]; omega) | (intro hq; exfalso; omega))⟩) (by assumption) ?_
                simp only [Act.put, List.setIfInBounds_toArray, List.set_cons_zero, List.set_cons_succ]
                refine take_at (i := 9) (v := .int .i64 (xa + xb)) (d := some 90) rfl rfl (by kernel_rfl) (by kernel_rfl) (by kernel_rfl) (fun _ _ _ h => h) (Or.inl ⟨by rfl, fun wS ⟨hS0, hS1, hS2, hS3⟩ => by go_simp; all_goals (first | (rw [IntKind.wrap_i64]; omega) | (intro hq; exfalso; omega))⟩) (by assumption) ?_
                simp only [Act.put, List.setIfInBounds_toArray, List.set_cons_zero, List.set_cons_succ]
                refine take_at (i := 10) (v := .int .i64 ((xa + xb).tdiv 2)) (d := some 91) rfl rfl (by kernel_rfl) (by kernel_rfl) (by kernel_rfl) (fun _ _ _ h => h) (Or.inl ⟨by rfl, fun wS ⟨hS0, hS1, hS2, hS3⟩ => by go_simp; all_goals (first | (rw [IntKind.wrap_i64]; omega) | (intro hq; exfalso; omega))⟩) (by assumption) ?_
                simp only [Act.put, List.setIfInBounds_toArray, List.set_cons_zero, List.set_cons_succ]
                refine take_at (i := 11) (v := slc g o m cap) (d := some 92) rfl rfl (by kernel_rfl) (by kernel_rfl) (by kernel_rfl) (fun _ _ _ h => h) (Or.inl ⟨by rfl, fun wS ⟨hS0, hS1, hS2, hS3⟩ => by go_simp; all_goals (first | (rw [IntKind.wrap_i64]; omega) | (intro hq; exfalso; omega))⟩) (by assumption) ?_
                simp only [Act.put, List.setIfInBounds_toArray, List.set_cons_zero, List.set_cons_succ]
                refine take_at (i := 12) (v := .int .i64 (k : Int)) (d := some 93) rfl rfl (by kernel_rfl) (by kernel_rfl) (by kernel_rfl) (fun _ _ _ h => h) (Or.inl ⟨by rfl, fun wS ⟨hS0, hS1, hS2, hS3⟩ => by go_simp; all_goals (first | (rw [IntKind.wrap_i64]; omega) | (intro hq; exfalso; omega))⟩) (by assumption) ?_
                simp only [Act.put, List.setIfInBounds_toArray, List.set_cons_zero, List.set_cons_succ]
                refine take_at (i := 13) (v := .pointer (some ⟨g, o + k * 2, none⟩)) (d := some 94) rfl rfl (by kernel_rfl) (by kernel_rfl) (by kernel_rfl) (fun _ _ _ h => h) (Or.inl ⟨by rfl, fun wS ⟨hS0, hS1, hS2, hS3⟩ => by go_simp; all_goals (first | (rw [IntKind.wrap_i64]; omega) | (intro hq; exfalso; omega))⟩) (by assumption) ?_
                simp only [Act.put, List.setIfInBounds_toArray, List.set_cons_zero, List.set_cons_succ]
                refine take_at (i := 14) (v := .pointer (some ⟨g, o + k * 2 + 1, none⟩)) (d := some 95) rfl rfl (by kernel_rfl) (by kernel_rfl) (by kernel_rfl) (fun _ _ _ h => h) (Or.inl ⟨by rfl, fun wS ⟨hS0, hS1, hS2, hS3⟩ => by go_simp; all_goals (first | (rw [IntKind.wrap_i64]; omega) | (intro hq; exfalso; omega))⟩) (by assumption) ?_
                simp only [Act.put, List.setIfInBounds_toArray, List.set_cons_zero, List.set_cons_succ]
                refine take_at (i := 15) (v := .int .i64 ya) (d := some 96) rfl rfl (by kernel_rfl) (by kernel_rfl) (by kernel_rfl) (fun _ _ _ h => h) (Or.inl ⟨by rfl, fun wS ⟨hS0, hS1, hS2, hS3⟩ => by go_simp; all_goals (first | (rw [IntKind.wrap_i64]; omega) | (intro hq; exfalso; omega))⟩) (by assumption) ?_
                simp only [Act.put, List.setIfInBounds_toArray, List.set_cons_zero, List.set_cons_succ]
                refine take_at (i := 16) (v := .pointer (some ⟨QB, 1, none⟩)) (d := some 97) rfl rfl (by kernel_rfl) (by kernel_rfl) (by kernel_rfl) (fun _ _ _ h => h) (Or.inl ⟨by rfl, fun wS ⟨hS0, hS1, hS2, hS3⟩ => by go_simp; all_goals (first | (rw [IntKind.wrap_i64]; omega) | (intro hq; exfalso; omega))⟩) (by assumption) ?_
                simp only [Act.put, List.setIfInBounds_toArray, List.set_cons_zero, List.set_cons_succ]
                refine take_at (i := 17) (v := .int .i64 yb) (d := some 98) rfl rfl (by kernel_rfl) (by kernel_rfl) (by kernel_rfl) (fun _ _ _ h => h) (Or.inl ⟨by rfl, fun wS ⟨hS0, hS1, hS2, hS3⟩ => by go_simp; all_goals (first | (rw [IntKind.wrap_i64]; omega) | (intro hq; exfalso; omega))⟩) (by assumption) ?_
                simp only [Act.put, List.setIfInBounds_toArray, List.set_cons_zero, List.set_cons_succ]
                refine take_at (i := 18) (v := .int .i64 (ya + yb)) (d := some 99) rfl rfl (by kernel_rfl) (by kernel_rfl) (by kernel_rfl) (fun _ _ _ h => h) (Or.inl ⟨by rfl, fun wS ⟨hS0, hS1, hS2, hS3⟩ => by go_simp; all_goals (first | (rw [IntKind.wrap_i64]; omega) | (intro hq; exfalso; omega))⟩) (by assumption) ?_
                simp only [Act.put, List.setIfInBounds_toArray, List.set_cons_zero, List.set_cons_succ]
                refine take_at (i := 19) (v := .int .i64 ((ya + yb).tdiv 2)) (d := some 100) rfl rfl (by kernel_rfl) (by kernel_rfl) (by kernel_rfl) (fun _ _ _ h => h) (Or.inl ⟨by rfl, fun wS ⟨hS0, hS1, hS2, hS3⟩ => by go_simp; all_goals (first | (rw [IntKind.wrap_i64]; omega) | (intro hq; exfalso; omega))⟩) (by assumption) ?_
                simp only [Act.put, List.setIfInBounds_toArray, List.set_cons_zero, List.set_cons_succ]
                refine wpAnyH_ready (rs := [1]) (by kernel_rfl) (by simp) ?_
                refine AllReadyH.cons rfl (fun K hK => ?_) AllReadyH.nil
                go_simp
                refine (LE _ (HB6.out.drew)).mono ?_
                rintro e w1 ⟨g1', c1', rfl, hP1, _, hb1⟩
                have hb1' : Below W6.heap.size W6 w1 := below_next (Below.refl _ _).drew (Nat.le_refl _) hb1
                clear hHeld
                refine hK.out _ _ (⟨(hb1'.cell (p := ⟨g, o + k * 2, none⟩) gl6).trans b60, (hb1'.cell (p := ⟨g, o + k * 2 + 1, none⟩) gl6).trans b61, (Q6.after hb1').cell 0 rfl, (Q6.after hb1').cell 1 rfl⟩) (fun hHeld => ?_)
                clear hK K
                refine wpAnyH_ready (rs := [20]) (by kernel_rfl) (by simp) ?_
                refine AllReadyH.cons rfl (fun K hK => ?_) AllReadyH.nil
                go_simp
                refine (at_below _ _ _).mono ?_
                rintro e w9 ⟨rfl, hb9⟩
                have hb9' : Below W6.heap.size W6 w9 := below_next hb1' (Nat.le_refl _) hb9
                replace hP1 := hP1.below hb9
                clear hHeld
                refine hK.out _ _ (⟨(hb9'.cell (p := ⟨g, o + k * 2, none⟩) gl6).trans b60, (hb9'.cell (p := ⟨g, o + k * 2 + 1, none⟩) gl6).trans b61, (Q6.after hb9').cell 0 rfl, (Q6.after hb9').cell 1 rfl⟩) (fun hHeld => ?_)
                clear hK K
                refine wpAnyH_ready (rs := [21]) (by kernel_rfl) (by simp) ?_
                refine AllReadyH.cons rfl (fun K hK => ?_) AllReadyH.nil
                go_simp
                refine (S2 _ _ _ _ hP1).mono ?_
                rintro e w2 ⟨rfl, hb2⟩
                have hb2' : Below W6.heap.size W6 w2 := below_next hb9' (Nat.le_refl _) hb2
                clear hHeld
                refine hK.out _ _ (⟨(hb2'.cell (p := ⟨g, o + k * 2, none⟩) gl6).trans b60, (hb2'.cell (p := ⟨g, o + k * 2 + 1, none⟩) gl6).trans b61, (Q6.after hb2').cell 0 rfl, (Q6.after hb2').cell 1 rfl⟩) (fun hHeld => ?_)
                clear hK K
                refine take_at (i := 22) (v := .tuple #[.int .i64 0, .int .i64 0]) (d := some 80) rfl rfl (by kernel_rfl) (by kernel_rfl) (by kernel_rfl) (fun _ _ _ h => h) (Or.inl ⟨by rfl, fun wS ⟨hS0, hS1, hS2, hS3⟩ => by go_simp; all_goals (first | (rw [IntKind.wrap_i64]; omega) | (intro hq; exfalso; omega))⟩) (by assumption) ?_
                simp only [Act.put, List.setIfInBounds_toArray, List.set_cons_zero, List.set_cons_succ]
                refine take_at (i := 23) (v := .int .i64 0) (d := some 103) rfl rfl (by kernel_rfl) (by kernel_rfl) (by kernel_rfl) (fun _ _ _ h => h) (Or.inl ⟨by rfl, fun wS ⟨hS0, hS1, hS2, hS3⟩ => by go_simp; all_goals (first | (rw [IntKind.wrap_i64]; omega) | (intro hq; exfalso; omega))⟩) (by assumption) ?_
                simp only [Act.put, List.setIfInBounds_toArray, List.set_cons_zero, List.set_cons_succ]
                refine take_at (i := 24) (v := .int .i64 0) (d := some 104) rfl rfl (by kernel_rfl) (by kernel_rfl) (by kernel_rfl) (fun _ _ _ h => h) (Or.inl ⟨by rfl, fun wS ⟨hS0, hS1, hS2, hS3⟩ => by go_simp; all_goals (first | (rw [IntKind.wrap_i64]; omega) | (intro hq; exfalso; omega))⟩) (by assumption) ?_
                simp only [Act.put, List.setIfInBounds_toArray, List.set_cons_zero, List.set_cons_succ]
                refine take_at (i := 25) (v := .int .i64 0) (d := some 7) rfl rfl (by kernel_rfl) (by kernel_rfl) (by kernel_rfl) (fun _ _ _ h => h) (Or.inl ⟨by rfl, fun wS ⟨hS0, hS1, hS2, hS3⟩ => by go_simp; all_goals (first | (rw [IntKind.wrap_i64]; omega) | (intro hq; exfalso; omega))⟩) (by assumption) ?_
                simp only [Act.put, List.setIfInBounds_toArray, List.set_cons_zero, List.set_cons_succ]
                refine take_at (i := 26) (v := .int .i64 0) (d := some 8) rfl rfl (by kernel_rfl) (by kernel_rfl) (by kernel_rfl) (fun _ _ _ h => h) (Or.inl ⟨by rfl, fun wS ⟨hS0, hS1, hS2, hS3⟩ => by go_simp; all_goals (first | (rw [IntKind.wrap_i64]; omega) | (intro hq; exfalso; omega))⟩) (by assumption) ?_
                simp only [Act.put, List.setIfInBounds_toArray, List.set_cons_zero, List.set_cons_succ]
                refine wpAnyH_done (by kernel_rfl) ?_ _
                go_wp2_with fail
                go_meet
                exact ⟨rfl, rfl, hb2'⟩
              case rest =>
                obtain ⟨rfl, rfl, hb7⟩ := hcut
                have HK7 := hide (below_next HK6.out (Nat.le_refl _) hb7)
                clear hb7 HK6 HB6 b60 b61 q60 q61 Q6
                go_wp2_with fail
                go_roundw
                case rel => exact ⟨k + 1, z', by omega, by go_num, rfl, HZ'.out.1.1, HZ'.out.1.2, hide HZ'.out.2, HK7⟩
                case measure => simp [intOf]; omega
            · have dv : decide ((xa + xb).tmod 2 = 0) = true := decide_eq_true ev
              have dw : decide ((ya + yb).tmod 2 = 0) = false := decide_eq_false ew
              have dw' : ((ya + yb).tmod 2 == 0) = false := by simp [ew]
              go_quiet (fail)
              go_wp2_with fail
              go_roundw
              case rel => exact ⟨k + 1, z', by omega, by go_num, rfl, HZ'.out.1.1, HZ'.out.1.2, hide HZ'.out.2, hide (below_drewN HK5.out _)⟩
              case measure => simp [intOf]; omega
          · have dv : decide ((xa + xb).tmod 2 = 0) = false := decide_eq_false ev
            have dv' : ((xa + xb).tmod 2 == 0) = false := by simp [ev]
            go_quiet (fail)
            go_wp2_with fail
            go_roundw
            case rel => exact ⟨k + 1, z', by omega, by go_num, rfl, HZ'.out.1.1, HZ'.out.1.2, hide HZ'.out.2, hide (below_drewN HK5.out _)⟩
            case measure => simp [intOf]; omega
      · obtain ⟨W6, hW6⟩ : ∃ W6, W6 = wr := ⟨_, rfl⟩
        subst hW6
        have gl6 := (HPO.out.below hb.out).lt
        have HB6 := hide (below_next HB.out (Nat.le_refl _) hb.out)
        have b60 := (hb.out.cell (p := ⟨g, o + 1, none⟩) hg).trans a1
        have HFF := hide (fun (h1 : 1 ≤ d) (h2 : z + d ≤ 536870912) => HFA'.out z d (fun j hj => hf.out j (by omega)) hz0 h1 h2)
        have SO' := SO (z + d) (pty l 0)
        obtain ⟨Y0, hY⟩ : ∃ Y0, pty l 0 = Y0 := ⟨_, rfl⟩
        rw [hY] at b60 HFF SO'
        clear hY a0 a1 hf hb HCO' HMI' HFA' HPI SO
        by_cases e1 : d < 1
        · go_wp2_with fail
          refine (AW _).mono ?_
          rintro e w9 ⟨rfl, hb9⟩
          go_wp2_with fail
          go_ret
          exact ⟨rfl, below_next HB6.out (Nat.le_refl _) hb9⟩
        by_cases e2 : 536870912 - d < z
        · go_wp2_with fail
          refine (AW _).mono ?_
          rintro e w9 ⟨rfl, hb9⟩
          go_wp2_with fail
          go_ret
          exact ⟨rfl, below_next HB6.out (Nat.le_refl _) hb9⟩
        · obtain ⟨s1, s2⟩ := HFF.out (by omega) (by omega)
          have S3 := SO'
          rw [s1, s2] at S3
          clear s1 s2 SO' HFF
          go_upto_region 18 with fail
          go_cut [10, 11] (fun x y wx => x = .int .i64 (-1) ∧ y = .int .i64 0 ∧ Below W6.heap.size W6 wx)
          case first =>
            refine wp_region_held_drew (S := fun wx => wx.cell? ⟨g, o + 1, none⟩ = some (.int .i64 Y0)) (by kernel_rfl) (by exact b60) (fun hHeld => ?_)
            refine take_at (i := 0) (v := slc g o m cap) (d := some 121) rfl rfl (by kernel_rfl) (by kernel_rfl) (by kernel_rfl) (fun _ _ _ h => h) (Or.inl ⟨by rfl, fun wS hS0 => by go_simp; all_goals (first | (rw [IntKind.wrap_i64]; omega) | (intro hq; exfalso; omega))⟩) (by assumption) ?_
            simp only [Act.put, List.setIfInBounds_toArray, List.set_cons_zero, List.set_cons_succ]
            refine take_at (i := 2) (v := .int .i64 z) (d := some 123) rfl rfl (by kernel_rfl) (by kernel_rfl) (by kernel_rfl) (fun _ _ _ h => h) (Or.inl ⟨by rfl, fun wS hS0 => by go_simp; all_goals (first | (rw [IntKind.wrap_i64]; omega) | (intro hq; exfalso; omega))⟩) (by assumption) ?_
            simp only [Act.put, List.setIfInBounds_toArray, List.set_cons_zero, List.set_cons_succ]
            refine take_at (i := 3) (v := .int .i64 d) (d := some 124) rfl rfl (by kernel_rfl) (by kernel_rfl) (by kernel_rfl) (fun _ _ _ h => h) (Or.inl ⟨by rfl, fun wS hS0 => by go_simp; all_goals (first | (rw [IntKind.wrap_i64]; omega) | (intro hq; exfalso; omega))⟩) (by assumption) ?_
            simp only [Act.put, List.setIfInBounds_toArray, List.set_cons_zero, List.set_cons_succ]
            refine take_at (i := 4) (v := .int .i64 (z + d)) (d := some 125) rfl rfl (by kernel_rfl) (by kernel_rfl) (by kernel_rfl) (fun _ _ _ h => h) (Or.inl ⟨by rfl, fun wS hS0 => by go_simp; all_goals (first | (rw [IntKind.wrap_i64]; omega) | (intro hq; exfalso; omega))⟩) (by assumption) ?_
            simp only [Act.put, List.setIfInBounds_toArray, List.set_cons_zero, List.set_cons_succ]
            refine take_at (i := 5) (v := slc g o m cap) (d := some 126) rfl rfl (by kernel_rfl) (by kernel_rfl) (by kernel_rfl) (fun _ _ _ h => h) (Or.inl ⟨by rfl, fun wS hS0 => by go_simp; all_goals (first | (rw [IntKind.wrap_i64]; omega) | (intro hq; exfalso; omega))⟩) (by assumption) ?_
            simp only [Act.put, List.setIfInBounds_toArray, List.set_cons_zero, List.set_cons_succ]
            refine take_at (i := 6) (v := .pointer (some ⟨g, o, none⟩)) (d := some 127) rfl rfl (by kernel_rfl) (by kernel_rfl) (by kernel_rfl) (fun _ _ _ h => h) (Or.inl ⟨by rfl, fun wS hS0 => by go_simp; all_goals (first | (rw [IntKind.wrap_i64]; omega) | (intro hq; exfalso; omega))⟩) (by assumption) ?_
            simp only [Act.put, List.setIfInBounds_toArray, List.set_cons_zero, List.set_cons_succ]
            refine take_at (i := 7) (v := .pointer (some ⟨g, o + 1, none⟩)) (d := some 128) rfl rfl (by kernel_rfl) (by kernel_rfl) (by kernel_rfl) (fun _ _ _ h => h) (Or.inl ⟨by rfl, fun wS hS0 => by go_simp; all_goals (first | (rw [IntKind.wrap_i64]; omega) | (intro hq; exfalso; omega))⟩) (by assumption) ?_
            simp only [Act.put, List.setIfInBounds_toArray, List.set_cons_zero, List.set_cons_succ]
            refine take_at (i := 8) (v := .int .i64 Y0) (d := some 129) rfl rfl (by kernel_rfl) (by kernel_rfl) (by kernel_rfl) (fun _ _ _ h => h) (Or.inl ⟨by rfl, fun wS hS0 => by go_simp; all_goals (first | (rw [IntKind.wrap_i64]; omega) | (intro hq; exfalso; omega))⟩) (by assumption) ?_
            simp only [Act.put, List.setIfInBounds_toArray, List.set_cons_zero, List.set_cons_succ]
            refine wpAnyH_ready (rs := [1]) (by kernel_rfl) (by simp) ?_
            refine AllReadyH.cons rfl (fun K hK => ?_) AllReadyH.nil
            go_simp
            refine (LE _ (HB6.out.drew)).mono ?_
            rintro e w1 ⟨g1', c1', rfl, hP1, _, hb1⟩
            have hb1' : Below W6.heap.size W6 w1 := below_next (Below.refl _ _).drew (Nat.le_refl _) hb1
            clear hHeld
            refine hK.out _ _ ((hb1'.cell (p := ⟨g, o + 1, none⟩) gl6).trans b60) (fun hHeld => ?_)
            clear hK K
            refine wpAnyH_ready (rs := [9]) (by kernel_rfl) (by simp) ?_
            refine AllReadyH.cons rfl (fun K hK => ?_) AllReadyH.nil
            go_simp
            refine (at_below _ _ _).mono ?_
            rintro e w9 ⟨rfl, hb9⟩
            have hb9' : Below W6.heap.size W6 w9 := below_next hb1' (Nat.le_refl _) hb9
            replace hP1 := hP1.below hb9
            clear hHeld
            refine hK.out _ _ ((hb9'.cell (p := ⟨g, o + 1, none⟩) gl6).trans b60) (fun hHeld => ?_)
            clear hK K
            refine wpAnyH_ready (rs := [10]) (by kernel_rfl) (by simp) ?_
            refine AllReadyH.cons rfl (fun K hK => ?_) AllReadyH.nil
            go_simp
            refine (S3 _ _ _ _ hP1).mono ?_
            rintro e w2 ⟨rfl, hb2⟩
            have hb2' : Below W6.heap.size W6 w2 := below_next hb9' (Nat.le_refl _) hb2
            clear hHeld
            refine hK.out _ _ ((hb2'.cell (p := ⟨g, o + 1, none⟩) gl6).trans b60) (fun hHeld => ?_)
            clear hK K
            refine take_at (i := 11) (v := .tuple #[.int .i64 (-1), .int .i64 0]) (d := some 120) rfl rfl (by kernel_rfl) (by kernel_rfl) (by kernel_rfl) (fun _ _ _ h => h) (Or.inl ⟨by rfl, fun wS hS0 => by go_simp; all_goals (first | (rw [IntKind.wrap_i64]; omega) | (intro hq; exfalso; omega))⟩) (by assumption) ?_
            simp only [Act.put, List.setIfInBounds_toArray, List.set_cons_zero, List.set_cons_succ]
            refine take_at (i := 12) (v := .int .i64 (-1)) (d := some 132) rfl rfl (by kernel_rfl) (by kernel_rfl) (by kernel_rfl) (fun _ _ _ h => h) (Or.inl ⟨by rfl, fun wS hS0 => by go_simp; all_goals (first | (rw [IntKind.wrap_i64]; omega) | (intro hq; exfalso; omega))⟩) (by assumption) ?_
            simp only [Act.put, List.setIfInBounds_toArray, List.set_cons_zero, List.set_cons_succ]
            refine take_at (i := 13) (v := .int .i64 0) (d := some 133) rfl rfl (by kernel_rfl) (by kernel_rfl) (by kernel_rfl) (fun _ _ _ h => h) (Or.inl ⟨by rfl, fun wS hS0 => by go_simp; all_goals (first | (rw [IntKind.wrap_i64]; omega) | (intro hq; exfalso; omega))⟩) (by assumption) ?_
            simp only [Act.put, List.setIfInBounds_toArray, List.set_cons_zero, List.set_cons_succ]
            refine take_at (i := 14) (v := .int .i64 (-1)) (d := some 10) rfl rfl (by kernel_rfl) (by kernel_rfl) (by kernel_rfl) (fun _ _ _ h => h) (Or.inl ⟨by rfl, fun wS hS0 => by go_simp; all_goals (first | (rw [IntKind.wrap_i64]; omega) | (intro hq; exfalso; omega))⟩) (by assumption) ?_
            simp only [Act.put, List.setIfInBounds_toArray, List.set_cons_zero, List.set_cons_succ]
            refine take_at (i := 15) (v := .int .i64 0) (d := some 11) rfl rfl (by kernel_rfl) (by kernel_rfl) (by kernel_rfl) (fun _ _ _ h => h) (Or.inl ⟨by rfl, fun wS hS0 => by go_simp; all_goals (first | (rw [IntKind.wrap_i64]; omega) | (intro hq; exfalso; omega))⟩) (by assumption) ?_
            simp only [Act.put, List.setIfInBounds_toArray, List.set_cons_zero, List.set_cons_succ]
            refine wpAnyH_done (by kernel_rfl) ?_ _
            go_wp2_with fail
            go_meet
            exact ⟨rfl, rfl, hb2'⟩
          case rest =>
            obtain ⟨rfl, rfl, hb7⟩ := hcut
            go_wp2_with fail
            refine (AW _).mono ?_
            rintro e w9 ⟨rfl, hb9⟩
            go_wp2_with fail
            go_ret
            exact ⟨by first | rfl | exact ret_bool (by simp), below_next (below_next HB6.out (Nat.le_refl _) hb7) (Nat.le_refl _) hb9⟩
  · go_wp2_with fail
    refine (AW _).mono ?_
    rintro e w9 ⟨rfl, hb9⟩
    go_wp2_with fail
    go_ret
    exact ⟨rfl, below_next hB (Nat.le_refl _) hb9⟩
theorem GeoOut_walk (v : Value) (d : Int) (w : World) (h : ∃ l, PtsIn w v l) (hd : I64 d) : Calls Try.prog 12 #[v, .int .i64 d] w fun e w' => e = .returned (.bool true) ∧ Below w.heap.size w w' := by
  obtain ⟨l, hl⟩ := h
  exact out_walk l v d hd w hl
end Go.Proofs.Ytblbpcjeaomlmaa
