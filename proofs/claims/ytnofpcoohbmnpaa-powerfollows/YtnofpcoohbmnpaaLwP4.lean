/- PowerFollows. -/
import Derived.Test.YtnofpcoohbmnpaaPwT
namespace Go.Proofs.Ytnofpcoohbmnpaa
open Go.RowKit Go.Great

theorem neq_span (a b : Int) (w : World) : (binOp .neq 31 (.agg #[.int .i64 a, .int .i64 b]) (.agg #[.int .i64 a, .int .i64 b])).run Try.prog w = .ok (.bool false) w := by
  go_simp
/-- a list that was lent, as a row of its own -/
theorem irow_lent {w : World} {base g : Nat} {l : List Int} (h : IRow w base (.slice (some ⟨g, 0, none⟩) (l.length + 4) (l.length + 4)) (mk4 l 4)) : IRow w base (.slice (some ⟨g, 0, none⟩) l.length (l.length + 4)) l := by
  refine ⟨by rw [List.length_map, Nat.mul_one], .inr ?_⟩
  rcases h.2 with ⟨h1, _⟩ | ⟨g', cap, cur, h1, h2, h3, h4, h5, h6, h7⟩
  · cases h1
  · injection h1 with e1 e2 e3
    injection e1 with e1
    injection e1 with e1 _ _
    subst e1 e3
    refine ⟨g, l.length + 4, cur, rfl, h2, h3, by omega, h5, h6, ?_⟩
    have h8 : (cur.toList.take ((mk4 l 4).length * 1)).take (l.length * 1) = ((mk4 l 4).map (Value.int .i64)).take (l.length * 1) := by rw [h7]
    rw [List.take_take, mk4_len, Nat.mul_one, Nat.mul_one, Nat.min_eq_left (by omega)] at h8
    rw [Nat.mul_one, h8]
    unfold mk4
    rw [List.map_append, List.take_append_of_le_length (by rw [List.length_map]; omega), List.take_of_length_le (by rw [List.length_map]; omega)]
theorem irow24 {W : World} {base : Nat} {u : Value} {l : List Int} (h : IRow W base u l) (hl : l.length = 24) : ∃ gu uc, u = .slice (some ⟨gu, 0, none⟩) 24 uc ∧ base ≤ gu ∧ gu < W.heap.size := by
  rcases h.2 with ⟨_, h1⟩ | ⟨g', cap, cur, h1, h2, h3, _⟩
  · omega
  · exact ⟨g', cap, by rw [h1, hl], h2, lt_of_block h3⟩
theorem ints_set {W : World} {gu uc X : Nat} {l : List Int} (h : Ints W (.slice (some ⟨gu, 0, none⟩) 24 uc) l) (hne : gu ≠ X) (i : Nat) (y : Value) : Ints (W.setCell ⟨X, i, none⟩ y) (.slice (some ⟨gu, 0, none⟩) 24 uc) l :=
  h.grown (grown_set W X i y) (.inr (fun e => hne (by simpa [Value.ownBlock] using e)))
set_option maxHeartbeats 2000000 in
set_option maxRecDepth 100000 in
theorem follows_no (l : List Int) (v tv av : Value) (w : World) (hI : IntsIn w v l) (hc : chk l ≠ 0) : Calls Try.prog 3 #[v, tv, av] w fun e w' => e = .returned (.bool true) ∧ Below w.heap.size w w' := by
  obtain ⟨hv, hnil, hlen⟩ := hI
  have LE := hide (lent_any l v w hv hnil hlen)
  have NB := hide (fun W u (hW : Ints W u l) => newB_no W l u hW hc)
  have RN := hide (fun W (hW : Ints W v l) => rnewP_no W l v hW hc)
  have KE := hide (fun W g (hR : IRow W w.heap.size (.slice (some ⟨g, 0, none⟩) (l.length + 4) (l.length + 4)) (mk4 l 4)) (hW : Ints W v l) => kept_true l v W w.heap.size g hR hW (by omega))
  have LI := hide (fun W (hR : IRow W w.heap.size (.slice (some ⟨w.heap.size, 0, none⟩) (l.length + 4) (l.length + 4)) (mk4 l 4)) => lent_ints hR)
  have HV := hide hv
  have hne : (chk l != 0) = true := by simp [hc]
  have heq : (chk l == 0) = false := by simp [hc]
  obtain ⟨a, cap, rfl, _⟩ := hv
  clear hnil hlen
  generalize l.length = n at *
  generalize chk l = e0 at *
  go_enter Try.func3, Try.ntmps3
  go_upto_region 2 with (go_at_call 7; refine LE.out.mono ?_; rintro e w1 ⟨rfl, hR1, hb1⟩)
  have HO := hide hR1
  have Hb := hide hb1
  replace HV := hide (HV.out.below hb1)
  clear hR1 hb1
  go_upto_region 3 with (go_at_call 8; refine (NB.out _ _ (LI.out _ HO.out)).mono ?_; rintro e w2 ⟨rfl, hb2⟩)
  replace HO := hide (HO.out.below hb2)
  replace Hb := hide (below_next Hb.out (Nat.le_refl _) hb2)
  replace HV := hide (HV.out.below hb2)
  clear hb2
  go_upto_region 4 with (go_at_call 9; refine (RN.out _ HV.out).mono ?_; rintro e w3 ⟨rfl, hb3⟩)
  replace HO := hide ((HO.out.below hb3).alloc (.cells #[.slice none 0 0, .int .i64 0, .bool false, .int .i64 0, .int .i64 0] 33))
  replace Hb := hide (below_next (below_next Hb.out (Nat.le_refl _) hb3) (Nat.le_refl _) (below_alloc w3 (.cells #[.slice none 0 0, .int .i64 0, .bool false, .int .i64 0, .int .i64 0] 33)))
  replace HV := hide ((HV.out.below hb3).below (below_alloc w3 (.cells #[.slice none 0 0, .int .i64 0, .bool false, .int .i64 0, .int .i64 0] 33)))
  clear hb3
  generalize w3.alloc (.cells #[.slice none 0 0, .int .i64 0, .bool false, .int .i64 0, .int .i64 0] 33) = W3 at *
  go_wp2_with fail
  refine (KE.out _ _ HO.out HV.out).mono ?_
  rintro e w4 ⟨rfl, k, rfl⟩
  replace Hb := hide (below_drewN Hb.out k)
  go_wp2_with (go_at_call 11; refine (awakeP _).mono ?_; rintro e w5 ⟨rfl, hb5⟩)
  go_ret
  exact ⟨rfl, below_next Hb.out (Nat.le_refl _) hb5⟩
set_option maxHeartbeats 4000000 in
set_option maxRecDepth 100000 in
theorem follows_yes (l : List Int) (v tv av : Value) (L : List Rdg) (P : List Pnt) (w : World) (hI : IntsIn w v l) (hs : Sound l) (hL : ∀ x ∈ L, RdgOk x) (hT : Rws w tv 2 cRdg L) (hA : Rws w av 2 cPnt P) : Calls Try.prog 3 #[v, tv, av] w fun e w' => e = .returned (.bool true) ∧ Below w.heap.size w w' := by
  obtain ⟨hv, hnil, hlen⟩ := hI
  have LE : Hid (Calls Try.prog 7 #[v] w fun e w' => e = .returned (.slice (some ⟨w.heap.size, 0, none⟩) 24 28) ∧ IRow w' w.heap.size (.slice (some ⟨w.heap.size, 0, none⟩) 28 28) (mk4 l 4) ∧ Below w.heap.size w w') := hide (by
    have := lent_any l v w hv hnil hlen
    rw [hs.len] at this
    exact this)
  have KE : Hid (∀ W (_ : IRow W w.heap.size (.slice (some ⟨w.heap.size, 0, none⟩) 28 28) (mk4 l 4)) (_ : Ints W v l), Calls Try.prog 10 #[.slice (some ⟨w.heap.size, 0, none⟩) 24 28, v] W fun e w' => e = .returned (.bool true) ∧ ∃ n, w' = W.drewN n) := hide (fun W hR hW => by
    have := kept_true l v W w.heap.size w.heap.size (by rw [hs.len]; exact hR) hW (by rw [hs.len]; omega)
    rw [hs.len] at this
    exact this)
  have LI : Hid (∀ W (_ : IRow W w.heap.size (.slice (some ⟨w.heap.size, 0, none⟩) 28 28) (mk4 l 4)), IRow W w.heap.size (.slice (some ⟨w.heap.size, 0, none⟩) 24 28) l) := hide (fun W hR => by
    have := irow_lent (l := l) (by rw [hs.len]; exact hR)
    rw [hs.len] at this
    exact this)
  have NB := hide (fun W u (hW : Ints W u l) => newB_any W l u hW hs)
  have RN := hide (fun W (hW : Ints W v l) => rnewP_any W l v hW hs)
  have HV := hide hv
  have HS := hide hs
  have HT := hide hT
  have HL := hide hL
  have HA := hide hA
  have hmax := hT.1
  unfold maxLen at hmax
  obtain ⟨_, ta, tc, rfl, _⟩ := hT
  obtain ⟨n, hn⟩ : ∃ n, Hid (L.length = n) := ⟨_, hide rfl⟩
  rw [hn.out] at hmax ⊢
  obtain ⟨_, aa, ac, rfl, _⟩ := hA
  obtain ⟨m, hm⟩ : ∃ m, Hid (P.length = m) := ⟨_, hide rfl⟩
  rw [hm.out]
  obtain ⟨g, og, cap, rfl, hg, _⟩ := hv.open24 hs.len
  obtain ⟨dd, hdd⟩ : ∃ y, Hid (drn l = y) := ⟨_, hide rfl⟩
  clear hL hv hs hnil hlen
  go_enter Try.func3, Try.ntmps3
  go_upto_region 2 with (go_at_call 7; refine LE.out.mono ?_; rintro e w1 ⟨rfl, hR1, hb1⟩)
  have HO := hide hR1
  have Hb := hide hb1
  have hw1 : w.heap.size < w1.heap.size := (World.ownsRow.lt hR1 _ rfl).2
  replace HV := hide (HV.out.below hb1)
  clear hR1 hb1
  go_upto_region 3 with (go_at_call 8; refine (NB.out _ _ (LI.out _ HO.out).ints).mono ?_; rintro e w2 ⟨B, rfl, hB, hb2, hBw⟩)
  have HB := hide hB
  have hBl := hB.lt
  replace HO := hide (HO.out.below hb2)
  replace Hb := hide (below_next Hb.out (Nat.le_refl _) hb2)
  replace HV := hide (HV.out.below hb2)
  clear hb2 hB
  go_upto_region 4 with (go_at_call 9; refine (RN.out _ HV.out).mono ?_; rintro e w3 ⟨u, rfl, hR3, hb3⟩; obtain ⟨gu, uc, hu, hgu, hgl⟩ := irow24 hR3 HS.out.len; subst hu; unfold rbC bN; simp only []; rw [hdd.out])
  have HX : Hid (Blk (w3.alloc (.cells #[.slice (some ⟨gu, 0, none⟩) 24 uc, .int .i64 dd, .bool false, .int .i64 0, .int .i64 0] 33)) w3.heap.size #[.slice (some ⟨gu, 0, none⟩) 24 uc, .int .i64 dd, .bool (bN l).kn, .int .i64 (bN l).lo, .int .i64 (bN l).hi] 33) := hide (Blk.new w3 #[.slice (some ⟨gu, 0, none⟩) 24 uc, .int .i64 dd, .bool false, .int .i64 0, .int .i64 0] _)
  replace HB := hide ((HB.out.after hb3).alloc (.cells #[.slice (some ⟨gu, 0, none⟩) 24 uc, .int .i64 dd, .bool false, .int .i64 0, .int .i64 0] 33))
  replace HO := hide ((HO.out.below hb3).alloc (.cells #[.slice (some ⟨gu, 0, none⟩) 24 uc, .int .i64 dd, .bool false, .int .i64 0, .int .i64 0] 33))
  replace Hb := hide (below_next (below_next Hb.out (Nat.le_refl _) hb3) (Nat.le_refl _) (below_alloc w3 (.cells #[.slice (some ⟨gu, 0, none⟩) 24 uc, .int .i64 dd, .bool false, .int .i64 0, .int .i64 0] 33)))
  replace HV := hide ((HV.out.below hb3).below (below_alloc w3 (.cells #[.slice (some ⟨gu, 0, none⟩) 24 uc, .int .i64 dd, .bool false, .int .i64 0, .int .i64 0] 33)))
  have HU := hide (hR3.ints.below (below_alloc w3 (.cells #[.slice (some ⟨gu, 0, none⟩) 24 uc, .int .i64 dd, .bool false, .int .i64 0, .int .i64 0] 33)))
  clear hb3 hR3
  generalize w3.heap.size = X at *
  generalize w3.alloc (.cells #[.slice (some ⟨gu, 0, none⟩) 24 uc, .int .i64 dd, .bool false, .int .i64 0, .int .i64 0] 33) = W3 at *
  go_wp2_with fail
  refine (KE.out _ HO.out HV.out).mono ?_
  rintro e w4 ⟨rfl, k, rfl⟩
  replace HB := hide (blk_drewN HB.out k)
  replace HX := hide (blk_drewN HX.out k)
  replace HO := hide (LI.out _ (HO.out.drewN k))
  replace HU := hide (HU.out.drewN k)
  replace Hb := hide (below_drewN Hb.out k)
  clear HV KE LI LE NB RN
  generalize W3.drewN k = W4 at *
  go_wp2_with fail
  have hlW := Hb.out.size
  have AP := hide (apart_one 24 (by omega) (.slice (some ⟨w.heap.size, 0, none⟩) 24 28) l HS.out.len (W4.alloc (.cells #[.slice (some ⟨w.heap.size, 0, none⟩) 24 28] 22)) w.heap.size (HO.out.alloc _) W4.heap.size (heap_alloc_new _ _) hlW)
  refine AP.out.mono ?_
  rintro e w5 ⟨rfl, _, hgr⟩
  have hgr2 : (W4.alloc (.cells #[.slice (some ⟨w.heap.size, 0, none⟩) 24 28] 22)).grownBy w5 (some w.heap.size) := hgr
  replace HB := hide ((HB.out.alloc (.cells #[.slice (some ⟨w.heap.size, 0, none⟩) 24 28] 22)).grown hgr2 (by intro e; injection e with e; omega))
  replace HX := hide ((HX.out.alloc (.cells #[.slice (some ⟨w.heap.size, 0, none⟩) 24 28] 22)).grown hgr2 (by intro e; injection e with e; omega))
  replace HU := hide ((HU.out.below (below_alloc W4 (.cells #[.slice (some ⟨w.heap.size, 0, none⟩) 24 28] 22))).grown hgr2 (.inr (fun e => by have e2 : gu = w.heap.size := (by simpa [Value.ownBlock] using e); omega)))
  replace Hb := hide (below_grown (below_next Hb.out (Nat.le_refl _) (below_alloc W4 (.cells #[.slice (some ⟨w.heap.size, 0, none⟩) 24 28] 22))) hgr2 (fun q e => by injection e with e; omega))
  have hBw2 : w.heap.size ≤ B := by omega
  have hBu : B < gu := by omega
  have hXw : w.heap.size ≤ X := by omega
  clear hgr hgr2 HO AP hlW hw1 hBw
  go_wp2_with fail
  go_loopw [12] (fun vi wr => ∃ (i : Nat) (t : Ba), vi = .int .i64 (i : Int) ∧ i ≤ n ∧ BOk t ∧ BLe t ∧ t.l = l ∧ Bat wr B t ∧ Blk wr X #[.slice (some ⟨gu, 0, none⟩) 24 uc, .int .i64 dd, .bool t.kn, .int .i64 t.lo, .int .i64 t.hi] 33 ∧ Ints wr (.slice (some ⟨gu, 0, none⟩) 24 uc) l ∧ Below w.heap.size w wr) (fun v _ => n - (intOf v).toNat)
  case atStart => exact ⟨0, bN l, rfl, by omega, bN_ok HS.out, Int.le_refl _, rfl, HB.out, HX.out, HU.out, Hb.out⟩
  case round =>
    clear HB HX HU Hb
    obtain ⟨i, t, rfl, hi, hok, hle, htl, hB, hX, hU, hb⟩ := hrel
    have HOK := hide hok
    have HLE := hide hle
    have HTL := hide htl
    have HB := hide hB
    have HX := hide hX
    have HU := hide hU
    have Hb := hide hb
    clear hok hle htl hB hX hU hb
    by_cases hlt : i < n
    · obtain ⟨ga, oa, ca, x, e1, hga, hx, hcell⟩ := HT.out.get i (by rw [hn.out]; exact hlt)
      injection e1 with e1 e2 e3
      subst e1 e3
      have HXO := hide (HL.out x (List.mem_of_getElem? hx))
      have HC := hide hcell
      clear e2 hx hcell hga
      obtain ⟨xo, xx⟩ := x
      have k0 : wr.cell? ⟨ga, oa + i * 2, none⟩ = some (.bool xo) := HC.out wr Hb.out 0 _ rfl
      have k1 : wr.cell? ⟨ga, oa + i * 2 + 1, none⟩ = some (.int .i64 xx) := HC.out wr Hb.out 1 _ rfl
      have hlB := HB.out.lt
      have hlX := HX.out.lt
      have O1 := hide (stp_ok HOK.out xo xx)
      have L1 := hide (stp_le HOK.out HLE.out xo xx)
      have E1 : Hid ((stpS t xo xx).l = l) := hide ((stp_l _ _ _).trans HTL.out)
      have RS : Hid (∀ W, Ints W (.slice (some ⟨gu, 0, none⟩) 24 uc) l → Calls Try.prog 14 #[.agg #[.slice (some ⟨gu, 0, none⟩) 24 uc, .int .i64 dd, .bool t.kn, .int .i64 t.lo, .int .i64 t.hi], .agg #[.bool xo, .int .i64 xx]] W fun e w' => e = .returned (.agg #[.slice (some ⟨gu, 0, none⟩) 24 uc, .int .i64 dd, .bool (stpS t xo xx).kn, .int .i64 (stpS t xo xx).lo, .int .i64 (stpS t xo xx).hi]) ∧ Below W.heap.size W w') := hide (fun W hW => by
        have := rstepP W (.slice (some ⟨gu, 0, none⟩) 24 uc) t xo xx (by rw [HTL.out]; exact hW) HOK.out HLE.out HXO.out.x
        unfold rbC at this
        rw [E1.out, HTL.out, hdd.out] at this
        exact this)
      go_upto_region 13 with (go_at_call 13; refine (step_any wr B t xo xx HB.out HOK.out HXO.out.x).mono ?_; rintro e w3 ⟨rfl, hB3, hG3⟩)
      generalize stpS t xo xx = t1 at *
      replace HB := hide hB3
      replace HX := hide (HX.out.grown hG3 (fun e => by injection e with e; omega))
      replace HU := hide (HU.out.grown hG3 (.inr (fun e => by have e2 : gu = B := (by simpa [Value.ownBlock] using e); omega)))
      replace Hb := hide (below_grown Hb.out hG3 (fun q e => by injection e with e; omega))
      clear hB3 hG3 k0 k1
      have k0 : ∀ z : BelowW w3, z.q.cell? ⟨ga, oa + i * 2, none⟩ = some (.bool xo) := fun z => HC.out z.q (below_next Hb.out (Nat.le_refl _) z.h) 0 _ rfl
      have k1 : ∀ z : BelowW w3, z.q.cell? ⟨ga, oa + i * 2 + 1, none⟩ = some (.int .i64 xx) := fun z => HC.out z.q (below_next Hb.out (Nat.le_refl _) z.h) 1 _ rfl
      have x0 : ∀ z : BelowW w3, z.q.cell? ⟨X, 0, none⟩ = some (.slice (some ⟨gu, 0, none⟩) 24 uc) := HX.out.at 0 rfl
      have x1 : ∀ z : BelowW w3, z.q.cell? ⟨X, 1, none⟩ = some (.int .i64 dd) := HX.out.at 1 rfl
      have x2 : ∀ z : BelowW w3, z.q.cell? ⟨X, 2, none⟩ = some (.bool t.kn) := HX.out.at 2 rfl
      have x3 : ∀ z : BelowW w3, z.q.cell? ⟨X, 3, none⟩ = some (.int .i64 t.lo) := HX.out.at 3 rfl
      have x4 : ∀ z : BelowW w3, z.q.cell? ⟨X, 4, none⟩ = some (.int .i64 t.hi) := HX.out.at 4 rfl
      have hne : Nonempty (BelowW w3) := ⟨⟨w3, Below.refl _ _⟩⟩
      refine reg_last_calm 6 rfl rfl _ rfl (by kernel_rfl) (by kernel_rfl) (by kernel_rfl) ?_
      simp only [List.take_succ_cons, List.take_zero]
      repeat (go_big_quiet_step (first
        | (go_at_call 14; exact calm_of (RS.out _ (HU.out.below (BelowW.h _))))))
      refine wpQuiet_nil ?_
      rintro _ ⟨z, rfl⟩
      obtain ⟨W5, hz⟩ := z
      replace HB := hide (HB.out.after hz)
      replace HX := hide (HX.out.after hz)
      replace HU := hide (HU.out.below hz)
      replace Hb := hide (below_next Hb.out (Nat.le_refl _) hz)
      clear k0 k1 x0 x1 x2 x3 x4 hne RS HC
      have x0 : W5.cell? ⟨X, 0, none⟩ = some (.slice (some ⟨gu, 0, none⟩) 24 uc) := HX.out.cell 0 rfl
      have x1 : W5.cell? ⟨X, 1, none⟩ = some (.int .i64 dd) := HX.out.cell 1 rfl
      have x2 : W5.cell? ⟨X, 2, none⟩ = some (.bool t.kn) := HX.out.cell 2 rfl
      have x3 : W5.cell? ⟨X, 3, none⟩ = some (.int .i64 t.lo) := HX.out.cell 3 rfl
      have x4 : W5.cell? ⟨X, 4, none⟩ = some (.int .i64 t.hi) := HX.out.cell 4 rfl
      have z0 := HX.out.frozen 0
      have z1 := HX.out.frozen 1
      have z2 := HX.out.frozen 2
      have z3 := HX.out.frozen 3
      have z4 := HX.out.frozen 4
      go_simp
      have hXB : B ≠ X := by omega
      have hXu : gu ≠ X := by omega
      obtain ⟨hX6, hb6⟩ := put5 HX.out Hb.out hXw (.slice (some ⟨gu, 0, none⟩) 24 uc) (.int .i64 dd) (.bool t1.kn) (.int .i64 t1.lo) (.int .i64 t1.hi)
      replace HB := hide (((((HB.out.setOther hXB 0 (.slice (some ⟨gu, 0, none⟩) 24 uc)).setOther hXB 1 (.int .i64 dd)).setOther hXB 2 (.bool t1.kn)).setOther hXB 3 (.int .i64 t1.lo)).setOther hXB 4 (.int .i64 t1.hi))
      replace HU := hide (ints_set (ints_set (ints_set (ints_set (ints_set HU.out hXu 0 (.slice (some ⟨gu, 0, none⟩) 24 uc)) hXu 1 (.int .i64 dd)) hXu 2 (.bool t1.kn)) hXu 3 (.int .i64 t1.lo)) hXu 4 (.int .i64 t1.hi))
      replace HX := hide hX6
      replace Hb := hide hb6
      clear hX6 hb6 x0 x1 x2 x3 x4 z0 z1 z2 z3 z4 hz
      generalize ((((W5.setCell ⟨X, 0, none⟩ (.slice (some ⟨gu, 0, none⟩) 24 uc)).setCell ⟨X, 1, none⟩ (.int .i64 dd)).setCell ⟨X, 2, none⟩ (.bool t1.kn)).setCell ⟨X, 3, none⟩ (.int .i64 t1.lo)).setCell ⟨X, 4, none⟩ (.int .i64 t1.hi) = W6 at *
      have LF := hide (left_any W6 B t1 HB.out O1.out.snd.len)
      go_upto_region 15 with (go_at_call 15; refine LF.out.mono ?_; rintro e w7 ⟨rfl, hb7⟩)
      have HSp := hide (Blk.new w7 #[.int .i64 t1.lo, .int .i64 t1.hi] 31)
      replace HB := hide ((HB.out.after hb7).alloc (.cells #[.int .i64 t1.lo, .int .i64 t1.hi] 31))
      replace HX := hide ((HX.out.after hb7).alloc (.cells #[.int .i64 t1.lo, .int .i64 t1.hi] 31))
      replace HU := hide ((HU.out.below hb7).below (below_alloc w7 (.cells #[.int .i64 t1.lo, .int .i64 t1.hi] 31)))
      replace Hb := hide (below_next (below_next Hb.out (Nat.le_refl _) hb7) (Nat.le_refl _) (below_alloc w7 (.cells #[.int .i64 t1.lo, .int .i64 t1.hi] 31)))
      clear hb7 LF
      generalize w7.heap.size = d7 at *
      generalize w7.alloc (.cells #[.int .i64 t1.lo, .int .i64 t1.hi] 31) = W7 at *
      have s0 : W7.cell? ⟨d7, 0, none⟩ = some (.int .i64 t1.lo) := HSp.out.cell 0 rfl
      have s1 : W7.cell? ⟨d7, 1, none⟩ = some (.int .i64 t1.hi) := HSp.out.cell 1 rfl
      have x2 : W7.cell? ⟨X, 2, none⟩ = some (.bool t1.kn) := HX.out.cell 2 rfl
      have x3 : W7.cell? ⟨X, 3, none⟩ = some (.int .i64 t1.lo) := HX.out.cell 3 rfl
      have x4 : W7.cell? ⟨X, 4, none⟩ = some (.int .i64 t1.hi) := HX.out.cell 4 rfl
      have ns := neq_span
      go_upto_region 17 with fail
      clear s0 s1 x2 x3 x4 ns HSp
      by_cases hm2 : i < m
      · obtain ⟨gp, op, cp, y, e1, hgp, hy, hcell⟩ := HA.out.get i (by rw [hm.out]; exact hm2)
        injection e1 with e1 e2 e3
        subst e1 e3
        have HC := hide hcell
        clear e2 hy hcell hgp
        obtain ⟨px, py⟩ := y
        have hm3 : (i : Int) < (m : Int) := by omega
        have k0 : ∀ z : BelowW W7, z.q.cell? ⟨gp, op + i * 2, none⟩ = some (.int .i64 px) := fun z => HC.out z.q (below_next Hb.out (Nat.le_refl _) z.h) 0 _ rfl
        have k1 : ∀ z : BelowW W7, z.q.cell? ⟨gp, op + i * 2 + 1, none⟩ = some (.int .i64 py) := fun z => HC.out z.q (below_next Hb.out (Nat.le_refl _) z.h) 1 _ rfl
        have x0 : ∀ z : BelowW W7, z.q.cell? ⟨X, 0, none⟩ = some (.slice (some ⟨gu, 0, none⟩) 24 uc) := HX.out.at 0 rfl
        have x1 : ∀ z : BelowW W7, z.q.cell? ⟨X, 1, none⟩ = some (.int .i64 dd) := HX.out.at 1 rfl
        have x2 : ∀ z : BelowW W7, z.q.cell? ⟨X, 2, none⟩ = some (.bool t1.kn) := HX.out.at 2 rfl
        have x3 : ∀ z : BelowW W7, z.q.cell? ⟨X, 3, none⟩ = some (.int .i64 t1.lo) := HX.out.at 3 rfl
        have x4 : ∀ z : BelowW W7, z.q.cell? ⟨X, 4, none⟩ = some (.int .i64 t1.hi) := HX.out.at 4 rfl
        have hne : Nonempty (BelowW W7) := ⟨⟨W7, Below.refl _ _⟩⟩
        have TB : Hid (∀ z : BelowW W7, Calls Try.prog 16 #[bP B, .int .i64 px, .int .i64 py] z.q fun e w' => e = .returned (.int .u8 (tierI t1 px py)) ∧ Below z.q.heap.size z.q w') := hide (fun z => tier_any z.q B t1 px py (HB.out.after z.h) O1.out)
        have TR : Hid (∀ z : BelowW W7, Calls Try.prog 17 #[.agg #[.slice (some ⟨gu, 0, none⟩) 24 uc, .int .i64 dd, .bool t1.kn, .int .i64 t1.lo, .int .i64 t1.hi], .int .i64 px, .int .i64 py] z.q fun e w' => e = .returned (.int .u8 (tierI t1 px py)) ∧ Below z.q.heap.size z.q w') := hide (fun z => by
          have := rtierP z.q (.slice (some ⟨gu, 0, none⟩) 24 uc) t1 px py (by rw [E1.out]; exact HU.out.below z.h) O1.out.snd
          unfold rbC at this
          rw [E1.out, hdd.out] at this
          exact this)
        generalize tierI t1 px py = y at *
        refine wp_region_calm (by kernel_rfl) (by kernel_rfl) ?_
        repeat (go_big_quiet_step (first
          | (go_at_call 16; exact calm_of (TB.out _))
          | (go_at_call 17; exact calm_of (TR.out _))))
        refine wpQuiet_nil ?_
        rintro _ ⟨z, rfl⟩
        clear k0 k1 x0 x1 x2 x3 x4 hne TB TR
        obtain ⟨W8, hz⟩ := z
        replace HB := hide (HB.out.after hz)
        replace HX := hide (HX.out.after hz)
        replace HU := hide (HU.out.below hz)
        replace Hb := hide (below_next Hb.out (Nat.le_refl _) hz)
        go_wp2_with fail
        exact ⟨⟨i + 1, t1, by go_num, by omega, O1.out, L1.out, E1.out, HB.out, HX.out, HU.out, Hb.out⟩, by simp [intOf]; omega⟩
      · have hm3 : ¬ (i : Int) < (m : Int) := by omega
        go_quiet (fail)
        replace HB := hide (blk_drewN HB.out nq)
        replace HX := hide (blk_drewN HX.out nq)
        replace HU := hide (HU.out.drewN nq)
        replace Hb := hide (below_drewN Hb.out nq)
        go_wp2_with fail
        exact ⟨⟨i + 1, t1, by go_num, by omega, O1.out, L1.out, E1.out, HB.out, HX.out, HU.out, Hb.out⟩, by simp [intOf]; omega⟩
    · obtain rfl : i = n := by omega
      go_wp2_with (go_at_call 11; refine (awakeP _).mono ?_; rintro e w5 ⟨rfl, hb5⟩)
      go_ret
      exact ⟨rfl, below_next Hb.out (Nat.le_refl _) hb5⟩
theorem PowerFollows_walk (v tv av : Value) (w : World) (hv : ∃ l, IntsIn w v l) (hT : ∃ L, (∀ x ∈ L, RdgOk x) ∧ Rws w tv 2 cRdg L) (hA : ∃ L, (∀ x ∈ L, PntOk x) ∧ Rws w av 2 cPnt L) : Calls Try.prog 3 #[v, tv, av] w fun e w' => e = .returned (.bool true) ∧ Below w.heap.size w w' := by
  obtain ⟨l, hv⟩ := hv
  obtain ⟨L, hL, hT⟩ := hT
  obtain ⟨P, _, hA⟩ := hA
  by_cases h : chk l = 0
  · exact follows_yes l v tv av L P w hv (sound_of h) hL hT hA
  · exact follows_no l v tv av w hv h
end Go.Proofs.Ytnofpcoohbmnpaa
