/- PowerHolds. -/
import Derived.Test.YtnofpcoohbmnpaaPwO
import Derived.Test.YtnofpcoohbmnpaaOp0
namespace Go.Proofs.Ytnofpcoohbmnpaa
open Go.RowKit Go.Great

/-- the charge lies in what is left -/
structure Lies (t : Ba) (c : Int) : Prop where
  kn : t.kn = true
  lo : t.lo ≤ c
  hi : c ≤ t.hi
theorem sat_le {x c : Int} (hc : I64 c) (h : x ≤ c) : sat x ≤ c := by
  unfold I64 at hc; unfold sat; split
  · omega
  · split <;> omega
theorem le_sat {x c : Int} (hc : I64 c) (h : c ≤ x) : c ≤ sat x := by
  unfold I64 at hc; unfold sat; split
  · omega
  · split <;> omega
theorem hear_lies {t : Ba} {c x : Int} (hc : I64 c) (h : t.kn = false ∨ Lies t c) (h1 : x - t.l.getD 18 0 ≤ c) (h2 : c ≤ x + t.l.getD 18 0) : Lies (hearS t x) c := by
  have a1 : sLo t.l x ≤ c := sat_le hc h1
  have a2 : c ≤ sHi t.l x := le_sat hc h2
  rcases h with hk | hl
  · unfold hearS
    rw [if_neg (by rw [hk]; simp)]
    exact ⟨rfl, a1, a2⟩
  · have b1 : cLo t x ≤ c := by unfold cLo; have := hl.lo; split <;> omega
    have b2 : c ≤ cHi t x := by unfold cHi; have := hl.hi; split <;> omega
    unfold hearS
    rw [if_pos ⟨hl.kn, by omega⟩]
    exact ⟨rfl, b1, b2⟩
theorem tick_lies {t : Ba} {c k : Int} (hc : I64 (c - k)) (h : Lies t c) (h0 : 0 ≤ k) (h1 : k ≤ drn t.l) : Lies (tick t) (c - k) := by
  unfold tick
  rw [if_pos h.kn]
  have a := h.lo
  have b := h.hi
  exact ⟨h.kn, sat_le hc (by omega), by show c - k ≤ t.hi; omega⟩
theorem step_lies {t : Ba} {c k f : Int} {o : Bool} (hc : I64 (c - k)) (h : Lies t c) (h0 : 0 ≤ k) (h1 : k ≤ drn t.l) (h2 : -(t.l.getD 18 0) ≤ f) (h3 : f ≤ t.l.getD 18 0) : Lies (stpS t o (c - k + f)) (c - k) := by
  have ht := tick_lies hc h h0 h1
  unfold stpS
  split
  · exact hear_lies hc (.inr ht) (by rw [tick_l]; omega) (by rw [tick_l]; omega)
  · exact ht
set_option maxHeartbeats 1000000 in
set_option maxRecDepth 100000 in
theorem holds_no (l : List Int) (v uv : Value) (c : Int) (w : World) (hv : Ints w v l) (hc : chk l ≠ 0) : Calls Try.prog 4 #[v, .int .i64 c, uv] w fun e w' => e = .returned (.bool true) ∧ Below w.heap.size w w' := by
  have NB := hide (newB_no w l v hv hc)
  have MA := hide (fun W (hW : Ints W v l) => margins_any l v W hW)
  have HV := hide hv
  have hne : (chk l != 0) = true := by simp [hc]
  have heq : (chk l == 0) = false := by simp [hc]
  obtain ⟨a, cap, rfl, _⟩ := hv
  generalize l.length = n at *
  generalize chk l = e0 at *
  generalize marE l = m at *
  obtain ⟨m1, m2, m3, m4, m5, m6⟩ := m
  rw [show marV ⟨m1, m2, m3, m4, m5, m6⟩ = .agg #[.int .i64 m1, .int .i64 m2, .int .i64 m3, .int .i64 m4, .int .i64 m5, .int .i64 m6] from rfl] at MA
  go_enter Try.func4, Try.ntmps4
  go_upto_region 2 with (go_at_call 8; refine NB.out.mono ?_; rintro e w1 ⟨rfl, hb1⟩)
  have Hb := hide hb1
  replace HV := hide (HV.out.below hb1)
  clear hb1
  go_upto_region 3 with (go_at_call 18; refine (MA.out _ HV.out).mono ?_; rintro e w2 ⟨rfl, hb2⟩)
  replace Hb := hide (below_next (below_next Hb.out (Nat.le_refl _) hb2) (Nat.le_refl _) (below_alloc w2 (.cells #[.int .i64 m1, .int .i64 m2, .int .i64 m3, .int .i64 m4, .int .i64 m5, .int .i64 m6] 54)))
  clear hb2 HV
  generalize w2.alloc (.cells #[.int .i64 m1, .int .i64 m2, .int .i64 m3, .int .i64 m4, .int .i64 m5, .int .i64 m6] 54) = W2 at *
  go_wp2_with (go_at_call 11; refine (awakeP _).mono ?_; rintro e w5 ⟨rfl, hb5⟩)
  go_ret
  exact ⟨rfl, below_next Hb.out (Nat.le_refl _) hb5⟩
set_option maxHeartbeats 4000000 in
set_option maxRecDepth 100000 in
theorem holds_yes (l : List Int) (v uv : Value) (c : Int) (L : List Uss) (w : World) (hv : Ints w v l) (hs : Sound l) (hcI : I64 c) (hL : ∀ x ∈ L, UssOk x) (hT : Rws w uv 3 cUss L) : Calls Try.prog 4 #[v, .int .i64 c, uv] w fun e w' => e = .returned (.bool true) ∧ Below w.heap.size w w' := by
  have HT := hide hT
  have HL := hide hL
  have hmax := hT.1
  unfold maxLen at hmax
  obtain ⟨_, ta, tc, rfl, _⟩ := hT
  obtain ⟨n, hn⟩ : ∃ n, Hid (L.length = n) := ⟨_, hide rfl⟩
  rw [hn.out] at hmax ⊢
  clear hL
  have NB := hide (newB_any w l v hv hs)
  have MA := hide (fun W (hW : Ints W v l) => margins_any l v W hW)
  rw [hs.chk, show marE l = marL l by unfold marE; rw [if_pos hs.chk]] at MA
  have HV := hide hv
  have hdr : Hid ((marL l).drain = drn l) := hide rfl
  generalize marL l = m at *
  obtain ⟨m1, m2, m3, m4, m5, m6⟩ := m
  rw [show marV ⟨m1, m2, m3, m4, m5, m6⟩ = .agg #[.int .i64 m1, .int .i64 m2, .int .i64 m3, .int .i64 m4, .int .i64 m5, .int .i64 m6] from rfl] at MA
  simp only at hdr
  have HS := hide hs
  obtain ⟨g, o, cap, rfl, hg, hvc⟩ := hv.open24 hs.len
  have HVC := hide (hvc 18 (by omega))
  clear hv hvc
  go_enter Try.func4, Try.ntmps4
  go_upto_region 2 with (go_at_call 8; refine NB.out.mono ?_; rintro e w1 ⟨B, rfl, hB, hb1, hBw⟩)
  have HB := hide hB
  have Hb := hide hb1
  replace HV := hide (HV.out.below hb1)
  clear hb1 hB
  go_upto_region 3 with (go_at_call 18; refine (MA.out _ HV.out).mono ?_; rintro e w2 ⟨rfl, hb2⟩)
  have hBl : B < w2.heap.size := (HB.out.after hb2).lt
  have HM := hide (Blk.new w2 #[.int .i64 m1, .int .i64 m2, .int .i64 m3, .int .i64 m4, .int .i64 m5, .int .i64 m6] 54)
  replace HB := hide ((HB.out.after hb2).alloc (.cells #[.int .i64 m1, .int .i64 m2, .int .i64 m3, .int .i64 m4, .int .i64 m5, .int .i64 m6] 54))
  replace Hb := hide (below_next (below_next Hb.out (Nat.le_refl _) hb2) (Nat.le_refl _) (below_alloc w2 (.cells #[.int .i64 m1, .int .i64 m2, .int .i64 m3, .int .i64 m4, .int .i64 m5, .int .i64 m6] 54)))
  clear hb2 HV MA NB
  generalize w2.heap.size = M at *
  generalize w2.alloc (.cells #[.int .i64 m1, .int .i64 m2, .int .i64 m3, .int .i64 m4, .int .i64 m5, .int .i64 m6] 54) = W2 at *
  by_cases hr : c < 0 ∨ 1125899906842624 < c ∨ 4000 < n
  · rcases (show c < 0 ∨ (¬ c < 0 ∧ 1125899906842624 < c) ∨ (¬ c < 0 ∧ ¬ 1125899906842624 < c ∧ 4000 < (n : Int)) by omega) with h1 | ⟨h1, h2⟩ | ⟨h1, h2, h3⟩
    all_goals
      clear hr
      go_wp2_with (go_at_call 11; refine (awakeP _).mono ?_; rintro e w5 ⟨rfl, hb5⟩)
      go_ret
      exact ⟨rfl, below_next Hb.out (Nat.le_refl _) hb5⟩
  · have r1 : ¬ c < 0 := by omega
    have r2 : ¬ 1125899906842624 < c := by omega
    have r3 : ¬ 4000 < (n : Int) := by omega
    clear hr hmax
    obtain ⟨off, hoff⟩ : ∃ off, Hid (l.getD 18 0 = off) := ⟨_, hide rfl⟩
    have ho := off_in HS.out
    rw [hoff.out] at HVC ho
    have c18 : W2.cell? ⟨g, o + 18, none⟩ = some (.int .i64 off) := (Hb.out.cell (p := ⟨g, o + 18, none⟩) hg).trans HVC.out
    have hm6 : 0 ≤ m6 ∧ m6 ≤ 3000 := by rw [hdr.out]; exact drn_in HS.out
    go_upto_region 9 with (go_at_call 13; refine (step_any W2 B (bN l) true c HB.out (bN_ok HS.out) hcI).mono ?_; rintro e w3 ⟨rfl, hB3, hG3⟩)
    have O3 := hide (stp_ok (bN_ok HS.out) true c)
    have hl3 : Hid ((stpS (bN l) true c).l = l) := hide (stp_l _ _ _)
    have L3 : Hid (Lies (stpS (bN l) true c) c) := hide (by
      show Lies (hearS (bN l) c) c
      refine hear_lies hcI (.inl rfl) ?_ ?_
      · show c - l.getD 18 0 ≤ c
        rw [hoff.out]; omega
      · show c ≤ c + l.getD 18 0
        rw [hoff.out]; omega)
    generalize stpS (bN l) true c = t0 at *
    replace HM := hide (HM.out.grown hG3 (by intro e; injection e with e; omega))
    replace Hb := hide (below_grown Hb.out hG3 (fun q e => by injection e with e; omega))
    replace HB := hide hB3
    clear hB3 hG3 c18 HVC
    go_wp2_with fail
    go_loopw [1, 12] (fun vc vi wr => ∃ (i : Nat) (c : Int) (t : Ba), vc = .int .i64 c ∧ vi = .int .i64 (i : Int) ∧ i ≤ n ∧ -3000 * (i : Int) ≤ c ∧ c ≤ 1125899906842624 ∧ BOk t ∧ t.l = l ∧ Lies t c ∧ Bat wr B t ∧ Blk wr M #[.int .i64 m1, .int .i64 m2, .int .i64 m3, .int .i64 m4, .int .i64 m5, .int .i64 m6] 54 ∧ Below w.heap.size w wr) (fun _ v _ => n - (intOf v).toNat)
    case atStart => exact ⟨0, c, t0, rfl, rfl, by omega, by omega, by omega, O3.out, hl3.out, L3.out, HB.out, HM.out, Hb.out⟩
    case round =>
      clear O3 hl3 L3 HB HM Hb r1 r2 hcI
      obtain ⟨i, c, t, rfl, rfl, hi, hc0, hc1, hok, htl, hli, hB, hM, hb⟩ := hrel
      have HOK := hide hok
      have HTL := hide htl
      have HLI := hide hli
      have HB := hide hB
      have HM := hide hM
      have Hb := hide hb
      clear hok htl hli hB hM hb
      by_cases hlt : i < n
      · obtain ⟨ga, oa, ca, x, e1, hga, hx, hcell⟩ := HT.out.get i (by rw [hn.out]; exact hlt)
        injection e1 with e1 e2 e3
        subst e1 e3
        have HXO := hide (HL.out x (List.mem_of_getElem? hx))
        have HC := hide hcell
        clear e2 hx hcell hga
        obtain ⟨x0, x1, x2⟩ := x
        have k0 : wr.cell? ⟨ga, oa + i * 3, none⟩ = some (.int .i64 x0) := HC.out wr Hb.out 0 _ rfl
        have k1 : wr.cell? ⟨ga, oa + i * 3 + 1, none⟩ = some (.int .i64 x1) := HC.out wr Hb.out 1 _ rfl
        have k2 : wr.cell? ⟨ga, oa + i * 3 + 2, none⟩ = some (.bool x2) := HC.out wr Hb.out 2 _ rfl
        have hBl2 := HB.out.lt
        have hMl2 := HM.out.lt
        go_upto_region 13 with fail
        have HX := hide (Blk.new wr #[.int .i64 x0, .int .i64 x1, .bool x2] 58)
        replace HB := hide (HB.out.alloc (.cells #[.int .i64 x0, .int .i64 x1, .bool x2] 58))
        replace HM := hide (HM.out.alloc (.cells #[.int .i64 x0, .int .i64 x1, .bool x2] 58))
        replace Hb := hide (below_next Hb.out (Nat.le_refl _) (below_alloc wr (.cells #[.int .i64 x0, .int .i64 x1, .bool x2] 58)))
        clear k0 k1 k2 HC
        generalize wr.heap.size = d at *
        generalize wr.alloc (.cells #[.int .i64 x0, .int .i64 x1, .bool x2] 58) = W3 at *
        have k0 : W3.cell? ⟨d, 0, none⟩ = some (.int .i64 x0) := HX.out.cell 0 rfl
        have k1 : W3.cell? ⟨d, 1, none⟩ = some (.int .i64 x1) := HX.out.cell 1 rfl
        have k2 : W3.cell? ⟨d, 2, none⟩ = some (.bool x2) := HX.out.cell 2 rfl
        have q5 : W3.cell? ⟨M, 5, none⟩ = some (.int .i64 m6) := HM.out.cell 5 rfl
        by_cases hr : x0 < 0 ∨ m6 < x0 ∨ x1 < -off ∨ off < x1
        · rcases (show x0 < 0 ∨ (¬ x0 < 0 ∧ m6 < x0) ∨ (¬ x0 < 0 ∧ ¬ m6 < x0 ∧ x1 < -off) ∨ (¬ x0 < 0 ∧ ¬ m6 < x0 ∧ ¬ x1 < -off ∧ off < x1) by omega) with h1 | ⟨h1, h2⟩ | ⟨h1, h2, h3⟩ | ⟨h1, h2, h3, h4⟩
          all_goals
            clear hr
            go_wp2_with (go_at_call 11; refine (awakeP _).mono ?_; rintro e w5 ⟨rfl, hb5⟩)
            go_ret
            exact ⟨rfl, below_next Hb.out (Nat.le_refl _) hb5⟩
        · have p1 : ¬ x0 < 0 := by omega
          have p2 : ¬ m6 < x0 := by omega
          have p3 : ¬ x1 < -off := by omega
          have p4 : ¬ off < x1 := by omega
          have hin : I64 (c - x0) := by unfold I64; omega
          have hin2 : I64 (c - x0 + x1) := by unfold I64; omega
          have SL := hide (step_lies (t := t) (c := c) (k := x0) (f := x1) (o := x2) hin HLI.out (by omega) (by rw [HTL.out, ← hdr.out]; omega) (by rw [HTL.out, hoff.out]; omega) (by rw [HTL.out, hoff.out]; omega))
          have O4 := hide (stp_ok HOK.out x2 (c - x0 + x1))
          have L4 : Hid ((stpS t x2 (c - x0 + x1)).l = l) := hide ((stp_l _ _ _).trans HTL.out)
          clear hr
          go_upto_region 17 with (go_at_call 13; refine (step_any W3 B t x2 (c - x0 + x1) HB.out HOK.out hin2).mono ?_; rintro e w4 ⟨rfl, hB4, hG4⟩)
          generalize stpS t x2 (c - x0 + x1) = t4 at *
          replace HM := hide (HM.out.grown hG4 (by intro e; injection e with e; omega))
          replace Hb := hide (below_grown Hb.out hG4 (fun q e => by injection e with e; omega))
          replace HB := hide hB4
          clear hB4 hG4 HX k0 k1 k2 q5 HOK HTL HLI
          have LF := hide (left_any w4 B t4 HB.out O4.out.snd.len)
          rw [SL.out.kn] at LF
          have s1 : ¬ c - x0 < t4.lo := by have := SL.out.lo; omega
          have s2 : ¬ t4.hi < c - x0 := by have := SL.out.hi; omega
          go_upto_region 18 with (go_at_call 15; refine LF.out.mono ?_; rintro e w5 ⟨rfl, hb5⟩)
          have HSp := hide (Blk.new w5 #[.int .i64 t4.lo, .int .i64 t4.hi] 31)
          replace HB := hide ((HB.out.after hb5).alloc (.cells #[.int .i64 t4.lo, .int .i64 t4.hi] 31))
          replace HM := hide ((HM.out.after hb5).alloc (.cells #[.int .i64 t4.lo, .int .i64 t4.hi] 31))
          replace Hb := hide (below_next (below_next Hb.out (Nat.le_refl _) hb5) (Nat.le_refl _) (below_alloc w5 (.cells #[.int .i64 t4.lo, .int .i64 t4.hi] 31)))
          clear hb5 LF
          generalize w5.heap.size = d5 at *
          generalize w5.alloc (.cells #[.int .i64 t4.lo, .int .i64 t4.hi] 31) = W5 at *
          have z0 : W5.cell? ⟨d5, 0, none⟩ = some (.int .i64 t4.lo) := HSp.out.cell 0 rfl
          have z1 : W5.cell? ⟨d5, 1, none⟩ = some (.int .i64 t4.hi) := HSp.out.cell 1 rfl
          go_wp2_with fail
          go_roundw
          case rel => exact ⟨i + 1, c - x0, t4, rfl, by go_num, by omega, by omega, by omega, O4.out, L4.out, SL.out, HB.out, HM.out, Hb.out⟩
          case measure => simp [intOf]; omega
      · obtain rfl : i = n := by omega
        go_wp2_with (go_at_call 11; refine (awakeP _).mono ?_; rintro e w5 ⟨rfl, hb5⟩)
        go_ret
        exact ⟨rfl, below_next Hb.out (Nat.le_refl _) hb5⟩
theorem PowerHolds_walk (v : Value) (c : Int) (uv : Value) (w : World) (hv : ∃ l, IntsIn w v l) (hc : I64 c) (hT : ∃ L, (∀ x ∈ L, UssOk x) ∧ Rws w uv 3 cUss L) : Calls Try.prog 4 #[v, .int .i64 c, uv] w fun e w' => e = .returned (.bool true) ∧ Below w.heap.size w w' := by
  obtain ⟨l, hv⟩ := hv
  obtain ⟨L, hL, hT⟩ := hT
  by_cases h : chk l = 0
  · exact holds_yes l v uv c L w hv.1 (sound_of h) hc hL hT
  · exact holds_no l v uv c w hv.1 h
end Go.Proofs.Ytnofpcoohbmnpaa
