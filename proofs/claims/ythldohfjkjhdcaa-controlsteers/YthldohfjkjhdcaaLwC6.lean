/- What ControlSteers answers: true, at every list of parameters and beats. -/
import Derived.Test.YthldohfjkjhdcaaCr2
import Derived.Test.YthldohfjkjhdcaaCoO
import Derived.Test.YthldohfjkjhdcaaKo5
namespace Go.Proofs.Ythldohfjkjhdcaa
open Go.RowKit Go.Great Go.Deep Go.WideShapes Go.ChangeShapes

theorem neq_same (a b c : Int) (w : World) : (binOp .neq 36 (tV a b c) (tV a b c)).run Try.prog w = .ok (.bool false) w := by
  have h := neq_arr a b c a b c w
  simp at h
  exact h
/-- the references behind k axes of a step -/
def rfC (u0 u1 u2 n0 n1 n2 : Int) : Nat → Array Value
  | 0 => tC u0 u1 u2
  | 1 => tC n0 u1 u2
  | 2 => tC n0 n1 u2
  | _ => tC n0 n1 n2
/-- a list that was lent, as a row of its own -/
theorem irow_lent {w : World} {base g : Nat} {l : List Int} (h : IRow w base (.slice (some ⟨g, 0, none⟩) (l.length + 4) (l.length + 4)) (mk4 l 4)) : IRow w base (.slice (some ⟨g, 0, none⟩) l.length (l.length + 4)) l := by
  refine ⟨by rw [List.length_map, Nat.mul_one], .inr ?_⟩
  rcases h.2 with ⟨h1, _⟩ | ⟨g', cap, cur, h1, h2, h3, h4, h5, h6, h7⟩
  · cases h1
  · injection h1 with e1 e2 e3
    injection e1 with e1
    injection e1 with e1 _ _
    subst e1 e3
    refine ⟨g, l.length + 4, cur, rfl, h2, h3, by omega, h5, h6, ?_⟩
    have h8 : (cur.toList.take ((mk4 l 4).length * 1)).take (l.length * 1) = ((mk4 l 4).map (Value.int .i64)).take (l.length * 1) := by rw [h7]
    rw [List.take_take, mk4_len, Nat.mul_one, Nat.mul_one, Nat.min_eq_left (by omega)] at h8
    rw [Nat.mul_one, h8]
    unfold mk4
    rw [List.map_append, List.take_append_of_le_length (by rw [List.length_map]; omega), List.take_of_length_le (by rw [List.length_map]; omega)]
set_option maxHeartbeats 2000000 in
set_option maxRecDepth 100000 in
theorem steers_no (l : List Int) (v bv : Value) (w : World) (hI : IntsIn w v l) (hc : chk l ≠ 0) : Calls Try.prog 4 #[v, bv] w fun e w' => e = .returned (.bool true) ∧ Below w.heap.size w w' := by
  obtain ⟨hv, hnil, hlen⟩ := hI
  have LE := hide (lent_any l v w hv hnil hlen)
  have NB := hide (fun W u (hW : Ints W u l) => newS_no W l u hW hc)
  have CH := hide (fun W (hW : Ints W v l) => check_any l v W hW)
  have KE := hide (fun W g (hR : IRow W w.heap.size (.slice (some ⟨g, 0, none⟩) (l.length + 4) (l.length + 4)) (mk4 l 4)) (hW : Ints W v l) => kept_true l v W w.heap.size g hR hW (by omega))
  have LI := hide (fun W (hR : IRow W w.heap.size (.slice (some ⟨w.heap.size, 0, none⟩) (l.length + 4) (l.length + 4)) (mk4 l 4)) => lent_ints hR)
  have HV := hide hv
  have hne : (chk l != 0) = true := by simp [hc]
  have heq : (chk l == 0) = false := by simp [hc]
  have hee : (chk l != chk l) = false := by simp
  obtain ⟨a, cap, rfl, _⟩ := hv
  clear hnil hlen
  generalize l.length = n at *
  generalize chk l = e0 at *
  go_enter Try.func4, Try.ntmps4
  go_upto_region 2 with (go_at_call 14; refine LE.out.mono ?_; rintro e w1 ⟨rfl, hR1, hb1⟩)
  have HO := hide hR1
  have Hb := hide hb1
  replace HV := hide (HV.out.below hb1)
  clear hR1 hb1
  go_upto_region 3 with (go_at_call 15; refine (NB.out _ _ (LI.out _ HO.out)).mono ?_; rintro e w2 ⟨rfl, hb2⟩)
  replace HO := hide (HO.out.below hb2)
  replace Hb := hide (below_next Hb.out (Nat.le_refl _) hb2)
  replace HV := hide (HV.out.below hb2)
  clear hb2
  go_wp2_with fail
  refine (CH.out _ HV.out).mono ?_
  rintro e w3 ⟨rfl, hb3⟩
  replace HO := hide (HO.out.below hb3)
  replace Hb := hide (below_next Hb.out (Nat.le_refl _) hb3)
  replace HV := hide (HV.out.below hb3)
  clear hb3
  go_wp2_with fail
  refine (KE.out _ _ HO.out HV.out).mono ?_
  rintro e w4 ⟨rfl, k, rfl⟩
  replace Hb := hide (below_drewN Hb.out k)
  go_wp2_with (go_at_call 13; refine (awakeC _).mono ?_; rintro e w5 ⟨rfl, hb5⟩)
  go_ret
  exact ⟨rfl, below_next Hb.out (Nat.le_refl _) hb5⟩
set_option maxHeartbeats 8000000 in
set_option maxRecDepth 100000 in
theorem steers_yes (l : List Int) (v bv : Value) (L : List Bt) (w : World) (hI : IntsIn w v l) (hs : Sound l) (hac : I64 (acc l)) (hL : ∀ x ∈ L, BtOk x) (hT : Rws w bv 16 cBt L) : Calls Try.prog 4 #[v, bv] w fun e w' => e = .returned (.bool true) ∧ Below w.heap.size w w' := by
  obtain ⟨hv, hnil, hlen⟩ := hI
  have LE : Hid (Calls Try.prog 14 #[v] w fun e w' => e = .returned (.slice (some ⟨w.heap.size, 0, none⟩) 24 28) ∧ IRow w' w.heap.size (.slice (some ⟨w.heap.size, 0, none⟩) 28 28) (mk4 l 4) ∧ Below w.heap.size w w') := hide (by
    have := lent_any l v w hv hnil hlen
    rw [hs.len] at this
    exact this)
  have KE : Hid (∀ W (_ : IRow W w.heap.size (.slice (some ⟨w.heap.size, 0, none⟩) 28 28) (mk4 l 4)) (_ : Ints W v l), Calls Try.prog 17 #[.slice (some ⟨w.heap.size, 0, none⟩) 24 28, v] W fun e w' => e = .returned (.bool true) ∧ ∃ n, w' = W.drewN n) := hide (fun W hR hW => by
    have := kept_true l v W w.heap.size w.heap.size (by rw [hs.len]; exact hR) hW (by rw [hs.len]; omega)
    rw [hs.len] at this
    exact this)
  have LI : Hid (∀ W (_ : IRow W w.heap.size (.slice (some ⟨w.heap.size, 0, none⟩) 28 28) (mk4 l 4)), IRow W w.heap.size (.slice (some ⟨w.heap.size, 0, none⟩) 24 28) l) := hide (fun W hR => by
    have := irow_lent (l := l) (by rw [hs.len]; exact hR)
    rw [hs.len] at this
    exact this)
  have NB := hide (fun W u (hW : Ints W u l) => newS_any W l u hW hs)
  have CH : Hid (∀ W (_ : Ints W v l), Calls Try.prog 16 #[v] W fun e w' => e = .returned (.int .i64 0) ∧ Below W.heap.size W w') := hide (fun W hW => by
    have := check_any l v W hW
    rw [hs.chk] at this
    exact this)
  have HV := hide hv
  have HT := hide hT
  have HL := hide hL
  have HSl := hide hs.len
  have hmax := hT.1
  unfold maxLen at hmax
  obtain ⟨_, ta, tc, rfl, _⟩ := hT
  obtain ⟨n, hn⟩ : ∃ n, Hid (L.length = n) := ⟨_, hide rfl⟩
  rw [hn.out] at hmax ⊢
  obtain ⟨g, og, cap, rfl, hg, hcl⟩ := hv.open24 hs.len
  have HC6 : Hid (∀ W, Below w.heap.size w W → W.cell? ⟨g, og + 6, none⟩ = some (.int .i64 (acc l))) := hide (fun W hW => (hW.cell (p := ⟨g, og + 6, none⟩) hg).trans (hcl 6 (by omega)))
  obtain ⟨ac, eac⟩ : ∃ y, Hid (acc l = y) := ⟨_, hide rfl⟩
  rw [eac.out] at HC6 NB hac
  have HAC := hide hac
  clear hL hv hs hnil hlen hac hcl
  go_enter Try.func4, Try.ntmps4
  go_upto_region 2 with (go_at_call 14; refine LE.out.mono ?_; rintro e w1 ⟨rfl, hR1, hb1⟩)
  have HO := hide hR1
  have Hb := hide hb1
  have hw1 : w.heap.size < w1.heap.size := (World.ownsRow.lt hR1 _ rfl).2
  replace HV := hide (HV.out.below hb1)
  clear hR1 hb1
  go_upto_region 3 with (go_at_call 15; refine (NB.out _ _ (LI.out _ HO.out).ints).mono ?_; rintro e w2 ⟨B, rfl, hB, hb2, hBw⟩)
  have HB := hide hB
  have hBl := hB.lt
  replace HO := hide (HO.out.below hb2)
  replace Hb := hide (below_next Hb.out (Nat.le_refl _) hb2)
  replace HV := hide (HV.out.below hb2)
  clear hb2 hB
  go_wp2_with fail
  refine (CH.out _ HV.out).mono ?_
  rintro e w3 ⟨rfl, hb3⟩
  replace HO := hide (HO.out.below hb3)
  replace HB := hide (HB.out.after hb3)
  replace Hb := hide (below_next Hb.out (Nat.le_refl _) hb3)
  replace HV := hide (HV.out.below hb3)
  clear hb3
  go_wp2_with fail
  refine (KE.out _ HO.out HV.out).mono ?_
  rintro e w4 ⟨rfl, k, rfl⟩
  replace HB := hide (blk_drewN HB.out k)
  replace HO := hide (LI.out _ (HO.out.drewN k))
  replace Hb := hide (below_drewN Hb.out k)
  clear HV KE LI LE NB CH
  generalize w3.drewN k = W4 at *
  go_wp2_with fail
  have hlW := Hb.out.size
  have AP := hide (apart_one 24 (by omega) (.slice (some ⟨w.heap.size, 0, none⟩) 24 28) l HSl.out (W4.alloc (.cells #[.slice (some ⟨w.heap.size, 0, none⟩) 24 28] 25)) w.heap.size (HO.out.alloc _) W4.heap.size (heap_alloc_new _ _) hlW)
  refine AP.out.mono ?_
  rintro e w5 ⟨rfl, _, hgr⟩
  have hgr2 : (W4.alloc (.cells #[.slice (some ⟨w.heap.size, 0, none⟩) 24 28] 25)).grownBy w5 (some w.heap.size) := hgr
  replace HB := hide ((HB.out.alloc (.cells #[.slice (some ⟨w.heap.size, 0, none⟩) 24 28] 25)).grown hgr2 (by intro e; injection e with e; omega))
  replace Hb := hide (below_grown (below_next Hb.out (Nat.le_refl _) (below_alloc W4 (.cells #[.slice (some ⟨w.heap.size, 0, none⟩) 24 28] 25))) hgr2 (fun q e => by injection e with e; omega))
  have hBw2 : w.heap.size ≤ B := by omega
  clear hgr hgr2 HO AP hlW hw1 hBw hBl
  have c6 : w5.cell? ⟨g, og + 6, none⟩ = some (.int .i64 ac) := HC6.out w5 Hb.out
  go_upto_region 10 with fail
  have HF := hide (Blk.new w5 (tC 0 0 0) 36)
  have hBF : B < w5.heap.size := HB.out.lt
  replace HB := hide (HB.out.alloc (.cells (tC 0 0 0) 36))
  replace Hb := hide (below_next Hb.out (Nat.le_refl _) (below_alloc w5 (.cells (tC 0 0 0) 36)))
  clear c6 HC6
  generalize w5.heap.size = F at *
  generalize w5.alloc (.cells (tC 0 0 0) 36) = W6 at *
  go_wp2_with fail
  go_loopw [10] (fun vi wr => ∃ (i : Nat) (r0 r1 r2 : Int), vi = .int .i64 (i : Int) ∧ i ≤ n ∧ (I64 r0 ∧ I64 r1 ∧ I64 r2) ∧ Str wr B ac r0 r1 r2 ∧ Blk wr F (tC r0 r1 r2) 36 ∧ Below w.heap.size w wr) (fun v _ => n - (intOf v).toNat)
  case atStart => exact ⟨0, 0, 0, 0, rfl, by omega, ⟨i64_0, i64_0, i64_0⟩, HB.out, HF.out, Hb.out⟩
  case round =>
    clear HB HF Hb
    obtain ⟨i, r0, r1, r2, rfl, hi, hri, hB, hF, hb⟩ := hrel
    have HRI := hide hri
    have HB := hide hB
    have HF := hide hF
    have Hb := hide hb
    clear hri hB hF hb
    by_cases hlt : i < n
    · obtain ⟨ga, oa, ca, x, e1, hga, hx, hcell⟩ := HT.out.get i (by rw [hn.out]; exact hlt)
      injection e1 with e1 e2 e3
      subst e1 e3
      have HXO := hide (HL.out x (List.mem_of_getElem? hx))
      have HC := hide hcell
      clear e2 hx hcell hga
      have ST := hide (fun W u0 u1 u2 (hB : Str W B ac u0 u1 u2) (i0 : I64 u0) (i1 : I64 u1) (i2 : I64 u2) => step_any W B ac u0 u1 u2 x.p x.q x.r x.x0 x.x1 x.x2 x.v0 x.v1 x.v2 hB HAC.out i0 i1 i2 HXO.out.p HXO.out.q HXO.out.r HXO.out.x0 HXO.out.x1 HXO.out.x2 HXO.out.v0 HXO.out.v1 HXO.out.v2)
      have AX0 := hide (fun W u (hu : I64 u) => raxis_any u ac x.p x.x0 x.v0 W hu HAC.out HXO.out.p HXO.out.x0 HXO.out.v0)
      have AX1 := hide (fun W u (hu : I64 u) => raxis_any u ac x.q x.x1 x.v1 W hu HAC.out HXO.out.q HXO.out.x1 HXO.out.v1)
      have AX2 := hide (fun W u (hu : I64 u) => raxis_any u ac x.r x.x2 x.v2 W hu HAC.out HXO.out.r HXO.out.x2 HXO.out.v2)
      have NI : Hid (∀ u0 u1 u2, I64 u0 → I64 u1 → I64 u2 → I64 (nx u0 ac x.p x.x0) ∧ I64 (nx u1 ac x.q x.x1) ∧ I64 (nx u2 ac x.r x.x2)) := hide (fun u0 u1 u2 i0 i1 i2 => ⟨nx_i HXO.out.p _ i0, nx_i HXO.out.q _ i1, nx_i HXO.out.r _ i2⟩)
      have VI : Hid (I64 x.v0 ∧ I64 x.v1 ∧ I64 x.v2) := hide ⟨HXO.out.v0, HXO.out.v1, HXO.out.v2⟩
      clear HXO
      obtain ⟨⟨h0, a0, s0⟩, ⟨h1, a1, s1⟩, ⟨h2, a2, s2⟩, x0, x1, x2, v0, v1, v2, rest⟩ := x
      simp only at ST AX0 AX1 AX2 NI VI
      have k0 : wr.cell? ⟨ga, oa + i * 16, none⟩ = some (.bool h0) := HC.out wr Hb.out 0 _ rfl
      have k1 : wr.cell? ⟨ga, oa + i * 16 + 1, none⟩ = some (.int .i64 a0) := HC.out wr Hb.out 1 _ rfl
      have k2 : wr.cell? ⟨ga, oa + i * 16 + 2, none⟩ = some (.int .i64 s0) := HC.out wr Hb.out 2 _ rfl
      have k3 : wr.cell? ⟨ga, oa + i * 16 + 3, none⟩ = some (.bool h1) := HC.out wr Hb.out 3 _ rfl
      have k4 : wr.cell? ⟨ga, oa + i * 16 + 4, none⟩ = some (.int .i64 a1) := HC.out wr Hb.out 4 _ rfl
      have k5 : wr.cell? ⟨ga, oa + i * 16 + 5, none⟩ = some (.int .i64 s1) := HC.out wr Hb.out 5 _ rfl
      have k6 : wr.cell? ⟨ga, oa + i * 16 + 6, none⟩ = some (.bool h2) := HC.out wr Hb.out 6 _ rfl
      have k7 : wr.cell? ⟨ga, oa + i * 16 + 7, none⟩ = some (.int .i64 a2) := HC.out wr Hb.out 7 _ rfl
      have k8 : wr.cell? ⟨ga, oa + i * 16 + 8, none⟩ = some (.int .i64 s2) := HC.out wr Hb.out 8 _ rfl
      have k9 : wr.cell? ⟨ga, oa + i * 16 + 9, none⟩ = some (.int .i64 x0) := HC.out wr Hb.out 9 _ rfl
      have k10 : wr.cell? ⟨ga, oa + i * 16 + 10, none⟩ = some (.int .i64 x1) := HC.out wr Hb.out 10 _ rfl
      have k11 : wr.cell? ⟨ga, oa + i * 16 + 11, none⟩ = some (.int .i64 x2) := HC.out wr Hb.out 11 _ rfl
      have k12 : wr.cell? ⟨ga, oa + i * 16 + 12, none⟩ = some (.int .i64 v0) := HC.out wr Hb.out 12 _ rfl
      have k13 : wr.cell? ⟨ga, oa + i * 16 + 13, none⟩ = some (.int .i64 v1) := HC.out wr Hb.out 13 _ rfl
      have k14 : wr.cell? ⟨ga, oa + i * 16 + 14, none⟩ = some (.int .i64 v2) := HC.out wr Hb.out 14 _ rfl
      have k15 : wr.cell? ⟨ga, oa + i * 16 + 15, none⟩ = some (.bool rest) := HC.out wr Hb.out 15 _ rfl
      go_upto_region 14 with fail
      have HD := hide (Blk.new wr #[.bool h0, .int .i64 a0, .int .i64 s0, .bool h1, .int .i64 a1, .int .i64 s1, .bool h2, .int .i64 a2, .int .i64 s2, .int .i64 x0, .int .i64 x1, .int .i64 x2, .int .i64 v0, .int .i64 v1, .int .i64 v2, .bool rest] 41)
      have hFD : F < wr.heap.size := HF.out.lt
      replace HB := hide (HB.out.alloc (.cells #[.bool h0, .int .i64 a0, .int .i64 s0, .bool h1, .int .i64 a1, .int .i64 s1, .bool h2, .int .i64 a2, .int .i64 s2, .int .i64 x0, .int .i64 x1, .int .i64 x2, .int .i64 v0, .int .i64 v1, .int .i64 v2, .bool rest] 41))
      replace HF := hide (HF.out.alloc (.cells #[.bool h0, .int .i64 a0, .int .i64 s0, .bool h1, .int .i64 a1, .int .i64 s1, .bool h2, .int .i64 a2, .int .i64 s2, .int .i64 x0, .int .i64 x1, .int .i64 x2, .int .i64 v0, .int .i64 v1, .int .i64 v2, .bool rest] 41))
      replace Hb := hide (below_next Hb.out (Nat.le_refl _) (below_alloc wr (.cells #[.bool h0, .int .i64 a0, .int .i64 s0, .bool h1, .int .i64 a1, .int .i64 s1, .bool h2, .int .i64 a2, .int .i64 s2, .int .i64 x0, .int .i64 x1, .int .i64 x2, .int .i64 v0, .int .i64 v1, .int .i64 v2, .bool rest] 41)))
      clear k0 k1 k2 k3 k4 k5 k6 k7 k8 k9 k10 k11 k12 k13 k14 k15 HC
      generalize wr.heap.size = D at *
      generalize wr.alloc (.cells #[.bool h0, .int .i64 a0, .int .i64 s0, .bool h1, .int .i64 a1, .int .i64 s1, .bool h2, .int .i64 a2, .int .i64 s2, .int .i64 x0, .int .i64 x1, .int .i64 x2, .int .i64 v0, .int .i64 v1, .int .i64 v2, .bool rest] 41) = W7 at *
      have d15 : W7.cell? ⟨D, 15, none⟩ = some (.bool rest) := HD.out.cell 15 rfl
      go_upto_if 60 with fail
      clear d15
      go_cut [] (fun wx => ∃ u0 u1 u2 : Int, (I64 u0 ∧ I64 u1 ∧ I64 u2) ∧ Str wx B ac u0 u1 u2 ∧ Blk wx F (tC u0 u1 u2) 36 ∧ Blk wx D #[.bool h0, .int .i64 a0, .int .i64 s0, .bool h1, .int .i64 a1, .int .i64 s1, .bool h2, .int .i64 a2, .int .i64 s2, .int .i64 x0, .int .i64 x1, .int .i64 x2, .int .i64 v0, .int .i64 v1, .int .i64 v2, .bool rest] 41 ∧ Below w.heap.size w wx)
      case first =>
        cases rest with
        | false =>
          go_wp2_with fail
          go_meet
          exact ⟨r0, r1, r2, HRI.out, HB.out, HF.out, HD.out, Hb.out⟩
        | true =>
          have d12 : W7.cell? ⟨D, 12, none⟩ = some (.int .i64 v0) := HD.out.cell 12 rfl
          have d13 : W7.cell? ⟨D, 13, none⟩ = some (.int .i64 v1) := HD.out.cell 13 rfl
          have d14 : W7.cell? ⟨D, 14, none⟩ = some (.int .i64 v2) := HD.out.cell 14 rfl
          go_upto_region 16 with (first | (go_at_call 19; refine (rest_any W7 B ac r0 r1 r2 v0 v1 v2 HB.out).mono ?_; rintro e w8 ⟨rfl, hB8, hG8⟩))
          replace HB := hide hB8
          replace HF := hide (HF.out.grown hG8 (by intro e; injection e with e; omega))
          replace HD := hide (HD.out.grown hG8 (by intro e; injection e with e; omega))
          replace Hb := hide (below_grown Hb.out hG8 (fun q e => by injection e with e; omega))
          clear hB8 hG8 d12 d13 d14
          have d12 : w8.cell? ⟨D, 12, none⟩ = some (.int .i64 v0) := HD.out.cell 12 rfl
          have d13 : w8.cell? ⟨D, 13, none⟩ = some (.int .i64 v1) := HD.out.cell 13 rfl
          have d14 : w8.cell? ⟨D, 14, none⟩ = some (.int .i64 v2) := HD.out.cell 14 rfl
          obtain ⟨t0, t1, t2⟩ := three_cells HF.out
          have f0 := HF.out.frozen 0
          have f1 := HF.out.frozen 1
          have f2 := HF.out.frozen 2
          go_wp2_with fail
          go_meet
          exact ⟨v0, v1, v2, VI.out, HB.out.set3o (by omega) _ _ _, HF.out.set3 _ _ _, HD.out.set3o (by omega) _ _ _, below_set3 Hb.out _ _ _ _ (by omega) Hb.out.size⟩
      case rest =>
        clear HB HF HD Hb HRI VI
        obtain ⟨u0, u1, u2, ⟨i0, i1, i2⟩, hB, hF, hD, hb⟩ := hcut
        have HB := hide hB
        have HF := hide hF
        have HD := hide hD
        have Hb := hide hb
        have hFx := hF.lt
        have hDx := hD.lt
        clear hB hF hD hb
        have NI2 := hide (NI.out u0 u1 u2 i0 i1 i2)
        have S1 := hide (fun W hB => ST.out W u0 u1 u2 hB i0 i1 i2)
        have X0 := hide (fun W => AX0.out W u0 i0)
        have X1 := hide (fun W => AX1.out W u1 i1)
        have X2 := hide (fun W => AX2.out W u2 i2)
        clear NI ST AX0 AX1 AX2 i0 i1 i2
        unfold SEnd at S1
        generalize nx u0 ac ⟨h0, a0, s0⟩ x0 = n0 at *
        generalize nx u1 ac ⟨h1, a1, s1⟩ x1 = n1 at *
        generalize nx u2 ac ⟨h2, a2, s2⟩ x2 = n2 at *
        generalize ask n0 v0 = q0 at *
        generalize ask n1 v1 = q1 at *
        generalize ask n2 v2 = q2 at *
        have d0 : wc.cell? ⟨D, 0, none⟩ = some (.bool h0) := HD.out.cell 0 rfl
        have d1 : wc.cell? ⟨D, 1, none⟩ = some (.int .i64 a0) := HD.out.cell 1 rfl
        have d2 : wc.cell? ⟨D, 2, none⟩ = some (.int .i64 s0) := HD.out.cell 2 rfl
        have d3 : wc.cell? ⟨D, 3, none⟩ = some (.bool h1) := HD.out.cell 3 rfl
        have d4 : wc.cell? ⟨D, 4, none⟩ = some (.int .i64 a1) := HD.out.cell 4 rfl
        have d5 : wc.cell? ⟨D, 5, none⟩ = some (.int .i64 s1) := HD.out.cell 5 rfl
        have d6 : wc.cell? ⟨D, 6, none⟩ = some (.bool h2) := HD.out.cell 6 rfl
        have d7 : wc.cell? ⟨D, 7, none⟩ = some (.int .i64 a2) := HD.out.cell 7 rfl
        have d8 : wc.cell? ⟨D, 8, none⟩ = some (.int .i64 s2) := HD.out.cell 8 rfl
        have d9 : wc.cell? ⟨D, 9, none⟩ = some (.int .i64 x0) := HD.out.cell 9 rfl
        have d10 : wc.cell? ⟨D, 10, none⟩ = some (.int .i64 x1) := HD.out.cell 10 rfl
        have d11 : wc.cell? ⟨D, 11, none⟩ = some (.int .i64 x2) := HD.out.cell 11 rfl
        have d12 : wc.cell? ⟨D, 12, none⟩ = some (.int .i64 v0) := HD.out.cell 12 rfl
        have d13 : wc.cell? ⟨D, 13, none⟩ = some (.int .i64 v1) := HD.out.cell 13 rfl
        have d14 : wc.cell? ⟨D, 14, none⟩ = some (.int .i64 v2) := HD.out.cell 14 rfl
        go_upto_region 18 with (first | (go_at_call 20; refine (S1.out _ HB.out).mono ?_; rintro e w9 ⟨rfl, hB9, hG9⟩))
        have HG := hide (Blk.new w9 (tC q0 q1 q2) 36)
        replace HB := hide (hB9.alloc (.cells (tC q0 q1 q2) 36))
        replace HF := hide ((HF.out.grown hG9 (by intro e; injection e with e; omega)).alloc (.cells (tC q0 q1 q2) 36))
        replace HD := hide ((HD.out.grown hG9 (by intro e; injection e with e; omega)).alloc (.cells (tC q0 q1 q2) 36))
        replace Hb := hide (below_next (below_grown Hb.out hG9 (fun q e => by injection e with e; omega)) (Nat.le_refl _) (below_alloc w9 (.cells (tC q0 q1 q2) 36)))
        have hGx : D < w9.heap.size := Nat.lt_of_lt_of_le hDx hG9.size
        clear hB9 hG9 S1 hFx hDx d0 d1 d2 d3 d4 d5 d6 d7 d8 d9 d10 d11 d12 d13 d14
        generalize w9.heap.size = G at *
        generalize w9.alloc (.cells (tC q0 q1 q2) 36) = W9 at *
        go_wp2_with fail
        go_loopw [13] (fun vk wq => ∃ k : Nat, vk = .int .i64 (k : Int) ∧ k ≤ 3 ∧ Str wq B ac n0 n1 n2 ∧ Blk wq F (rfC u0 u1 u2 n0 n1 n2 k) 36 ∧ Blk wq D #[.bool h0, .int .i64 a0, .int .i64 s0, .bool h1, .int .i64 a1, .int .i64 s1, .bool h2, .int .i64 a2, .int .i64 s2, .int .i64 x0, .int .i64 x1, .int .i64 x2, .int .i64 v0, .int .i64 v1, .int .i64 v2, .bool rest] 41 ∧ Blk wq G (tC q0 q1 q2) 36 ∧ Below w.heap.size w wq) (fun v _ => 3 - (intOf v).toNat)
        case atStart => exact ⟨0, rfl, by omega, HB.out, HF.out, HD.out, HG.out, Hb.out⟩
        case round =>
          clear HB HF HD HG Hb
          obtain ⟨k, rfl, hk, hB, hF, hD, hG, hb⟩ := hrel
          have HB := hide hB
          have HF := hide hF
          have HD := hide hD
          have HG := hide hG
          have Hb := hide hb
          clear hB hF hD hG hb
          obtain rfl | rfl | rfl | rfl : k = 0 ∨ k = 1 ∨ k = 2 ∨ k = 3 := by omega
          · clear X1 X2
            have e0 : ∀ z : BelowW wr, z.q.cell? ⟨F, 0, none⟩ = some (.int .i64 u0) := HF.out.at 0 rfl
            have e1 : ∀ z : BelowW wr, z.q.cell? ⟨D, 0, none⟩ = some (.bool h0) := HD.out.at 0 rfl
            have e2 : ∀ z : BelowW wr, z.q.cell? ⟨D, 1, none⟩ = some (.int .i64 a0) := HD.out.at 1 rfl
            have e3 : ∀ z : BelowW wr, z.q.cell? ⟨D, 2, none⟩ = some (.int .i64 s0) := HD.out.at 2 rfl
            have e4 : ∀ z : BelowW wr, z.q.cell? ⟨D, 9, none⟩ = some (.int .i64 x0) := HD.out.at 9 rfl
            have e5 : ∀ z : BelowW wr, z.q.cell? ⟨D, 12, none⟩ = some (.int .i64 v0) := HD.out.at 12 rfl
            have hne : Nonempty (BelowW wr) := ⟨⟨wr, Below.refl _ _⟩⟩
            go_upto_region 21 with fail
            refine wp_region_calm (by kernel_rfl) (by kernel_rfl) ?_
            repeat (go_big_quiet_step (first
              | (go_at_call 21; exact calm_of (X0.out _))))
            refine wpQuiet_nil ?_
            rintro _ ⟨z, rfl⟩
            replace HB := hide (HB.out.after z.h)
            replace HF := hide (HF.out.after z.h)
            replace HD := hide (HD.out.after z.h)
            replace HG := hide (HG.out.after z.h)
            replace Hb := hide (below_next Hb.out (Nat.le_refl _) z.h)
            clear e0 e1 e2 e3 e4 e5 hne
            generalize z.q = W10 at *
            clear z
            have g0 : W10.cell? ⟨G, 0, none⟩ = some (.int .i64 q0) := HG.out.cell 0 rfl
            have t0 : W10.cell? ⟨F, 0, none⟩ = some (.int .i64 u0) := HF.out.cell 0 rfl
            have f0 := HF.out.frozen 0
            have eq0 : (q0 != q0) = false := by simp
            go_wp2_with fail
            go_roundw
            case rel => exact ⟨1, by go_num, by omega, HB.out.setOther (by omega) _ _, HF.out.set 0 (.int .i64 n0), HD.out.setOther (by omega) _ _, HG.out.setOther (by omega) _ _, below_set Hb.out _ _ _ (by omega) Hb.out.size⟩
            case measure => simp [intOf]
          · clear X0 X2
            have e0 : ∀ z : BelowW wr, z.q.cell? ⟨F, 1, none⟩ = some (.int .i64 u1) := HF.out.at 1 rfl
            have e1 : ∀ z : BelowW wr, z.q.cell? ⟨D, 3, none⟩ = some (.bool h1) := HD.out.at 3 rfl
            have e2 : ∀ z : BelowW wr, z.q.cell? ⟨D, 4, none⟩ = some (.int .i64 a1) := HD.out.at 4 rfl
            have e3 : ∀ z : BelowW wr, z.q.cell? ⟨D, 5, none⟩ = some (.int .i64 s1) := HD.out.at 5 rfl
            have e4 : ∀ z : BelowW wr, z.q.cell? ⟨D, 10, none⟩ = some (.int .i64 x1) := HD.out.at 10 rfl
            have e5 : ∀ z : BelowW wr, z.q.cell? ⟨D, 13, none⟩ = some (.int .i64 v1) := HD.out.at 13 rfl
            have hne : Nonempty (BelowW wr) := ⟨⟨wr, Below.refl _ _⟩⟩
            go_upto_region 21 with fail
            refine wp_region_calm (by kernel_rfl) (by kernel_rfl) ?_
            repeat (go_big_quiet_step (first
              | (go_at_call 21; exact calm_of (X1.out _))))
            refine wpQuiet_nil ?_
            rintro _ ⟨z, rfl⟩
            replace HB := hide (HB.out.after z.h)
            replace HF := hide (HF.out.after z.h)
            replace HD := hide (HD.out.after z.h)
            replace HG := hide (HG.out.after z.h)
            replace Hb := hide (below_next Hb.out (Nat.le_refl _) z.h)
            clear e0 e1 e2 e3 e4 e5 hne
            generalize z.q = W10 at *
            clear z
            have g0 : W10.cell? ⟨G, 1, none⟩ = some (.int .i64 q1) := HG.out.cell 1 rfl
            have t0 : W10.cell? ⟨F, 1, none⟩ = some (.int .i64 u1) := HF.out.cell 1 rfl
            have f0 := HF.out.frozen 1
            have eq0 : (q1 != q1) = false := by simp
            go_wp2_with fail
            go_roundw
            case rel => exact ⟨2, by go_num, by omega, HB.out.setOther (by omega) _ _, HF.out.set 1 (.int .i64 n1), HD.out.setOther (by omega) _ _, HG.out.setOther (by omega) _ _, below_set Hb.out _ _ _ (by omega) Hb.out.size⟩
            case measure => simp [intOf]
          · clear X0 X1
            have e0 : ∀ z : BelowW wr, z.q.cell? ⟨F, 2, none⟩ = some (.int .i64 u2) := HF.out.at 2 rfl
            have e1 : ∀ z : BelowW wr, z.q.cell? ⟨D, 6, none⟩ = some (.bool h2) := HD.out.at 6 rfl
            have e2 : ∀ z : BelowW wr, z.q.cell? ⟨D, 7, none⟩ = some (.int .i64 a2) := HD.out.at 7 rfl
            have e3 : ∀ z : BelowW wr, z.q.cell? ⟨D, 8, none⟩ = some (.int .i64 s2) := HD.out.at 8 rfl
            have e4 : ∀ z : BelowW wr, z.q.cell? ⟨D, 11, none⟩ = some (.int .i64 x2) := HD.out.at 11 rfl
            have e5 : ∀ z : BelowW wr, z.q.cell? ⟨D, 14, none⟩ = some (.int .i64 v2) := HD.out.at 14 rfl
            have hne : Nonempty (BelowW wr) := ⟨⟨wr, Below.refl _ _⟩⟩
            go_upto_region 21 with fail
            refine wp_region_calm (by kernel_rfl) (by kernel_rfl) ?_
            repeat (go_big_quiet_step (first
              | (go_at_call 21; exact calm_of (X2.out _))))
            refine wpQuiet_nil ?_
            rintro _ ⟨z, rfl⟩
            replace HB := hide (HB.out.after z.h)
            replace HF := hide (HF.out.after z.h)
            replace HD := hide (HD.out.after z.h)
            replace HG := hide (HG.out.after z.h)
            replace Hb := hide (below_next Hb.out (Nat.le_refl _) z.h)
            clear e0 e1 e2 e3 e4 e5 hne
            generalize z.q = W10 at *
            clear z
            have g0 : W10.cell? ⟨G, 2, none⟩ = some (.int .i64 q2) := HG.out.cell 2 rfl
            have t0 : W10.cell? ⟨F, 2, none⟩ = some (.int .i64 u2) := HF.out.cell 2 rfl
            have f0 := HF.out.frozen 2
            have eq0 : (q2 != q2) = false := by simp
            go_wp2_with fail
            go_roundw
            case rel => exact ⟨3, by go_num, by omega, HB.out.setOther (by omega) _ _, HF.out.set 2 (.int .i64 n2), HD.out.setOther (by omega) _ _, HG.out.setOther (by omega) _ _, below_set Hb.out _ _ _ (by omega) Hb.out.size⟩
            case measure => simp [intOf]
          · have RF := hide (fun z : BelowW wr => refs_any z.q B ac n0 n1 n2 (HB.out.after z.h))
            have e0 : ∀ z : BelowW wr, z.q.cell? ⟨F, 0, none⟩ = some (.int .i64 n0) := HF.out.at 0 rfl
            have e1 : ∀ z : BelowW wr, z.q.cell? ⟨F, 1, none⟩ = some (.int .i64 n1) := HF.out.at 1 rfl
            have e2 : ∀ z : BelowW wr, z.q.cell? ⟨F, 2, none⟩ = some (.int .i64 n2) := HF.out.at 2 rfl
            have hne : Nonempty (BelowW wr) := ⟨⟨wr, Below.refl _ _⟩⟩
            have NS := neq_same n0 n1 n2
            clear X0 X1 X2
            go_upto_region 25 with fail
            refine wp_region_calm (by kernel_rfl) (by kernel_rfl) ?_
            repeat (go_big_quiet_step (first
              | (go_at_call 22; exact calm_of (RF.out _))))
            refine wpQuiet_nil ?_
            rintro _ ⟨z, rfl⟩
            replace HB := hide (HB.out.after z.h)
            replace HF := hide (HF.out.after z.h)
            replace Hb := hide (below_next Hb.out (Nat.le_refl _) z.h)
            clear e0 e1 e2 hne RF
            generalize z.q = W11 at *
            clear z
            go_wp2_with fail
            go_roundw
            case rel => exact ⟨i + 1, n0, n1, n2, by go_num, by omega, NI2.out, HB.out, HF.out, Hb.out⟩
            case measure => simp [intOf]; omega
    · obtain rfl : i = n := by omega
      go_wp2_with (go_at_call 13; refine (awakeC _).mono ?_; rintro e w5 ⟨rfl, hb5⟩)
      go_ret
      exact ⟨rfl, below_next Hb.out (Nat.le_refl _) hb5⟩
theorem ControlSteers_walk (v bv : Value) (w : World) (hv : ∃ l, IntsIn w v l) (hT : ∃ L, (∀ x ∈ L, BtOk x) ∧ Rws w bv 16 cBt L) : Calls Try.prog 4 #[v, bv] w fun e w' => e = .returned (.bool true) ∧ Below w.heap.size w w' := by
  obtain ⟨l, hv⟩ := hv
  obtain ⟨L, hL, hT⟩ := hT
  by_cases h : chk l = 0
  · have hs := sound_of h
    have hb := hs.inr.bounds
    exact steers_yes l v bv L w hv hs (i64_of (by simp only [acc]; omega)) hL hT
  · exact steers_no l v bv w hv h
end Go.Proofs.Ythldohfjkjhdcaa
