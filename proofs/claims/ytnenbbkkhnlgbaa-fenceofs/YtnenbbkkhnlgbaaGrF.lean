/- The document's Side. -/
import Derived.Test.YtnenbbkkhnlgbaaGrE
namespace Go.Proofs.Ytnenbbkkhnlgbaa
open Go.RowKit Go.Great

theorem rt_same {a b p : Pt} (h' : a.2 ≤ p.2 ↔ b.2 ≤ p.2) : rightB a b p = false := by
  unfold rightB
  split
  · exact Bool.eq_false_iff.2 (fun e => by have := (upB_iff b a p).1 e; omega)
  · exact Bool.eq_false_iff.2 (fun e => by have := (upB_iff a b p).1 e; omega)
theorem rt_up {a b p : Pt} (h1 : a.2 ≤ p.2) (h2 : p.2 < b.2) : rightB a b p = decide (0 < cross a b p) := by
  unfold rightB
  rw [if_neg (by omega)]
  exact beq_of (by rw [upB_iff]; simp; omega)
theorem rt_dn {a b p : Pt} (h1 : b.2 ≤ p.2) (h2 : p.2 < a.2) : rightB a b p = decide (0 < cross b a p) := by
  unfold rightB
  rw [if_pos (by omega)]
  exact beq_of (by rw [upB_iff]; simp; omega)
theorem heap_set {w : World} {g : Nat} {cs : Array Value} {t : TypeId} {fr : Nat × Nat} (h : w.heap[g]? = some (.cells cs t fr)) (i : Nat) (u : Value) : (w.setCell ⟨g, i, none⟩ u).heap[g]? = some (.cells (cs.setIfInBounds i u) t fr) := Joins.block_setCell h u
theorem Blk.set2 {W : World} {B : Nat} {x y : Value} {t : TypeId} (h : Blk W B #[x, y] t) (u v : Value) : Blk ((W.setCell ⟨B, 0, none⟩ u).setCell ⟨B, 1, none⟩ v) B #[u, v] t := heap_set (heap_set h 0 u) 1 v
theorem Blk.off {W : World} {B C : Nat} {cs : Array Value} {t : TypeId} (h : Blk W B cs t) (hne : B ≠ C) (i : Nat) (u : Value) : Blk (W.setCell ⟨C, i, none⟩ u) B cs t := by
  exact (heap_setCell_other W ⟨C, i, none⟩ B u hne).trans h
theorem Blk.frozen {W : World} {B : Nat} {cs : Array Value} {t : TypeId} (h : Blk W B cs t) (i : Nat) : W.frozen? ⟨B, i, none⟩ = false := by simp [World.frozen?, show W.heap[B]? = _ from h]
set_option maxRecDepth 100000 in
set_option maxHeartbeats 8000000 in
theorem inside_any (g o m cap : Nat) (l : List Pt) (p : Pt) (hfit : ∀ k, k < m → Fit (pt l k)) (hfp : Fit p) (w : World) (hp : Poly w g o m cap l) : Calls Try.prog 50 #[slc g o m cap, pV p] w fun e w' => e = .returned (.int .i64 (sidI l m p)) ∧ Below w.heap.size w w' := by
  have HPO := hide hp
  have HFit := hide hfit
  have hm := hp.most
  have hm0 := hp.pos
  have hg := hp.lt
  clear hp hfit
  obtain ⟨SD, hSD⟩ : ∃ SD, sidI l m p = SD := ⟨_, rfl⟩
  have HSD := hide hSD
  rw [hSD]
  clear hSD
  obtain ⟨px, py⟩ := p
  simp only [pV]
  go_enter Try.func50, Try.ntmps50
  go_wp2_with fail
  have BP : Blk (w.alloc (.cells #[.int .i64 px, .int .i64 py] 39)) w.heap.size #[.int .i64 px, .int .i64 py] 39 := Blk.new _ _ _
  have HPO0 := hide (HPO.out.below (below_alloc w (.cells #[.int .i64 px, .int .i64 py] 39)))
  have HB0 := hide (below_alloc w (.cells #[.int .i64 px, .int .i64 py] 39))
  obtain ⟨W0, hW0⟩ : ∃ W0, w.alloc (.cells #[.int .i64 px, .int .i64 py] 39) = W0 := ⟨_, rfl⟩
  rw [hW0] at BP HPO0 HB0 ⊢
  clear hW0
  have HBP := hide BP
  clear BP
  go_loopw [5, 6] (fun s i wx => ∃ k : Nat, k ≤ m ∧ i = .int .i64 k ∧ s = .int .i64 (parI l m (px, py) (upto m k)) ∧ Hid (∀ j, j < k → onK l m (px, py) j = false) ∧ Hid (Below W0.heap.size W0 wx)) (fun _ i _ => m - (intOf i).toNat)
  case atStart => exact ⟨0, by omega, rfl, rfl, hide (by intro j h; omega), hide (Below.refl _ _)⟩
  case round =>
    obtain ⟨k, hk, rfl, rfl, hf, hb⟩ := hrel
    by_cases hlt : k < m
    · have hpw := hide (HPO0.out.below hb.out)
      obtain ⟨c0, c1⟩ := hpw.out.at' k hlt
      have BPr := HBP.out.after hb.out
      have NX := fun W' (hb' : Below wr.heap.size wr W') => rnext_any g o m cap k l W' (hpw.out.below hb') hlt
      have fk := HFit.out k hlt
      have fn := HFit.out _ (nxt_lt (k := k) hm0)
      have ON := ron_any (pt l k) (pt l (nxt m k)) (px, py) fk fn hfp
      have CU := rcross_any (pt l k) (pt l (nxt m k)) (px, py) fk fn hfp
      have CD := rcross_any (pt l (nxt m k)) (pt l k) (px, py) fn fk hfp
      have hok : Hid (onK l m (px, py) k = onB (pt l k) (pt l (nxt m k)) (px, py)) := on_flat _ _ _
      have hst := hide (parI_snoc l m (px, py) (upto m k) ⟨k, hlt⟩)
      have HS := hide (rt_same (a := pt l k) (b := pt l (nxt m k)) (p := (px, py)))
      have HU := hide (rt_up (a := pt l k) (b := pt l (nxt m k)) (p := (px, py)))
      have HD := hide (rt_dn (a := pt l k) (b := pt l (nxt m k)) (p := (px, py)))
      have hrt : Hid (rtK l m (px, py) k = rightB (pt l k) (pt l (nxt m k)) (px, py)) := rfl
      generalize rightB (pt l k) (pt l (nxt m k)) (px, py) = R at HS HU HD hrt
      generalize cross (pt l k) (pt l (nxt m k)) (px, py) = ju at CU HU
      generalize cross (pt l (nxt m k)) (pt l k) (px, py) = jd at CD HD
      generalize onB (pt l k) (pt l (nxt m k)) (px, py) = r1 at ON hok
      have hpm := parI_pm l m (px, py) (upto m k)
      generalize hps : parI l m (px, py) (upto m k) = s at *
      clear hps
      have hs2 : -1 ≤ s ∧ s ≤ 1 := by omega
      clear hpm fk fn
      simp only [pt, pV] at ON CU CD HS HU HD
      generalize ptx l k = ax at *
      generalize pty l k = ay at *
      generalize ptx l (nxt m k) = bx at *
      generalize pty l (nxt m k) = bz at *
      have hgw := hpw.out.lt
      have lP := BPr.lt
      go_wp2_with fail
      have A0 : Blk (wr.alloc (.cells #[.int .i64 ax, .int .i64 ay] 39)) wr.heap.size #[.int .i64 ax, .int .i64 ay] 39 := Blk.new _ _ _
      refine (NX _ (below_alloc _ _)).mono ?_
      rintro e w1 ⟨rfl, hb1⟩
      replace A0 := A0.after hb1
      have hB := below_over hb1
      have hs1 := hB.size
      have P0 := BPr.after hB
      have lA := A0.lt
      clear hb1 NX
      have a0 := A0.cell 0 rfl
      have a1 := A0.cell 1 rfl
      have p0 := P0.cell 0 rfl
      have p1 := P0.cell 1 rfl
      have lP1 := P0.lt
      go_wp2_with fail
      have B1 : Blk (w1.alloc (.cells #[.int .i64 bx, .int .i64 bz] 39)) w1.heap.size #[.int .i64 bx, .int .i64 bz] 39 := Blk.new _ _ _
      refine (ON _).mono ?_
      rintro e w2 ⟨rfl, hb2⟩
      have hb2' := below_over hb2
      replace A0 := A0.after hb2'
      replace P0 := P0.after hb2'
      replace B1 := B1.after hb2
      replace hB := below_next hB (Nat.le_refl _) hb2'
      clear a0 a1 p0 p1 hb2 hb2' ON
      have a0 := A0.cell 0 rfl
      have a1 := A0.cell 1 rfl
      have b0 := B1.cell 0 rfl
      have b1 := B1.cell 1 rfl
      have p0 := P0.cell 0 rfl
      have p1 := P0.cell 1 rfl
      cases r1
      rotate_left
      · go_wp2_with fail
        go_ret
        refine ⟨ret_int ?_, below_next (below_next HB0.out (Nat.le_refl _) hb.out) (Nat.le_refl _) hB⟩
        rw [← HSD.out]
        unfold sidI
        rw [if_pos (List.any_eq_true.2 ⟨⟨k, hlt⟩, List.mem_finRange _, hok.out⟩)]
      · have HF' : Hid (∀ j, j < k + 1 → onK l m (px, py) j = false) := fun j hj => by
          by_cases e : j = k
          · rw [e]; exact hok.out
          · exact hf.out j (by omega)
        have HBn := hide (below_next hb.out (Nat.le_refl _) hB)
        clear hf hok
        by_cases e1 : ay ≤ py ↔ bz ≤ py
        · have hR : R = false := HS.out e1
          subst hR
          have hnx : Hid (parI l m (px, py) (upto m (k + 1)) = s) := by
            show parI l m (px, py) (upto m (k + 1)) = s
            rw [upto_succ hlt, hst.out, show rtK l m (px, py) (⟨k, hlt⟩ : Fin m).1 = false from hrt.out]; rfl
          by_cases e2 : ay ≤ py
          · have e3 : bz ≤ py := e1.1 e2
            clear e1
            go_wp2_with fail
            go_roundw
            case rel => exact ⟨k + 1, by omega, by go_num, by rw [hnx.out], HF', HBn⟩
            case measure => simp [intOf]; omega
          · have e3 : ¬ bz ≤ py := fun h => e2 (e1.2 h)
            clear e1
            have d1 : decide (ay ≤ py) = false := decide_eq_false e2
            have d2 : decide (bz ≤ py) = false := decide_eq_false e3
            go_wp2_with fail
            go_roundw
            case rel => exact ⟨k + 1, by omega, by go_num, by rw [hnx.out], HF', HBn⟩
            case measure => simp [intOf]; omega
        · by_cases e2 : ay ≤ py
          · have e3 : ¬ bz ≤ py := fun h => e1 ⟨fun _ => h, fun _ => e2⟩
            have e4 : ¬ bz < ay := by omega
            have HUU := hide (HU.out e2 (by omega))
            clear e1 HS HU HD
            go_wp2_with fail
            refine (CU _).mono ?_
            rintro e w5 ⟨rfl, hb5⟩
            skip
            have HBm := hide (below_next HBn.out (Nat.le_refl _) (hb5))
            clear hb5
            by_cases e2 : 0 < ju
            · have hR : R = true := by rw [HUU.out]; simp [e2]
              subst hR
              have hnx : Hid (parI l m (px, py) (upto m (k + 1)) = -s) := by
                show parI l m (px, py) (upto m (k + 1)) = -s
                rw [upto_succ hlt, hst.out, show rtK l m (px, py) (⟨k, hlt⟩ : Fin m).1 = true from hrt.out]; rfl
              go_wp2_with fail
              go_roundw
              case rel => exact ⟨k + 1, by omega, by go_num, by rw [hnx.out], HF', HBm⟩
              case measure => simp [intOf]; omega
            · have hR : R = false := by rw [HUU.out]; simp; omega
              subst hR
              have hnx : Hid (parI l m (px, py) (upto m (k + 1)) = s) := by
                show parI l m (px, py) (upto m (k + 1)) = s
                rw [upto_succ hlt, hst.out, show rtK l m (px, py) (⟨k, hlt⟩ : Fin m).1 = false from hrt.out]; rfl
              go_wp2_with fail
              go_roundw
              case rel => exact ⟨k + 1, by omega, by go_num, by rw [hnx.out], HF', HBm⟩
              case measure => simp [intOf]; omega
          · have e3 : bz ≤ py := by
              refine Decidable.byContradiction fun h => e1 ⟨fun h' => absurd h' e2, fun h' => absurd h' h⟩
            have e4 : bz < ay := by omega
            have HDD := hide (HD.out e3 (by omega))
            clear e1 HS HU HD
            have lB := B1.lt
            have lA2 := A0.lt
            go_upto_region 12 with fail
            have C3 : Blk (w2.alloc (.cells #[.int .i64 ax, .int .i64 ay] 39)) w2.heap.size #[.int .i64 ax, .int .i64 ay] 39 := Blk.new _ _ _
            have A3 := A0.alloc (.cells #[.int .i64 ax, .int .i64 ay] 39)
            have B3 := B1.alloc (.cells #[.int .i64 ax, .int .i64 ay] 39)
            have P3 := P0.alloc (.cells #[.int .i64 ax, .int .i64 ay] 39)
            have hb3 := below_alloc w2 (.cells #[.int .i64 ax, .int .i64 ay] 39)
            obtain ⟨W3, hW3⟩ : ∃ W3, w2.alloc (.cells #[.int .i64 ax, .int .i64 ay] 39) = W3 := ⟨_, rfl⟩
            rw [hW3] at A3 B3 C3 P3 hb3 ⊢
            clear hW3 a0 a1 b0 b1 p0 p1
            have HBs0 := hide (below_next HBn.out (Nat.le_refl _) hb3)
            have b0 := B3.cell 0 rfl
            have b1 := B3.cell 1 rfl
            have g0 := A3.frozen 0
            have g1 := A3.frozen 1
            have a0 := A3.cell 0 rfl
            have a1 := A3.cell 1 rfl
            have ne1 : w1.heap.size ≠ wr.heap.size := by omega
            have lw2 := hB.size
            have ne2 : w2.heap.size ≠ wr.heap.size := by omega
            have ne3 : w.heap.size ≠ wr.heap.size := by omega
            have ne4 : w2.heap.size ≠ w1.heap.size := by omega
            have ne5 : w.heap.size ≠ w1.heap.size := by omega
            have hbs := hb.out.size
            have hs0 := HB0.out.size
            go_upto_region 13 with fail
            have A4 := A3.set2 (.int .i64 bx) (.int .i64 bz)
            have B4 := (B3.off ne1 0 (.int .i64 bx)).off ne1 1 (.int .i64 bz)
            have C4 := (C3.off ne2 0 (.int .i64 bx)).off ne2 1 (.int .i64 bz)
            have P4 := (P3.off ne3 0 (.int .i64 bx)).off ne3 1 (.int .i64 bz)
            have HBs1 := hide ((HBs0.out.setCell (p := ⟨wr.heap.size, 0, none⟩) hbs (.int .i64 bx)).setCell (p := ⟨wr.heap.size, 1, none⟩) hbs (.int .i64 bz))
            obtain ⟨W4, hW4⟩ : ∃ W4, (W3.setCell ⟨wr.heap.size, 0, none⟩ (.int .i64 bx)).setCell ⟨wr.heap.size, 1, none⟩ (.int .i64 bz) = W4 := ⟨_, rfl⟩
            rw [hW4] at A4 B4 C4 P4 HBs1 ⊢
            clear hW4 a0 a1 b0 b1 g0 g1 A3 B3 C3 P3 HBs0
            have c0 := C4.cell 0 rfl
            have c1 := C4.cell 1 rfl
            have b0 := B4.cell 0 rfl
            have b1 := B4.cell 1 rfl
            have g0 := B4.frozen 0
            have g1 := B4.frozen 1
            go_upto_region 14 with fail
            have A5 := (A4.off ne1.symm 0 (.int .i64 ax)).off ne1.symm 1 (.int .i64 ay)
            have B5 := B4.set2 (.int .i64 ax) (.int .i64 ay)
            have P5 := (P4.off ne5 0 (.int .i64 ax)).off ne5 1 (.int .i64 ay)
            have HBs := hide ((HBs1.out.setCell (p := ⟨w1.heap.size, 0, none⟩) (by show _ ≤ w1.heap.size; omega) (.int .i64 ax)).setCell (p := ⟨w1.heap.size, 1, none⟩) (by show _ ≤ w1.heap.size; omega) (.int .i64 ay))
            obtain ⟨W5, hW5⟩ : ∃ W5, (W4.setCell ⟨w1.heap.size, 0, none⟩ (.int .i64 ax)).setCell ⟨w1.heap.size, 1, none⟩ (.int .i64 ay) = W5 := ⟨_, rfl⟩
            rw [hW5] at A5 B5 P5 HBs ⊢
            clear hW5 b0 b1 c0 c1 g0 g1 A4 B4 C4 P4 HBs1
            have a0 := A5.cell 0 rfl
            have a1 := A5.cell 1 rfl
            have b0 := B5.cell 0 rfl
            have b1 := B5.cell 1 rfl
            have p0 := P5.cell 0 rfl
            have p1 := P5.cell 1 rfl
            go_wp2_with fail
            refine (CD _).mono ?_
            rintro e w5 ⟨rfl, hb5⟩
            skip
            have HBm := hide (below_next HBs.out (Nat.le_refl _) hb5)
            clear hb5
            by_cases e2 : 0 < jd
            · have hR : R = true := by rw [HDD.out]; simp [e2]
              subst hR
              have hnx : Hid (parI l m (px, py) (upto m (k + 1)) = -s) := by
                show parI l m (px, py) (upto m (k + 1)) = -s
                rw [upto_succ hlt, hst.out, show rtK l m (px, py) (⟨k, hlt⟩ : Fin m).1 = true from hrt.out]; rfl
              go_wp2_with fail
              go_roundw
              case rel => exact ⟨k + 1, by omega, by go_num, by rw [hnx.out], HF', HBm⟩
              case measure => simp [intOf]; omega
            · have hR : R = false := by rw [HDD.out]; simp; omega
              subst hR
              have hnx : Hid (parI l m (px, py) (upto m (k + 1)) = s) := by
                show parI l m (px, py) (upto m (k + 1)) = s
                rw [upto_succ hlt, hst.out, show rtK l m (px, py) (⟨k, hlt⟩ : Fin m).1 = false from hrt.out]; rfl
              go_wp2_with fail
              go_roundw
              case rel => exact ⟨k + 1, by omega, by go_num, by rw [hnx.out], HF', HBm⟩
              case measure => simp [intOf]; omega
    · have hkm : k = m := by omega
      subst hkm
      go_wp2_with fail
      go_ret
      refine ⟨ret_int ?_, below_next HB0.out (Nat.le_refl _) hb.out⟩
      rw [← HSD.out]
      unfold sidI
      rw [if_neg (fun e => by
        obtain ⟨x, _, hx⟩ := List.any_eq_true.1 e
        rw [hf.out x.1 x.2] at hx
        cases hx), upto_all]
end Go.Proofs.Ytnenbbkkhnlgbaa
