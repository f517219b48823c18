/- On which side of a polygon a point is. -/
import Derived.Test.YtohepelnbmojiaaGeI
namespace Go.Proofs.Ytohepelnbmojiaa
open Go.RowKit Go.Shelf

attribute [local go_sem] Oper.semAt_some

theorem set_other (V : World) (b c : Nat) (u : Value) (h : b ≠ c) : (V.setCell ⟨c, 0, none⟩ u).heap[b]? = V.heap[b]? := by
  have h9 : (V.setCell ⟨c, 0, none⟩ u).heap.size = V.heap.size := by simp
  by_cases hbl : b < V.heap.size
  · exact (grownBy_setCell' V c u).block b hbl (fun e => h (by cases e; rfl))
  · rw [Array.getElem?_eq_none (by omega), Array.getElem?_eq_none (by omega)]
def onK (l : List Pt) (m : Nat) (p : Pt) (k : Nat) : Bool := meetB (pt l k) (pt l (nxt m k)) p p
def rtK (l : List Pt) (m : Nat) (p : Pt) (k : Nat) : Bool := rightB (pt l k) (pt l (nxt m k)) p
def parI (l : List Pt) (m : Nat) (p : Pt) (pre : List (Fin m)) : Int := pre.foldl (fun s k => if rtK l m p k.1 then -s else s) (-1)
theorem parI_snoc (l : List Pt) (m : Nat) (p : Pt) (pre : List (Fin m)) (x : Fin m) : parI l m p (pre ++ [x]) = if rtK l m p x.1 then - parI l m p pre else parI l m p pre := by simp [parI]
theorem parI_pm (l : List Pt) (m : Nat) (p : Pt) (pre : List (Fin m)) : parI l m p pre = 1 ∨ parI l m p pre = -1 := by
  unfold parI
  have : ∀ (pre : List (Fin m)) (s : Int), s = 1 ∨ s = -1 → pre.foldl (fun s k => if rtK l m p k.1 then -s else s) s = 1 ∨ pre.foldl (fun s k => if rtK l m p k.1 then -s else s) s = -1 := by
    intro pre
    induction pre with
    | nil => intro s h; exact h
    | cons x pre ih => intro s h; simp only [List.foldl_cons]; apply ih; split <;> omega
  exact this pre (-1) (by omega)
def sidI (l : List Pt) (m : Nat) (p : Pt) : Int := if (List.finRange m).any (fun k => onK l m p k.1) then 0 else parI l m p (List.finRange m)
/-- what Side answers -/
def sdI (l : List Pt) (p : Pt) : Int := if simE l = 0 then (if fitB p then sidI l l.length p else 0) else 0
def sdE (l : List Pt) (p : Pt) : Int := if simE l = 0 then (if fitB p then 0 else 5) else simE l
set_option maxRecDepth 100000 in
set_option maxHeartbeats 8000000 in
theorem side_any (l : List Pt) (v : Value) (p : Pt) (w : World) (hv : Pts w v l) (hl : l.length ≤ 4611686018427387904) : CallsIn Fence.wide 20 Try.prog 27 #[v, pV p] w fun e w' => e = .returned (.tuple #[.int .i64 (sdI l p), .int .i64 (sdE l p)]) ∧ Below w.heap.size w w' := by
  have hF : ∀ k, Fence.wide.fn k := fun _ => trivial
  have hro : Fence.wide.round = none := rfl
  have SI := fun w' hb => (callsIn_wide (n := 19)).2 (simple_any l v w' (hv.below hb) hl)
  have MB := fun W g (h : Blk W g #[.int .i64 p.1, .int .i64 p.2] 23) => (callsIn_wide (n := 19)).2 (mayBe_any [p] _ W (pts_new h [p] rfl 1 1 rfl) (by simp))
  simp only [List.all_cons, List.all_nil, Bool.and_true] at MB
  have HV := hide hv
  obtain ⟨a, cap, rfl, hc⟩ := hv
  unfold sdI sdE
  have hpo : simE l = 0 → 3 ≤ l.length ∧ l.all fitB = true := fun h => by
    unfold simE at h
    repeat (split at h <;> try omega)
    exact ⟨by omega, by simp_all⟩
  have HPO := hide hpo
  clear hpo
  obtain ⟨m, hm⟩ : ∃ m, l.length = m := ⟨_, rfl⟩
  have HM := hide hm
  rw [hm] at SI hl ⊢
  clear hm hc
  obtain ⟨E, hE⟩ : ∃ E, simE l = E := ⟨_, rfl⟩
  have HE := hide hE
  rw [hE] at SI ⊢
  clear hE
  have HFP : Hid (fitB p = true → Fit p) := fun h => fit_of h
  obtain ⟨fp, hfp⟩ : ∃ fp, fitB p = fp := ⟨_, rfl⟩
  rw [hfp] at MB HFP ⊢
  clear hfp
  obtain ⟨SD, hSD⟩ : ∃ SD, sidI l m p = SD := ⟨_, rfl⟩
  have HSD := hide hSD
  rw [hSD]
  clear hSD
  simp only [pV] at *
  refine callsIn_of_wp_marks Try.func27 rfl trivial ?_ rfl
  simp only [Try.ntmps27, List.size_toArray, List.length_cons, List.length_nil, Nat.reduceAdd, Nat.reduceSub, Array.replicate_succ, Array.replicate_zero, List.push_toArray, List.append_toArray, List.nil_append, List.cons_append]
  gi_wp2_with fail
  obtain ⟨W0, hW0⟩ : ∃ W0, lay w [(#[.int .i64 p.1, .int .i64 p.2], 23), (#[.int .i64 0], 3), (#[.int .i64 0], 24)] = W0 := ⟨_, rfl⟩
  have hB : Below w.heap.size w W0 := hW0 ▸ lay_below _ _
  have hz : W0.heap.size = w.heap.size + 3 := by rw [← hW0, lay_size]; rfl
  have B0 : Blk W0 w.heap.size #[.int .i64 p.1, .int .i64 p.2] 23 := hW0 ▸ lay_blk _ w 0 _ _ rfl
  have R0 : Boxed W0 (w.heap.size + 1) 3 (.int .i64 0) := hW0 ▸ lay_blk _ w 1 _ _ rfl
  have R1 : Boxed W0 (w.heap.size + 1 + 1) 24 (.int .i64 0) := hW0 ▸ lay_blk _ w 2 _ _ rfl
  rw [show (((w.alloc _).alloc _).alloc _) = W0 from hW0]
  clear hW0
  refine (SI _ hB).mono ?_
  rintro e w1 ⟨rfl, hb1⟩
  have hz1 := hb1.size
  replace hB := below_next hB (Nat.le_refl _) hb1
  replace B0 := B0.after hb1
  replace R0 : Boxed w1 (w.heap.size + 1) 3 (.int .i64 0) := (hb1.block _ R0.lt).trans R0
  replace R1 : Boxed w1 (w.heap.size + 1 + 1) 24 (.int .i64 0) := (hb1.block _ R1.lt).trans R1
  clear SI hb1
  have c0 := B0.cell 0 rfl
  have c1 := B0.cell 1 rfl
  have r0 := R0.cell
  have r1 := R1.cell
  have f0 := R0.frozen
  have f1 := R1.frozen
  have leave : ∀ (V : World) (x y : Int), Boxed V (w.heap.size + 1) 3 (.int .i64 0) → Boxed V (w.heap.size + 1 + 1) 24 (.int .i64 0) → Below w.heap.size w V → Boxed ((V.setCell ⟨w.heap.size + 1, 0, none⟩ (.int .i64 x)).setCell ⟨w.heap.size + 1 + 1, 0, none⟩ (.int .i64 y)) (w.heap.size + 1) 3 (.int .i64 x) ∧ Boxed ((V.setCell ⟨w.heap.size + 1, 0, none⟩ (.int .i64 x)).setCell ⟨w.heap.size + 1 + 1, 0, none⟩ (.int .i64 y)) (w.heap.size + 1 + 1) 24 (.int .i64 y) ∧ Below w.heap.size w ((V.setCell ⟨w.heap.size + 1, 0, none⟩ (.int .i64 x)).setCell ⟨w.heap.size + 1 + 1, 0, none⟩ (.int .i64 y)) := fun V x y h0 h1 hb =>
    ⟨(h0.set _).other (by omega) _, (h1.other (by omega) _).set _, (hb.setCell (p := ⟨w.heap.size + 1, 0, none⟩) (by simp) _).setCell (p := ⟨w.heap.size + 1 + 1, 0, none⟩) (by simp; omega) _⟩
  have LV := hide leave
  clear leave
  by_cases hE0 : E = 0
  · subst hE0
    have l0 := B0.lt
    have l1 := R0.lt
    have l2 := R1.lt
    gi_wp2_with fail
    refine (MB _ _ (Blk.new _ _ _)).mono ?_
    rintro e w2 ⟨rfl, hb2'⟩
    have hb2 := below_over hb2'
    have hz2 := hb2.size
    replace hB := below_next hB (Nat.le_refl _) hb2
    replace B0 := B0.after hb2
    replace R0 : Boxed w2 (w.heap.size + 1) 3 (.int .i64 0) := (hb2.block _ R0.lt).trans R0
    replace R1 : Boxed w2 (w.heap.size + 1 + 1) 24 (.int .i64 0) := (hb2.block _ R1.lt).trans R1
    have HV2 := hide (HV.out.below hB)
    clear MB hb2 hb2' HV c0 c1 r0 r1 f0 f1 l0 l1 l2
    have c0 := B0.cell 0 rfl
    have c1 := B0.cell 1 rfl
    have r0 := R0.cell
    have r1 := R1.cell
    have f0 := R0.frozen
    have f1 := R1.frozen
    cases fp
    · gi_wp2_with fail
      obtain ⟨q0, q1, hb⟩ := LV.out w2 0 5 R0 R1 hB
      have q0' := q0.cell
      have q1' := q1.cell
      refine ⟨.tuple #[.int .i64 0, .int .i64 5], ?_, by simp, hb⟩
      simp [results, Try.f27, go_sem, q0', q1']
    · obtain ⟨hl3, hall⟩ := HPO.out HE.out
      have hfp := HFP.out (by trivial)
      obtain ⟨a', cap', hsl, hcc0⟩ := HV2.out
      have hml := HM.out
      injection hsl with ea em ec
      subst ea ec
      obtain ⟨g, o, rfl, hg, hcc⟩ := hcc0 (by omega)
      have hpo : Poly w2 g o m cap l := by have := poly_of (cap := cap) (by omega) (by omega) hg hcc; rw [hml] at this; exact this
      have hfit : ∀ k, k < m → Fit (pt l k) := fun k hk => fits_of hall k (by omega)
      have HFit := hide hfit
      have hgw : g < w2.heap.size := hg
      have hmm := hpo.most
      have hm0 := hpo.pos
      have HP2 := hide hpo
      clear hcc hcc0 hg em hl3 hfit hpo hall HV2 HPO HE hl HFP
      have HML := hide hml
      clear hml
      gi_wp2_with (gi_at_call 45; refine (sides_in Fence.wide 19 hF hro _ _ _ _).mono ?_; rintro e w' ⟨rfl, rfl⟩)
      have bS := (Boxed.new w2 3 (.int .i64 (-1))).alloc (.cells #[slc g o m cap] 35)
      have bA := Boxed.new (w2.alloc (.cells #[.int .i64 (-1)] 3)) 35 (slc g o m cap)
      rw [World.size_alloc] at bA
      have hB3 := b2 w2 (.cells #[.int .i64 (-1)] 3) (.cells #[slc g o m cap] 35)
      obtain ⟨W3, hW3⟩ : ∃ W3, (w2.alloc (.cells #[.int .i64 (-1)] 3)).alloc (.cells #[slc g o m cap] 35) = W3 := ⟨_, rfl⟩
      have hsz3 : W3.heap.size = w2.heap.size + 2 := by rw [← hW3]; simp
      rw [hW3] at bS bA hB3 ⊢
      clear hW3
      have bP : Blk W3 w.heap.size #[.int .i64 p.1, .int .i64 p.2] 23 := B0.after hB3
      have bR : Boxed W3 (w.heap.size + 1) 3 (.int .i64 0) := (hB3.block _ R0.lt).trans R0
      have bQ : Boxed W3 (w.heap.size + 1 + 1) 24 (.int .i64 0) := (hB3.block _ R1.lt).trans R1
      have lR := R1.lt
      have hBW3 := below_next hB (Nat.le_refl _) hB3
      refine wpIn_rangeFunc_ownH hro (by omega) (gf := 57) (lb := #[ptr (w2.heap.size + 1)]) rfl (hF _) (enters_of Try.func57 (by kernel_rfl) rfl)
        (sides_stops Fence.wide (20 - 1) hF hro (by omega) (w2.heap.size + 1) g o cap m l W3 (HP2.out.below hB3) (by omega) bA.cell) keep2_t (keep2_b (by omega) (by omega)) (Below.refl _ _) (fun _ => rfl)
        (fun pre W => ((((((∀ x ∈ pre, onK l m p x.1 = false) ∧ Boxed W w2.heap.size 3 (.int .i64 (parI l m p pre))) ∧ Boxed W (w2.heap.size + 1) 35 (slc g o m cap)) ∧ Blk W w.heap.size #[.int .i64 p.1, .int .i64 p.2] 23) ∧ Boxed W (w.heap.size + 1) 3 (.int .i64 0)) ∧ Boxed W (w.heap.size + 1 + 1) 24 (.int .i64 0)) ∧ Below w.heap.size w W)
        (fun c pre W => ((((c = .ret ∧ (List.finRange m).any (fun k => onK l m p k.1) = true) ∧ Boxed W (w.heap.size + 1) 3 (.int .i64 0)) ∧ Boxed W (w.heap.size + 1 + 1) 24 (.int .i64 0))) ∧ Below w.heap.size w W)
        (OwnFrom.and (OwnFrom.and (OwnFrom.and (OwnFrom.and (OwnFrom.and (OwnFrom.and (ownFrom_pure _ _) (Own.from (boxed_own _ _ _) _)) (Own.from (boxed_own _ _ _) _)) (Own.from (blk_own _ _ _) _)) (Own.from (boxed_own _ _ _) _)) (Own.from (boxed_own _ _ _) _)) (ownFrom_below (Nat.le_refl _) (by omega)))
        (fun c => OwnFrom.and (OwnFrom.and (OwnFrom.and (ownFrom_pure _ _) (Own.from (boxed_own _ _ _) _)) (Own.from (boxed_own _ _ _) _)) (ownFrom_below (Nat.le_refl _) (by omega)))
        ⟨⟨⟨⟨⟨⟨by simp, bS⟩, bA⟩, bP⟩, bR⟩, bQ⟩, hBW3⟩
        (fun x a' W => ∃ Bx, w2.heap.size + 1 < Bx ∧ Blk W Bx (segC l m x.1) 60 ∧ a' = { tmps := #[slc g o m cap, .agg #[.int .i64 p.1, .int .i64 p.2], undef, ptr w.heap.size, ptr (w.heap.size + 1), ptr (w.heap.size + 1 + 1), .int .i64 0, ptr w2.heap.size, undef, ptr Bx, slc g o m cap, .int .i64 0, .int .i64 0, .bool false, undef, .agg #[.int .i64 p.1, .int .i64 p.2], .slice (some ⟨w1.heap.size, 0, none⟩) 1 1, .bool true, .bool false, slc g o m cap, fnv (w2.heap.size + 1), .int .i64 (x.1 : Int), sideV l m x.1, undef, undef, undef, undef, undef, undef, undef, undef, undef], defers := [] })
        (fun x a' _ X Y row hs hg hr => by obtain ⟨Bx, e1, e2, e3⟩ := hs; exact ⟨Bx, e1, blk_own Bx 60 (fun (_ : Unit) => _) () X Y row e2 hg (fun r e => (hr r e).2), e3⟩)
        ?assign ?body ?done ?stop
      case assign =>
        rintro lp pre x W K ⟨⟨⟨⟨⟨⟨hpr, bS1⟩, bA1⟩, bP1⟩, bR1⟩, bQ1⟩, hB1⟩ hK
        dsimp only [sideV] at hK ⊢
        have hlA := bA1.lt
        gi_wp2
        exact hK _ _ ((KeepsOthers.alloc _ _).from _) (keep2_below (below_alloc W _) bA1.lt (by omega)) ⟨⟨⟨⟨⟨⟨hpr, bS1.alloc _⟩, bA1.alloc _⟩, bP1.alloc _⟩, bR1.alloc _⟩, bQ1.alloc _⟩, hB1.alloc hB1.size _⟩ ⟨W.heap.size, hlA, Blk.new W _ _, rfl⟩
      case body =>
        rintro lp pre x a' W hl ⟨r, hr⟩ ⟨⟨⟨⟨⟨⟨hpr, bS1⟩, bA1⟩, bP1⟩, bR1⟩, bQ1⟩, hB1⟩ ⟨Bx, hBx, bX, rfl⟩ hlt
        obtain ⟨k, hk⟩ := x
        have h4 : 1 ≤ 20 - 1 - 1 := by omega
        have hOn := fun w => (callsIn_wide (n := 17)).2 (on_any (pt l k) (pt l (nxt m k)) p (HFit.out k hk) (HFit.out _ (nxt_lt hm0)) hfp w)
        have hRt := fun w => (callsIn_wide (n := 17)).2 (isRightOf_any (pt l k) (pt l (nxt m k)) p (HFit.out k hk) (HFit.out _ (nxt_lt hm0)) hfp w)
        have hOK : Hid (onK l m p k = meetB (pt l k) (pt l (nxt m k)) p p) := rfl
        have hRK : Hid (rtK l m p k = rightB (pt l k) (pt l (nxt m k)) p) := rfl
        generalize meetB (pt l k) (pt l (nxt m k)) p p = r1 at hOn hOK
        generalize rightB (pt l k) (pt l (nxt m k)) p = r2 at hRt hRK
        simp only [sV, pV, pt] at hOn hRt
        have hsn := hide (parI_snoc l m p pre ⟨k, hk⟩)
        have hpm := parI_pm l m p pre
        generalize hps : parI l m p pre = s at *
        have HPS := hide hps
        clear hps
        have hs2 : -1 ≤ s ∧ s ≤ 1 := by omega
        clear hpm
        have HPR := hide hpr
        clear hpr
        have c0 := bP1.cell 0 rfl
        have c1 := bP1.cell 1 rfl
        have x0 := bX.cell 0 rfl
        have x1 := bX.cell 1 rfl
        have x2 := bX.cell 2 rfl
        have x3 := bX.cell 3 rfl
        cases r1
        rotate_left
        · gi_wp2_with (gi_at_call 48; refine (CallsIn.inRound lp (hOn _)).mono ?_; rintro e w5 ⟨rfl, hb5⟩; have bR5 : Boxed w5 (w.heap.size + 1) 3 (.int .i64 0) := (hb5.block _ bR1.lt).trans bR1; have bQ5 : Boxed w5 (w.heap.size + 1 + 1) 24 (.int .i64 0) := (hb5.block _ bQ1.lt).trans bQ1; have cR5 := bR5.cell; have fR5 := bR5.frozen; have cQ5 := bQ5.cell; have fQ5 := bQ5.frozen)
          obtain ⟨q0, q1, hb⟩ := LV.out w5 0 0 bR5 bQ5 (below_next hB1 (Nat.le_refl _) hb5)
          exact ⟨((KeepsOthers.of_grownBy (grown_below hb5 none) (fun _ _ e => by cases e)).trans ((KeepsOthers.setCell _ _ _).trans (KeepsOthers.setCell _ _ _))).from _, ⟨⟨⟨rfl, List.any_eq_true.2 ⟨⟨k, hk⟩, List.mem_finRange _, hOK.out⟩⟩, q0⟩, q1⟩, hb⟩
        · have lS := bS1.lt
          have lA := bA1.lt
          have fin : ∀ V : World, Below W.heap.size W V → ∀ r2, rtK l m p k = r2 → ∀ V', (r2 = false → V' = V) → (r2 = true → V' = V.setCell ⟨w2.heap.size, 0, none⟩ (.int .i64 (-s))) → KeepsFrom W3.heap.size W V' ∧ Keep2 (w2.heap.size + 1) g W V' ∧ (((((((∀ x ∈ pre ++ [⟨k, hk⟩], onK l m p x.1 = false) ∧ Boxed V' w2.heap.size 3 (.int .i64 (parI l m p (pre ++ [⟨k, hk⟩])))) ∧ Boxed V' (w2.heap.size + 1) 35 (slc g o m cap)) ∧ Blk V' w.heap.size #[.int .i64 p.1, .int .i64 p.2] 23) ∧ Boxed V' (w.heap.size + 1) 3 (.int .i64 0)) ∧ Boxed V' (w.heap.size + 1 + 1) 24 (.int .i64 0)) ∧ Below w.heap.size w V') := fun V hb r2 hr2 V' h1 h2 => by
            have hh : ∀ b, b < W.heap.size → V.heap[b]? = W.heap[b]? := fun b h => hb.block b h
            have hon : ∀ x ∈ pre ++ [⟨k, hk⟩], onK l m p x.1 = false := fun y hy => (List.mem_append.1 hy).elim (HPR.out y) (fun e => by simp at e; subst e; exact hOK.out)
            have kS : Boxed V w2.heap.size 3 (.int .i64 s) := (hh _ bS1.lt).trans bS1
            have kA : Boxed V (w2.heap.size + 1) 35 (slc g o m cap) := (hh _ bA1.lt).trans bA1
            have kP : Blk V w.heap.size #[.int .i64 p.1, .int .i64 p.2] 23 := (hh _ bP1.lt).trans bP1
            have kR : Boxed V (w.heap.size + 1) 3 (.int .i64 0) := (hh _ bR1.lt).trans bR1
            have kQ : Boxed V (w.heap.size + 1 + 1) 24 (.int .i64 0) := (hh _ bQ1.lt).trans bQ1
            have hbV := below_next hB1 (Nat.le_refl _) hb
            have kk : KeepsOthers W V := KeepsOthers.of_grownBy (grown_below hb none) (fun _ _ e => by cases e)
            have hpar := hsn.out
            rw [show rtK l m p (⟨k, hk⟩ : Fin m).1 = r2 from hr2] at hpar
            cases r2 with
            | false =>
              rw [h1 rfl]
              refine ⟨kk.from _, ⟨hh _ lA, hh _ (by omega)⟩, ⟨⟨⟨⟨⟨⟨hon, ?_⟩, kA⟩, kP⟩, kR⟩, kQ⟩, hbV⟩⟩
              rw [hpar]; exact kS
            | true =>
              rw [h2 rfl]
              have ho : ∀ b, b ≠ w2.heap.size → (V.setCell ⟨w2.heap.size, 0, none⟩ (.int .i64 (-s))).heap[b]? = V.heap[b]? := fun b hb' => by
                exact set_other V b w2.heap.size _ hb'
              refine ⟨(kk.trans (KeepsOthers.setCell _ _ _)).from _, ⟨(ho _ (by omega)).trans (hh _ lA), (ho _ (by omega)).trans (hh _ (by omega))⟩, ⟨⟨⟨⟨⟨⟨hon, ?_⟩, (ho _ (by omega)).trans kA⟩, (ho _ (by omega)).trans kP⟩, (ho _ (by omega)).trans kR⟩, (ho _ (by omega)).trans kQ⟩, hbV.setCell (p := ⟨w2.heap.size, 0, none⟩) (by have := hB.size; simp; omega) _⟩⟩
              rw [hpar]; exact kS.set _
          have FIN := hide fin
          clear fin
          cases r2
          · gi_wp2_with (first | (gi_at_call 48; refine (CallsIn.inRound lp (hOn _)).mono ?_; rintro e w5 ⟨rfl, hb5⟩; have bP5 := bP1.after hb5; have bX5 := bX.after hb5; have c05 := bP5.cell 0 rfl; have c15 := bP5.cell 1 rfl; have x05 := bX5.cell 0 rfl; have x15 := bX5.cell 1 rfl; have x25 := bX5.cell 2 rfl; have x35 := bX5.cell 3 rfl) | (gi_at_call 49; refine (CallsIn.inRound lp (hRt _)).mono ?_; rintro e w6 ⟨rfl, hb6⟩))
            exact FIN.out w6 (below_next hb5 (Nat.le_refl _) hb6) _ hRK.out _ (fun _ => rfl) (fun h => by cases h)
          · gi_wp2_with (first | (gi_at_call 48; refine (CallsIn.inRound lp (hOn _)).mono ?_; rintro e w5 ⟨rfl, hb5⟩; have bP5 := bP1.after hb5; have bX5 := bX.after hb5; have c05 := bP5.cell 0 rfl; have c15 := bP5.cell 1 rfl; have x05 := bX5.cell 0 rfl; have x15 := bX5.cell 1 rfl; have x25 := bX5.cell 2 rfl; have x35 := bX5.cell 3 rfl) | (gi_at_call 49; refine (CallsIn.inRound lp (hRt _)).mono ?_; rintro e w6 ⟨rfl, hb6⟩; have bS6 : Boxed w6 w2.heap.size 3 (.int .i64 s) := ((below_next hb5 (Nat.le_refl _) hb6).block _ bS1.lt).trans bS1; have cS6 := bS6.cell; have fS6 := bS6.frozen))
            exact FIN.out w6 (below_next hb5 (Nat.le_refl _) hb6) _ hRK.out _ (fun h => by cases h) (fun _ => rfl)
      case done =>
        rintro D zs W hD rfl ⟨⟨⟨⟨⟨⟨hpr, bS1⟩, bA1⟩, bP1⟩, bR1⟩, bQ1⟩, hB1⟩ hK
        have hsd : parI l m p (List.finRange m) = SD := by
          have h := HSD.out
          unfold sidI at h
          rw [if_neg (fun e => by obtain ⟨x, hx, h⟩ := List.any_eq_true.1 e; rw [hpr x hx] at h; cases h)] at h
          exact h
        rw [hsd] at bS1
        have cS := bS1.cell
        have cR := bR1.cell
        have fR := bR1.frozen
        have cQ := bQ1.cell
        have fQ := bQ1.frozen
        clear hsd hpr
        gi_wp2
        obtain ⟨q0, q1, hb⟩ := LV.out W SD 0 bR1 bQ1 hB1
        have hK' := ((KeepsOthers.setCell W ⟨w.heap.size + 1, 0, none⟩ (.int .i64 SD)).trans (KeepsOthers.setCell _ ⟨w.heap.size + 1 + 1, 0, none⟩ (.int .i64 0))).same D _ hK rfl
        refine ⟨by simp, .inl ⟨_, _, rfl, run_takeDeferred hK', ?_⟩⟩
        have k0 := cell_kept q0.cell (grownBy_putObj' _ D (.deferred none)) (fun r e => by cases e; exact ⟨_, hK', rfl⟩)
        have k1 := cell_kept q1.cell (grownBy_putObj' _ D (.deferred none)) (fun r e => by cases e; exact ⟨_, hK', rfl⟩)
        refine ⟨.tuple #[.int .i64 SD, .int .i64 0], ?_, by simp, hb.trans (belowK_b (w := w) (Nat.le_refl _) _ D _ _ (by have := hB.size; omega) hK' rfl rfl)⟩
        simp [results, Try.f27, go_sem, k0, k1]
      case stop =>
        rintro D c pre W hD hpre ⟨⟨⟨⟨rfl, hany⟩, bR1⟩, bQ1⟩, hB1⟩ hK
        have hsd : SD = 0 := by
          have h := HSD.out
          unfold sidI at h
          rw [if_pos hany] at h
          exact h.symm
        subst hsd
        gi_wp2
        refine ⟨by simp, .inl ⟨_, _, rfl, run_takeDeferred hK, ?_⟩⟩
        have k0 := cell_kept bR1.cell (grownBy_putObj' _ D (.deferred none)) (fun r e => by cases e; exact ⟨_, hK, rfl⟩)
        have k1 := cell_kept bQ1.cell (grownBy_putObj' _ D (.deferred none)) (fun r e => by cases e; exact ⟨_, hK, rfl⟩)
        refine ⟨.tuple #[.int .i64 0, .int .i64 0], ?_, by simp, hB1.trans (belowK_b (w := w) (Nat.le_refl _) _ D _ _ (by have := hB.size; omega) hK rfl rfl)⟩
        simp [results, Try.f27, go_sem, k0, k1]
  · gi_wp2_with fail
    obtain ⟨q0, q1, hb⟩ := LV.out w1 0 E R0 R1 hB
    have q0' := q0.cell
    have q1' := q1.cell
    refine ⟨.tuple #[.int .i64 0, .int .i64 E], ?_, by simp, hb⟩
    simp [results, Try.f27, go_sem, q0', q1']
end Go.Proofs.Ytohepelnbmojiaa
