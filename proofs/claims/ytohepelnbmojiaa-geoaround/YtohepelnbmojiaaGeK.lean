/- Twice a polygon's area. -/
import Derived.Test.YtohepelnbmojiaaGeJ
namespace Go.Proofs.Ytohepelnbmojiaa
open Go.RowKit Go.Shelf

attribute [local go_sem] Oper.semAt_some

def arK (l : List Pt) (m k : Nat) : Int := ptx l k * pty l (nxt m k) - pty l k * ptx l (nxt m k)
def arS (l : List Pt) (m : Nat) (pre : List (Fin m)) : Int := pre.foldl (fun s k => wrap64 (s + arK l m k.1)) 0
theorem arS_snoc (l : List Pt) (m : Nat) (pre : List (Fin m)) (x : Fin m) : arS l m (pre ++ [x]) = wrap64 (arS l m pre + arK l m x.1) := by simp [arS]
/-- what Area2 answers -/
def araI (l : List Pt) : Int := if simE l = 0 then arS l l.length (List.finRange l.length) else 0
theorem pp_bound {x y : Int} (h1 : -536870912 ≤ x) (h2 : x ≤ 536870912) (h3 : -536870912 ≤ y) (h4 : y ≤ 536870912) : -288230376151711744 ≤ x * y ∧ x * y ≤ 288230376151711744 := by
  have := mul_bound (x := x) (y := y) (c := 536870912) (d := 536870912) (by omega) (by omega) (by omega) (by omega)
  omega
set_option maxRecDepth 100000 in
set_option maxHeartbeats 8000000 in
theorem area_any (l : List Pt) (v : Value) (w : World) (hv : Pts w v l) (hl : l.length ≤ 4611686018427387904) : CallsIn Fence.wide 20 Try.prog 23 #[v] w fun e w' => e = .returned (.tuple #[.int .i64 (araI l), .int .i64 (simE l)]) ∧ Below w.heap.size w w' := by
  have hF : ∀ k, Fence.wide.fn k := fun _ => trivial
  have hro : Fence.wide.round = none := rfl
  have SI := fun w' hb => (callsIn_wide (n := 19)).2 (simple_any l v w' (hv.below hb) hl)
  have HV := hide hv
  obtain ⟨a, cap, rfl, hc⟩ := hv
  unfold araI
  have hpo : simE l = 0 → 3 ≤ l.length ∧ l.all fitB = true := fun h => by
    unfold simE at h
    repeat (split at h <;> try omega)
    exact ⟨by omega, by simp_all⟩
  have HPO := hide hpo
  clear hpo
  obtain ⟨m, hm⟩ : ∃ m, l.length = m := ⟨_, rfl⟩
  have HM := hide hm
  rw [hm] at SI hl ⊢
  clear hm hc
  obtain ⟨E, hE⟩ : ∃ E, simE l = E := ⟨_, rfl⟩
  have HE := hide hE
  rw [hE] at SI ⊢
  clear hE
  obtain ⟨SD, hSD⟩ : ∃ SD, arS l m (List.finRange m) = SD := ⟨_, rfl⟩
  have HSD := hide hSD
  rw [hSD]
  clear hSD
  refine callsIn_of_wp_marks Try.func23 rfl trivial ?_ rfl
  simp only [Try.ntmps23, List.size_toArray, List.length_cons, List.length_nil, Nat.reduceAdd, Nat.reduceSub, Array.replicate_succ, Array.replicate_zero, List.push_toArray, List.append_toArray, List.nil_append, List.cons_append]
  gi_wp2_with fail
  refine (SI _ (Below.refl _ _)).mono ?_
  rintro e w1 ⟨rfl, hB⟩
  clear SI
  by_cases hE0 : E = 0
  · subst hE0
    obtain ⟨hl3, hall⟩ := HPO.out HE.out
    have HV2 := hide (HV.out.below hB)
    obtain ⟨a', cap', hsl, hcc0⟩ := HV2.out
    have hml := HM.out
    injection hsl with ea em ec
    subst ea ec
    obtain ⟨g, o, rfl, hg, hcc⟩ := hcc0 (by omega)
    have hpo : Poly w1 g o m cap l := by have := poly_of (cap := cap) (by omega) (by omega) hg hcc; rw [hml] at this; exact this
    have hfit : ∀ k, k < m → Fit (pt l k) := fun k hk => fits_of hall k (by omega)
    have HFit := hide hfit
    have hgw : g < w1.heap.size := hg
    have hmm := hpo.most
    have hm0 := hpo.pos
    have HP2 := hide hpo
    clear hcc hcc0 hg em hl3 hfit hpo hall HV2 HPO HE hl HV hml HM
    gi_wp2_with (gi_at_call 45; refine (sides_in Fence.wide 19 hF hro _ _ _ _).mono ?_; rintro e w' ⟨rfl, rfl⟩)
    have bS := (Boxed.new w1 3 (.int .i64 0)).alloc (.cells #[slc g o m cap] 35)
    have bA := Boxed.new (w1.alloc (.cells #[.int .i64 0] 3)) 35 (slc g o m cap)
    rw [World.size_alloc] at bA
    have hB3 := b2 w1 (.cells #[.int .i64 0] 3) (.cells #[slc g o m cap] 35)
    obtain ⟨W3, hW3⟩ : ∃ W3, (w1.alloc (.cells #[.int .i64 0] 3)).alloc (.cells #[slc g o m cap] 35) = W3 := ⟨_, rfl⟩
    have hsz3 : W3.heap.size = w1.heap.size + 2 := by rw [← hW3]; simp
    rw [hW3] at bS bA hB3 ⊢
    clear hW3
    have hBW3 := below_next hB (Nat.le_refl _) hB3
    have hszw := hB.size
    refine wpIn_rangeFunc_ownH hro (by omega) (gf := 57) (lb := #[ptr (w1.heap.size + 1)]) rfl (hF _) (enters_of Try.func57 (by kernel_rfl) rfl)
      (sides_stops Fence.wide (20 - 1) hF hro (by omega) (w1.heap.size + 1) g o cap m l W3 (HP2.out.below hB3) (by omega) bA.cell) keep2_t (keep2_b (by omega) (by omega)) (Below.refl _ _) (fun _ => rfl)
      (fun pre W => (Boxed W w1.heap.size 3 (.int .i64 (arS l m pre)) ∧ Boxed W (w1.heap.size + 1) 35 (slc g o m cap)) ∧ Below w.heap.size w W)
      (fun _ _ _ => False)
      (OwnFrom.and (OwnFrom.and (Own.from (boxed_own _ _ _) _) (Own.from (boxed_own _ _ _) _)) (ownFrom_below (Nat.le_refl _) (by omega)))
      (fun _ _ _ _ _ hs _ _ => hs)
      ⟨⟨bS, bA⟩, hBW3⟩
      (fun x a' W => ∃ Bx, w1.heap.size + 1 < Bx ∧ Blk W Bx (segC l m x.1) 60 ∧ a' = { tmps := #[slc g o m cap, undef, .int .i64 0, .int .i64 0, .int .i64 0, ptr w1.heap.size, undef, ptr Bx, slc g o m cap, .int .i64 0, .int .i64 0, .bool false, undef, slc g o m cap, fnv (w1.heap.size + 1), .int .i64 (x.1 : Int), sideV l m x.1, undef, undef, undef, undef, undef, undef, undef, undef, undef, undef, undef, undef, undef, undef, undef, undef, undef, undef], defers := [] })
      (fun x a' _ X Y row hs hg hr => by obtain ⟨Bx, e1, e2, e3⟩ := hs; exact ⟨Bx, e1, blk_own Bx 60 (fun (_ : Unit) => _) () X Y row e2 hg (fun r e => (hr r e).2), e3⟩)
      ?assign ?body ?done ?stop
    case assign =>
      rintro lp pre x W K ⟨⟨bS1, bA1⟩, hB1⟩ hK
      dsimp only [sideV] at hK ⊢
      have hlA := bA1.lt
      gi_wp2
      exact hK _ _ ((KeepsOthers.alloc _ _).from _) (keep2_below (below_alloc W _) bA1.lt (by omega)) ⟨⟨bS1.alloc _, bA1.alloc _⟩, hB1.alloc hB1.size _⟩ ⟨W.heap.size, hlA, Blk.new W _ _, rfl⟩
    case body =>
      rintro lp pre x a' W hl ⟨r, hr⟩ ⟨⟨bS1, bA1⟩, hB1⟩ ⟨Bx, hBx, bX, rfl⟩ hlt
      obtain ⟨k, hk⟩ := x
      obtain ⟨f1, f2, f3, f4⟩ := HFit.out k hk
      obtain ⟨f5, f6, f7, f8⟩ := HFit.out _ (nxt_lt (k := k) hm0)
      have m1 := pp_bound f1 f2 f7 f8
      have m2 := pp_bound f3 f4 f5 f6
      simp only [pt] at m1 m2
      have hsn := hide (arS_snoc l m pre ⟨k, hk⟩)
      have hak : Hid (arK l m k = ptx l k * pty l (nxt m k) - pty l k * ptx l (nxt m k)) := rfl
      generalize hps : arS l m pre = s at *
      clear hps
      have x0 := bX.cell 0 rfl
      have x1 := bX.cell 1 rfl
      have x2 := bX.cell 2 rfl
      have x3 := bX.cell 3 rfl
      have cS := bS1.cell
      have fS := bS1.frozen
      have lA := bA1.lt
      clear f1 f2 f3 f4 f5 f6 f7 f8
      gi_wp2
      refine ⟨(KeepsOthers.setCell _ _ _).from _, ⟨set_other _ _ _ _ (by omega), set_other _ _ _ _ (by omega)⟩, ⟨⟨?_, (set_other _ _ _ _ (by omega)).trans bA1⟩, hB1.setCell (p := ⟨w1.heap.size, 0, none⟩) (by simp; omega) _⟩⟩
      rw [hsn.out, show arK l m (⟨k, hk⟩ : Fin m).1 = _ from hak.out]
      exact bS1.set _
    case done =>
      rintro D zs W hD rfl ⟨⟨bS1, bA1⟩, hB1⟩ hK
      rw [HSD.out] at bS1
      have cS := bS1.cell
      gi_wp2
      refine ⟨by simp, .inl ⟨_, _, rfl, run_takeDeferred hK, ?_⟩⟩
      refine ⟨.tuple #[.int .i64 SD, .int .i64 0], ?_, by simp, hB1.trans (belowK_b (w := w) (Nat.le_refl _) _ D _ _ (by omega) hK rfl rfl)⟩
      simp [results, Try.f23, go_sem]
    case stop =>
      rintro D c pre W hD hpre h hK
      exact h.elim
  · gi_wp2_with fail
    refine ⟨.tuple #[.int .i64 0, .int .i64 E], ?_, by simp, hB⟩
    simp [results, Try.f23, go_sem]
end Go.Proofs.Ytohepelnbmojiaa
