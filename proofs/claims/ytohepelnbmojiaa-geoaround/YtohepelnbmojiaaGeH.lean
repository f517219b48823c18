/- Polygons whose sides share more than neighbours must. -/
import Derived.Test.YtohepelnbmojiaaGeG
namespace Go.Proofs.Ytohepelnbmojiaa
open Go.RowKit Go.Shelf

attribute [local go_sem] Oper.semAt_some

def pt (l : List Pt) (k : Nat) : Pt := (ptx l k, pty l k)
/-- two sides share more than they may, as the program looks -/
def pairB (l : List Pt) (m i j : Nat) : Bool :=
  if j = i ∨ i = nxt m j then false
  else if j = nxt m i then meetB (pt l i) (pt l (nxt m i)) (pt l (nxt m j)) (pt l (nxt m j)) || meetB (pt l j) (pt l (nxt m j)) (pt l i) (pt l i)
  else meetB (pt l i) (pt l (nxt m i)) (pt l j) (pt l (nxt m j))
def rowB (l : List Pt) (m i : Nat) : Bool := (List.finRange m).any fun j => pairB l m i j.1
def tangB (l : List Pt) (m : Nat) : Bool := (List.finRange m).any fun i => rowB l m i.1
abbrev slc (g o m cap : Nat) : Value := .slice (some ⟨g, o, none⟩) m cap
abbrev segC (l : List Pt) (m k : Nat) : Array Value := #[.int .i64 (ptx l k), .int .i64 (pty l k), .int .i64 (ptx l (nxt m k)), .int .i64 (pty l (nxt m k))]
abbrev ptr (b : Nat) : Value := .pointer (some ⟨b, 0, none⟩)
abbrev fnv (b : Nat) : Value := .func (.func 57) #[] #[ptr b]
set_option maxRecDepth 100000 in
set_option maxHeartbeats 8000000 in
theorem isTangled_in (n : Nat) (hn : 9 ≤ n) (g o m cap : Nat) (l : List Pt) (hfit : ∀ k, k < m → Fit (pt l k)) (w : World) (hp : Poly w g o m cap l) :
    CallsIn Fence.wide n Try.prog 44 #[slc g o m cap] w fun e W' => e = .returned (.bool (tangB l m)) ∧ Below w.heap.size w W' := by
  have hF : ∀ k, Fence.wide.fn k := fun _ => trivial
  have hro : Fence.wide.round = none := rfl
  have h1 : 1 ≤ n := by omega
  refine callsIn_of_wp_marks Try.func44 rfl (hF _) ?_ hro
  simp only [Try.ntmps44, List.size_toArray, List.length_cons, List.length_nil, Nat.reduceAdd, Nat.reduceSub, Array.replicate_succ, Array.replicate_zero, List.push_toArray, List.append_toArray, List.nil_append, List.cons_append]
  gi_wp2_with (gi_at_call 45; refine (sides_in Fence.wide (n - 1) hF hro _ _ _ _).mono ?_; rintro e w' ⟨rfl, rfl⟩)
  have bP := ((Boxed.new w 35 (slc g o m cap)).alloc (.cells #[.bool false] 4)).alloc (.cells #[slc g o m cap] 35)
  have bR := (Boxed.new (w.alloc (.cells #[slc g o m cap] 35)) 4 (.bool false)).alloc (.cells #[slc g o m cap] 35)
  have bA := Boxed.new ((w.alloc (.cells #[slc g o m cap] 35)).alloc (.cells #[.bool false] 4)) 35 (slc g o m cap)
  simp only [World.size_alloc] at bR bA
  have hB0 : Below w.heap.size w (((w.alloc (.cells #[slc g o m cap] 35)).alloc (.cells #[.bool false] 4)).alloc (.cells #[slc g o m cap] 35)) := b3 _ _ _ _
  have hsz : (((w.alloc (.cells #[slc g o m cap] 35)).alloc (.cells #[.bool false] 4)).alloc (.cells #[slc g o m cap] 35)).heap.size = w.heap.size + 3 := by simp
  obtain ⟨W0, hW0⟩ : ∃ W0, ((w.alloc (.cells #[slc g o m cap] 35)).alloc (.cells #[.bool false] 4)).alloc (.cells #[slc g o m cap] 35) = W0 := ⟨_, rfl⟩
  rw [hW0] at bP bR bA hB0 hsz ⊢
  clear hW0
  have hg := hp.lt
  refine wpIn_rangeFunc_ownH hro h1 (gf := 57) (lb := #[ptr (w.heap.size + 1 + 1)]) rfl (hF _) (enters_of Try.func57 (by kernel_rfl) rfl)
    (sides_stops Fence.wide (n - 1) hF hro (by omega) (w.heap.size + 1 + 1) g o cap m l W0 (hp.below hB0) (by omega) bA.cell) keep2_t (keep2_b (by omega) (by omega)) (Below.refl _ _) (fun _ => rfl)
    (fun pre W => ((((∀ x ∈ pre, rowB l m x.1 = false) ∧ Boxed W (w.heap.size + 1) 4 (.bool false)) ∧ Boxed W w.heap.size 35 (slc g o m cap)) ∧ Boxed W (w.heap.size + 1 + 1) 35 (slc g o m cap)) ∧ Below w.heap.size w W)
    (fun c pre W => ((c = .ret ∧ tangB l m = true) ∧ Boxed W (w.heap.size + 1) 4 (.bool true)) ∧ Below w.heap.size w W)
    (OwnFrom.and (OwnFrom.and (OwnFrom.and (OwnFrom.and (ownFrom_pure _ _) (Own.from (boxed_own _ _ _) _)) (Own.from (boxed_own _ _ _) _)) (Own.from (boxed_own _ _ _) _)) (ownFrom_below (Nat.le_refl _) (by omega)))
    (fun c => OwnFrom.and (OwnFrom.and (ownFrom_pure _ _) (Own.from (boxed_own _ _ _) _)) (ownFrom_below (Nat.le_refl _) (by omega)))
    ⟨⟨⟨⟨by simp, bR⟩, bP⟩, bA⟩, hB0⟩
    (fun x a' W => ∃ Bi Bx, (w.heap.size + 1 + 1 < Bi ∧ Bi < Bx) ∧ Boxed W Bi 3 (.int .i64 (x.1 : Int)) ∧ Blk W Bx (segC l m x.1) 60 ∧ a' = { tmps := #[slc g o m cap, ptr w.heap.size, ptr (w.heap.size + 1), ptr Bi, ptr Bx, undef, undef, slc g o m cap, fnv (w.heap.size + 1 + 1), .int .i64 (x.1 : Int), sideV l m x.1, undef, undef, undef, undef, undef, undef, undef, undef, undef, undef, undef, undef, undef, undef, undef, undef, undef, undef, undef, undef, undef, undef, undef, undef, undef, undef], defers := [] })
    (fun x a' _ X Y row hs hg hr => by obtain ⟨Bi, Bx, e1, e2, e2', e3⟩ := hs; exact ⟨Bi, Bx, e1, boxed_own Bi 3 (fun (_ : Unit) => _) () X Y row e2 hg (fun r e => (hr r e).2), blk_own Bx 60 (fun (_ : Unit) => _) () X Y row e2' hg (fun r e => (hr r e).2), e3⟩)
    ?assign ?body ?done ?stop
  case assign =>
    rintro lp pre x W K ⟨⟨⟨⟨hpr, bR1⟩, bP1⟩, bA1⟩, hB1⟩ hK
    dsimp only [sideV] at hK ⊢
    gi_wp2
    have hlt := bA1.lt
    exact hK _ _ (((KeepsOthers.alloc _ _).trans (KeepsOthers.alloc _ _)).from _) (keep2_below (b2 W _ _) bA1.lt (by have := hB1.size; omega)) ⟨⟨⟨⟨hpr, (bR1.alloc _).alloc _⟩, (bP1.alloc _).alloc _⟩, (bA1.alloc _).alloc _⟩, (hB1.alloc hB1.size _).alloc (by have := hB1.size; simp; omega) _⟩ ⟨W.heap.size, W.heap.size + 1, ⟨hlt, by omega⟩, (Boxed.new W _ _).alloc _, by have := Blk.new (W.alloc (.cells #[.int .i64 (x.1 : Int)] 3)) (segC l m x.1) 60; rw [World.size_alloc] at this; exact this, rfl⟩
  case body =>
    rintro lp pre x a' W hl ⟨r, hr⟩ ⟨⟨⟨⟨hpr, bR1⟩, bP1⟩, bA1⟩, hB1⟩ ⟨Bi, Bx, ⟨hBi, hBx⟩, bI, bX, rfl⟩ hlt
    have cP := bP1.cell
    have h1' : 1 ≤ n - 1 - 1 := by omega
    gi_wp2_with (gi_at_call 45; refine (CallsIn.inRound lp (sides_in Fence.wide (n - 1 - 1 - 1) hF hro _ _ _ _)).mono ?_; rintro e w' ⟨rfl, rfl⟩)
    have hsW := hB1.size
    have bN := Boxed.new W 35 (slc g o m cap)
    have hr' : (W.alloc (.cells #[slc g o m cap] 35)).heap[lp]? = some (.loop r) := (Below.heap_alloc W _ lp (Array.getElem?_eq_some_iff.1 hr).1).trans hr
    have ltA := bA1.lt
    have ltI := bI.lt
    have ltX := bX.lt
    have hWa : Below W.heap.size W (W.alloc (.cells #[slc g o m cap] 35)) := below_alloc _ _
    refine wpIn_rangeFunc_ownN (l₀ := lp) (r₀ := r) rfl hr' h1' (gf := 57) (lb := #[ptr W.heap.size]) rfl (hF 57) (enters_of Try.func57 (by kernel_rfl) rfl)
      ((sides_stops Fence.wide (n - 1 - 1 - 1) hF hro (by omega) W.heap.size g o cap m l (W.alloc (.cells #[slc g o m cap] 35)) (hp.below (hB1.alloc hsW _)) (by simp) bN.cell).inRound lp) keep2_t (keep2_b (by simp) (by simp; omega)) (Below.refl _ _) (fun _ => rfl)
      (fun pre' W' => (((((((∀ y ∈ pre', pairB l m x.1 y.1 = false) ∧ Boxed W' (w.heap.size + 1) 4 (.bool false)) ∧ Boxed W' Bi 3 (.int .i64 (x.1 : Int))) ∧ Blk W' Bx (segC l m x.1) 60) ∧ Boxed W' w.heap.size 35 (slc g o m cap)) ∧ Boxed W' (w.heap.size + 1 + 1) 35 (slc g o m cap)) ∧ Boxed W' W.heap.size 35 (slc g o m cap)) ∧ (Below w.heap.size W W' ∧ KeepsFrom W0.heap.size W W'))
      (fun c pre' W' => ((c = .ret ∧ rowB l m x.1 = true) ∧ Boxed W' (w.heap.size + 1) 4 (.bool true)) ∧ (Below w.heap.size W W' ∧ KeepsFrom W0.heap.size W W'))
      (OwnFrom.and (OwnFrom.and (OwnFrom.and (OwnFrom.and (OwnFrom.and (OwnFrom.and (OwnFrom.and (ownFrom_pure _ _) (Own.from (boxed_own _ _ _) _)) (Own.from (boxed_own _ _ _) _)) (Own.from (blk_own _ _ _) _)) (Own.from (boxed_own _ _ _) _)) (Own.from (boxed_own _ _ _) _)) (Own.from (boxed_own _ _ _) _)) (OwnFrom.and (ownFrom_below hsW (by simp; omega)) (ownFrom_keepsFrom (by simp))))
      (fun c => OwnFrom.and (OwnFrom.and (ownFrom_pure _ _) (Own.from (boxed_own _ _ _) _)) (OwnFrom.and (ownFrom_below hsW (by simp; omega)) (ownFrom_keepsFrom (by simp))))
      ⟨⟨⟨⟨⟨⟨⟨by simp, bR1.alloc _⟩, bI.alloc _⟩, bX.alloc _⟩, bP1.alloc _⟩, bA1.alloc _⟩, bN⟩, (Below.refl _ W).alloc hsW _, (KeepsOthers.alloc _ _).from _⟩
      (fun y a'' W' => ∃ By, W.heap.size < By ∧ Blk W' By (segC l m y.1) 60 ∧ a'' = { tmps := #[slc g o m cap, ptr w.heap.size, ptr (w.heap.size + 1), ptr Bi, ptr Bx, .int .i64 (y.1 : Int), ptr By, slc g o m cap, fnv (w.heap.size + 1 + 1), .int .i64 (x.1 : Int), sideV l m x.1, slc g o m cap, fnv W.heap.size, .int .i64 (y.1 : Int), sideV l m y.1, undef, undef, undef, undef, undef, undef, undef, undef, undef, undef, undef, undef, undef, undef, undef, undef, undef, undef, undef, undef, undef, undef], defers := [] })
      (fun y a'' _ X Y row hs hg hr => by obtain ⟨By, e1, e2, e3⟩ := hs; exact ⟨By, e1, blk_own By 60 (fun (_ : Unit) => _) () X Y row e2 hg (fun r e => (hr r e).2), e3⟩)
      ?assign2 ?body2 ?done2 ?stop2
    case assign2 =>
      rintro l2 pre' y W' K ⟨⟨⟨⟨⟨⟨⟨hq, bR2⟩, bI2⟩, bX2⟩, bP2⟩, bA2⟩, bN2⟩, hBW, hKF⟩ hK
      dsimp only [sideV] at hK ⊢
      have ltN := bN2.lt
      have hs2 := hBW.size
      gi_wp2
      exact hK _ _ ((KeepsOthers.alloc _ _).from _) (keep2_below (below_alloc W' _) ltN (by omega)) ⟨⟨⟨⟨⟨⟨⟨hq, bR2.alloc _⟩, bI2.alloc _⟩, bX2.alloc _⟩, bP2.alloc _⟩, bA2.alloc _⟩, bN2.alloc _⟩, hBW.alloc (by omega) _, hKF.trans ((KeepsOthers.alloc _ _).from _)⟩ ⟨W'.heap.size, ltN, Blk.new W' _ _, rfl⟩
    case body2 =>
      rintro l2 pre' ⟨j, hj⟩ a'' W' _ ⟨r2, hr2⟩ ⟨⟨⟨⟨⟨⟨⟨hq, bR2⟩, bI2⟩, bX2⟩, bP2⟩, bA2⟩, bN2⟩, hBW, hKF⟩ ⟨By, hBy, bY, rfl⟩ _
      obtain ⟨i, hi⟩ := x
      clear hsz
      have onOf : ∀ V, Below W'.heap.size W' V → pairB l m i j = false → KeepsFrom (W.heap.size + 1) W' V ∧ Keep2 W.heap.size g W' V ∧ ((((((((∀ y ∈ pre' ++ [⟨j, hj⟩], pairB l m i y.1 = false) ∧ Boxed V (w.heap.size + 1) 4 (.bool false)) ∧ Boxed V Bi 3 (.int .i64 (i : Int))) ∧ Blk V Bx (segC l m i) 60) ∧ Boxed V w.heap.size 35 (slc g o m cap)) ∧ Boxed V (w.heap.size + 1 + 1) 35 (slc g o m cap)) ∧ Boxed V W.heap.size 35 (slc g o m cap)) ∧ (Below w.heap.size W V ∧ KeepsFrom W0.heap.size W V)) := fun V hb hf => by
        have hk : KeepsFrom W0.heap.size W' V := (KeepsOthers.of_grownBy (grown_below hb none) (fun _ _ e => by cases e)).from _
        have hh : ∀ b, b < W'.heap.size → V.heap[b]? = W'.heap[b]? := fun b h => hb.block b h
        have hs := hBW.size
        refine ⟨(KeepsOthers.of_grownBy (grown_below hb none) (fun _ _ e => by cases e)).from _, ⟨hh _ bN2.lt, hh _ (by omega)⟩, ⟨⟨⟨⟨⟨⟨⟨fun y hy => (List.mem_append.1 hy).elim (hq y) (fun e => by simp at e; subst e; exact hf), (hh _ bR2.lt).trans bR2⟩, (hh _ bI2.lt).trans bI2⟩, (hh _ bX2.lt).trans bX2⟩, (hh _ bP2.lt).trans bP2⟩, (hh _ bA2.lt).trans bA2⟩, (hh _ bN2.lt).trans bN2⟩, hBW.trans (hb.mono (by omega)), hKF.trans hk⟩⟩
      have retOf : ∀ V, Below W'.heap.size W' V → pairB l m i j = true → KeepsFrom (W.heap.size + 1) W' (V.setCell ⟨w.heap.size + 1, 0, none⟩ (.bool true)) ∧ (((Code.ret = .ret ∧ rowB l m i = true) ∧ Boxed (V.setCell ⟨w.heap.size + 1, 0, none⟩ (.bool true)) (w.heap.size + 1) 4 (.bool true)) ∧ (Below w.heap.size W (V.setCell ⟨w.heap.size + 1, 0, none⟩ (.bool true)) ∧ KeepsFrom W0.heap.size W (V.setCell ⟨w.heap.size + 1, 0, none⟩ (.bool true)))) := fun V hb hf => by
        have hk : KeepsFrom W0.heap.size W' V := (KeepsOthers.of_grownBy (grown_below hb none) (fun _ _ e => by cases e)).from _
        have hk2 : KeepsFrom W0.heap.size V (V.setCell ⟨w.heap.size + 1, 0, none⟩ (.bool true)) := (KeepsOthers.setCell _ _ _).from _
        have hs := hBW.size
        have bRV : Boxed V (w.heap.size + 1) 4 (.bool false) := (hb.block _ bR2.lt).trans bR2
        exact ⟨((KeepsOthers.of_grownBy (grown_below hb none) (fun _ _ e => by cases e)).trans (KeepsOthers.setCell _ _ _)).from _, ⟨⟨rfl, List.any_eq_true.2 ⟨⟨j, hj⟩, List.mem_finRange _, hf⟩⟩, bRV.set _⟩, (hBW.trans (hb.mono (by omega))).setCell (p := ⟨w.heap.size + 1, 0, none⟩) (by simp) _, hKF.trans (hk.trans hk2)⟩
      have cR := bR2.cell
      have cI := bI2.cell
      have cP2 := bP2.cell
      have h4 : 1 ≤ n - 1 - 1 - 1 - 1 := by omega
      have hmx : Try.prog.follows .mixedOrders = true := by kernel_rfl
      by_cases e1 : j = i
      · have hpf : pairB l m i j = false := by unfold pairB; rw [if_pos (Or.inl e1)]
        subst e1
        gi_wp2
        exact onOf _ (Below.refl _ _) hpf
      · have hne : ¬ (j : Int) = (i : Int) := by omega
        have hN := fun w => next_in Fence.wide (n - 1 - 1 - 1 - 1 - 1) hF hro (some ⟨g, o, none⟩) m cap j hj hp.most w
        have hN2 := fun w => next_in Fence.wide (n - 1 - 1 - 1 - 1 - 1) hF hro (some ⟨g, o, none⟩) m cap i hi hp.most w
        gi_wp2
        obtain ⟨W2, hW2⟩ : ∃ W2, W'.drew = W2 := ⟨_, rfl⟩
        have hb2 : Below W'.heap.size W' W2 := hW2 ▸ (Below.refl _ _).drew
        have bR3 : Boxed W2 (w.heap.size + 1) 4 (.bool false) := (hb2.block _ bR2.lt).trans bR2
        have bI3 : Boxed W2 Bi 3 (.int .i64 (i : Int)) := (hb2.block _ bI2.lt).trans bI2
        have bP3 : Boxed W2 w.heap.size 35 (slc g o m cap) := (hb2.block _ bP2.lt).trans bP2
        have bX3 : Blk W2 Bx (segC l m i) 60 := (hb2.block _ bX2.lt).trans bX2
        have bY3 : Blk W2 By (segC l m j) 60 := (hb2.block _ bY.lt).trans bY
        have cI3 := bI3.cell
        have cP3 := bP3.cell
        have x0 := bX3.cell 0 rfl
        have x1 := bX3.cell 1 rfl
        have x2 := bX3.cell 2 rfl
        have x3 := bX3.cell 3 rfl
        have y0 := bY3.cell 0 rfl
        have y1 := bY3.cell 1 rfl
        have y2 := bY3.cell 2 rfl
        have y3 := bY3.cell 3 rfl
        have ON := hide onOf
        have RT := hide retOf
        have HQ := hide hq
        have HPR := hide hpr
        clear onOf retOf hq hpr
        by_cases e2 : i = nxt m j
        · have hpf : Hid (pairB l m i j = false) := by show pairB l m i j = false; unfold pairB; rw [if_pos (Or.inr e2)]
          subst e2
          refine wpIn_region_any hmx ?_
          change wpAnyIn _ _ _ _ _ _ _ _ _ (World.drew _)
          rw [hW2]
          refine memo 0 #[true, true, true, true, true, true] { tmps := #[slc g o m cap, ptr w.heap.size, ptr (w.heap.size + 1), ptr Bi, ptr Bx, Value.int IntKind.i64 ↑j, ptr By, slc g o m cap, fnv (w.heap.size + 1 + 1), Value.int IntKind.i64 ↑(nxt m j), sideV l m (nxt m j), slc g o m cap, fnv W.heap.size, Value.int IntKind.i64 ↑j, sideV l m j, Value.bool true, Value.int IntKind.i64 ↑j, Value.int IntKind.i64 ↑(nxt m j), Value.bool false, Value.int IntKind.i64 ↑(nxt m j), slc g o m cap, Value.int IntKind.i64 ↑j, Value.int IntKind.i64 ↑(nxt m j), Value.bool true, undef, undef, undef, undef, undef, undef, undef, undef, undef, undef, undef, undef, undef], defers := [] } W2 ?_ (fun q0 => ?_)
          · refine wpAnyIn_done (by kernel_rfl) ?_ _
            gi_wp2
            exact ON.out _ hb2 hpf.out
          refine memo 1 #[true, true, true, true, true, false] { tmps := #[slc g o m cap, ptr w.heap.size, ptr (w.heap.size + 1), ptr Bi, ptr Bx, Value.int IntKind.i64 ↑j, ptr By, slc g o m cap, fnv (w.heap.size + 1 + 1), Value.int IntKind.i64 ↑(nxt m j), sideV l m (nxt m j), slc g o m cap, fnv W.heap.size, Value.int IntKind.i64 ↑j, sideV l m j, Value.bool false, Value.int IntKind.i64 ↑j, Value.int IntKind.i64 ↑(nxt m j), Value.bool false, Value.int IntKind.i64 ↑(nxt m j), slc g o m cap, Value.int IntKind.i64 ↑j, Value.int IntKind.i64 ↑(nxt m j), Value.bool true, undef, undef, undef, undef, undef, undef, undef, undef, undef, undef, undef, undef, undef], defers := [] } W2 ?_ (fun q1 => ?_)
          · refine wpAnyIn_ready (rs := [5]) (by kernel_rfl) (by simp) ?_
            refine AllReadyIn.cons rfl (fun K hK => ?_) ?_
            · go_simp
              refine hK _ _ ?_
              clear hK K
              exact q0
            exact AllReadyIn.nil
          refine memo 2 #[true, true, true, true, false, false] { tmps := #[slc g o m cap, ptr w.heap.size, ptr (w.heap.size + 1), ptr Bi, ptr Bx, Value.int IntKind.i64 ↑j, ptr By, slc g o m cap, fnv (w.heap.size + 1 + 1), Value.int IntKind.i64 ↑(nxt m j), sideV l m (nxt m j), slc g o m cap, fnv W.heap.size, Value.int IntKind.i64 ↑j, sideV l m j, Value.bool false, Value.int IntKind.i64 ↑j, Value.int IntKind.i64 ↑(nxt m j), Value.bool false, Value.int IntKind.i64 ↑(nxt m j), slc g o m cap, Value.int IntKind.i64 ↑j, Value.int IntKind.i64 ↑(nxt m j), undef, undef, undef, undef, undef, undef, undef, undef, undef, undef, undef, undef, undef, undef], defers := [] } W2 ?_ (fun q2 => ?_)
          · refine wpAnyIn_ready (rs := [4]) (by kernel_rfl) (by simp) ?_
            refine AllReadyIn.cons rfl (fun K hK => ?_) ?_
            · go_simp
              refine hK _ _ ?_
              clear hK K
              exact q1
            exact AllReadyIn.nil
          refine memo 3 #[false, true, true, true, false, false] { tmps := #[slc g o m cap, ptr w.heap.size, ptr (w.heap.size + 1), ptr Bi, ptr Bx, Value.int IntKind.i64 ↑j, ptr By, slc g o m cap, fnv (w.heap.size + 1 + 1), Value.int IntKind.i64 ↑(nxt m j), sideV l m (nxt m j), slc g o m cap, fnv W.heap.size, Value.int IntKind.i64 ↑j, sideV l m j, Value.bool false, Value.int IntKind.i64 ↑j, Value.int IntKind.i64 ↑(nxt m j), Value.bool false, undef, slc g o m cap, Value.int IntKind.i64 ↑j, Value.int IntKind.i64 ↑(nxt m j), undef, undef, undef, undef, undef, undef, undef, undef, undef, undef, undef, undef, undef, undef], defers := [] } W2 ?_ (fun q3 => ?_)
          · refine wpAnyIn_ready (rs := [0]) (by kernel_rfl) (by simp) ?_
            refine AllReadyIn.cons rfl (fun K hK => ?_) ?_
            · go_simp
              refine hK _ _ ?_
              clear hK K
              exact q2
            exact AllReadyIn.nil
          refine memo 3 #[true, true, true, false, false, false] { tmps := #[slc g o m cap, ptr w.heap.size, ptr (w.heap.size + 1), ptr Bi, ptr Bx, Value.int IntKind.i64 ↑j, ptr By, slc g o m cap, fnv (w.heap.size + 1 + 1), Value.int IntKind.i64 ↑(nxt m j), sideV l m (nxt m j), slc g o m cap, fnv W.heap.size, Value.int IntKind.i64 ↑j, sideV l m j, Value.bool false, Value.int IntKind.i64 ↑j, Value.int IntKind.i64 ↑(nxt m j), Value.bool false, Value.int IntKind.i64 ↑(nxt m j), slc g o m cap, Value.int IntKind.i64 ↑j, undef, undef, undef, undef, undef, undef, undef, undef, undef, undef, undef, undef, undef, undef, undef], defers := [] } W2 ?_ (fun q4 => ?_)
          · refine wpAnyIn_ready (rs := [3]) (by kernel_rfl) (by simp) ?_
            refine AllReadyIn.cons rfl (fun K hK => ?_) ?_
            · go_simp
              gi_wp2_with (gi_at_call 55; refine (CallsIn.inRound l2 (CallsIn.inRound lp (hN _))).mono ?_; rintro e w' ⟨rfl, rfl⟩)
              first | (refine hK _ _ ?_; clear hK K) | skip
              exact q2
            exact AllReadyIn.nil
          refine memo 4 #[false, true, true, false, false, false] { tmps := #[slc g o m cap, ptr w.heap.size, ptr (w.heap.size + 1), ptr Bi, ptr Bx, Value.int IntKind.i64 ↑j, ptr By, slc g o m cap, fnv (w.heap.size + 1 + 1), Value.int IntKind.i64 ↑(nxt m j), sideV l m (nxt m j), slc g o m cap, fnv W.heap.size, Value.int IntKind.i64 ↑j, sideV l m j, Value.bool false, Value.int IntKind.i64 ↑j, Value.int IntKind.i64 ↑(nxt m j), Value.bool false, undef, slc g o m cap, Value.int IntKind.i64 ↑j, undef, undef, undef, undef, undef, undef, undef, undef, undef, undef, undef, undef, undef, undef, undef], defers := [] } W2 ?_ (fun q5 => ?_)
          · refine wpAnyIn_ready (rs := [0, 3]) (by kernel_rfl) (by simp) ?_
            refine AllReadyIn.cons rfl (fun K hK => ?_) ?_
            · go_simp
              refine hK _ _ ?_
              clear hK K
              exact q4
            refine AllReadyIn.cons rfl (fun K hK => ?_) ?_
            · go_simp
              gi_wp2_with (gi_at_call 55; refine (CallsIn.inRound l2 (CallsIn.inRound lp (hN _))).mono ?_; rintro e w' ⟨rfl, rfl⟩)
              first | (refine hK _ _ ?_; clear hK K) | skip
              exact q3
            exact AllReadyIn.nil
          refine memo 4 #[true, false, true, false, false, false] { tmps := #[slc g o m cap, ptr w.heap.size, ptr (w.heap.size + 1), ptr Bi, ptr Bx, Value.int IntKind.i64 ↑j, ptr By, slc g o m cap, fnv (w.heap.size + 1 + 1), Value.int IntKind.i64 ↑(nxt m j), sideV l m (nxt m j), slc g o m cap, fnv W.heap.size, Value.int IntKind.i64 ↑j, sideV l m j, Value.bool false, Value.int IntKind.i64 ↑j, Value.int IntKind.i64 ↑(nxt m j), Value.bool false, Value.int IntKind.i64 ↑(nxt m j), undef, Value.int IntKind.i64 ↑j, undef, undef, undef, undef, undef, undef, undef, undef, undef, undef, undef, undef, undef, undef, undef], defers := [] } W2 ?_ (fun q6 => ?_)
          · refine wpAnyIn_ready (rs := [1]) (by kernel_rfl) (by simp) ?_
            refine AllReadyIn.cons rfl (fun K hK => ?_) ?_
            · go_simp
              refine hK _ _ ?_
              clear hK K
              exact q4
            exact AllReadyIn.nil
          refine memo 4 #[true, true, false, false, false, false] { tmps := #[slc g o m cap, ptr w.heap.size, ptr (w.heap.size + 1), ptr Bi, ptr Bx, Value.int IntKind.i64 ↑j, ptr By, slc g o m cap, fnv (w.heap.size + 1 + 1), Value.int IntKind.i64 ↑(nxt m j), sideV l m (nxt m j), slc g o m cap, fnv W.heap.size, Value.int IntKind.i64 ↑j, sideV l m j, Value.bool false, Value.int IntKind.i64 ↑j, Value.int IntKind.i64 ↑(nxt m j), Value.bool false, Value.int IntKind.i64 ↑(nxt m j), slc g o m cap, undef, undef, undef, undef, undef, undef, undef, undef, undef, undef, undef, undef, undef, undef, undef, undef], defers := [] } W2 ?_ (fun q7 => ?_)
          · refine wpAnyIn_ready (rs := [2]) (by kernel_rfl) (by simp) ?_
            refine AllReadyIn.cons rfl (fun K hK => ?_) ?_
            · go_simp
              refine hK _ _ ?_
              clear hK K
              exact q4
            exact AllReadyIn.nil
          refine memo 5 #[false, false, true, false, false, false] { tmps := #[slc g o m cap, ptr w.heap.size, ptr (w.heap.size + 1), ptr Bi, ptr Bx, Value.int IntKind.i64 ↑j, ptr By, slc g o m cap, fnv (w.heap.size + 1 + 1), Value.int IntKind.i64 ↑(nxt m j), sideV l m (nxt m j), slc g o m cap, fnv W.heap.size, Value.int IntKind.i64 ↑j, sideV l m j, Value.bool false, Value.int IntKind.i64 ↑j, Value.int IntKind.i64 ↑(nxt m j), Value.bool false, undef, undef, Value.int IntKind.i64 ↑j, undef, undef, undef, undef, undef, undef, undef, undef, undef, undef, undef, undef, undef, undef, undef], defers := [] } W2 ?_ (fun q8 => ?_)
          · refine wpAnyIn_ready (rs := [0, 1]) (by kernel_rfl) (by simp) ?_
            refine AllReadyIn.cons rfl (fun K hK => ?_) ?_
            · go_simp
              refine hK _ _ ?_
              clear hK K
              exact q6
            refine AllReadyIn.cons rfl (fun K hK => ?_) ?_
            · go_simp
              refine hK _ _ ?_
              clear hK K
              exact q5
            exact AllReadyIn.nil
          refine memo 5 #[false, true, false, false, false, false] { tmps := #[slc g o m cap, ptr w.heap.size, ptr (w.heap.size + 1), ptr Bi, ptr Bx, Value.int IntKind.i64 ↑j, ptr By, slc g o m cap, fnv (w.heap.size + 1 + 1), Value.int IntKind.i64 ↑(nxt m j), sideV l m (nxt m j), slc g o m cap, fnv W.heap.size, Value.int IntKind.i64 ↑j, sideV l m j, Value.bool false, Value.int IntKind.i64 ↑j, Value.int IntKind.i64 ↑(nxt m j), Value.bool false, undef, slc g o m cap, undef, undef, undef, undef, undef, undef, undef, undef, undef, undef, undef, undef, undef, undef, undef, undef], defers := [] } W2 ?_ (fun q9 => ?_)
          · refine wpAnyIn_ready (rs := [0, 2]) (by kernel_rfl) (by simp) ?_
            refine AllReadyIn.cons rfl (fun K hK => ?_) ?_
            · go_simp
              refine hK _ _ ?_
              clear hK K
              exact q7
            refine AllReadyIn.cons rfl (fun K hK => ?_) ?_
            · go_simp
              refine hK _ _ ?_
              clear hK K
              exact q5
            exact AllReadyIn.nil
          refine memo 5 #[true, false, false, false, false, false] { tmps := #[slc g o m cap, ptr w.heap.size, ptr (w.heap.size + 1), ptr Bi, ptr Bx, Value.int IntKind.i64 ↑j, ptr By, slc g o m cap, fnv (w.heap.size + 1 + 1), Value.int IntKind.i64 ↑(nxt m j), sideV l m (nxt m j), slc g o m cap, fnv W.heap.size, Value.int IntKind.i64 ↑j, sideV l m j, Value.bool false, Value.int IntKind.i64 ↑j, Value.int IntKind.i64 ↑(nxt m j), Value.bool false, Value.int IntKind.i64 ↑(nxt m j), undef, undef, undef, undef, undef, undef, undef, undef, undef, undef, undef, undef, undef, undef, undef, undef, undef], defers := [] } W2 ?_ (fun q10 => ?_)
          · refine wpAnyIn_ready (rs := [1, 2]) (by kernel_rfl) (by simp) ?_
            refine AllReadyIn.cons rfl (fun K hK => ?_) ?_
            · go_simp
              refine hK _ _ ?_
              clear hK K
              exact q7
            refine AllReadyIn.cons rfl (fun K hK => ?_) ?_
            · go_simp
              refine hK _ _ ?_
              clear hK K
              exact q6
            exact AllReadyIn.nil
          refine wpAnyIn_ready (rs := [0, 1, 2]) (by kernel_rfl) (by simp) ?_
          refine AllReadyIn.cons rfl (fun K hK => ?_) ?_
          · go_simp
            refine hK _ _ ?_
            clear hK K
            exact q10
          refine AllReadyIn.cons rfl (fun K hK => ?_) ?_
          · go_simp
            refine hK _ _ ?_
            clear hK K
            exact q9
          refine AllReadyIn.cons rfl (fun K hK => ?_) ?_
          · go_simp
            refine hK _ _ ?_
            clear hK K
            exact q8
          exact AllReadyIn.nil
        · have hne2 : ((i : Int) == ((nxt m j : Nat) : Int)) = false := by simp; omega
          refine wpIn_region_any hmx ?_
          change wpAnyIn _ _ _ _ _ _ _ _ _ (World.drew _)
          rw [hW2]
          refine memo 0 #[true, true, true, true, true, true] { tmps := #[slc g o m cap, ptr w.heap.size, ptr (w.heap.size + 1), ptr Bi, ptr Bx, Value.int IntKind.i64 ↑j, ptr By, slc g o m cap, fnv (w.heap.size + 1 + 1), Value.int IntKind.i64 ↑(i), sideV l m (i), slc g o m cap, fnv W.heap.size, Value.int IntKind.i64 ↑j, sideV l m j, Value.bool false, Value.int IntKind.i64 ↑j, Value.int IntKind.i64 ↑(i), Value.bool false, Value.int IntKind.i64 ↑(i), slc g o m cap, Value.int IntKind.i64 ↑j, Value.int IntKind.i64 ↑(nxt m j), Value.bool false, undef, undef, undef, undef, undef, undef, undef, undef, undef, undef, undef, undef, undef], defers := [] } W2 ?_ (fun q0 => ?_)
          · refine wpAnyIn_done (by kernel_rfl) ?_ _
            by_cases e3 : j = nxt m i
            · have hpf : Hid (pairB l m i j = (meetB (pt l i) (pt l (nxt m i)) (pt l (nxt m j)) (pt l (nxt m j)) || meetB (pt l j) (pt l (nxt m j)) (pt l i) (pt l i))) := by show pairB l m i j = _; unfold pairB; rw [if_neg (by omega), if_pos e3]
              have hFo := fun w => (callsIn_wide (n := n - 1 - 1 - 1 - 1 - 1)).2 (foldsBack_any (pt l i) (pt l (nxt m i)) (pt l j) (pt l (nxt m j)) (hfit i hi) (hfit _ (nxt_lt hp.pos)) (hfit j hj) (hfit _ (nxt_lt hp.pos)) w)
              generalize (meetB (pt l i) (pt l (nxt m i)) (pt l (nxt m j)) (pt l (nxt m j)) || meetB (pt l j) (pt l (nxt m j)) (pt l i) (pt l i)) = r0 at hFo hpf
              simp only [sV, pt] at hFo
              subst e3
              gi_wp2_with (first | (gi_at_call 55; refine (CallsIn.inRound l2 (CallsIn.inRound lp (hN2 _))).mono ?_; rintro e w' ⟨rfl, hw'⟩; obtain rfl := hw'.symm) | (gi_at_call 56; refine (CallsIn.inRound l2 (CallsIn.inRound lp (hFo _))).mono ?_; rintro e w3 ⟨rfl, hb3⟩; have bR4 : Boxed w3 (w.heap.size + 1) 4 (.bool false) := (hb3.block _ bR3.lt).trans bR3; have cR4 := bR4.cell; have fR4 := bR4.frozen; cases r0))
              · exact ON.out _ (below_next hb2 (Nat.le_refl _) hb3) hpf.out
              · have hr9 := RT.out _ (below_next hb2 (Nat.le_refl _) hb3) hpf.out
                exact ⟨hr9.1, ⟨⟨rfl, hr9.2.1.1.2⟩, hr9.2.1.2⟩, hr9.2.2⟩
            · have hne3 : ¬ (j : Int) = ((nxt m i : Nat) : Int) := by omega
              have hpf : Hid (pairB l m i j = meetB (pt l i) (pt l (nxt m i)) (pt l j) (pt l (nxt m j))) := by show pairB l m i j = _; unfold pairB; rw [if_neg (by omega), if_neg e3]
              have hMe := fun w => (callsIn_wide (n := n - 1 - 1 - 1 - 1 - 1)).2 (meet_any (pt l i) (pt l (nxt m i)) (pt l j) (pt l (nxt m j)) (hfit i hi) (hfit _ (nxt_lt hp.pos)) (hfit j hj) (hfit _ (nxt_lt hp.pos)) w)
              generalize meetB (pt l i) (pt l (nxt m i)) (pt l j) (pt l (nxt m j)) = r0 at hMe hpf
              simp only [sV, pt] at hMe
              gi_wp2_with (first | (gi_at_call 55; refine (CallsIn.inRound l2 (CallsIn.inRound lp (hN2 _))).mono ?_; rintro e w' ⟨rfl, hw'⟩; obtain rfl := hw'.symm) | (gi_at_call 42; refine (CallsIn.inRound l2 (CallsIn.inRound lp (hMe _))).mono ?_; rintro e w3 ⟨rfl, hb3⟩; have bR4 : Boxed w3 (w.heap.size + 1) 4 (.bool false) := (hb3.block _ bR3.lt).trans bR3; have cR4 := bR4.cell; have fR4 := bR4.frozen; cases r0))
              · exact ON.out _ (below_next hb2 (Nat.le_refl _) hb3) hpf.out
              · have hr9 := RT.out _ (below_next hb2 (Nat.le_refl _) hb3) hpf.out
                exact ⟨hr9.1, ⟨⟨rfl, hr9.2.1.1.2⟩, hr9.2.1.2⟩, hr9.2.2⟩
          refine memo 1 #[true, true, true, true, true, false] { tmps := #[slc g o m cap, ptr w.heap.size, ptr (w.heap.size + 1), ptr Bi, ptr Bx, Value.int IntKind.i64 ↑j, ptr By, slc g o m cap, fnv (w.heap.size + 1 + 1), Value.int IntKind.i64 ↑(i), sideV l m (i), slc g o m cap, fnv W.heap.size, Value.int IntKind.i64 ↑j, sideV l m j, Value.bool false, Value.int IntKind.i64 ↑j, Value.int IntKind.i64 ↑(i), Value.bool false, Value.int IntKind.i64 ↑(i), slc g o m cap, Value.int IntKind.i64 ↑j, Value.int IntKind.i64 ↑(nxt m j), Value.bool false, undef, undef, undef, undef, undef, undef, undef, undef, undef, undef, undef, undef, undef], defers := [] } W2 ?_ (fun q1 => ?_)
          · refine wpAnyIn_ready (rs := [5]) (by kernel_rfl) (by simp) ?_
            refine AllReadyIn.cons rfl (fun K hK => ?_) ?_
            · go_simp
              refine hK _ _ ?_
              clear hK K
              exact q0
            exact AllReadyIn.nil
          refine memo 2 #[true, true, true, true, false, false] { tmps := #[slc g o m cap, ptr w.heap.size, ptr (w.heap.size + 1), ptr Bi, ptr Bx, Value.int IntKind.i64 ↑j, ptr By, slc g o m cap, fnv (w.heap.size + 1 + 1), Value.int IntKind.i64 ↑(i), sideV l m (i), slc g o m cap, fnv W.heap.size, Value.int IntKind.i64 ↑j, sideV l m j, Value.bool false, Value.int IntKind.i64 ↑j, Value.int IntKind.i64 ↑(i), Value.bool false, Value.int IntKind.i64 ↑(i), slc g o m cap, Value.int IntKind.i64 ↑j, Value.int IntKind.i64 ↑(nxt m j), undef, undef, undef, undef, undef, undef, undef, undef, undef, undef, undef, undef, undef, undef], defers := [] } W2 ?_ (fun q2 => ?_)
          · refine wpAnyIn_ready (rs := [4]) (by kernel_rfl) (by simp) ?_
            refine AllReadyIn.cons rfl (fun K hK => ?_) ?_
            · go_simp
              refine hK _ _ ?_
              clear hK K
              exact q1
            exact AllReadyIn.nil
          refine memo 3 #[false, true, true, true, false, false] { tmps := #[slc g o m cap, ptr w.heap.size, ptr (w.heap.size + 1), ptr Bi, ptr Bx, Value.int IntKind.i64 ↑j, ptr By, slc g o m cap, fnv (w.heap.size + 1 + 1), Value.int IntKind.i64 ↑(i), sideV l m (i), slc g o m cap, fnv W.heap.size, Value.int IntKind.i64 ↑j, sideV l m j, Value.bool false, Value.int IntKind.i64 ↑j, Value.int IntKind.i64 ↑(i), Value.bool false, undef, slc g o m cap, Value.int IntKind.i64 ↑j, Value.int IntKind.i64 ↑(nxt m j), undef, undef, undef, undef, undef, undef, undef, undef, undef, undef, undef, undef, undef, undef], defers := [] } W2 ?_ (fun q3 => ?_)
          · refine wpAnyIn_ready (rs := [0]) (by kernel_rfl) (by simp) ?_
            refine AllReadyIn.cons rfl (fun K hK => ?_) ?_
            · go_simp
              refine hK _ _ ?_
              clear hK K
              exact q2
            exact AllReadyIn.nil
          refine memo 3 #[true, true, true, false, false, false] { tmps := #[slc g o m cap, ptr w.heap.size, ptr (w.heap.size + 1), ptr Bi, ptr Bx, Value.int IntKind.i64 ↑j, ptr By, slc g o m cap, fnv (w.heap.size + 1 + 1), Value.int IntKind.i64 ↑(i), sideV l m (i), slc g o m cap, fnv W.heap.size, Value.int IntKind.i64 ↑j, sideV l m j, Value.bool false, Value.int IntKind.i64 ↑j, Value.int IntKind.i64 ↑(i), Value.bool false, Value.int IntKind.i64 ↑(i), slc g o m cap, Value.int IntKind.i64 ↑j, undef, undef, undef, undef, undef, undef, undef, undef, undef, undef, undef, undef, undef, undef, undef], defers := [] } W2 ?_ (fun q4 => ?_)
          · refine wpAnyIn_ready (rs := [3]) (by kernel_rfl) (by simp) ?_
            refine AllReadyIn.cons rfl (fun K hK => ?_) ?_
            · go_simp
              gi_wp2_with (gi_at_call 55; refine (CallsIn.inRound l2 (CallsIn.inRound lp (hN _))).mono ?_; rintro e w' ⟨rfl, rfl⟩)
              first | (refine hK _ _ ?_; clear hK K) | skip
              exact q2
            exact AllReadyIn.nil
          refine memo 4 #[false, true, true, false, false, false] { tmps := #[slc g o m cap, ptr w.heap.size, ptr (w.heap.size + 1), ptr Bi, ptr Bx, Value.int IntKind.i64 ↑j, ptr By, slc g o m cap, fnv (w.heap.size + 1 + 1), Value.int IntKind.i64 ↑(i), sideV l m (i), slc g o m cap, fnv W.heap.size, Value.int IntKind.i64 ↑j, sideV l m j, Value.bool false, Value.int IntKind.i64 ↑j, Value.int IntKind.i64 ↑(i), Value.bool false, undef, slc g o m cap, Value.int IntKind.i64 ↑j, undef, undef, undef, undef, undef, undef, undef, undef, undef, undef, undef, undef, undef, undef, undef], defers := [] } W2 ?_ (fun q5 => ?_)
          · refine wpAnyIn_ready (rs := [0, 3]) (by kernel_rfl) (by simp) ?_
            refine AllReadyIn.cons rfl (fun K hK => ?_) ?_
            · go_simp
              refine hK _ _ ?_
              clear hK K
              exact q4
            refine AllReadyIn.cons rfl (fun K hK => ?_) ?_
            · go_simp
              gi_wp2_with (gi_at_call 55; refine (CallsIn.inRound l2 (CallsIn.inRound lp (hN _))).mono ?_; rintro e w' ⟨rfl, rfl⟩)
              first | (refine hK _ _ ?_; clear hK K) | skip
              exact q3
            exact AllReadyIn.nil
          refine memo 4 #[true, false, true, false, false, false] { tmps := #[slc g o m cap, ptr w.heap.size, ptr (w.heap.size + 1), ptr Bi, ptr Bx, Value.int IntKind.i64 ↑j, ptr By, slc g o m cap, fnv (w.heap.size + 1 + 1), Value.int IntKind.i64 ↑(i), sideV l m (i), slc g o m cap, fnv W.heap.size, Value.int IntKind.i64 ↑j, sideV l m j, Value.bool false, Value.int IntKind.i64 ↑j, Value.int IntKind.i64 ↑(i), Value.bool false, Value.int IntKind.i64 ↑(i), undef, Value.int IntKind.i64 ↑j, undef, undef, undef, undef, undef, undef, undef, undef, undef, undef, undef, undef, undef, undef, undef], defers := [] } W2 ?_ (fun q6 => ?_)
          · refine wpAnyIn_ready (rs := [1]) (by kernel_rfl) (by simp) ?_
            refine AllReadyIn.cons rfl (fun K hK => ?_) ?_
            · go_simp
              refine hK _ _ ?_
              clear hK K
              exact q4
            exact AllReadyIn.nil
          refine memo 4 #[true, true, false, false, false, false] { tmps := #[slc g o m cap, ptr w.heap.size, ptr (w.heap.size + 1), ptr Bi, ptr Bx, Value.int IntKind.i64 ↑j, ptr By, slc g o m cap, fnv (w.heap.size + 1 + 1), Value.int IntKind.i64 ↑(i), sideV l m (i), slc g o m cap, fnv W.heap.size, Value.int IntKind.i64 ↑j, sideV l m j, Value.bool false, Value.int IntKind.i64 ↑j, Value.int IntKind.i64 ↑(i), Value.bool false, Value.int IntKind.i64 ↑(i), slc g o m cap, undef, undef, undef, undef, undef, undef, undef, undef, undef, undef, undef, undef, undef, undef, undef, undef], defers := [] } W2 ?_ (fun q7 => ?_)
          · refine wpAnyIn_ready (rs := [2]) (by kernel_rfl) (by simp) ?_
            refine AllReadyIn.cons rfl (fun K hK => ?_) ?_
            · go_simp
              refine hK _ _ ?_
              clear hK K
              exact q4
            exact AllReadyIn.nil
          refine memo 5 #[false, false, true, false, false, false] { tmps := #[slc g o m cap, ptr w.heap.size, ptr (w.heap.size + 1), ptr Bi, ptr Bx, Value.int IntKind.i64 ↑j, ptr By, slc g o m cap, fnv (w.heap.size + 1 + 1), Value.int IntKind.i64 ↑(i), sideV l m (i), slc g o m cap, fnv W.heap.size, Value.int IntKind.i64 ↑j, sideV l m j, Value.bool false, Value.int IntKind.i64 ↑j, Value.int IntKind.i64 ↑(i), Value.bool false, undef, undef, Value.int IntKind.i64 ↑j, undef, undef, undef, undef, undef, undef, undef, undef, undef, undef, undef, undef, undef, undef, undef], defers := [] } W2 ?_ (fun q8 => ?_)
          · refine wpAnyIn_ready (rs := [0, 1]) (by kernel_rfl) (by simp) ?_
            refine AllReadyIn.cons rfl (fun K hK => ?_) ?_
            · go_simp
              refine hK _ _ ?_
              clear hK K
              exact q6
            refine AllReadyIn.cons rfl (fun K hK => ?_) ?_
            · go_simp
              refine hK _ _ ?_
              clear hK K
              exact q5
            exact AllReadyIn.nil
          refine memo 5 #[false, true, false, false, false, false] { tmps := #[slc g o m cap, ptr w.heap.size, ptr (w.heap.size + 1), ptr Bi, ptr Bx, Value.int IntKind.i64 ↑j, ptr By, slc g o m cap, fnv (w.heap.size + 1 + 1), Value.int IntKind.i64 ↑(i), sideV l m (i), slc g o m cap, fnv W.heap.size, Value.int IntKind.i64 ↑j, sideV l m j, Value.bool false, Value.int IntKind.i64 ↑j, Value.int IntKind.i64 ↑(i), Value.bool false, undef, slc g o m cap, undef, undef, undef, undef, undef, undef, undef, undef, undef, undef, undef, undef, undef, undef, undef, undef], defers := [] } W2 ?_ (fun q9 => ?_)
          · refine wpAnyIn_ready (rs := [0, 2]) (by kernel_rfl) (by simp) ?_
            refine AllReadyIn.cons rfl (fun K hK => ?_) ?_
            · go_simp
              refine hK _ _ ?_
              clear hK K
              exact q7
            refine AllReadyIn.cons rfl (fun K hK => ?_) ?_
            · go_simp
              refine hK _ _ ?_
              clear hK K
              exact q5
            exact AllReadyIn.nil
          refine memo 5 #[true, false, false, false, false, false] { tmps := #[slc g o m cap, ptr w.heap.size, ptr (w.heap.size + 1), ptr Bi, ptr Bx, Value.int IntKind.i64 ↑j, ptr By, slc g o m cap, fnv (w.heap.size + 1 + 1), Value.int IntKind.i64 ↑(i), sideV l m (i), slc g o m cap, fnv W.heap.size, Value.int IntKind.i64 ↑j, sideV l m j, Value.bool false, Value.int IntKind.i64 ↑j, Value.int IntKind.i64 ↑(i), Value.bool false, Value.int IntKind.i64 ↑(i), undef, undef, undef, undef, undef, undef, undef, undef, undef, undef, undef, undef, undef, undef, undef, undef, undef], defers := [] } W2 ?_ (fun q10 => ?_)
          · refine wpAnyIn_ready (rs := [1, 2]) (by kernel_rfl) (by simp) ?_
            refine AllReadyIn.cons rfl (fun K hK => ?_) ?_
            · go_simp
              refine hK _ _ ?_
              clear hK K
              exact q7
            refine AllReadyIn.cons rfl (fun K hK => ?_) ?_
            · go_simp
              refine hK _ _ ?_
              clear hK K
              exact q6
            exact AllReadyIn.nil
          refine wpAnyIn_ready (rs := [0, 1, 2]) (by kernel_rfl) (by simp) ?_
          refine AllReadyIn.cons rfl (fun K hK => ?_) ?_
          · go_simp
            refine hK _ _ ?_
            clear hK K
            exact q10
          refine AllReadyIn.cons rfl (fun K hK => ?_) ?_
          · go_simp
            refine hK _ _ ?_
            clear hK K
            exact q9
          refine AllReadyIn.cons rfl (fun K hK => ?_) ?_
          · go_simp
            refine hK _ _ ?_
            clear hK K
            exact q8
          exact AllReadyIn.nil
    case done2 =>
      rintro ys' W' rfl ⟨⟨⟨⟨⟨⟨⟨hq, bR2⟩, bI2⟩, bX2⟩, bP2⟩, bA2⟩, bN2⟩, hBW, hKF⟩
      have hrow : rowB l m x.1 = false := by
        cases e : rowB l m x.1 with
        | false => rfl
        | true => obtain ⟨y, hy, h⟩ := List.any_eq_true.1 e; rw [hq y hy] at h; cases h
      clear hsz
      gi_wp2
      exact ⟨hKF, ⟨bA2.trans bA1.symm, hBW.block g hg⟩, ⟨⟨⟨fun z hz => (List.mem_append.1 hz).elim (hpr z) (fun e => by simp at e; subst e; exact hrow), bR2⟩, bP2⟩, bA2⟩, hB1.trans hBW⟩
    case stop2 =>
      rintro c pre' W' hpre ⟨⟨⟨rfl, hrow⟩, bR2⟩, hBW, hKF⟩
      clear hsz
      gi_wp2
      exact ⟨hKF, ⟨⟨rfl, List.any_eq_true.2 ⟨x, List.mem_finRange x, hrow⟩⟩, bR2⟩, hB1.trans hBW⟩
  case done =>
    rintro D zs W hD rfl ⟨⟨⟨⟨hpr, bR1⟩, bP1⟩, bA1⟩, hB1⟩ hK
    have cR := bR1.cell
    have fR := bR1.frozen
    gi_wp2
    have hK' := (KeepsOthers.setCell W ⟨w.heap.size + 1, 0, none⟩ (.bool false)).same D _ hK rfl
    refine ⟨by simp, .inl ⟨_, _, rfl, run_takeDeferred hK', ?_⟩⟩
    have hc5 := cell_kept (bR1.set (.bool false)).cell (grownBy_putObj' _ D (.deferred none)) (fun r e => by cases e; exact ⟨_, hK', rfl⟩)
    have ht : tangB l m = false := by
      cases e : tangB l m with
      | false => rfl
      | true => obtain ⟨x, hx, h⟩ := List.any_eq_true.1 e; rw [hpr x hx] at h; cases h
    refine ⟨.bool false, ?_, by rw [ht], (hB1.setCell (p := ⟨w.heap.size + 1, 0, none⟩) (by simp) _).trans (belowK_b (w := w) (Nat.le_refl _) _ D _ _ (by omega) hK' rfl rfl)⟩
    simp [results, Try.f44, go_sem, hc5]
  case stop =>
    rintro D c pre W hD hpre ⟨⟨⟨rfl, ht⟩, bR1⟩, hB1⟩ hK
    gi_wp2
    refine ⟨by simp, .inl ⟨_, _, rfl, run_takeDeferred hK, ?_⟩⟩
    have hc5 := cell_kept bR1.cell (grownBy_putObj' _ D (.deferred none)) (fun r e => by cases e; exact ⟨_, hK, rfl⟩)
    refine ⟨.bool true, ?_, by rw [ht], hB1.trans (belowK_b (w := w) (Nat.le_refl _) _ D _ _ (by omega) hK rfl rfl)⟩
    simp [results, Try.f44, go_sem, hc5]
end Go.Proofs.Ytohepelnbmojiaa
