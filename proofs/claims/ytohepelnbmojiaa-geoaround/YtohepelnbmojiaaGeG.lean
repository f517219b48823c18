/- Polygons whose neighbouring corners are the same. -/
import Derived.Test.YtohepelnbmojiaaGeE
import Derived.Laws.StructEq
namespace Go.Proofs.Ytohepelnbmojiaa
open Go.RowKit Go.Shelf

attribute [local go_sem] Oper.semAt_some

theorem blk_own {β : Type} (B : Nat) (t : TypeId) (f : β → Array Value) : Own (fun s W => Blk W B (f s) t) := fun s X Y row hs hg hrow =>
  (hg.block B hs.lt (fun e' => by obtain ⟨o, ho, hc⟩ := hrow B e'.symm; rw [show X.heap[B]? = _ from hs] at ho; cases ho; cases hc)).trans hs
theorem point_eql (a b a' b' : Int) (wx : World) : (binOp .eql 23 (.agg #[.int .i64 a, .int .i64 b]) (.agg #[.int .i64 a', .int .i64 b'])).run Try.prog wx = .ok (.bool (decide (a = a') && decide (b = b'))) wx := by
  by_cases h1 : a = a'
  · by_cases h2 : b = b' <;> simp [go_sem, h1, h2]
  · simp [go_sem, h1]
/-- two corners that follow one another are the same -/
def sameB (l : List Pt) (m k : Nat) : Bool := decide (ptx l k = ptx l (nxt m k)) && decide (pty l k = pty l (nxt m k))
def twinB (l : List Pt) (m : Nat) : Bool := (List.finRange m).any fun k => sameB l m k.1
set_option maxRecDepth 100000 in
set_option maxHeartbeats 4000000 in
theorem hasTwins_in (F : Fence) (n : Nat) (hF : ∀ k, F.fn k) (hro : F.round = none) (hn : 6 ≤ n) (g o m cap : Nat) (l : List Pt) (w : World) (hp : Poly w g o m cap l) :
    CallsIn F n Try.prog 43 #[.slice (some ⟨g, o, none⟩) m cap] w fun e W' => e = .returned (.bool (twinB l m)) ∧ Below w.heap.size w W' := by
  have h1 : 1 ≤ n := by omega
  refine callsIn_of_wp_marks Try.func43 rfl (hF _) ?_ hro
  simp only [Try.ntmps43, List.size_toArray, List.length_cons, List.length_nil, Nat.reduceAdd, Nat.reduceSub, Array.replicate_succ, Array.replicate_zero, List.push_toArray, List.append_toArray, List.nil_append, List.cons_append]
  gi_wp2_with (gi_at_call 45; refine (sides_in F (n - 1) hF hro _ _ _ _).mono ?_; rintro e w' ⟨rfl, rfl⟩)
  have bR := (Boxed.new w 4 (.bool false)).alloc (.cells #[.slice (some ⟨g, o, none⟩) m cap] 35)
  have bA := Boxed.new (w.alloc (.cells #[.bool false] 4)) 35 (.slice (some ⟨g, o, none⟩) m cap)
  rw [World.size_alloc] at bA
  have hB0 : Below w.heap.size w ((w.alloc (.cells #[.bool false] 4)).alloc (.cells #[.slice (some ⟨g, o, none⟩) m cap] 35)) := b2 _ _ _
  have hsz : ((w.alloc (.cells #[.bool false] 4)).alloc (.cells #[.slice (some ⟨g, o, none⟩) m cap] 35)).heap.size = w.heap.size + 2 := by simp
  obtain ⟨W0, hW0⟩ : ∃ W0, (w.alloc (.cells #[.bool false] 4)).alloc (.cells #[.slice (some ⟨g, o, none⟩) m cap] 35) = W0 := ⟨_, rfl⟩
  rw [hW0] at bR bA hB0 hsz ⊢
  clear hW0
  have hg := hp.lt
  refine wpIn_rangeFunc_ownH hro h1 (gf := 57) (lb := #[.pointer (some ⟨w.heap.size + 1, 0, none⟩)]) rfl (hF _) (enters_of Try.func57 (by kernel_rfl) rfl)
    (sides_stops F (n - 1) hF hro (by omega) (w.heap.size + 1) g o cap m l W0 (hp.below hB0) (by omega) bA.cell) keep2_t (keep2_b (by omega) (by omega)) (Below.refl _ _) (fun _ => rfl)
    (fun pre W => (((∀ x ∈ pre, sameB l m x.1 = false) ∧ Boxed W w.heap.size 4 (.bool false)) ∧ Boxed W (w.heap.size + 1) 35 (.slice (some ⟨g, o, none⟩) m cap)) ∧ Below w.heap.size w W)
    (fun c pre W => ((c = .ret ∧ twinB l m = true) ∧ Boxed W w.heap.size 4 (.bool true)) ∧ Below w.heap.size w W)
    (OwnFrom.and (OwnFrom.and (OwnFrom.and (ownFrom_pure _ _) (Own.from (boxed_own _ _ _) _)) (Own.from (boxed_own _ _ _) _)) (ownFrom_below (Nat.le_refl _) (by omega)))
    (fun c => OwnFrom.and (OwnFrom.and (ownFrom_pure _ _) (Own.from (boxed_own _ _ _) _)) (ownFrom_below (Nat.le_refl _) (by omega)))
    ⟨⟨⟨by simp, bR⟩, bA⟩, hB0⟩
    (fun x a' W => ∃ Bx, w.heap.size + 1 < Bx ∧ Blk W Bx #[.int .i64 (ptx l x.1), .int .i64 (pty l x.1), .int .i64 (ptx l (nxt m x.1)), .int .i64 (pty l (nxt m x.1))] 60 ∧ a' = { tmps := #[.slice (some ⟨g, o, none⟩) m cap, undef, .pointer (some ⟨w.heap.size, 0, none⟩), undef, .pointer (some ⟨Bx, 0, none⟩), .slice (some ⟨g, o, none⟩) m cap, .func (.func 57) #[] #[.pointer (some ⟨w.heap.size + 1, 0, none⟩)], .int .i64 (x.1 : Int), sideV l m x.1, undef, undef, undef, undef, undef], defers := [] })
    (fun x a' _ X Y row hs hg hr => by obtain ⟨Bx, e1, e2, e3⟩ := hs; exact ⟨Bx, e1, blk_own Bx 60 (fun (_ : Unit) => _) () X Y row e2 hg (fun r e => (hr r e).2), e3⟩)
    ?assign ?body ?done ?stop
  case assign =>
    rintro lp pre x W K ⟨⟨⟨hpr, bR1⟩, bA1⟩, hB1⟩ hK
    dsimp only [sideV] at hK ⊢
    gi_wp2
    exact hK _ _ ((KeepsOthers.alloc _ _).from _) (keep2_below (below_alloc W _) bA1.lt (by have := hB1.size; omega)) ⟨⟨⟨hpr, bR1.alloc _⟩, bA1.alloc _⟩, hB1.alloc hB1.size _⟩ ⟨W.heap.size, bA1.lt, Blk.new W _ _, rfl⟩
  case body =>
    rintro lp pre x a' W hl ⟨r, hr⟩ ⟨⟨⟨hpr, bR1⟩, bA1⟩, hB1⟩ ⟨Bx, hBx, bX, rfl⟩ hlt
    have heq := fun wx => point_eql (ptx l x.1) (pty l x.1) (ptx l (nxt m x.1)) (pty l (nxt m x.1)) wx
    have c0 := bX.cell 0 rfl
    have c1 := bX.cell 1 rfl
    have c2 := bX.cell 2 rfl
    have c3 := bX.cell 3 rfl
    have cR := bR1.cell
    have fR := bR1.frozen
    have hsm : Hid (sameB l m x.1 = (decide (ptx l x.1 = ptx l (nxt m x.1)) && decide (pty l x.1 = pty l (nxt m x.1)))) := rfl
    generalize (decide (ptx l x.1 = ptx l (nxt m x.1)) && decide (pty l x.1 = pty l (nxt m x.1))) = r0 at heq hsm
    cases r0
    · gi_wp2
      exact ⟨KeepsFrom.refl _ _, ⟨rfl, rfl⟩, ⟨⟨fun z hz => (List.mem_append.1 hz).elim (hpr z) (fun e => by simp at e; subst e; exact hsm.out), bR1⟩, bA1⟩, hB1⟩
    · gi_wp2
      exact ⟨(KeepsOthers.setCell _ _ _).from _, ⟨⟨rfl, List.any_eq_true.2 ⟨x, List.mem_finRange x, hsm.out⟩⟩, bR1.set _⟩, hB1.setCell (p := ⟨w.heap.size, 0, none⟩) (Nat.le_refl _) _⟩
  case done =>
    rintro D zs W hD rfl ⟨⟨⟨hpr, bR1⟩, bA1⟩, hB1⟩ hK
    have cR := bR1.cell
    have fR := bR1.frozen
    gi_wp2
    have hK' := (KeepsOthers.setCell W ⟨w.heap.size, 0, none⟩ (.bool false)).same D _ hK rfl
    refine ⟨by simp, .inl ⟨_, _, rfl, run_takeDeferred hK', ?_⟩⟩
    have hc5 := cell_kept (bR1.set (.bool false)).cell (grownBy_putObj' _ D (.deferred none)) (fun r e => by cases e; exact ⟨_, hK', rfl⟩)
    have ht : twinB l m = false := by
      cases e : twinB l m with
      | false => rfl
      | true => obtain ⟨x, hx, h⟩ := List.any_eq_true.1 e; rw [hpr x hx] at h; cases h
    refine ⟨.bool false, ?_, by rw [ht], (hB1.setCell (p := ⟨w.heap.size, 0, none⟩) (Nat.le_refl _) _).trans (belowK_b (w := w) (Nat.le_refl _) _ D _ _ (by omega) hK' rfl rfl)⟩
    simp [results, Try.f43, go_sem, hc5]
  case stop =>
    rintro D c pre W hD hpre ⟨⟨⟨rfl, ht⟩, bR1⟩, hB1⟩ hK
    gi_wp2
    refine ⟨by simp, .inl ⟨_, _, rfl, run_takeDeferred hK, ?_⟩⟩
    have hc5 := cell_kept bR1.cell (grownBy_putObj' _ D (.deferred none)) (fun r e => by cases e; exact ⟨_, hK, rfl⟩)
    refine ⟨.bool true, ?_, by rw [ht], hB1.trans (belowK_b (w := w) (Nat.le_refl _) _ D _ _ (by omega) hK rfl rfl)⟩
    simp [results, Try.f43, go_sem, hc5]
end Go.Proofs.Ytohepelnbmojiaa
