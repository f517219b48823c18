/- A polygon's sides, one by one: what the iterator hands on. -/
import Derived.Test.YtohepelnbmojiaaGeD
import Derived.RangeFuncNested
import Derived.RangeFuncBound
import Derived.RangeFuncCalls
import Derived.RangeFuncLeaves
import Derived.Shelf.Abstract
import Derived.Shelf.RegionOpen
import Derived.WalkKit
import Derived.OwnWalkIn
import Derived.TacticsInMore
import Derived.LoopNIn
import Derived.LoopIn
namespace Go.Proofs.Ytohepelnbmojiaa
open Go.RowKit Go.Shelf

attribute [local go_sem] Oper.semAt_some

/-- the corner at a place, the place behind -/
def ptx (l : List Pt) (k : Nat) : Int := (l.getD k (0, 0)).1
def pty (l : List Pt) (k : Nat) : Int := (l.getD k (0, 0)).2
def nxt (m k : Nat) : Nat := (k + 1) % m
theorem nxt_lt {m k : Nat} (h : 0 < m) : nxt m k < m := Nat.mod_lt _ h
/-- a side, as it is handed on -/
def sideV (l : List Pt) (m k : Nat) : Value := .agg #[.int .i64 (ptx l k), .int .i64 (pty l k), .int .i64 (ptx l (nxt m k)), .int .i64 (pty l (nxt m k))]
theorem next_any (a : Option Addr) (m cap k : Nat) (hk : k < m) (hm : m ≤ 4611686018427387904) (w : World) : Calls Try.prog 55 #[.slice a m cap, .int .i64 (k : Int)] w fun e w' => e = .returned (.int .i64 (nxt m k : Int)) ∧ w' = w := by
  have h0 : (m : Int) ≠ 0 := by omega
  go_enter Try.func55, Try.ntmps55
  go_wp2_with fail
  go_ret
  refine ⟨ret_int ?_, rfl⟩
  unfold nxt
  rfl
theorem next_in (F : Fence) (n : Nat) (hF : ∀ k, F.fn k) (hro : F.round = none) (a : Option Addr) (m cap k : Nat) (hk : k < m) (hm : m ≤ 4611686018427387904) (w : World) : CallsIn F n Try.prog 55 #[.slice a m cap, .int .i64 (k : Int)] w fun e w' => e = .returned (.int .i64 (nxt m k : Int)) ∧ w' = w := by
  have h0 : (m : Int) ≠ 0 := by omega
  refine callsIn_of_wp Try.func55 rfl (hF _) ?_ hro
  simp only [Try.ntmps55, List.size_toArray, List.length_cons, List.length_nil, Nat.reduceAdd, Nat.reduceSub, Array.replicate_succ, Array.replicate_zero, List.push_toArray, List.append_toArray, List.nil_append, List.cons_append]
  gi_wp2
  go_ret
  refine ⟨ret_int ?_, rfl⟩
  unfold nxt
  rfl
/-- a state of a region that draws its order, proved once -/
theorem memo {F : Fence} {n : Nat} {P : Program} {md : Region.Mode} {ops : Array Oper} {Q : Exit → Act → World → Prop} {f : Nat} {l : Array Bool} {a : Act} {w : World} (f' : Nat) (l' : Array Bool) (a' : Act) (w' : World) (h : wpAnyIn F n P md ops Q f' l' a' w') (g : wpAnyIn F n P md ops Q f' l' a' w' → wpAnyIn F n P md ops Q f l a w) : wpAnyIn F n P md ops Q f l a w := g h
/-- what the iterator reads is kept -/
def Keep2 (B g : Nat) (W W' : World) : Prop := W'.heap[B]? = W.heap[B]? ∧ W'.heap[g]? = W.heap[g]?
theorem keep2_t {B g : Nat} {X Y Z : World} (h : Keep2 B g X Y) (k : Keep2 B g Y Z) : Keep2 B g X Z := ⟨k.1.trans h.1, k.2.trans h.2⟩
theorem keep2_below {B g n : Nat} {W W' : World} (h : Below n W W') (hB : B < n) (hg : g < n) : Keep2 B g W W' := ⟨h.block B hB, h.block g hg⟩
theorem keep2_b {B g : Nat} {w : World} (hB : B < w.heap.size) (hg : g < w.heap.size) (W : World) (l : Nat) (o o' : Obj) (hl : w.heap.size ≤ l) (h : W.heap[l]? = some o) (h1 : o.isCells = false) (h2 : o.isWalk = false) : Keep2 B g W (W.putObj l o') :=
  keep2_below (belowK_b (Nat.le_refl _) W l o o' hl h h1 h2) hB hg
theorem keep2_lt {B : Nat} {W W' : World} (h : W'.heap[B]? = W.heap[B]?) (hB : B < W.heap.size) : B < W'.heap.size := by
  rw [Array.getElem?_eq_getElem hB] at h
  exact (Array.getElem?_eq_some_iff.1 h).1
theorem keep2_cell {B g : Nat} {W W' : World} (h : Keep2 B g W W') (i : Nat) : W'.cell? ⟨g, i, none⟩ = W.cell? ⟨g, i, none⟩ := by simp [World.cell?, h.2]
theorem keep2_cellB {B g : Nat} {W W' : World} (h : Keep2 B g W W') (i : Nat) : W'.cell? ⟨B, i, none⟩ = W.cell? ⟨B, i, none⟩ := by simp [World.cell?, h.1]
/-- the places that have come when k rounds are over -/
def upto (m k : Nat) : List (Fin m) := (List.finRange m).take k
theorem upto_succ {m k : Nat} (h : k < m) : upto m (k + 1) = upto m k ++ [⟨k, h⟩] := by
  unfold upto
  rw [List.take_add_one]
  simp [h]
theorem upto_len {m k : Nat} (h : k ≤ m) : (upto m k).length = k := by simp [upto]; omega
theorem upto_all (m : Nat) : upto m m = List.finRange m := by unfold upto; rw [List.take_of_length_le (by simp)]
set_option maxRecDepth 100000 in
set_option maxHeartbeats 40000000 in
theorem sides1_in (F : Fence) (n : Nat) (hF : ∀ k, F.fn k) (hro : F.round = none) (hn : 1 ≤ n) (lp Bs g o cap m : Nat) (l : List Pt) (hm0 : 0 < m) (hm : m ≤ 4611686018427387904) (J Jx : List (Fin m) → World → Prop) (W : World) (hA : AbidesFrom W.heap.size J)
    (hY : ∀ pre (x : Fin m) W1, J pre W1 → pre.length < m → YieldAt F (n - 1) Try.prog lp #[.int .i64 (x.1 : Int), sideV l m x.1] W1 fun e W' =>
      (e = .returned (.bool true) ∧ J (pre ++ [x]) W' ∧ Keep2 Bs g W1 W') ∨ (e = .returned (.bool false) ∧ Jx (pre ++ [x]) W'))
    (hBs : W.cell? ⟨Bs, 0, none⟩ = some (.slice (some ⟨g, o, none⟩) m cap)) (hBl : Bs < W.heap.size) (hgl : g < W.heap.size)
    (hc : ∀ j, j < m → W.cell? ⟨g, o + j * 2, none⟩ = some (.int .i64 (ptx l j)) ∧ W.cell? ⟨g, o + j * 2 + 1, none⟩ = some (.int .i64 (pty l j))) (h0 : J [] W) :
    CallsIn F n Try.prog 57 #[.func (.yield lp) #[] #[], .pointer (some ⟨Bs, 0, none⟩)] W fun e W' => (∃ v, e = .returned v) ∧
      ((∃ ys, ys = List.finRange m ∧ J ys W') ∨ (∃ pre, (∃ k, k ≤ m ∧ pre = upto m k) ∧ Jx pre W')) := by
  refine callsIn_of_wp Try.func57 rfl (hF _) ?_ hro
  simp only [Try.ntmps57, List.size_toArray, List.length_cons, List.length_nil, Nat.reduceAdd, Nat.reduceSub, Array.replicate_succ, Array.replicate_zero, List.push_toArray, List.append_toArray, List.nil_append, List.cons_append]
  gi_wp2
  gi_loopw [7] (fun i wr => ∃ k : Nat, k ≤ m ∧ i = .int .i64 k ∧ J (upto m k) wr ∧ Keep2 Bs g W wr)
    (fun i _ => m - (intOf i).toNat)
  case atStart => exact ⟨0, Nat.zero_le _, rfl, h0, ⟨rfl, rfl⟩⟩
  case round =>
    obtain ⟨k, hk, rfl, hJs, hkp⟩ := hrel
    by_cases hlt : k < m
    · have cB := (keep2_cellB hkp 0).trans hBs
      have c0 := (keep2_cell hkp _).trans (hc k hlt).1
      have c1 := (keep2_cell hkp _).trans (hc k hlt).2
      have d0 := (keep2_cell hkp _).trans (hc (nxt m k) (nxt_lt hm0)).1
      have d1 := (keep2_cell hkp _).trans (hc (nxt m k) (nxt_lt hm0)).2
      have hnl : ((nxt m k : Nat) : Int) < m := by have := nxt_lt (k := k) hm0; omega
      have hBl' : Bs < wr.heap.size := keep2_lt hkp.1 hBl
      have hgl' : g < wr.heap.size := keep2_lt hkp.2 hgl
      have hmx : Try.prog.follows .mixedOrders = true := by kernel_rfl
      have hN := fun w => next_in F (n - 1) hF hro (some ⟨g, o, none⟩) m cap k hlt hm w
      obtain ⟨W1, hW1⟩ : ∃ W1, (wr.alloc (.cells #[.int .i64 (ptx l k), .int .i64 (pty l k)] 23)).drew = W1 := ⟨_, rfl⟩
      have hB1 : Below wr.heap.size wr W1 := hW1 ▸ (below_alloc _ _).drew
      obtain ⟨fn, tmps, assign, body, hy, hR⟩ := hY (upto m k) ⟨k, hlt⟩ W1 (hA _ _ _ none hJs (grown_below hB1 none) (by simp)) (by rw [upto_len hk]; exact hlt)
      dsimp only [sideV] at hy
      have hR2 := hR.mono (R' := fun e W' => ∃ b : Bool, e = .returned (.bool b) ∧ Hid ((b = true ∧ J (upto m (k + 1)) W' ∧ Keep2 Bs g W W') ∨ (b = false ∧ Jx (upto m (k + 1)) W'))) (by
        rintro e W' (⟨rfl, hJ3, hk3⟩ | ⟨rfl, hJx3⟩)
        · refine ⟨true, rfl, hide (.inl ⟨rfl, ?_, keep2_t (keep2_t hkp (keep2_below hB1 hBl' hgl')) hk3⟩)⟩
          rw [upto_succ hlt]; exact hJ3
        · refine ⟨false, rfl, hide (.inr ⟨rfl, ?_⟩)⟩
          rw [upto_succ hlt]; exact hJx3)
      clear hR
      have w0 : W1.cell? ⟨wr.heap.size, 0, none⟩ = some (.int .i64 (ptx l k)) := hW1 ▸ (Blk.new wr #[.int .i64 (ptx l k), .int .i64 (pty l k)] 23).cell 0 rfl
      have w1 : W1.cell? ⟨wr.heap.size, 1, none⟩ = some (.int .i64 (pty l k)) := hW1 ▸ (Blk.new wr #[.int .i64 (ptx l k), .int .i64 (pty l k)] 23).cell 1 rfl
      have eB := (hB1.cell (p := ⟨Bs, 0, none⟩) hBl').trans cB
      have e0 := (hB1.cell (p := ⟨g, o + nxt m k * 2, none⟩) hgl').trans d0
      have e1 := (hB1.cell (p := ⟨g, o + nxt m k * 2 + 1, none⟩) hgl').trans d1
      clear hY hc hA h0 hJs hkp hBs hB1 d0 d1
      generalize ptx l k = x0 at *
      generalize pty l k = y0 at *
      generalize ptx l (nxt m k) = x1 at *
      generalize pty l (nxt m k) = y1 at *
      generalize nxt m k = kn at *
      gi_wp2
      refine wpIn_region_any hmx ?_
      change wpAnyIn _ _ _ _ _ _ _ _ _ (World.drew _)
      rw [hW1]
      clear hW1
      refine memo 2 #[true, true, true, true, true, true, true, true, true, true, false, false] { tmps := #[Value.func (Fn.yield lp) #[] #[], Value.pointer (some ⟨Bs, 0, none⟩), undef, Value.int IntKind.i64 ↑k, Value.pointer (some ⟨wr.heap.size, 0, none⟩), Value.slice (some ⟨g, o, none⟩) m cap, Value.int IntKind.i64 ↑m, Value.int IntKind.i64 ↑k, Value.bool true, Value.int IntKind.i64 ↑k, Value.pointer (some ⟨g, o + k * 2, none⟩), Value.agg #[Value.int IntKind.i64 x0, Value.int IntKind.i64 y0], Value.func (Fn.yield lp) #[] #[], Value.int IntKind.i64 ↑k, Value.agg #[Value.int IntKind.i64 x0, Value.int IntKind.i64 y0], Value.slice (some ⟨g, o, none⟩) m cap, Value.slice (some ⟨g, o, none⟩) m cap, Value.int IntKind.i64 ↑k, Value.int IntKind.i64 ↑kn, Value.pointer (some ⟨g, o + kn * 2, none⟩), Value.agg #[Value.int IntKind.i64 x1, Value.int IntKind.i64 y1], Value.agg #[Value.int IntKind.i64 x0, Value.int IntKind.i64 y0, Value.int IntKind.i64 x1, Value.int IntKind.i64 y1], u22, u23, u24], defers := [] } W1 ?_ (fun q0 => ?_)
      · refine wpAnyIn_ready (rs := [10]) (by kernel_rfl) (by simp) ?_
        refine AllReadyIn.cons rfl (fun K hK => ?_) AllReadyIn.nil
        go_simp
        gi_wp2_with (refine hR2.mono ?_; rintro e w' ⟨b, rfl, hh⟩)
        first | (refine hK _ _ ?_; clear hK K) | skip
        refine wpAnyIn_ready (rs := [11]) (by kernel_rfl) (by simp) ?_
        refine AllReadyIn.cons rfl (fun K hK => ?_) AllReadyIn.nil
        go_simp
        refine hK _ _ ?_
        clear hK K
        refine wpAnyIn_done (by kernel_rfl) ?_ _
        rcases hh.out with ⟨rfl, hJ3, hk3⟩ | ⟨rfl, hJx3⟩
        · clear hh
          gi_wp2
          go_roundw
          case rel => exact ⟨k + 1, by omega, by simp, hJ3, hk3⟩
          case measure => simp [intOf]; omega
        · clear hh
          gi_wp2
          refine bodyPost_ret (results_none rfl _ _ _) rfl ?_
          exact ⟨⟨_, rfl⟩, .inr ⟨_, ⟨k + 1, by omega, rfl⟩, hJx3⟩⟩
      refine memo 4 #[true, true, false, true, true, true, true, true, true, false, false, false] { tmps := #[Value.func (Fn.yield lp) #[] #[], Value.pointer (some ⟨Bs, 0, none⟩), undef, Value.int IntKind.i64 ↑k, Value.pointer (some ⟨wr.heap.size, 0, none⟩), Value.slice (some ⟨g, o, none⟩) m cap, Value.int IntKind.i64 ↑m, Value.int IntKind.i64 ↑k, Value.bool true, Value.int IntKind.i64 ↑k, Value.pointer (some ⟨g, o + k * 2, none⟩), Value.agg #[Value.int IntKind.i64 x0, Value.int IntKind.i64 y0], Value.func (Fn.yield lp) #[] #[], Value.int IntKind.i64 ↑k, u14, Value.slice (some ⟨g, o, none⟩) m cap, Value.slice (some ⟨g, o, none⟩) m cap, Value.int IntKind.i64 ↑k, Value.int IntKind.i64 ↑kn, Value.pointer (some ⟨g, o + kn * 2, none⟩), Value.agg #[Value.int IntKind.i64 x1, Value.int IntKind.i64 y1], u21, u22, u23, u24], defers := [] } W1 ?_ (fun q1 => ?_)
      · refine wpAnyIn_ready (rs := [2]) (by kernel_rfl) (by simp) ?_
        refine AllReadyIn.cons rfl (fun K hK => ?_) ?_
        · go_simp
          refine hK _ _ ?_
          clear hK K
          refine wpAnyIn_take (i := 9) (v := Value.agg #[Value.int IntKind.i64 x0, Value.int IntKind.i64 y0, Value.int IntKind.i64 x1, Value.int IntKind.i64 y1]) hro rfl (by kernel_rfl) (by kernel_rfl) (by kernel_rfl) (fun _ _ _ h => h) ⟨Or.inl ⟨by rfl, fun w => by go_simp⟩, fun _ => rfl⟩ ?_
          simp only [Act.put, List.setIfInBounds_toArray, List.set_cons_zero, List.set_cons_succ]
          exact q0
        exact AllReadyIn.nil
      refine memo 4 #[true, true, true, true, true, true, true, true, false, false, false, false] { tmps := #[Value.func (Fn.yield lp) #[] #[], Value.pointer (some ⟨Bs, 0, none⟩), undef, Value.int IntKind.i64 ↑k, Value.pointer (some ⟨wr.heap.size, 0, none⟩), Value.slice (some ⟨g, o, none⟩) m cap, Value.int IntKind.i64 ↑m, Value.int IntKind.i64 ↑k, Value.bool true, Value.int IntKind.i64 ↑k, Value.pointer (some ⟨g, o + k * 2, none⟩), Value.agg #[Value.int IntKind.i64 x0, Value.int IntKind.i64 y0], Value.func (Fn.yield lp) #[] #[], Value.int IntKind.i64 ↑k, Value.agg #[Value.int IntKind.i64 x0, Value.int IntKind.i64 y0], Value.slice (some ⟨g, o, none⟩) m cap, Value.slice (some ⟨g, o, none⟩) m cap, Value.int IntKind.i64 ↑k, Value.int IntKind.i64 ↑kn, Value.pointer (some ⟨g, o + kn * 2, none⟩), u20, u21, u22, u23, u24], defers := [] } W1 ?_ (fun q2 => ?_)
      · refine wpAnyIn_ready (rs := [8]) (by kernel_rfl) (by simp) ?_
        refine AllReadyIn.cons rfl (fun K hK => ?_) ?_
        · go_simp
          refine hK _ _ ?_
          clear hK K
          refine wpAnyIn_take (i := 9) (v := Value.agg #[Value.int IntKind.i64 x0, Value.int IntKind.i64 y0, Value.int IntKind.i64 x1, Value.int IntKind.i64 y1]) hro rfl (by kernel_rfl) (by kernel_rfl) (by kernel_rfl) (fun _ _ _ h => h) ⟨Or.inl ⟨by rfl, fun w => by go_simp⟩, fun _ => rfl⟩ ?_
          simp only [Act.put, List.setIfInBounds_toArray, List.set_cons_zero, List.set_cons_succ]
          exact q0
        exact AllReadyIn.nil
      refine memo 5 #[true, true, false, true, true, true, true, true, false, false, false, false] { tmps := #[Value.func (Fn.yield lp) #[] #[], Value.pointer (some ⟨Bs, 0, none⟩), undef, Value.int IntKind.i64 ↑k, Value.pointer (some ⟨wr.heap.size, 0, none⟩), Value.slice (some ⟨g, o, none⟩) m cap, Value.int IntKind.i64 ↑m, Value.int IntKind.i64 ↑k, Value.bool true, Value.int IntKind.i64 ↑k, Value.pointer (some ⟨g, o + k * 2, none⟩), Value.agg #[Value.int IntKind.i64 x0, Value.int IntKind.i64 y0], Value.func (Fn.yield lp) #[] #[], Value.int IntKind.i64 ↑k, u14, Value.slice (some ⟨g, o, none⟩) m cap, Value.slice (some ⟨g, o, none⟩) m cap, Value.int IntKind.i64 ↑k, Value.int IntKind.i64 ↑kn, Value.pointer (some ⟨g, o + kn * 2, none⟩), u20, u21, u22, u23, u24], defers := [] } W1 ?_ (fun q3 => ?_)
      · refine wpAnyIn_ready (rs := [2, 8]) (by kernel_rfl) (by simp) ?_
        refine AllReadyIn.cons rfl (fun K hK => ?_) ?_
        · go_simp
          refine hK _ _ ?_
          clear hK K
          exact q2
        refine AllReadyIn.cons rfl (fun K hK => ?_) ?_
        · go_simp
          refine hK _ _ ?_
          clear hK K
          exact q1
        exact AllReadyIn.nil
      refine memo 6 #[true, true, true, false, true, true, true, false, false, false, false, false] { tmps := #[Value.func (Fn.yield lp) #[] #[], Value.pointer (some ⟨Bs, 0, none⟩), undef, Value.int IntKind.i64 ↑k, Value.pointer (some ⟨wr.heap.size, 0, none⟩), Value.slice (some ⟨g, o, none⟩) m cap, Value.int IntKind.i64 ↑m, Value.int IntKind.i64 ↑k, Value.bool true, Value.int IntKind.i64 ↑k, Value.pointer (some ⟨g, o + k * 2, none⟩), Value.agg #[Value.int IntKind.i64 x0, Value.int IntKind.i64 y0], Value.func (Fn.yield lp) #[] #[], Value.int IntKind.i64 ↑k, Value.agg #[Value.int IntKind.i64 x0, Value.int IntKind.i64 y0], u15, Value.slice (some ⟨g, o, none⟩) m cap, Value.int IntKind.i64 ↑k, Value.int IntKind.i64 ↑kn, u19, u20, u21, u22, u23, u24], defers := [] } W1 ?_ (fun q4 => ?_)
      · refine wpAnyIn_ready (rs := [3]) (by kernel_rfl) (by simp) ?_
        refine AllReadyIn.cons rfl (fun K hK => ?_) ?_
        · go_simp
          refine hK _ _ ?_
          clear hK K
          refine wpAnyIn_take (i := 7) (v := Value.pointer (some ⟨g, o + kn * 2, none⟩)) hro rfl (by kernel_rfl) (by kernel_rfl) (by kernel_rfl) (fun _ _ _ h => h) ⟨Or.inl ⟨by rfl, fun w => by go_simp⟩, fun _ => rfl⟩ ?_
          simp only [Act.put, List.setIfInBounds_toArray, List.set_cons_zero, List.set_cons_succ]
          exact q2
        exact AllReadyIn.nil
      refine memo 6 #[true, true, true, true, true, true, false, false, false, false, false, false] { tmps := #[Value.func (Fn.yield lp) #[] #[], Value.pointer (some ⟨Bs, 0, none⟩), undef, Value.int IntKind.i64 ↑k, Value.pointer (some ⟨wr.heap.size, 0, none⟩), Value.slice (some ⟨g, o, none⟩) m cap, Value.int IntKind.i64 ↑m, Value.int IntKind.i64 ↑k, Value.bool true, Value.int IntKind.i64 ↑k, Value.pointer (some ⟨g, o + k * 2, none⟩), Value.agg #[Value.int IntKind.i64 x0, Value.int IntKind.i64 y0], Value.func (Fn.yield lp) #[] #[], Value.int IntKind.i64 ↑k, Value.agg #[Value.int IntKind.i64 x0, Value.int IntKind.i64 y0], Value.slice (some ⟨g, o, none⟩) m cap, Value.slice (some ⟨g, o, none⟩) m cap, Value.int IntKind.i64 ↑k, u18, u19, u20, u21, u22, u23, u24], defers := [] } W1 ?_ (fun q5 => ?_)
      · refine wpAnyIn_ready (rs := [6]) (by kernel_rfl) (by simp) ?_
        refine AllReadyIn.cons rfl (fun K hK => ?_) ?_
        · go_simp
          gi_wp2_with (gi_at_call 55; refine (hN _).mono ?_; rintro e w' ⟨rfl, rfl⟩)
          first | (refine hK _ _ ?_; clear hK K) | skip
          refine wpAnyIn_take (i := 7) (v := Value.pointer (some ⟨g, o + kn * 2, none⟩)) hro rfl (by kernel_rfl) (by kernel_rfl) (by kernel_rfl) (fun _ _ _ h => h) ⟨Or.inl ⟨by rfl, fun w => by go_simp⟩, fun _ => rfl⟩ ?_
          simp only [Act.put, List.setIfInBounds_toArray, List.set_cons_zero, List.set_cons_succ]
          exact q2
        exact AllReadyIn.nil
      refine memo 7 #[true, true, false, false, true, true, true, false, false, false, false, false] { tmps := #[Value.func (Fn.yield lp) #[] #[], Value.pointer (some ⟨Bs, 0, none⟩), undef, Value.int IntKind.i64 ↑k, Value.pointer (some ⟨wr.heap.size, 0, none⟩), Value.slice (some ⟨g, o, none⟩) m cap, Value.int IntKind.i64 ↑m, Value.int IntKind.i64 ↑k, Value.bool true, Value.int IntKind.i64 ↑k, Value.pointer (some ⟨g, o + k * 2, none⟩), Value.agg #[Value.int IntKind.i64 x0, Value.int IntKind.i64 y0], Value.func (Fn.yield lp) #[] #[], Value.int IntKind.i64 ↑k, u14, u15, Value.slice (some ⟨g, o, none⟩) m cap, Value.int IntKind.i64 ↑k, Value.int IntKind.i64 ↑kn, u19, u20, u21, u22, u23, u24], defers := [] } W1 ?_ (fun q6 => ?_)
      · refine wpAnyIn_ready (rs := [2, 3]) (by kernel_rfl) (by simp) ?_
        refine AllReadyIn.cons rfl (fun K hK => ?_) ?_
        · go_simp
          refine hK _ _ ?_
          clear hK K
          exact q4
        refine AllReadyIn.cons rfl (fun K hK => ?_) ?_
        · go_simp
          refine hK _ _ ?_
          clear hK K
          refine wpAnyIn_take (i := 7) (v := Value.pointer (some ⟨g, o + kn * 2, none⟩)) hro rfl (by kernel_rfl) (by kernel_rfl) (by kernel_rfl) (fun _ _ _ h => h) ⟨Or.inl ⟨by rfl, fun w => by go_simp⟩, fun _ => rfl⟩ ?_
          simp only [Act.put, List.setIfInBounds_toArray, List.set_cons_zero, List.set_cons_succ]
          exact q3
        exact AllReadyIn.nil
      refine memo 7 #[true, true, false, true, true, true, false, false, false, false, false, false] { tmps := #[Value.func (Fn.yield lp) #[] #[], Value.pointer (some ⟨Bs, 0, none⟩), undef, Value.int IntKind.i64 ↑k, Value.pointer (some ⟨wr.heap.size, 0, none⟩), Value.slice (some ⟨g, o, none⟩) m cap, Value.int IntKind.i64 ↑m, Value.int IntKind.i64 ↑k, Value.bool true, Value.int IntKind.i64 ↑k, Value.pointer (some ⟨g, o + k * 2, none⟩), Value.agg #[Value.int IntKind.i64 x0, Value.int IntKind.i64 y0], Value.func (Fn.yield lp) #[] #[], Value.int IntKind.i64 ↑k, u14, Value.slice (some ⟨g, o, none⟩) m cap, Value.slice (some ⟨g, o, none⟩) m cap, Value.int IntKind.i64 ↑k, u18, u19, u20, u21, u22, u23, u24], defers := [] } W1 ?_ (fun q7 => ?_)
      · refine wpAnyIn_ready (rs := [2, 6]) (by kernel_rfl) (by simp) ?_
        refine AllReadyIn.cons rfl (fun K hK => ?_) ?_
        · go_simp
          refine hK _ _ ?_
          clear hK K
          exact q5
        refine AllReadyIn.cons rfl (fun K hK => ?_) ?_
        · go_simp
          gi_wp2_with (gi_at_call 55; refine (hN _).mono ?_; rintro e w' ⟨rfl, rfl⟩)
          first | (refine hK _ _ ?_; clear hK K) | skip
          refine wpAnyIn_take (i := 7) (v := Value.pointer (some ⟨g, o + kn * 2, none⟩)) hro rfl (by kernel_rfl) (by kernel_rfl) (by kernel_rfl) (fun _ _ _ h => h) ⟨Or.inl ⟨by rfl, fun w => by go_simp⟩, fun _ => rfl⟩ ?_
          simp only [Act.put, List.setIfInBounds_toArray, List.set_cons_zero, List.set_cons_succ]
          exact q3
        exact AllReadyIn.nil
      refine memo 7 #[true, true, true, false, true, true, false, false, false, false, false, false] { tmps := #[Value.func (Fn.yield lp) #[] #[], Value.pointer (some ⟨Bs, 0, none⟩), undef, Value.int IntKind.i64 ↑k, Value.pointer (some ⟨wr.heap.size, 0, none⟩), Value.slice (some ⟨g, o, none⟩) m cap, Value.int IntKind.i64 ↑m, Value.int IntKind.i64 ↑k, Value.bool true, Value.int IntKind.i64 ↑k, Value.pointer (some ⟨g, o + k * 2, none⟩), Value.agg #[Value.int IntKind.i64 x0, Value.int IntKind.i64 y0], Value.func (Fn.yield lp) #[] #[], Value.int IntKind.i64 ↑k, Value.agg #[Value.int IntKind.i64 x0, Value.int IntKind.i64 y0], u15, Value.slice (some ⟨g, o, none⟩) m cap, Value.int IntKind.i64 ↑k, u18, u19, u20, u21, u22, u23, u24], defers := [] } W1 ?_ (fun q8 => ?_)
      · refine wpAnyIn_ready (rs := [3, 6]) (by kernel_rfl) (by simp) ?_
        refine AllReadyIn.cons rfl (fun K hK => ?_) ?_
        · go_simp
          refine hK _ _ ?_
          clear hK K
          exact q5
        refine AllReadyIn.cons rfl (fun K hK => ?_) ?_
        · go_simp
          gi_wp2_with (gi_at_call 55; refine (hN _).mono ?_; rintro e w' ⟨rfl, rfl⟩)
          first | (refine hK _ _ ?_; clear hK K) | skip
          exact q4
        exact AllReadyIn.nil
      refine memo 7 #[true, true, true, true, false, true, false, false, false, false, false, false] { tmps := #[Value.func (Fn.yield lp) #[] #[], Value.pointer (some ⟨Bs, 0, none⟩), undef, Value.int IntKind.i64 ↑k, Value.pointer (some ⟨wr.heap.size, 0, none⟩), Value.slice (some ⟨g, o, none⟩) m cap, Value.int IntKind.i64 ↑m, Value.int IntKind.i64 ↑k, Value.bool true, Value.int IntKind.i64 ↑k, Value.pointer (some ⟨g, o + k * 2, none⟩), Value.agg #[Value.int IntKind.i64 x0, Value.int IntKind.i64 y0], Value.func (Fn.yield lp) #[] #[], Value.int IntKind.i64 ↑k, Value.agg #[Value.int IntKind.i64 x0, Value.int IntKind.i64 y0], Value.slice (some ⟨g, o, none⟩) m cap, u16, Value.int IntKind.i64 ↑k, u18, u19, u20, u21, u22, u23, u24], defers := [] } W1 ?_ (fun q9 => ?_)
      · refine wpAnyIn_ready (rs := [4]) (by kernel_rfl) (by simp) ?_
        refine AllReadyIn.cons rfl (fun K hK => ?_) ?_
        · go_simp
          refine hK _ _ ?_
          clear hK K
          exact q5
        exact AllReadyIn.nil
      refine memo 8 #[true, true, false, false, true, true, false, false, false, false, false, false] { tmps := #[Value.func (Fn.yield lp) #[] #[], Value.pointer (some ⟨Bs, 0, none⟩), undef, Value.int IntKind.i64 ↑k, Value.pointer (some ⟨wr.heap.size, 0, none⟩), Value.slice (some ⟨g, o, none⟩) m cap, Value.int IntKind.i64 ↑m, Value.int IntKind.i64 ↑k, Value.bool true, Value.int IntKind.i64 ↑k, Value.pointer (some ⟨g, o + k * 2, none⟩), Value.agg #[Value.int IntKind.i64 x0, Value.int IntKind.i64 y0], Value.func (Fn.yield lp) #[] #[], Value.int IntKind.i64 ↑k, u14, u15, Value.slice (some ⟨g, o, none⟩) m cap, Value.int IntKind.i64 ↑k, u18, u19, u20, u21, u22, u23, u24], defers := [] } W1 ?_ (fun q10 => ?_)
      · refine wpAnyIn_ready (rs := [2, 3, 6]) (by kernel_rfl) (by simp) ?_
        refine AllReadyIn.cons rfl (fun K hK => ?_) ?_
        · go_simp
          refine hK _ _ ?_
          clear hK K
          exact q8
        refine AllReadyIn.cons rfl (fun K hK => ?_) ?_
        · go_simp
          refine hK _ _ ?_
          clear hK K
          exact q7
        refine AllReadyIn.cons rfl (fun K hK => ?_) ?_
        · go_simp
          gi_wp2_with (gi_at_call 55; refine (hN _).mono ?_; rintro e w' ⟨rfl, rfl⟩)
          first | (refine hK _ _ ?_; clear hK K) | skip
          exact q6
        exact AllReadyIn.nil
      refine memo 8 #[true, true, false, true, false, true, false, false, false, false, false, false] { tmps := #[Value.func (Fn.yield lp) #[] #[], Value.pointer (some ⟨Bs, 0, none⟩), undef, Value.int IntKind.i64 ↑k, Value.pointer (some ⟨wr.heap.size, 0, none⟩), Value.slice (some ⟨g, o, none⟩) m cap, Value.int IntKind.i64 ↑m, Value.int IntKind.i64 ↑k, Value.bool true, Value.int IntKind.i64 ↑k, Value.pointer (some ⟨g, o + k * 2, none⟩), Value.agg #[Value.int IntKind.i64 x0, Value.int IntKind.i64 y0], Value.func (Fn.yield lp) #[] #[], Value.int IntKind.i64 ↑k, u14, Value.slice (some ⟨g, o, none⟩) m cap, u16, Value.int IntKind.i64 ↑k, u18, u19, u20, u21, u22, u23, u24], defers := [] } W1 ?_ (fun q11 => ?_)
      · refine wpAnyIn_ready (rs := [2, 4]) (by kernel_rfl) (by simp) ?_
        refine AllReadyIn.cons rfl (fun K hK => ?_) ?_
        · go_simp
          refine hK _ _ ?_
          clear hK K
          exact q9
        refine AllReadyIn.cons rfl (fun K hK => ?_) ?_
        · go_simp
          refine hK _ _ ?_
          clear hK K
          exact q7
        exact AllReadyIn.nil
      refine memo 8 #[true, true, true, false, false, true, false, false, false, false, false, false] { tmps := #[Value.func (Fn.yield lp) #[] #[], Value.pointer (some ⟨Bs, 0, none⟩), undef, Value.int IntKind.i64 ↑k, Value.pointer (some ⟨wr.heap.size, 0, none⟩), Value.slice (some ⟨g, o, none⟩) m cap, Value.int IntKind.i64 ↑m, Value.int IntKind.i64 ↑k, Value.bool true, Value.int IntKind.i64 ↑k, Value.pointer (some ⟨g, o + k * 2, none⟩), Value.agg #[Value.int IntKind.i64 x0, Value.int IntKind.i64 y0], Value.func (Fn.yield lp) #[] #[], Value.int IntKind.i64 ↑k, Value.agg #[Value.int IntKind.i64 x0, Value.int IntKind.i64 y0], u15, u16, Value.int IntKind.i64 ↑k, u18, u19, u20, u21, u22, u23, u24], defers := [] } W1 ?_ (fun q12 => ?_)
      · refine wpAnyIn_ready (rs := [3, 4]) (by kernel_rfl) (by simp) ?_
        refine AllReadyIn.cons rfl (fun K hK => ?_) ?_
        · go_simp
          refine hK _ _ ?_
          clear hK K
          exact q9
        refine AllReadyIn.cons rfl (fun K hK => ?_) ?_
        · go_simp
          refine hK _ _ ?_
          clear hK K
          exact q8
        exact AllReadyIn.nil
      refine memo 9 #[true, true, false, false, false, true, false, false, false, false, false, false] { tmps := #[Value.func (Fn.yield lp) #[] #[], Value.pointer (some ⟨Bs, 0, none⟩), undef, Value.int IntKind.i64 ↑k, Value.pointer (some ⟨wr.heap.size, 0, none⟩), Value.slice (some ⟨g, o, none⟩) m cap, Value.int IntKind.i64 ↑m, Value.int IntKind.i64 ↑k, Value.bool true, Value.int IntKind.i64 ↑k, Value.pointer (some ⟨g, o + k * 2, none⟩), Value.agg #[Value.int IntKind.i64 x0, Value.int IntKind.i64 y0], Value.func (Fn.yield lp) #[] #[], Value.int IntKind.i64 ↑k, u14, u15, u16, Value.int IntKind.i64 ↑k, u18, u19, u20, u21, u22, u23, u24], defers := [] } W1 ?_ (fun q13 => ?_)
      · refine wpAnyIn_ready (rs := [2, 3, 4]) (by kernel_rfl) (by simp) ?_
        refine AllReadyIn.cons rfl (fun K hK => ?_) ?_
        · go_simp
          refine hK _ _ ?_
          clear hK K
          exact q12
        refine AllReadyIn.cons rfl (fun K hK => ?_) ?_
        · go_simp
          refine hK _ _ ?_
          clear hK K
          exact q11
        refine AllReadyIn.cons rfl (fun K hK => ?_) ?_
        · go_simp
          refine hK _ _ ?_
          clear hK K
          exact q10
        exact AllReadyIn.nil
      refine wpAnyIn_take (i := 0) (v := Value.func (Fn.yield lp) #[] #[]) hro rfl (by kernel_rfl) (by kernel_rfl) (by kernel_rfl) (fun _ _ _ h => h) ⟨Or.inl ⟨by rfl, fun w => by go_simp⟩, fun _ => rfl⟩ ?_
      refine wpAnyIn_take (i := 1) (v := Value.int IntKind.i64 ↑k) hro rfl (by kernel_rfl) (by kernel_rfl) (by kernel_rfl) (fun _ _ _ h => h) ⟨Or.inl ⟨by rfl, fun w => by go_simp⟩, fun _ => rfl⟩ ?_
      refine wpAnyIn_take (i := 5) (v := Value.int IntKind.i64 ↑k) hro rfl (by kernel_rfl) (by kernel_rfl) (by kernel_rfl) (fun _ _ _ h => h) ⟨Or.inl ⟨by rfl, fun w => by go_simp⟩, fun _ => rfl⟩ ?_
      exact q13
    · obtain rfl : k = m := by omega
      gi_wp2
      go_end0
      exact ⟨⟨_, rfl⟩, .inl ⟨_, upto_all _, hJs⟩⟩
set_option maxHeartbeats 1000000 in
/-- sides: the slice is boxed; the function value captures the box -/
theorem sides_in (F : Fence) (n : Nat) (hF : ∀ k, F.fn k) (hro : F.round = none) (a : Option Addr) (m cap : Nat) (w : World) :
    CallsIn F n Try.prog 45 #[.slice a m cap] w fun e w' => e = .returned (.func (.func 57) #[] #[.pointer (some ⟨w.heap.size, 0, none⟩)]) ∧ w' = w.alloc (.cells #[.slice a m cap] 35) := by
  refine callsIn_of_wp Try.func45 rfl (hF _) ?_ hro
  simp only [Try.ntmps45, List.size_toArray, List.length_cons, List.length_nil, Nat.reduceAdd, Nat.reduceSub, Array.replicate_succ, Array.replicate_zero, List.push_toArray, List.append_toArray, List.nil_append, List.cons_append]
  gi_wp2
  go_ret
  exact ⟨rfl, rfl⟩
/-- the polygon's cells, as the iterator reads them -/
structure Poly (W : World) (g o m cap : Nat) (l : List Pt) : Prop where
  pos : 0 < m
  most : m ≤ 4611686018427387904
  len : m = l.length
  lt : g < W.heap.size
  at' : ∀ j, j < m → W.cell? ⟨g, o + j * 2, none⟩ = some (.int .i64 (ptx l j)) ∧ W.cell? ⟨g, o + j * 2 + 1, none⟩ = some (.int .i64 (pty l j))
theorem Poly.kept {W W' : World} {g o m cap : Nat} {l : List Pt} (h : Poly W g o m cap l) (hk : W'.heap[g]? = W.heap[g]?) : Poly W' g o m cap l :=
  ⟨h.pos, h.most, h.len, keep2_lt hk h.lt, fun j hj => by
    have hh : ∀ i, W'.cell? ⟨g, i, none⟩ = W.cell? ⟨g, i, none⟩ := fun i => by simp [World.cell?, hk]
    rw [hh, hh]; exact h.at' j hj⟩
theorem Poly.below {W W' : World} {g o m cap : Nat} {l : List Pt} (h : Poly W g o m cap l) (hb : Below W.heap.size W W') : Poly W' g o m cap l := h.kept (hb.block g h.lt)
theorem sides_stops (F : Fence) (n : Nat) (hF : ∀ k, F.fn k) (hro : F.round = none) (hn : 1 ≤ n) (Bs g o cap m : Nat) (l : List Pt) (w : World) (hp : Poly w g o m cap l) (hBs : Bs < w.heap.size) (hc : w.cell? ⟨Bs, 0, none⟩ = some (.slice (some ⟨g, o, none⟩) m cap)) :
    SeqStopsK F n Try.prog 57 #[.pointer (some ⟨Bs, 0, none⟩)] (fun x : Fin m => #[.int .i64 (x.1 : Int), sideV l m x.1]) (Keep2 Bs g) (fun ys => ys = List.finRange m) (fun pre => ∃ k, k ≤ m ∧ pre = upto m k) m w := fun lp J Jx W hW hA _ hY h0 =>
  have hp' := hp.below hW
  sides1_in F n hF hro hn lp Bs g o cap m l hp.pos hp.most J Jx W hA hY ((hW.cell (p := ⟨Bs, 0, none⟩) hBs).trans hc) (Nat.lt_of_lt_of_le hBs hW.size) hp'.lt hp'.at' h0
end Go.Proofs.Ytohepelnbmojiaa
