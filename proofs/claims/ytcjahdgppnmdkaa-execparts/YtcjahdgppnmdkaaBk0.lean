/- Blocks of cells, what is kept of memory, regions that draw their order and lay memory, an append beside other rows: for every layer. -/
import Derived.Test.YtcjahdgppnmdkaaIn0
import Derived.BigQuiet
import Derived.ArgAppend
import Derived.Lib.SmallJoins
set_option maxRecDepth 100000
namespace Go.Proofs.Ytcjahdgppnmdkaa
open Go.RowKit Go.Great

theorem b3 (w : World) (x y z : Obj) : Below w.heap.size w (((w.alloc x).alloc y).alloc z) := (((Below.refl _ _).alloc (Nat.le_refl _) _).alloc (by simp) _).alloc (by simp; omega) _
theorem b2 (w : World) (x y : Obj) : Below w.heap.size w ((w.alloc x).alloc y) := ((Below.refl _ _).alloc (Nat.le_refl _) _).alloc (by simp) _
/-- a world that has grown out of w -/
structure BelowW (w : World) where
  q : World
  h : Below w.heap.size w q
theorem BelowW.cell {w : World} (x : BelowW w) {b i : Nat} {v : Value} (h : w.cell? ⟨b, i, none⟩ = some v) (hb : b < w.heap.size) : x.q.cell? ⟨b, i, none⟩ = some v := (x.h.cell (p := ⟨b, i, none⟩) hb).trans h
theorem wp_region_calm {id : Nat} {Q : Exit → Act → World → Prop} {a : Act} {w : World} {l : List Oper} {P : Program} (hm : P.follows .mixedOrders = true) (hB : Region.lexB .any l.toArray = true)
    (h : wpQuiet P l.toArray (fun w' => ∃ x : BelowW w, w' = x.q) (fun a' => ∀ w', (∃ x : BelowW w, w' = x.q) → Q .normal a' w') l a) : (Code.region id l.toArray true).wp P Q a w :=
  wp_region_quiet (C := fun w' => ∃ x : BelowW w, w' = x.q) hm hB ⟨⟨w.drew, (Below.refl _ _).drew⟩, rfl⟩ (by simpa using h)
theorem calm_of {P : Program} {f : FuncId} {args : Array Value} {w : World} {x : BelowW w} {v : Value} (h : Calls P f args x.q fun e w' => e = .returned v ∧ Below x.q.heap.size x.q w') : Calls P f args x.q fun e w'' => e = .returned v ∧ ∃ y : BelowW w, w'' = y.q :=
  h.mono fun _ w1 ⟨he, hb⟩ => ⟨he, ⟨w1, below_next x.h (Nat.le_refl _) hb⟩, rfl⟩
theorem calm_same {P : Program} {f : FuncId} {args : Array Value} {w : World} {x : BelowW w} {v : Value} (h : Calls P f args x.q fun e w' => e = .returned v ∧ w' = x.q) : Calls P f args x.q fun e w'' => e = .returned v ∧ ∃ y : BelowW w, w'' = y.q :=
  h.mono fun _ _ ⟨he, hb⟩ => ⟨he, x, hb⟩
/-- a block of these cells -/
def Blk (W : World) (B : Nat) (cs : Array Value) (t : TypeId) : Prop := W.heap[B]? = some (.cells cs t (0, 0))
theorem Blk.lt {W : World} {B : Nat} {cs : Array Value} {t : TypeId} (h : Blk W B cs t) : B < W.heap.size := (Array.getElem?_eq_some_iff.1 h).1
theorem Blk.cell {W : World} {B : Nat} {cs : Array Value} {t : TypeId} (h : Blk W B cs t) (i : Nat) {v : Value} (hv : cs[i]? = some v) : W.cell? ⟨B, i, none⟩ = some v := by simp [World.cell?, show W.heap[B]? = _ from h, hv]
theorem Blk.new (W : World) (cs : Array Value) (t : TypeId) : Blk (W.alloc (.cells cs t)) W.heap.size cs t := heap_alloc_new W _
theorem Blk.below {W W' : World} {n B : Nat} {cs : Array Value} {t : TypeId} (h : Blk W B cs t) (hb : Below n W W') (hn : B < n) : Blk W' B cs t := (hb.block B hn).trans h
theorem Blk.alloc {W : World} {B : Nat} {cs : Array Value} {t : TypeId} (h : Blk W B cs t) (o : Obj) : Blk (W.alloc o) B cs t := h.below (below_alloc W o) h.lt
theorem Blk.at {W : World} {B : Nat} {cs : Array Value} {t : TypeId} (h : Blk W B cs t) (i : Nat) {v : Value} (hv : cs[i]? = some v) (x : BelowW W) : x.q.cell? ⟨B, i, none⟩ = some v := x.cell (h.cell i hv) h.lt
theorem two_boxes (w : World) (A B : Array Value) (t u : TypeId) : ∃ W0, (w.alloc (.cells A t)).alloc (.cells B u) = W0 ∧ Below w.heap.size w W0 ∧ Blk W0 w.heap.size A t ∧ Blk W0 (w.heap.size + 1) B u ∧ W0.heap.size = w.heap.size + 2 :=
  ⟨_, rfl, b2 _ _ _, (Blk.new w A t).alloc _, by have := Blk.new (w.alloc (.cells A t)) B u; rwa [size_alloc] at this, by simp⟩
theorem three_boxes (w : World) (A B C : Array Value) (t u v : TypeId) : ∃ W0, ((w.alloc (.cells A t)).alloc (.cells B u)).alloc (.cells C v) = W0 ∧ Below w.heap.size w W0 ∧ Blk W0 w.heap.size A t ∧ Blk W0 (w.heap.size + 1) B u ∧ Blk W0 (w.heap.size + 1 + 1) C v ∧ W0.heap.size = w.heap.size + 3 := by
  obtain ⟨W1, h, b, B1, B2, hz⟩ := two_boxes w A B t u
  refine ⟨_, rfl, ?_, ?_, ?_, ?_, ?_⟩
  · rw [h]; exact below_next b (Nat.le_refl _) (below_alloc _ _)
  · rw [h]; exact B1.alloc _
  · rw [h]; exact B2.alloc _
  · have := Blk.new W1 C v; rw [hz] at this; rw [h]; exact this
  · rw [h, size_alloc, hz]
theorem Blk.after {W W1 : World} {B : Nat} {cs : Array Value} {t : TypeId} (h : Blk W B cs t) (hb : Below W.heap.size W W1) : Blk W1 B cs t := h.below hb h.lt
theorem Blk.frozen {W : World} {B : Nat} {cs : Array Value} {t : TypeId} (h : Blk W B cs t) (i : Nat) : W.frozen? ⟨B, i, none⟩ = false := by
  unfold Blk at h; simp [World.frozen?, h]
theorem heap_set {w : World} {g : Nat} {cs : Array Value} {t : TypeId} {fr : Nat × Nat} (h : w.heap[g]? = some (.cells cs t fr)) (i : Nat) (u : Value) : (w.setCell ⟨g, i, none⟩ u).heap[g]? = some (.cells (cs.setIfInBounds i u) t fr) := Joins.block_setCell h u
theorem Blk.set2 {W : World} {B : Nat} {x y : Value} {t : TypeId} (h : Blk W B #[x, y] t) (u v : Value) : Blk ((W.setCell ⟨B, 0, none⟩ u).setCell ⟨B, 1, none⟩ v) B #[u, v] t := heap_set (heap_set h 0 u) 1 v
theorem Blk.set {W : World} {B : Nat} {cs : Array Value} {t : TypeId} (h : Blk W B cs t) (i : Nat) (u : Value) : Blk (W.setCell ⟨B, i, none⟩ u) B (cs.setIfInBounds i u) t := heap_set h i u
theorem Blk.setOther {W : World} {B C : Nat} {cs : Array Value} {t : TypeId} (h : Blk W B cs t) (hne : B ≠ C) (i : Nat) (u : Value) : Blk (W.setCell ⟨C, i, none⟩ u) B cs t := (Below.heap_setCell _ _ _ _ (fun e => hne e)).trans h
/-- 'append' onto a row of the call's own: in its place, or in a new one, and then the old one is as it was -/
theorem wpList_append_two {P : Program} {w : World} {ops : Array Oper} {rest : List Oper} {o : Oper} {a : Act} {Q : Exit → Act → World → Prop} (hgd : o.guard = none) (s x : Operand) (t : TypeId)
    (ho : o.op = .call { callee := .builtin .append, args := #[s, x], argTypes := #[t, t] })
    (base : Nat) (e : TypeId) (i : TypeInfo) (z : Value) (size bytes : Nat) (ht : P.underlying t = some (.slice e)) (hi : P.info? e = some i) (hz : i.zero = some z)
    (hsize : i.size = size) (hby : i.bytes = bytes) (hzs : z.cells.size = size) (hsz : 0 < size)
    (v : Value) (n : Nat) (xs : List Value) (hs : a.eval s = v) (hown : w.ownsRow base e size v n xs)
    (ad : Addr) (m c : Nat) (news : List Value) (hx : a.eval x = .slice (some ad) m c) (hl : news.length = m * size) (hnews : ∀ j u, news[j]? = some u → w.cell? (ad.add j) = some u) (h1 : ∀ u ∈ news, u.oneCell' = true)
    (h63 : n + m ≤ maxLen) (hbytes : (n + m) * bytes ≤ 140737488355328) (hbase : base ≤ w.heap.size)
    (h : ∀ v' w', w'.ownsRow base e size v' (n + m) (xs ++ news) → w.grownBy w' v.ownBlock → ((v'.ownBlock = v.ownBlock ∧ v.ownBlock ≠ none) ∨ (w.grownBy w' none ∧ ∀ k, v'.ownBlock = some k → w.heap.size ≤ k)) → wpList P ops Q rest (a.put o.dst v') w') : wpList P ops Q (o :: rest) a w := by
  have hown0 := hown
  rcases hown.2 with ⟨rfl, rfl⟩ | ⟨g, cap, cur, rfl, hb, hh, hnc, _⟩
  · refine wpList_append_own w hgd s x t ho w.heap.size e i z size bytes ht hi hz hsize hby hzs hsz (.slice none 0 0) 0 xs hs ⟨hown.1, .inl ⟨rfl, rfl⟩⟩ ad m c news hx hl hnews h1 h63 hbytes (Nat.le_refl _) fun v' w' o' g' _ => ?_
    refine h v' w' ?_ g' (.inr ⟨g', fun k hk => (o'.lt k hk).1⟩)
    refine ⟨o'.1, ?_⟩
    rcases o'.2 with q | ⟨g2, cap2, cur2, q1, q2, q3⟩
    · exact .inl q
    · exact .inr ⟨g2, cap2, cur2, q1, Nat.le_trans hbase q2, q3⟩
  · by_cases hr : n + m ≤ cap
    · exact wpList_append_fits w hgd s x t ho base e i size ht hi hsize g n cap xs hs hown0 ad m c news hx hl hnews h1 hr fun w' o' g' => h _ w' o' g' (.inl ⟨rfl, by simp [Value.ownBlock]⟩)
    · refine wpList_plain hgd fun K hK' => ?_
      obtain ⟨v', w', hrun, r1, r2⟩ := run_append_arg_grows (P := P) w t o.type e i z size bytes ht hi hz hsize hby hzs hsz ⟨g, 0, none⟩ n cap xs hown0.1 (hown0.cells (g := g) rfl) ad m c news hl hnews (by omega) h63 hbytes
      unfold Oper.wp
      simp [execOp, ho, resolve, invoke, builtin, hs, hx, hrun, Result.andThen]
      refine hK' _ _ (h v' w' ?_ ⟨r2.os, r2.tape, r2.output, r2.size, fun k hk _ => r2.block k hk (by simp)⟩ (.inr ⟨r2, fun k hk => (r1.lt k hk).1⟩))
      refine ⟨r1.1, ?_⟩
      rcases r1.2 with q | ⟨g2, cap2, cur2, q1, q2, q3⟩
      · exact .inl q
      · exact .inr ⟨g2, cap2, cur2, q1, Nat.le_trans hbase q2, q3⟩
theorem grown_set (w : World) (g k : Nat) (x : Value) : w.grownBy (w.setCell ⟨g, k, none⟩ x) (some g) := by
  refine ⟨rfl, rfl, rfl, by simp [World.setCell], fun j hj hne => Below.heap_setCell _ _ _ _ ?_⟩
  intro e; exact hne (by rw [e])
theorem blk_apart {w : World} {base : Nat} {e t : TypeId} {size : Nat} {v : Value} {n : Nat} {xs : List Value} {g : Nat} {cs : Array Value} (hR : w.ownsRow base e size v n xs) (hG : Blk w g cs t) (hne : e ≠ t) : v.ownBlock ≠ some g := by
  intro h
  rcases hR.2 with ⟨rfl, _⟩ | ⟨g', cap, cur, rfl, _, hh, _⟩
  · cases h
  · simp [Value.ownBlock] at h
    subst h
    unfold Blk at hG
    rw [hh] at hG
    simp at hG
    exact hne hG.2
theorem Blk.grown {w w' : World} {g : Nat} {cs : Array Value} {t : TypeId} {row : Option Nat} (h : Blk w g cs t) (hg : w.grownBy w' row) (hr : row ≠ some g) : Blk w' g cs t := by
  unfold Blk at h ⊢
  rw [hg.block g (lt_of_block h) (fun e => hr e.symm), h]
theorem blk_grown {w w' : World} {base : Nat} {e t : TypeId} {size : Nat} {v : Value} {n : Nat} {xs : List Value} {g : Nat} {cs : Array Value} (hR : w.ownsRow base e size v n xs) (hG : Blk w g cs t) (hne : e ≠ t) (hg : w.grownBy w' v.ownBlock) : Blk w' g cs t :=
  hG.grown hg (blk_apart hR hG hne)
theorem grown_then {w w1 w2 : World} {B : Nat} {row : Option Nat} (h1 : w.grownBy w1 (some B)) (h2 : w1.grownBy w2 row) (hr : ∀ k, row = some k → k = B ∨ w.heap.size ≤ k) : w.grownBy w2 (some B) :=
  ⟨h2.os.trans h1.os, h2.tape.trans h1.tape, h2.output.trans h1.output, Nat.le_trans h1.size h2.size, fun k hk hne => (h2.block k (Nat.lt_of_lt_of_le hk h1.size) (fun e => by
    rcases hr k e.symm with e2 | e2
    · exact hne (by rw [e2])
    · omega)).trans (h1.block k hk hne)⟩
theorem grown_alloc (w : World) (o : Obj) (row : Option Nat) : w.grownBy (w.alloc o) row := grown_below (below_alloc w o) row
theorem setCell_size (w : World) (g k : Nat) (x : Value) : (w.setCell ⟨g, k, none⟩ x).heap.size = w.heap.size := by
  have h1 := (grown_set w g k x).size
  refine Nat.le_antisymm ?_ h1
  unfold World.setCell
  split <;> simp
theorem below_set {n : Nat} {w w1 : World} (h : Below n w w1) (g k : Nat) (x : Value) (hg : n ≤ g) (hn : n ≤ w1.heap.size) : Below n w (w1.setCell ⟨g, k, none⟩ x) := h.grown (grown_set w1 g k x) hn (fun j e => by injection e with e; omega)
end Go.Proofs.Ytcjahdgppnmdkaa
