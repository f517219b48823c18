/- What the small functions of package geo answer. -/
import Derived.Test.YtohepelnbmojiaaIn0
import Derived.BigQuiet
import Derived.RangeFuncBox
namespace Go.Proofs.Ytohepelnbmojiaa
open Go.RowKit Go.Great

abbrev Pt := Int × Int
/-- a point, a segment, a span as the model has them -/
def pV (p : Pt) : Value := .agg #[.int .i64 p.1, .int .i64 p.2]
def sV (a b : Pt) : Value := .agg #[.int .i64 a.1, .int .i64 a.2, .int .i64 b.1, .int .i64 b.2]
/-- a coordinate that may be -/
def Fit (p : Pt) : Prop := -536870912 ≤ p.1 ∧ p.1 ≤ 536870912 ∧ -536870912 ≤ p.2 ∧ p.2 ≤ 536870912
def cross (a b p : Pt) : Int := (b.1 - a.1) * (p.2 - a.2) - (b.2 - a.2) * (p.1 - a.1)
def sg (n : Int) : Int := if 0 < n then 1 else if n < 0 then -1 else 0
theorem mul_bound {x y c d : Int} (h1 : -c ≤ x) (h2 : x ≤ c) (h3 : -d ≤ y) (h4 : y ≤ d) : -(c * d) ≤ x * y ∧ x * y ≤ c * d := by
  have a1 := Int.mul_nonneg (Int.sub_nonneg_of_le h2) (Int.sub_nonneg_of_le h4)
  have a2 := Int.mul_nonneg (Int.sub_nonneg_of_le h1) (Int.sub_nonneg_of_le h3)
  have a3 := Int.mul_nonneg (Int.sub_nonneg_of_le h2) (Int.sub_nonneg_of_le h3)
  have a4 := Int.mul_nonneg (Int.sub_nonneg_of_le h1) (Int.sub_nonneg_of_le h4)
  constructor <;> grind
theorem dd_bound {x y u v : Int} (h1 : -536870912 ≤ x) (h2 : x ≤ 536870912) (h3 : -536870912 ≤ y) (h4 : y ≤ 536870912) (h5 : -536870912 ≤ u) (h6 : u ≤ 536870912) (h7 : -536870912 ≤ v) (h8 : v ≤ 536870912) : -1152921504606846976 ≤ (x - y) * (u - v) ∧ (x - y) * (u - v) ≤ 1152921504606846976 := by
  have := mul_bound (x := x - y) (y := u - v) (c := 1073741824) (d := 1073741824) (by omega) (by omega) (by omega) (by omega)
  omega
set_option maxHeartbeats 1000000 in
theorem turn_any (a b p : Pt) (ha : Fit a) (hb : Fit b) (hp : Fit p) (w : World) : Calls Try.prog 35 #[sV a b, pV p] w fun e w' => e = .returned (.int .i64 (sg (cross a b p))) ∧ Below w.heap.size w w' := by
  obtain ⟨ax, ay⟩ := a
  obtain ⟨bx, by'⟩ := b
  obtain ⟨px, py⟩ := p
  obtain ⟨a1, a2, a3, a4⟩ := ha
  obtain ⟨b1, b2, b3, b4⟩ := hb
  obtain ⟨p1, p2, p3, p4⟩ := hp
  simp only at a1 a2 a3 a4 b1 b2 b3 b4 p1 p2 p3 p4
  have m1 := dd_bound b1 b2 a1 a2 p3 p4 a3 a4
  have m2 := dd_bound b3 b4 a3 a4 p1 p2 a1 a2
  simp only [pV, sV, cross]
  go_enter Try.func35, Try.ntmps35
  go_wp2
  all_goals (go_ret; refine ⟨ret_int ?_, ?_⟩)
  all_goals first
    | (unfold sg; split <;> first | omega | (split <;> omega))
    | exact ((Below.refl _ _).alloc (Nat.le_refl _) _).alloc (by simp) _
/-- is a point in the rectangle of two spans? -/
def inB (x y : Pt) (p : Pt) : Bool := decide (x.1 ≤ p.1) && decide (p.1 ≤ x.2) && decide (y.1 ≤ p.2) && decide (p.2 ≤ y.2)
theorem b3 (w : World) (x y z : Obj) : Below w.heap.size w (((w.alloc x).alloc y).alloc z) := (((Below.refl _ _).alloc (Nat.le_refl _) _).alloc (by simp) _).alloc (by simp; omega) _
theorem b2 (w : World) (x y : Obj) : Below w.heap.size w ((w.alloc x).alloc y) := ((Below.refl _ _).alloc (Nat.le_refl _) _).alloc (by simp) _
set_option maxHeartbeats 1000000 in
theorem holds_any (x y p : Pt) (w : World) : Calls Try.prog 51 #[pV x, pV y, pV p] w fun e w' => e = .returned (.bool (inB x y p)) ∧ Below w.heap.size w w' := by
  obtain ⟨x1, x2⟩ := x
  obtain ⟨y1, y2⟩ := y
  obtain ⟨p1, p2⟩ := p
  simp only [pV, inB]
  go_enter Try.func51, Try.ntmps51
  go_wp2
  all_goals (go_ret; refine ⟨ret_bool ?_, b3 _ _ _ _⟩)
  all_goals (simp; try omega)
def ovl (a b c d : Int) : Bool := decide (min c d ≤ max a b) && decide (min a b ≤ max c d)
set_option maxHeartbeats 1000000 in
theorem overlap_any (a b c d : Int) (w : World) : Calls Try.prog 54 #[.int .i64 a, .int .i64 b, .int .i64 c, .int .i64 d] w fun e w' => e = .returned (.bool (ovl a b c d)) ∧ w' = w := by
  unfold ovl
  go_enter Try.func54, Try.ntmps54
  go_wp2
  all_goals (go_ret; refine ⟨ret_bool ?_, rfl⟩)
  all_goals (rw [Bool.eq_iff_iff]; simp only [Bool.and_eq_true, decide_eq_true_eq, Bool.false_eq_true, Int.min_def, Int.max_def]; repeat' split) <;> first | omega | (simp; omega)

/-! ### Regions that draw their order, read cells and call functions that lay memory: one walk serves every order -/
/-- a world that has grown out of w -/
structure BelowW (w : World) where
  q : World
  h : Below w.heap.size w q
theorem BelowW.cell {w : World} (x : BelowW w) {b i : Nat} {v : Value} (h : w.cell? ⟨b, i, none⟩ = some v) (hb : b < w.heap.size) : x.q.cell? ⟨b, i, none⟩ = some v := (x.h.cell (p := ⟨b, i, none⟩) hb).trans h
theorem wp_region_calm {id : Nat} {Q : Exit → Act → World → Prop} {a : Act} {w : World} {l : List Oper} {P : Program} (hm : P.follows .mixedOrders = true) (hB : Region.lexB .any l.toArray = true)
    (h : wpQuiet P l.toArray (fun w' => ∃ x : BelowW w, w' = x.q) (fun a' => ∀ w', (∃ x : BelowW w, w' = x.q) → Q .normal a' w') l a) : (Code.region id l.toArray true).wp P Q a w :=
  wp_region_quiet (C := fun w' => ∃ x : BelowW w, w' = x.q) hm hB ⟨⟨w.drew, (Below.refl _ _).drew⟩, rfl⟩ (by simpa using h)
theorem calm_of {P : Program} {f : FuncId} {args : Array Value} {w : World} {x : BelowW w} {v : Value} (h : Calls P f args x.q fun e w' => e = .returned v ∧ Below x.q.heap.size x.q w') : Calls P f args x.q fun e w'' => e = .returned v ∧ ∃ y : BelowW w, w'' = y.q :=
  h.mono fun _ w1 ⟨he, hb⟩ => ⟨he, ⟨w1, below_next x.h (Nat.le_refl _) hb⟩, rfl⟩
theorem calm_same {P : Program} {f : FuncId} {args : Array Value} {w : World} {x : BelowW w} {v : Value} (h : Calls P f args x.q fun e w' => e = .returned v ∧ w' = x.q) : Calls P f args x.q fun e w'' => e = .returned v ∧ ∃ y : BelowW w, w'' = y.q :=
  h.mono fun _ _ ⟨he, hb⟩ => ⟨he, x, hb⟩
def meetB (a b c d : Pt) : Bool := ((ovl a.1 b.1 c.1 d.1 && ovl a.2 b.2 c.2 d.2) && decide (sg (cross a b c) * sg (cross a b d) ≤ 0)) && decide (sg (cross c d a) * sg (cross c d b) ≤ 0)
theorem sg_bound (n : Int) : -1 ≤ sg n ∧ sg n ≤ 1 := by unfold sg; split <;> (try split) <;> omega
theorem sg2 (n m : Int) : -1 ≤ sg n * sg m ∧ sg n * sg m ≤ 1 := by
  have := mul_bound (sg_bound n).1 (sg_bound n).2 (sg_bound m).1 (sg_bound m).2
  omega
/-- a block of these cells -/
def Blk (W : World) (B : Nat) (cs : Array Value) (t : TypeId) : Prop := W.heap[B]? = some (.cells cs t (0, 0))
theorem Blk.lt {W : World} {B : Nat} {cs : Array Value} {t : TypeId} (h : Blk W B cs t) : B < W.heap.size := (Array.getElem?_eq_some_iff.1 h).1
theorem Blk.cell {W : World} {B : Nat} {cs : Array Value} {t : TypeId} (h : Blk W B cs t) (i : Nat) {v : Value} (hv : cs[i]? = some v) : W.cell? ⟨B, i, none⟩ = some v := by simp [World.cell?, show W.heap[B]? = _ from h, hv]
theorem Blk.new (W : World) (cs : Array Value) (t : TypeId) : Blk (W.alloc (.cells cs t)) W.heap.size cs t := World.alloc_heap_new W _
theorem Blk.below {W W' : World} {n B : Nat} {cs : Array Value} {t : TypeId} (h : Blk W B cs t) (hb : Below n W W') (hn : B < n) : Blk W' B cs t := (hb.block B hn).trans h
theorem Blk.alloc {W : World} {B : Nat} {cs : Array Value} {t : TypeId} (h : Blk W B cs t) (o : Obj) : Blk (W.alloc o) B cs t := h.below (below_alloc W o) h.lt
theorem Blk.at {W : World} {B : Nat} {cs : Array Value} {t : TypeId} (h : Blk W B cs t) (i : Nat) {v : Value} (hv : cs[i]? = some v) (x : BelowW W) : x.q.cell? ⟨B, i, none⟩ = some v := x.cell (h.cell i hv) h.lt
theorem two_boxes (w : World) (A B : Array Value) (t u : TypeId) : ∃ W0, (w.alloc (.cells A t)).alloc (.cells B u) = W0 ∧ Below w.heap.size w W0 ∧ Blk W0 w.heap.size A t ∧ Blk W0 (w.heap.size + 1) B u ∧ W0.heap.size = w.heap.size + 2 :=
  ⟨_, rfl, b2 _ _ _, (Blk.new w A t).alloc _, by have := Blk.new (w.alloc (.cells A t)) B u; rwa [size_alloc] at this, by simp⟩
theorem three_boxes (w : World) (A B C : Array Value) (t u v : TypeId) : ∃ W0, ((w.alloc (.cells A t)).alloc (.cells B u)).alloc (.cells C v) = W0 ∧ Below w.heap.size w W0 ∧ Blk W0 w.heap.size A t ∧ Blk W0 (w.heap.size + 1) B u ∧ Blk W0 (w.heap.size + 1 + 1) C v ∧ W0.heap.size = w.heap.size + 3 := by
  obtain ⟨W1, h, b, B1, B2, hz⟩ := two_boxes w A B t u
  refine ⟨_, rfl, ?_, ?_, ?_, ?_, ?_⟩
  · rw [h]; exact below_next b (Nat.le_refl _) (below_alloc _ _)
  · rw [h]; exact B1.alloc _
  · rw [h]; exact B2.alloc _
  · have := Blk.new W1 C v; rw [hz] at this; rw [h]; exact this
  · rw [h, size_alloc, hz]
end Go.Proofs.Ytohepelnbmojiaa
