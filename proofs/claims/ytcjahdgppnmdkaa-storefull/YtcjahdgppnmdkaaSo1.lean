/- The block of a store; the small functions of package store. -/
import Derived.Test.YtcjahdgppnmdkaaSoM
set_option maxRecDepth 100000
namespace Go.Proofs.Ytcjahdgppnmdkaa
open Go.RowKit Go.Great

def soRow (p : Value) (ac tu en : Int) (k : Kp) : List Value := [p, .int .i64 ac, .int .i64 tu, .int .i64 en, .bool (k 0).th, .int .i64 (k 0).lo, .int .i64 (k 0).n, .bool (k 1).th, .int .i64 (k 1).lo, .int .i64 (k 1).n, .bool (k 2).th, .int .i64 (k 2).lo, .int .i64 (k 2).n]
/-- block S is a store on the flash p -/
structure So (w : World) (S : Nat) (p : Value) (ac tu en : Int) (k : Kp) : Prop where
  blk : w.heap[S]? = some (.cells (soRow p ac tu en k).toArray 108 (0, 0))
theorem So.frozen {w : World} {S : Nat} {p : Value} {ac tu en : Int} {k : Kp} (h : So w S p ac tu en k) (i : Nat) : w.frozen? ⟨S, i, none⟩ = false := by
  simp [World.frozen?, h.blk]
theorem So.lt {w : World} {S : Nat} {p : Value} {ac tu en : Int} {k : Kp} (h : So w S p ac tu en k) : S < w.heap.size := lt_of_block h.blk
theorem So.c0 {w : World} {S : Nat} {p : Value} {ac tu en : Int} {k : Kp} (h : So w S p ac tu en k) : w.cell? ⟨S, 0, none⟩ = some (p) := by rw [cell_of_list h.blk]; rfl
theorem So.c1 {w : World} {S : Nat} {p : Value} {ac tu en : Int} {k : Kp} (h : So w S p ac tu en k) : w.cell? ⟨S, 1, none⟩ = some (.int .i64 ac) := by rw [cell_of_list h.blk]; rfl
theorem So.c2 {w : World} {S : Nat} {p : Value} {ac tu en : Int} {k : Kp} (h : So w S p ac tu en k) : w.cell? ⟨S, 2, none⟩ = some (.int .i64 tu) := by rw [cell_of_list h.blk]; rfl
theorem So.c3 {w : World} {S : Nat} {p : Value} {ac tu en : Int} {k : Kp} (h : So w S p ac tu en k) : w.cell? ⟨S, 3, none⟩ = some (.int .i64 en) := by rw [cell_of_list h.blk]; rfl
theorem So.c4 {w : World} {S : Nat} {p : Value} {ac tu en : Int} {k : Kp} (h : So w S p ac tu en k) : w.cell? ⟨S, 4, none⟩ = some (.bool (k 0).th) := by rw [cell_of_list h.blk]; rfl
theorem So.c5 {w : World} {S : Nat} {p : Value} {ac tu en : Int} {k : Kp} (h : So w S p ac tu en k) : w.cell? ⟨S, 5, none⟩ = some (.int .i64 (k 0).lo) := by rw [cell_of_list h.blk]; rfl
theorem So.c6 {w : World} {S : Nat} {p : Value} {ac tu en : Int} {k : Kp} (h : So w S p ac tu en k) : w.cell? ⟨S, 6, none⟩ = some (.int .i64 (k 0).n) := by rw [cell_of_list h.blk]; rfl
theorem So.c7 {w : World} {S : Nat} {p : Value} {ac tu en : Int} {k : Kp} (h : So w S p ac tu en k) : w.cell? ⟨S, 7, none⟩ = some (.bool (k 1).th) := by rw [cell_of_list h.blk]; rfl
theorem So.c8 {w : World} {S : Nat} {p : Value} {ac tu en : Int} {k : Kp} (h : So w S p ac tu en k) : w.cell? ⟨S, 8, none⟩ = some (.int .i64 (k 1).lo) := by rw [cell_of_list h.blk]; rfl
theorem So.c9 {w : World} {S : Nat} {p : Value} {ac tu en : Int} {k : Kp} (h : So w S p ac tu en k) : w.cell? ⟨S, 9, none⟩ = some (.int .i64 (k 1).n) := by rw [cell_of_list h.blk]; rfl
theorem So.c10 {w : World} {S : Nat} {p : Value} {ac tu en : Int} {k : Kp} (h : So w S p ac tu en k) : w.cell? ⟨S, 10, none⟩ = some (.bool (k 2).th) := by rw [cell_of_list h.blk]; rfl
theorem So.c11 {w : World} {S : Nat} {p : Value} {ac tu en : Int} {k : Kp} (h : So w S p ac tu en k) : w.cell? ⟨S, 11, none⟩ = some (.int .i64 (k 2).lo) := by rw [cell_of_list h.blk]; rfl
theorem So.c12 {w : World} {S : Nat} {p : Value} {ac tu en : Int} {k : Kp} (h : So w S p ac tu en k) : w.cell? ⟨S, 12, none⟩ = some (.int .i64 (k 2).n) := by rw [cell_of_list h.blk]; rfl
theorem So.s0 {w : World} {S : Nat} {p : Value} {ac tu en : Int} {k : Kp} (h : So w S p ac tu en k) (x : Value) : So (w.setCell ⟨S, 0, none⟩ x) S x ac tu en k := ⟨by rw [set_list h.blk]; rfl⟩
theorem So.s1 {w : World} {S : Nat} {p : Value} {ac tu en : Int} {k : Kp} (h : So w S p ac tu en k) (x : Int) : So (w.setCell ⟨S, 1, none⟩ (.int .i64 x)) S p x tu en k := ⟨by rw [set_list h.blk]; rfl⟩
theorem So.s2 {w : World} {S : Nat} {p : Value} {ac tu en : Int} {k : Kp} (h : So w S p ac tu en k) (x : Int) : So (w.setCell ⟨S, 2, none⟩ (.int .i64 x)) S p ac x en k := ⟨by rw [set_list h.blk]; rfl⟩
theorem So.s3 {w : World} {S : Nat} {p : Value} {ac tu en : Int} {k : Kp} (h : So w S p ac tu en k) (x : Int) : So (w.setCell ⟨S, 3, none⟩ (.int .i64 x)) S p ac tu x k := ⟨by rw [set_list h.blk]; rfl⟩
theorem So.k0 {w : World} {S : Nat} {p : Value} {ac tu en : Int} {k : Kp} (h : So w S p ac tu en k) (t : Bool) (a n : Nat) : So (((w.setCell ⟨S, 4, none⟩ (.bool t)).setCell ⟨S, 5, none⟩ (.int .i64 a)).setCell ⟨S, 6, none⟩ (.int .i64 n)) S p ac tu en (upd k 0 ⟨t, a, n⟩) := ⟨by rw [set_list (set_list (set_list h.blk _) _) _]; rfl⟩
theorem So.k1 {w : World} {S : Nat} {p : Value} {ac tu en : Int} {k : Kp} (h : So w S p ac tu en k) (t : Bool) (a n : Nat) : So (((w.setCell ⟨S, 7, none⟩ (.bool t)).setCell ⟨S, 8, none⟩ (.int .i64 a)).setCell ⟨S, 9, none⟩ (.int .i64 n)) S p ac tu en (upd k 1 ⟨t, a, n⟩) := ⟨by rw [set_list (set_list (set_list h.blk _) _) _]; rfl⟩
theorem So.k2 {w : World} {S : Nat} {p : Value} {ac tu en : Int} {k : Kp} (h : So w S p ac tu en k) (t : Bool) (a n : Nat) : So (((w.setCell ⟨S, 10, none⟩ (.bool t)).setCell ⟨S, 11, none⟩ (.int .i64 a)).setCell ⟨S, 12, none⟩ (.int .i64 n)) S p ac tu en (upd k 2 ⟨t, a, n⟩) := ⟨by rw [set_list (set_list (set_list h.blk _) _) _]; rfl⟩
theorem So.drew {w : World} {S : Nat} {p : Value} {ac tu en : Int} {k : Kp} (h : So w S p ac tu en k) : So w.drew S p ac tu en k := ⟨h.blk⟩
theorem So.below {w w' : World} {S : Nat} {p : Value} {ac tu en : Int} {k : Kp} (h : So w S p ac tu en k) (hb : Below w.heap.size w w') : So w' S p ac tu en k := ⟨by rw [hb.block S h.lt, h.blk]⟩
theorem So.kept {w w' : World} {S X : Nat} {p : Value} {ac tu en : Int} {k : Kp} (h : So w S p ac tu en k) (hb : Kept X w w') (hne : S ≠ X) : So w' S p ac tu en k := ⟨hb.other h.blk hne⟩
/-- a block of a flash is none of a store -/
theorem Fl.ne {w : World} {R S : Nat} {σ : St} {p : Value} {ac tu en : Int} {k : Kp} (h : Fl w R σ) (g : So w S p ac tu en k) : R ≠ S := by
  intro e
  subst e
  have := h.blk.symm.trans g.blk
  simp at this
/-- what is kept but for two blocks -/
structure Kep2 (X D : Nat) (w w' : World) : Prop where
  os : w'.os = w.os
  tape : w'.tape = w.tape
  output : w'.output = w.output
  size : w.heap.size ≤ w'.heap.size
  block : ∀ k, k < w.heap.size → k ≠ X → k ≠ D → w'.heap[k]? = w.heap[k]?
theorem Kep2.refl (X D : Nat) (w : World) : Kep2 X D w w := ⟨rfl, rfl, rfl, Nat.le_refl _, fun _ _ _ _ => rfl⟩
theorem Kep2.trans {X D : Nat} {w w1 w2 : World} (h : Kep2 X D w w1) (g : Kep2 X D w1 w2) : Kep2 X D w w2 :=
  ⟨g.os.trans h.os, g.tape.trans h.tape, g.output.trans h.output, Nat.le_trans h.size g.size, fun k hk h1 h2 => (g.block k (Nat.lt_of_lt_of_le hk h.size) h1 h2).trans (h.block k hk h1 h2)⟩
theorem Kept.l2 {X : Nat} {w w' : World} (h : Kept X w w') (D : Nat) : Kep2 X D w w' := ⟨World.grownBy.os h, World.grownBy.tape h, World.grownBy.output h, Kept.size h, fun k hk h1 _ => World.grownBy.block h k hk (by intro e; injection e with e; exact h1 e)⟩
theorem Kept.r2 {D : Nat} {w w' : World} (h : Kept D w w') (X : Nat) : Kep2 X D w w' := ⟨World.grownBy.os h, World.grownBy.tape h, World.grownBy.output h, Kept.size h, fun k hk _ h1 => World.grownBy.block h k hk (by intro e; injection e with e; exact h1 e)⟩
theorem Kep2.below {X D : Nat} {w w1 w2 : World} (h : Kep2 X D w w1) (g : Below w1.heap.size w1 w2) : Kep2 X D w w2 := h.trans ((Kept.below (Kept.refl X w1) g).l2 D)
theorem Kep2.toBelow {X D B : Nat} {a w w1 : World} (h : Below B a w) (g : Kep2 X D w w1) (hB : B ≤ w.heap.size) (h1 : B ≤ X) (h2 : B ≤ D) : Below B a w1 :=
  ⟨g.os.trans h.os, g.tape.trans h.tape, g.output.trans h.output, Nat.le_trans h.size g.size, fun k hk => (g.block k (by omega) (by omega) (by omega)).trans (h.block k hk)⟩
theorem Kep2.other {X D k : Nat} {w w1 : World} {o : Obj} (h : Kep2 X D w w1) (hk : w.heap[k]? = some o) (h1 : k ≠ X) (h2 : k ≠ D) : w1.heap[k]? = some o := by
  rw [h.block k (lt_of_block hk) h1 h2, hk]
theorem Kep2.toKept {X D : Nat} {w w1 : World} (h : Kep2 X D w w1) (hD : w.heap.size ≤ D) : Kept X w w1 := ⟨h.os, h.tape, h.output, h.size, fun k hk h1 => h.block k hk (fun e => h1 (by rw [e])) (by omega)⟩
theorem Fl.kep2 {w w' : World} {R X D : Nat} {σ : St} (h : Fl w R σ) (hb : Kep2 X D w w') (h1 : R ≠ X) (h2 : R ≠ D) : Fl w' R σ := ⟨h.len, hb.other h.blk h1 h2⟩
theorem So.kep2 {w w' : World} {S X D : Nat} {p : Value} {ac tu en : Int} {k : Kp} (h : So w S p ac tu en k) (hb : Kep2 X D w w') (h1 : S ≠ X) (h2 : S ≠ D) : So w' S p ac tu en k := ⟨hb.other h.blk h1 h2⟩
theorem below_kept {w w' : World} (h : Below w.heap.size w w') (R : Nat) : Kept R w w' := Kept.below (Kept.refl R w) h
/-- small functions -/
theorem obj_any (w : World) (i : Int) : Calls Try.prog 50 #[.int .i64 i] w fun e w' => e = .returned (.bool (decide (0 ≤ i) && decide (i < 3))) ∧ w' = w := by
  go_enter Try.func50, Try.ntmps50
  go_wp2
  all_goals
    go_ret
    refine ⟨?_, rfl⟩
    apply ret_bool
    simp
    try omega
theorem other_any (w : World) (s : Nat) (hs : s < 2) : Calls Try.prog 83 #[.int .i64 (s : Int)] w fun e w' => e = .returned (.int .i64 ((1 - s : Nat) : Int)) ∧ w' = w := by
  obtain rfl | rfl : s = 0 ∨ s = 1 := by omega
  all_goals
    go_enter Try.func83, Try.ntmps83
    go_wp2
    go_ret
    exact ⟨rfl, rfl⟩
theorem place_any (w : World) (S : Nat) (p : Value) (ac a : Nat) (tu en : Int) (k : Kp) (h : So w S p ac tu en k) (hac : ac < 2) (ha : a ≤ 4096) : Calls Try.prog 77 #[fp S, .int .i64 (a : Int)] w fun e w' => e = .returned (.int .i64 ((ac * 4096 + a : Nat) : Int)) ∧ w' = w := by
  have c1 := h.c1
  go_enter Try.func77, Try.ntmps77
  go_wp2
  go_ret
  refine ⟨?_, rfl⟩
  apply ret_int
  omega
/-- the codes -/
theorem codes_any (w : World) : Calls Try.prog 103 #[] w fun e w' => e = .returned (.slice (some ⟨w.heap.size, 0, none⟩) 3 3) ∧ w' = w.alloc (.cells #[.int .u8 15, .int .u8 51, .int .u8 85] 5) := by
  go_enter Try.func103, Try.ntmps103
  go_wp2
  go_ret
  exact ⟨rfl, rfl⟩
end Go.Proofs.Ytcjahdgppnmdkaa
