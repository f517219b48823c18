/- Package world, walked: a world's block; within, over, stand, fly. -/
import Derived.Test.YtpoodmfhcoaleaaTri
import Derived.Test.YtpoodmfhcoaleaaMx6
namespace Go.Proofs.Ytpoodmfhcoaleaa
open Go.RowKit Go.Great

/-- a world -/
structure Wo where
  p0 : Int
  p1 : Int
  p2 : Int
  v0 : Int
  v1 : Int
  v2 : Int
  h : Int
  r : Int
  c : Int
structure WOk (o : Wo) : Prop where
  p0 : I64 o.p0
  p1 : I64 o.p1
  p2 : I64 o.p2
  v0 : I64 o.v0
  v1 : I64 o.v1
  v2 : I64 o.v2
  h : I64 o.h
  r : I64 o.r
  c : I64 o.c
/-- its cells -/
abbrev woC (p0 p1 p2 v0 v1 v2 h r c : Int) : Array Value := #[.int .i64 p0, .int .i64 p1, .int .i64 p2, .int .i64 v0, .int .i64 v1, .int .i64 v2, .int .i64 h, .int .i64 r, .int .i64 c]
abbrev woA (o : Wo) : Array Value := woC o.p0 o.p1 o.p2 o.v0 o.v1 o.v2 o.h o.r o.c
abbrev woV (o : Wo) : Value := .agg (woA o)
/-- a velocity, pushed and blown -/
def gov (v x a : Int) : Int := sat (sat (v + x) + a)
/-- the climb -/
def goz (v l a : Int) : Int := sat (gov v l a - 392)
/-- how it would move without a ground -/
def flyS (o : Wo) (l x y t a b c : Int) : Wo := ⟨sat (o.p0 + gov o.v0 x a), sat (o.p1 + gov o.v1 y b), sat (o.p2 + goz o.v2 l c), gov o.v0 x a, gov o.v1 y b, goz o.v2 l c, o.h, sat (o.r + t), o.c⟩
def standS (o : Wo) : Wo := ⟨o.p0, o.p1, 0, 0, 0, 0, o.h, 0, o.c⟩
theorem nine_cells {W : World} {d : Nat} {a b c e f g h i j : Value} {t : TypeId} (H : Blk W d #[a, b, c, e, f, g, h, i, j] t) : W.cell? ⟨d, 0, none⟩ = some a ∧ W.cell? ⟨d, 1, none⟩ = some b ∧ W.cell? ⟨d, 2, none⟩ = some c ∧ W.cell? ⟨d, 3, none⟩ = some e ∧ W.cell? ⟨d, 4, none⟩ = some f ∧ W.cell? ⟨d, 5, none⟩ = some g ∧ W.cell? ⟨d, 6, none⟩ = some h ∧ W.cell? ⟨d, 7, none⟩ = some i ∧ W.cell? ⟨d, 8, none⟩ = some j := ⟨H.cell 0 rfl, H.cell 1 rfl, H.cell 2 rfl, H.cell 3 rfl, H.cell 4 rfl, H.cell 5 rfl, H.cell 6 rfl, H.cell 7 rfl, H.cell 8 rfl⟩
theorem nine_froz {W : World} {d : Nat} {cs : Array Value} {t : TypeId} (H : Blk W d cs t) : W.frozen? ⟨d, 0, none⟩ = false ∧ W.frozen? ⟨d, 1, none⟩ = false ∧ W.frozen? ⟨d, 2, none⟩ = false ∧ W.frozen? ⟨d, 3, none⟩ = false ∧ W.frozen? ⟨d, 4, none⟩ = false ∧ W.frozen? ⟨d, 5, none⟩ = false ∧ W.frozen? ⟨d, 6, none⟩ = false ∧ W.frozen? ⟨d, 7, none⟩ = false ∧ W.frozen? ⟨d, 8, none⟩ = false := ⟨H.frozen 0, H.frozen 1, H.frozen 2, H.frozen 3, H.frozen 4, H.frozen 5, H.frozen 6, H.frozen 7, H.frozen 8⟩
theorem Blk.set9 {W : World} {B : Nat} {z0 z1 z2 z3 z4 z5 z6 z7 z8 : Value} {t : TypeId} (H : Blk W B #[z0, z1, z2, z3, z4, z5, z6, z7, z8] t) (a0 a1 a2 a3 a4 a5 a6 a7 a8 : Value) : Blk (((((((((W.setCell ⟨B, 0, none⟩ a0).setCell ⟨B, 1, none⟩ a1).setCell ⟨B, 2, none⟩ a2).setCell ⟨B, 3, none⟩ a3).setCell ⟨B, 4, none⟩ a4).setCell ⟨B, 5, none⟩ a5).setCell ⟨B, 6, none⟩ a6).setCell ⟨B, 7, none⟩ a7).setCell ⟨B, 8, none⟩ a8) B #[a0, a1, a2, a3, a4, a5, a6, a7, a8] t := blk_cells (show Blk _ B _ t from (heap_set (heap_set (heap_set (heap_set (heap_set (heap_set (heap_set (heap_set (heap_set H 0 a0) 1 a1) 2 a2) 3 a3) 4 a4) 5 a5) 6 a6) 7 a7) 8 a8)) (by kernel_rfl)
theorem set9_size (W : World) (B : Nat) (a0 a1 a2 a3 a4 a5 a6 a7 a8 : Value) : (((((((((W.setCell ⟨B, 0, none⟩ a0).setCell ⟨B, 1, none⟩ a1).setCell ⟨B, 2, none⟩ a2).setCell ⟨B, 3, none⟩ a3).setCell ⟨B, 4, none⟩ a4).setCell ⟨B, 5, none⟩ a5).setCell ⟨B, 6, none⟩ a6).setCell ⟨B, 7, none⟩ a7).setCell ⟨B, 8, none⟩ a8).heap.size = W.heap.size := by simp only [setCell_size]
theorem below_set9 {n : Nat} {w W : World} (H : Below n w W) (B : Nat) (a0 a1 a2 a3 a4 a5 a6 a7 a8 : Value) (hg : n ≤ B) (hn : n ≤ W.heap.size) : Below n w (((((((((W.setCell ⟨B, 0, none⟩ a0).setCell ⟨B, 1, none⟩ a1).setCell ⟨B, 2, none⟩ a2).setCell ⟨B, 3, none⟩ a3).setCell ⟨B, 4, none⟩ a4).setCell ⟨B, 5, none⟩ a5).setCell ⟨B, 6, none⟩ a6).setCell ⟨B, 7, none⟩ a7).setCell ⟨B, 8, none⟩ a8) := by
  refine below_set (below_set (below_set (below_set (below_set (below_set (below_set (below_set (below_set H _ _ _ hg hn) _ _ _ hg ?_) _ _ _ hg ?_) _ _ _ hg ?_) _ _ _ hg ?_) _ _ _ hg ?_) _ _ _ hg ?_) _ _ _ hg ?_) _ _ _ hg ?_
  all_goals (simp only [setCell_size]; exact hn)
theorem Blk.set9o {W : World} {B C : Nat} {cs : Array Value} {t : TypeId} (H : Blk W B cs t) (hne : B ≠ C) (a0 a1 a2 a3 a4 a5 a6 a7 a8 : Value) : Blk (((((((((W.setCell ⟨C, 0, none⟩ a0).setCell ⟨C, 1, none⟩ a1).setCell ⟨C, 2, none⟩ a2).setCell ⟨C, 3, none⟩ a3).setCell ⟨C, 4, none⟩ a4).setCell ⟨C, 5, none⟩ a5).setCell ⟨C, 6, none⟩ a6).setCell ⟨C, 7, none⟩ a7).setCell ⟨C, 8, none⟩ a8) B cs t := (((((((((H.setOther hne _ _).setOther hne _ _).setOther hne _ _).setOther hne _ _).setOther hne _ _).setOther hne _ _).setOther hne _ _).setOther hne _ _).setOther hne _ _)
theorem wo_back {fn : Func} {p : Tmp} (h : fn.results = #[.cell p 24]) (tmps : Array Value) (w : World) (g : Nat) (a0 a1 a2 a3 a4 a5 a6 a7 a8 : Value) (hp : tmps.getD p undef = .pointer (some ⟨g, 0, none⟩)) (hg : Blk w g #[a0, a1, a2, a3, a4, a5, a6, a7, a8] 24) : (results fn tmps).run Try.prog w = .ok (.agg #[a0, a1, a2, a3, a4, a5, a6, a7, a8]) w :=
  res_back h Try.underlying24 (by kernel_rfl) tmps w g hp hg
theorem wo_back2 {fn : Func} {p u : Tmp} (h : fn.results = #[.cell p 24, .tmp u]) (tmps : Array Value) (w : World) (g : Nat) (a0 a1 a2 a3 a4 a5 a6 a7 a8 b : Value) (hp : tmps.getD p undef = .pointer (some ⟨g, 0, none⟩)) (hq : tmps.getD u undef = b) (hg : Blk w g #[a0, a1, a2, a3, a4, a5, a6, a7, a8] 24) : (results fn tmps).run Try.prog w = .ok (.tuple #[.agg #[a0, a1, a2, a3, a4, a5, a6, a7, a8], b]) w :=
  res_back2 h Try.underlying24 (by kernel_rfl) tmps w g b hp hq hg
theorem ix3_0 (a b c : Value) (w : World) : (Instr.index 22 (.agg #[a, b, c]) (.int .i64 0)).run Try.prog w = .ok a w := by kernel_rfl
theorem ix3_1 (a b c : Value) (w : World) : (Instr.index 22 (.agg #[a, b, c]) (.int .i64 1)).run Try.prog w = .ok b w := by kernel_rfl
theorem ix3_2 (a b c : Value) (w : World) : (Instr.index 22 (.agg #[a, b, c]) (.int .i64 2)).run Try.prog w = .ok c w := by kernel_rfl
theorem mask20W (a : Int) : bits .and .i64 a 1048575 = a % 1048576 := by
  show IntKind.i64.wrap ((BitVec.ofInt 64 a &&& BitVec.ofInt 64 1048575).toNat : Int) = _
  have e : BitVec.ofInt 64 1048575 = BitVec.ofNat 64 (2 ^ 20 - 1) := by decide
  rw [e, BitVec.toNat_and, BitVec.toNat_ofNat, show (2 ^ 20 - 1) % 2 ^ 64 = 2 ^ 20 - 1 by decide, Nat.and_two_pow_sub_one_eq_mod, BitVec.toNat_ofInt, IntKind.wrap_i64]
  omega
theorem mask16W (a : Int) : bits .and .i64 a 65535 = a % 65536 := by
  show IntKind.i64.wrap ((BitVec.ofInt 64 a &&& BitVec.ofInt 64 65535).toNat : Int) = _
  have e : BitVec.ofInt 64 65535 = BitVec.ofNat 64 (2 ^ 16 - 1) := by decide
  rw [e, BitVec.toNat_and, BitVec.toNat_ofNat, show (2 ^ 16 - 1) % 2 ^ 64 = 2 ^ 16 - 1 by decide, Nat.and_two_pow_sub_one_eq_mod, BitVec.toNat_ofInt, IntKind.wrap_i64]
  omega
theorem within20 (a : Int) (w : World) : Calls Try.prog 23 #[.int .i64 a, .int .i64 1048576] w fun e w' => e = .returned (.int .i64 (a % 1048576)) ∧ w' = w := by
  have H := hide (mask20W a)
  go_enter Try.func23, Try.ntmps23
  go_wp2
  go_ret
  exact ⟨ret_int H.out, rfl⟩
theorem within16 (a : Int) (w : World) : Calls Try.prog 23 #[.int .i64 a, .int .i64 65536] w fun e w' => e = .returned (.int .i64 (a % 65536)) ∧ w' = w := by
  have H := hide (mask16W a)
  go_enter Try.func23, Try.ntmps23
  go_wp2
  go_ret
  exact ⟨ret_int H.out, rfl⟩
theorem overW_any (a b : Int) (w : World) (ha : I64 a) (h : 1 ≤ b) : Calls Try.prog 32 #[.int .i64 a, .int .i64 b] w fun e w' => e = .returned (.int .i64 (a / b)) ∧ w' = w := by
  have DN := hide (fun W => down_any a b W ha h)
  clear ha h
  go_enter Try.func32, Try.ntmps32
  go_wp2_with (go_at_call 45; refine (DN.out _).mono ?_; rintro e w1 ⟨rfl, hw⟩; obtain rfl := hw.symm)
  go_ret
  exact ⟨rfl, rfl⟩
set_option maxHeartbeats 1000000 in
theorem standW_any (o : Wo) (w : World) : Calls Try.prog 22 #[woV o] w fun e w' => e = .returned (woV (standS o)) ∧ Below w.heap.size w w' := by
  obtain ⟨p0, p1, p2, v0, v1, v2, h, r, c⟩ := o
  unfold standS
  simp only []
  obtain ⟨W0, hW0, b0, HA, HR, hz0⟩ := two_boxes w (woC p0 p1 p2 v0 v1 v2 h r c) (woC 0 0 0 0 0 0 0 0 0) 24 24
  obtain ⟨a0, a1, a2, a3, a4, a5, a6, a7, a8⟩ := nine_cells HA
  obtain ⟨f0, f1, f2, f3, f4, f5, f6, f7, f8⟩ := nine_froz HA
  have HA := hide HA
  have HR := hide HR
  have Hb := hide b0
  clear b0
  go_enter Try.func22, Try.ntmps22
  go_upto_region 4 with fail
  clear a0 a1 a2 a3 a4 a5 a6 a7 a8 f0 f1 f2 f3 f4 f5 f6 f7 f8
  have HA2 := hide (((((HA.out.set 2 (.int .i64 0)).set 3 (.int .i64 0)).set 4 (.int .i64 0)).set 5 (.int .i64 0)).set 7 (.int .i64 0))
  have HR2 := hide (((((HR.out.setOther (C := w.heap.size) (by omega) 2 (.int .i64 0)).setOther (C := w.heap.size) (by omega) 3 (.int .i64 0)).setOther (C := w.heap.size) (by omega) 4 (.int .i64 0)).setOther (C := w.heap.size) (by omega) 5 (.int .i64 0)).setOther (C := w.heap.size) (by omega) 7 (.int .i64 0))
  have Hb2 := hide (below_set (below_set (below_set (below_set (below_set Hb.out w.heap.size 2 (.int .i64 0) (Nat.le_refl _) (by omega)) w.heap.size 3 (.int .i64 0) (Nat.le_refl _) (by simp only [setCell_size]; omega)) w.heap.size 4 (.int .i64 0) (Nat.le_refl _) (by simp only [setCell_size]; omega)) w.heap.size 5 (.int .i64 0) (Nat.le_refl _) (by simp only [setCell_size]; omega)) w.heap.size 7 (.int .i64 0) (Nat.le_refl _) (by simp only [setCell_size]; omega))
  generalize ((((W0.setCell ⟨w.heap.size, 2, none⟩ (.int .i64 0)).setCell ⟨w.heap.size, 3, none⟩ (.int .i64 0)).setCell ⟨w.heap.size, 4, none⟩ (.int .i64 0)).setCell ⟨w.heap.size, 5, none⟩ (.int .i64 0)).setCell ⟨w.heap.size, 7, none⟩ (.int .i64 0) = W1 at *
  replace HA2 := hide (show Blk W1 w.heap.size (woC p0 p1 0 0 0 0 h 0 c) 24 from HA2.out)
  obtain ⟨a0, a1, a2, a3, a4, a5, a6, a7, a8⟩ := nine_cells HA2.out
  obtain ⟨f0, f1, f2, f3, f4, f5, f6, f7, f8⟩ := nine_froz HR2.out
  obtain ⟨g0, g1, g2, g3, g4, g5, g6, g7, g8⟩ := nine_cells HR2.out
  have hsz := Hb2.out.size
  clear HA HR Hb hW0
  go_wp2_with fail
  exact bodyPost_ret (wo_back (p := 2) (by kernel_rfl) _ _ (w.heap.size + 1) _ _ _ _ _ _ _ _ _ rfl (HR2.out.set9 _ _ _ _ _ _ _ _ _)) rfl ⟨rfl, below_set9 Hb2.out _ _ _ _ _ _ _ _ _ _ (by omega) Hb2.out.size⟩
end Go.Proofs.Ytpoodmfhcoaleaa
