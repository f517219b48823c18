/- Package control, walked: a steer's block, New, Refs, Rest, the velocity that is aimed at. -/
import Derived.Test.YthldohfjkjhdcaaCo1
import Derived.Test.YthldohfjkjhdcaaPa7
namespace Go.Proofs.Ythldohfjkjhdcaa
open Go.RowKit Go.Great

/-- three ints' cells -/
abbrev tC (a b c : Int) : Array Value := #[.int .i64 a, .int .i64 b, .int .i64 c]
abbrev tV (a b c : Int) : Value := .agg (tC a b c)
/-- a steer's cells: its Accel, and its references -/
abbrev sC (ac a b c : Int) : Array Value := #[.int .i64 ac, .int .i64 a, .int .i64 b, .int .i64 c]
/-- the steer in block B -/
abbrev Str (w : World) (B : Nat) (ac a b c : Int) : Prop := Blk w B (sC ac a b c) 60
abbrev sP (B : Nat) : Value := .pointer (some ⟨B, 0, none⟩)
/-- what is wanted of an axis -/
structure Wn where
  h : Bool
  a : Int
  s : Int
structure WOk (p : Wn) : Prop where
  a : I64 p.a
  s : I64 p.s
abbrev wnC (p : Wn) : Array Value := #[.bool p.h, .int .i64 p.a, .int .i64 p.s]
abbrev wnV (p : Wn) : Value := .agg (wnC p)
abbrev wsC (p q r : Wn) : Array Value := #[.bool p.h, .int .i64 p.a, .int .i64 p.s, .bool q.h, .int .i64 q.a, .int .i64 q.s, .bool r.h, .int .i64 r.a, .int .i64 r.s]
abbrev wsV (p q r : Wn) : Value := .agg (wsC p q r)
/-- the velocity that is aimed at -/
def aim (p : Wn) (x ac : Int) : Int := if p.h = true then lawS (sat (p.a - x)) p.s ac else p.s
/-- the next reference -/
def nx (r ac : Int) (p : Wn) (x : Int) : Int := slew r (aim p x ac) ac
/-- what is asked for -/
def ask (n v : Int) : Int := clamp (sat (n - v)) (-64) 64
theorem lawS_i {f s a : Int} (hf : I64 f) (hs : I64 s) : I64 (lawS f s a) := by
  have h := lawS_bound (a := f) (sp := s) (ac := a) hf
  unfold I64 at *
  omega
theorem aim_i {p : Wn} (h : WOk p) (x ac : Int) : I64 (aim p x ac) := by
  unfold aim
  split
  · exact lawS_i (sat_in _) h.s
  · exact h.s
theorem nx_i {r ac : Int} {p : Wn} (h : WOk p) (x : Int) (hr : I64 r) : I64 (nx r ac p x) := by
  have h1 := aim_i h x ac
  unfold nx slew
  generalize aim p x ac = m at *
  unfold I64 at *
  repeat' split
  all_goals omega
theorem three_back {fn : Func} {p : Tmp} {ty e : TypeId} {n : Nat} (h : fn.results = #[.cell p ty]) (hu : Try.prog.underlying ty = some (.array n e)) {cs : Array Value} (hz : (Try.prog.info? ty).map (·.size) = some cs.size) (tmps : Array Value) (w : World) (g : Nat) (hp : tmps.getD p undef = .pointer (some ⟨g, 0, none⟩)) (hg : Blk w g cs ty) : (results fn tmps).run Try.prog w = .ok (.agg cs) w := by
  rw [res_one h]
  have := run_loadVar_row (P := Try.prog) w g ty ty cs (0, 0) _ hg hu rfl hz
  rw [hp]
  simp [asAddr, this, Result.andThen]
theorem t_back {fn : Func} {p : Tmp} (h : fn.results = #[.cell p 36]) (tmps : Array Value) (w : World) (g : Nat) (x y z : Value) (hp : tmps.getD p undef = .pointer (some ⟨g, 0, none⟩)) (hg : Blk w g #[x, y, z] 36) : (results fn tmps).run Try.prog w = .ok (.agg #[x, y, z]) w :=
  three_back h Try.underlying36 (by kernel_rfl) tmps w g hp hg
theorem Blk.set3 {W : World} {B : Nat} {x y z : Value} {t : TypeId} (h : Blk W B #[x, y, z] t) (a b c : Value) : Blk (((W.setCell ⟨B, 0, none⟩ a).setCell ⟨B, 1, none⟩ b).setCell ⟨B, 2, none⟩ c) B #[a, b, c] t := heap_set (heap_set (heap_set h 0 a) 1 b) 2 c
theorem below_set3 {n : Nat} {w w1 : World} (h : Below n w w1) (g : Nat) (a b c : Value) (hg : n ≤ g) (hn : n ≤ w1.heap.size) : Below n w (((w1.setCell ⟨g, 0, none⟩ a).setCell ⟨g, 1, none⟩ b).setCell ⟨g, 2, none⟩ c) :=
  below_set (below_set (below_set h _ _ _ hg hn) _ _ _ hg (by rw [setCell_size]; exact hn)) _ _ _ hg (by rw [setCell_size, setCell_size]; exact hn)
theorem three_cells {W : World} {d : Nat} {a b c : Value} {t : TypeId} (h : Blk W d #[a, b, c] t) : W.cell? ⟨d, 0, none⟩ = some a ∧ W.cell? ⟨d, 1, none⟩ = some b ∧ W.cell? ⟨d, 2, none⟩ = some c := ⟨h.cell 0 rfl, h.cell 1 rfl, h.cell 2 rfl⟩
theorem four_cells {W : World} {d : Nat} {a b c e : Value} {t : TypeId} (h : Blk W d #[a, b, c, e] t) : W.cell? ⟨d, 0, none⟩ = some a ∧ W.cell? ⟨d, 1, none⟩ = some b ∧ W.cell? ⟨d, 2, none⟩ = some c ∧ W.cell? ⟨d, 3, none⟩ = some e := ⟨h.cell 0 rfl, h.cell 1 rfl, h.cell 2 rfl, h.cell 3 rfl⟩
theorem one_box (w : World) (A : Array Value) (t : TypeId) : ∃ W0, w.alloc (.cells A t) = W0 ∧ Below w.heap.size w W0 ∧ Blk W0 w.heap.size A t ∧ W0.heap.size = w.heap.size + 1 := ⟨_, rfl, below_alloc _ _, Blk.new _ _ _, by simp⟩
theorem refs_any (w : World) (B : Nat) (ac a b c : Int) (hB : Str w B ac a b c) : Calls Try.prog 22 #[sP B] w fun e w' => e = .returned (tV a b c) ∧ Below w.heap.size w w' := by
  obtain ⟨W0, hW0, b0, hR, _⟩ := one_box w (tC 0 0 0) 36
  have Hb := hide b0
  have hS := hB.after b0
  have HR := hide hR
  obtain ⟨c0, c1, c2, c3⟩ := four_cells hS
  obtain ⟨r0, r1, r2⟩ := three_cells hR
  have f0 := hR.frozen 0
  have f1 := hR.frozen 1
  have f2 := hR.frozen 2
  clear hS hR hB b0
  go_enter Try.func22, Try.ntmps22
  go_wp2
  exact bodyPost_ret (t_back (p := 2) (by kernel_rfl) _ _ w.heap.size _ _ _ rfl (HR.out.set3 _ _ _)) rfl ⟨rfl, below_set3 Hb.out _ _ _ _ (Nat.le_refl _) Hb.out.size⟩
theorem refs_nil (w : World) : Calls Try.prog 22 #[.pointer none] w fun e w' => e = .returned (tV 0 0 0) ∧ Below w.heap.size w w' := by
  obtain ⟨W0, hW0, b0, hR, _⟩ := one_box w (tC 0 0 0) 36
  have Hb := hide b0
  have HR := hide hR
  obtain ⟨r0, r1, r2⟩ := three_cells hR
  have f0 := hR.frozen 0
  have f1 := hR.frozen 1
  have f2 := hR.frozen 2
  clear hR b0
  go_enter Try.func22, Try.ntmps22
  go_wp2
  exact bodyPost_ret (t_back (p := 2) (by kernel_rfl) _ _ w.heap.size _ _ _ rfl (HR.out.set3 _ _ _)) rfl ⟨rfl, below_set3 Hb.out _ _ _ _ (Nat.le_refl _) Hb.out.size⟩
theorem rest_nil (a b c : Int) (w : World) : Calls Try.prog 19 #[.pointer none, tV a b c] w fun e w' => e = .returned (.tuple #[]) ∧ Below w.heap.size w w' := by
  go_enter Try.func19, Try.ntmps19
  go_wp2
  exact bodyPost_ret (results_none (by kernel_rfl) _ _ _) rfl ⟨rfl, below_alloc _ _⟩
theorem rest_any (w : World) (B : Nat) (ac r0 r1 r2 a b c : Int) (hB : Str w B ac r0 r1 r2) : Calls Try.prog 19 #[sP B, tV a b c] w fun e w' => e = .returned (.tuple #[]) ∧ Str w' B ac a b c ∧ w.grownBy w' (some B) := by
  obtain ⟨W0, hW0, b0, hR, _⟩ := one_box w (tC a b c) 36
  have hS := hB.after b0
  have HG := hide (grown_below b0 (some B))
  have HS := hide hS
  obtain ⟨x0, x1, x2⟩ := three_cells hR
  obtain ⟨_, y1, y2, y3⟩ := four_cells hS
  have f1 := hS.frozen 1
  have f2 := hS.frozen 2
  have f3 := hS.frozen 3
  have hl := hB.lt
  have hne : ¬ w.heap.size = B := by omega
  clear hR hS hB
  go_enter Try.func19, Try.ntmps19
  go_wp2
  go_end0
  exact ⟨rfl, ((HS.out.set 1 _).set 2 _).set 3 _, grown_more (grown_more (grown_more HG.out (grown_set _ _ _ _)) (grown_set _ _ _ _)) (grown_set _ _ _ _)⟩
theorem roam_any (W : World) (B : Nat) (p : Wn) (x : Int) : Calls Try.prog 39 #[sP B, wnV p, .int .i64 x] W fun e w' => e = .returned (.int .i64 p.s) ∧ Below W.heap.size W w' := by
  obtain ⟨c0, c1, c2⟩ := three_cells (Blk.new W (wnC p) 38)
  go_enter Try.func39, Try.ntmps39
  go_wp2
  go_ret
  exact ⟨rfl, below_alloc _ _⟩
set_option maxHeartbeats 400000 in
theorem approach_any (W : World) (B : Nat) (p : Wn) (x ac : Int) (hc : W.cell? ⟨B, 0, none⟩ = some (.int .i64 ac)) (hl : B < W.heap.size) (hp : WOk p) (hx : I64 x) (ha : I64 ac) : Calls Try.prog 40 #[sP B, wnV p, .int .i64 x] W fun e w' => e = .returned (.int .i64 (lawS (sat (p.a - x)) p.s ac)) ∧ Below W.heap.size W w' := by
  have SU := hide (fun w => sub_any p.a x w hp.a hx)
  have LA := hide (fun w => law_any (sat (p.a - x)) p.s ac w (sat_in _) hp.s ha)
  generalize lawS (sat (p.a - x)) p.s ac = z at *
  generalize sat (p.a - x) = y at *
  have Hb := hide (below_alloc W (.cells (wnC p) 38))
  have c0 : (W.alloc (.cells (wnC p) 38)).cell? ⟨B, 0, none⟩ = some (.int .i64 ac) := (Hb.out.cell (p := ⟨B, 0, none⟩) hl).trans hc
  obtain ⟨d0, d1, d2⟩ := three_cells (Blk.new W (wnC p) 38)
  clear hc hp hx ha
  go_enter Try.func40, Try.ntmps40
  go_upto_region 1 with fail
  generalize W.alloc (.cells (wnC p) 38) = W1 at *
  generalize hd : W.heap.size = d at *
  go_quiet (first
    | (go_at_call 34; exact Calls.quiet_of_same (SU.out _))
    | (go_at_call 9; exact Calls.quiet_of_same (LA.out _)))
  go_wp2_with fail
  go_ret
  exact ⟨rfl, by rw [hd]; exact below_drewN Hb.out _⟩
end Go.Proofs.Ythldohfjkjhdcaa
