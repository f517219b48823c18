/- Co1, Co2, Co3. -/
import Derived.Test.YtapfaaaepnplcaaGreatDoorG06
import Derived.Test.YtapfaaaepnplcaaGreatDoorG21
import Derived.Lib.MinMax
import Derived.Test.YtapfaaaepnplcaaGreatDoorG19
set_option maxRecDepth 100000
set_option maxHeartbeats 400000
namespace Go.Proofs.YtapfaaaepnplcaaGreatDoor
open Go.RowKit Go.Great
/-- the shorter way from 0 to a heading -/
def shw (h : Int) : Int := (h + 524288) % 1048576 - 524288
/-- what Twist says -/
def twG (h r m : Int) : Int := clamp ((sat (clamp (-((shw h).tdiv 64)) (-(max m 0)) (max m 0) - r)).tdiv 4) (-100) 100
theorem shw_in (h : Int) : -524288 ≤ shw h ∧ shw h < 524288 := by unfold shw; omega
theorem tdiv_in64 (a : Int) (h : -524288 ≤ a ∧ a < 524288) : -8192 ≤ a.tdiv 64 ∧ a.tdiv 64 ≤ 8192 := by
  have h1 := Int.mul_tdiv_add_tmod a 64
  have h2 := Int.tmod_lt_of_pos a (show (0 : Int) < 64 by decide)
  have h3 := Int.lt_tmod_of_pos a (show (0 : Int) < 64 by decide)
  omega
theorem tdiv_in4 (a : Int) (h : I64 a) : -4611686018427387904 ≤ a.tdiv 4 ∧ a.tdiv 4 ≤ 4611686018427387904 := by
  unfold I64 at h
  have h1 := Int.mul_tdiv_add_tmod a 4
  have h2 := Int.tmod_lt_of_pos a (show (0 : Int) < 4 by decide)
  have h3 := Int.lt_tmod_of_pos a (show (0 : Int) < 4 by decide)
  omega
theorem tmod_is (a : Int) : -1048576 < a.tmod 1048576 ∧ a.tmod 1048576 < 1048576 ∧ ∃ k, a = 1048576 * k + a.tmod 1048576 :=
  ⟨Int.lt_tmod_of_pos a (by decide), Int.tmod_lt_of_pos a (by decide), a.tdiv 1048576, (Int.mul_tdiv_add_tmod a 1048576).symm⟩
theorem clamp_mid {x lo hi : Int} (h : lo ≤ hi) : lo ≤ clamp x lo hi ∧ clamp x lo hi ≤ hi := by
  unfold clamp
  split
  · omega
  · split <;> omega
theorem run_min3 (x y z : Int) (ts : Array TypeId) (t : TypeId) (w : World) : (Builtin.min_ ts t #[.int .i64 x, .int .i64 y, .int .i64 z]).run Tryz.prog w = .ok (.int .i64 (min (min x y) z)) w := by
  have e1 : (if y < x then y else x) = min x y := by rw [Int.min_def]; split <;> split <;> omega
  have e2 : (if z < min x y then z else min x y) = min (min x y) z := by rw [Int.min_def (min x y)]; split <;> split <;> omega
  simp [Builtin.min_, Builtin.min2, e1, e2]
theorem amount_any (x : Int) (w : World) (hx : I64 x) : Calls Tryz.prog 361 #[.int .i64 x] w fun e w' => e = .returned (.int .i64 (amt x)) ∧ w' = w := by
  unfold I64 at hx
  go_enter Tryz.func361, Tryz.ntmps361
  go_wp2
  all_goals (go_ret; refine ⟨ret_int ?_, rfl⟩; unfold amt sat; repeat (first | omega | split))
theorem shorter_any (h : Int) (w : World) : Calls Tryz.prog 235 #[.int .i64 h] w fun e w' => e = .returned (.int .i64 (shw h)) ∧ w' = w := by
  obtain ⟨h1, h2, k, hk⟩ := tmod_is h
  have HK := hide hk
  clear hk
  go_enter Tryz.func235, Tryz.ntmps235
  go_wp2
  all_goals (go_ret; refine ⟨ret_int ?_, rfl⟩; have := HK.out; unfold shw; omega)
theorem law_any (far sp ac : Int) (w : World) (hf : I64 far) (hs : I64 sp) (ha : I64 ac) : Calls Tryz.prog 314 #[.int .i64 far, .int .i64 sp, .int .i64 ac] w fun e w' => e = .returned (.int .i64 (lawS far sp ac)) ∧ w' = w := by
  have AM := hide (fun W => amount_any far W hf)
  have MU := hide (fun W => mul_any ac (amt far) W ha ⟨by have := (amt_in hf).1; omega, (amt_in hf).2⟩)
  have SQ := hide (fun W => sqrt_any (sat (ac * amt far)) W (sat_in _))
  have hm := amt_in hf
  have EF : Hid (¬ far < 0 → amt far = far) := hide (fun h => by unfold amt; rw [if_neg h])
  by_cases hc : sp < 1 ∨ ac < 1
  · have e0 : Hid (lawS far sp ac = 0) := hide (by unfold lawS; rw [if_pos hc])
    rw [e0.out]
    clear AM MU SQ EF e0
    by_cases h1 : sp < 1
    · go_enter Tryz.func314, Tryz.ntmps314
      go_wp2
      go_ret
      simp
    · have h2 : ac < 1 := by omega
      go_enter Tryz.func314, Tryz.ntmps314
      go_wp2
      go_ret
      simp
  · have h1 : ¬ sp < 1 := by omega
    have h2 : ¬ ac < 1 := by omega
    have hl := lawM_in (m := amt far) (sp := sp) (ac := ac) hm.1 (by omega) (by omega)
    have e0 : Hid (lawS far sp ac = if far < 0 then -(lawM (amt far) sp ac) else lawM (amt far) sp ac) := hide (by
      unfold lawS
      rw [if_neg hc]
      by_cases hn : far < 0
      · rw [if_pos hn, if_pos hn]
      · rw [if_neg hn, if_neg hn, EF.out hn])
    have e1 : Hid (lawM (amt far) sp ac = min sp (min (sqrtFrom 32 (sat (ac * amt far)) 0) (amt far / 32))) := hide rfl
    rw [e0.out]
    clear e0 EF
    rw [e1.out] at hl ⊢
    clear e1
    generalize sqrtFrom 32 (sat (ac * amt far)) 0 = q at *
    have MN := run_min3 sp q (amt far / 32)
    generalize sat (ac * amt far) = p at *
    generalize amt far = m at *
    unfold I64 at hf hs ha
    go_enter Tryz.func314, Tryz.ntmps314
    go_wp2_with (first
      | (go_at_call 361; refine (AM.out _).mono ?_; rintro e w1 ⟨rfl, rfl⟩)
      | (go_at_call 200; refine (MU.out _).mono ?_; rintro e w1 ⟨rfl, rfl⟩)
      | (go_at_call 362; refine (SQ.out _).mono ?_; rintro e w1 ⟨rfl, rfl⟩))
    all_goals (go_ret; refine ⟨ret_int ?_, rfl⟩)
    all_goals omega
theorem twist_any (h r m : Int) (w : World) (hr : I64 r) (hm : I64 m) : Calls Tryz.prog 138 #[.int .i64 h, .int .i64 r, .int .i64 m] w fun e w' => e = .returned (.int .i64 (twG h r m)) ∧ w' = w := by
  have SH := hide (fun W => shorter_any h W)
  have h1 := tdiv_in64 (shw h) (shw_in h)
  have hq := clamp_mid (x := -((shw h).tdiv 64)) (lo := -(max m 0)) (hi := max m 0) (by omega)
  unfold twG
  unfold I64 at hm
  generalize shw h = s at *
  generalize hM : max m 0 = M at *
  have CL := hide (fun W => clamp_any (-(s.tdiv 64)) (-M) M W)
  generalize clamp (-(s.tdiv 64)) (-M) M = c at *
  have SB := hide (fun W => sub_any c r W (by unfold I64; omega) hr)
  have CM := hide (fun W => clamp_any ((sat (c - r)).tdiv 4) (-100) 100 W)
  have h4 := tdiv_in4 (sat (c - r)) (sat_in _)
  generalize sat (c - r) = d at *
  generalize clamp (d.tdiv 4) (-100) 100 = z at *
  go_enter Tryz.func138, Tryz.ntmps138
  go_upto_region 3 with (first
    | (go_at_call 235; refine (SH.out _).mono ?_; rintro e w1 ⟨rfl, rfl⟩)
    | (go_at_call 143; refine (CL.out _).mono ?_; rintro e w1 ⟨rfl, rfl⟩))
  clear hq h1 CL SH
  go_wp2_with (first
    | (go_at_call 172; refine (SB.out _).mono ?_; rintro e w1 ⟨rfl, rfl⟩)
    | (go_at_call 143; refine (CM.out _).mono ?_; rintro e w1 ⟨rfl, rfl⟩))
  go_ret
  exact ⟨rfl, rfl⟩
end Go.Proofs.YtapfaaaepnplcaaGreatDoor
set_option maxRecDepth 100000
set_option maxHeartbeats 400000
namespace Go.Proofs.YtapfaaaepnplcaaGreatDoor
open Go.RowKit Go.Great
/-- three ints' cells -/
abbrev tC (a b c : Int) : Array Value := #[.int .i64 a, .int .i64 b, .int .i64 c]
abbrev tV (a b c : Int) : Value := .agg (tC a b c)
/-- a steer's cells: its Accel, and its references -/
abbrev sC (ac a b c : Int) : Array Value := #[.int .i64 ac, .int .i64 a, .int .i64 b, .int .i64 c]
/-- the steer in block B -/
abbrev Str (w : World) (B : Nat) (ac a b c : Int) : Prop := Blk w B (sC ac a b c) 307
abbrev sP (B : Nat) : Value := .pointer (some ⟨B, 0, none⟩)
/-- what is wanted of an axis -/
structure Wn where
  h : Bool
  a : Int
  s : Int
structure WOk (p : Wn) : Prop where
  a : I64 p.a
  s : I64 p.s
abbrev wnC (p : Wn) : Array Value := #[.bool p.h, .int .i64 p.a, .int .i64 p.s]
abbrev wnV (p : Wn) : Value := .agg (wnC p)
abbrev wsC (p q r : Wn) : Array Value := #[.bool p.h, .int .i64 p.a, .int .i64 p.s, .bool q.h, .int .i64 q.a, .int .i64 q.s, .bool r.h, .int .i64 r.a, .int .i64 r.s]
abbrev wsV (p q r : Wn) : Value := .agg (wsC p q r)
/-- the velocity that is aimed at -/
def aim (p : Wn) (x ac : Int) : Int := if p.h = true then lawS (sat (p.a - x)) p.s ac else p.s
/-- the next reference -/
def nx (r ac : Int) (p : Wn) (x : Int) : Int := slew r (aim p x ac) ac
/-- what is asked for -/
def ask (n v : Int) : Int := clamp (sat (n - v)) (-64) 64
theorem lawS_i {f s a : Int} (hf : I64 f) (hs : I64 s) : I64 (lawS f s a) := by
  have h := lawS_bound (a := f) (sp := s) (ac := a) hf
  unfold I64 at *
  omega
theorem aim_i {p : Wn} (h : WOk p) (x ac : Int) : I64 (aim p x ac) := by
  unfold aim
  split
  · exact lawS_i (sat_in _) h.s
  · exact h.s
theorem nx_i {r ac : Int} {p : Wn} (h : WOk p) (x : Int) (hr : I64 r) : I64 (nx r ac p x) := by
  have h1 := aim_i h x ac
  unfold nx slew
  generalize aim p x ac = m at *
  unfold I64 at *
  repeat' split
  all_goals omega
theorem three_back {fn : Func} {p : Tmp} {ty e : TypeId} {n : Nat} (h : fn.results = #[.cell p ty]) (hu : Tryz.prog.underlying ty = some (.array n e)) {cs : Array Value} (hz : (Tryz.prog.info? ty).map (·.size) = some cs.size) (tmps : Array Value) (w : World) (g : Nat) (hp : tmps.getD p undef = .pointer (some ⟨g, 0, none⟩)) (hg : Blk w g cs ty) : (results fn tmps).run Tryz.prog w = .ok (.agg cs) w := by
  rw [res_one h]
  have := run_loadVar_row (P := Tryz.prog) w g ty ty cs (0, 0) _ hg hu rfl hz
  rw [hp]
  simp [asAddr, this, Result.andThen]
theorem t_back {fn : Func} {p : Tmp} (h : fn.results = #[.cell p 63]) (tmps : Array Value) (w : World) (g : Nat) (x y z : Value) (hp : tmps.getD p undef = .pointer (some ⟨g, 0, none⟩)) (hg : Blk w g #[x, y, z] 63) : (results fn tmps).run Tryz.prog w = .ok (.agg #[x, y, z]) w :=
  three_back h Tryz.underlying63 (by kernel_rfl) tmps w g hp hg
theorem Blk.set3 {W : World} {B : Nat} {x y z : Value} {t : TypeId} (h : Blk W B #[x, y, z] t) (a b c : Value) : Blk (((W.setCell ⟨B, 0, none⟩ a).setCell ⟨B, 1, none⟩ b).setCell ⟨B, 2, none⟩ c) B #[a, b, c] t := heap_set (heap_set (heap_set h 0 a) 1 b) 2 c
theorem below_set3_Co2 {n : Nat} {w w1 : World} (h : Below n w w1) (g : Nat) (a b c : Value) (hg : n ≤ g) (hn : n ≤ w1.heap.size) : Below n w (((w1.setCell ⟨g, 0, none⟩ a).setCell ⟨g, 1, none⟩ b).setCell ⟨g, 2, none⟩ c) :=
  below_set (below_set (below_set h _ _ _ hg hn) _ _ _ hg (by rw [setCell_size]; exact hn)) _ _ _ hg (by rw [setCell_size, setCell_size]; exact hn)
theorem three_cells {W : World} {d : Nat} {a b c : Value} {t : TypeId} (h : Blk W d #[a, b, c] t) : W.cell? ⟨d, 0, none⟩ = some a ∧ W.cell? ⟨d, 1, none⟩ = some b ∧ W.cell? ⟨d, 2, none⟩ = some c := ⟨h.cell 0 rfl, h.cell 1 rfl, h.cell 2 rfl⟩
theorem four_cells {W : World} {d : Nat} {a b c e : Value} {t : TypeId} (h : Blk W d #[a, b, c, e] t) : W.cell? ⟨d, 0, none⟩ = some a ∧ W.cell? ⟨d, 1, none⟩ = some b ∧ W.cell? ⟨d, 2, none⟩ = some c ∧ W.cell? ⟨d, 3, none⟩ = some e := ⟨h.cell 0 rfl, h.cell 1 rfl, h.cell 2 rfl, h.cell 3 rfl⟩
theorem one_box (w : World) (A : Array Value) (t : TypeId) : ∃ W0, w.alloc (.cells A t) = W0 ∧ Below w.heap.size w W0 ∧ Blk W0 w.heap.size A t ∧ W0.heap.size = w.heap.size + 1 := ⟨_, rfl, below_alloc _ _, Blk.new _ _ _, by simp⟩
theorem refs_any (w : World) (B : Nat) (ac a b c : Int) (hB : Str w B ac a b c) : Calls Tryz.prog 232 #[sP B] w fun e w' => e = .returned (tV a b c) ∧ Below w.heap.size w w' := by
  obtain ⟨W0, hW0, b0, hR, _⟩ := one_box w (tC 0 0 0) 63
  have Hb := hide b0
  have hS := hB.after b0
  have HR := hide hR
  obtain ⟨c0, c1, c2, c3⟩ := four_cells hS
  obtain ⟨r0, r1, r2⟩ := three_cells hR
  have f0 := hR.frozen 0
  have f1 := hR.frozen 1
  have f2 := hR.frozen 2
  clear hS hR hB b0
  go_enter Tryz.func232, Tryz.ntmps232
  go_wp2
  exact bodyPost_ret (t_back (p := 2) (by kernel_rfl) _ _ w.heap.size _ _ _ rfl (HR.out.set3 _ _ _)) rfl ⟨rfl, below_set3_Co2 Hb.out _ _ _ _ (Nat.le_refl _) Hb.out.size⟩
theorem refs_nil (w : World) : Calls Tryz.prog 232 #[.pointer none] w fun e w' => e = .returned (tV 0 0 0) ∧ Below w.heap.size w w' := by
  obtain ⟨W0, hW0, b0, hR, _⟩ := one_box w (tC 0 0 0) 63
  have Hb := hide b0
  have HR := hide hR
  obtain ⟨r0, r1, r2⟩ := three_cells hR
  have f0 := hR.frozen 0
  have f1 := hR.frozen 1
  have f2 := hR.frozen 2
  clear hR b0
  go_enter Tryz.func232, Tryz.ntmps232
  go_wp2
  exact bodyPost_ret (t_back (p := 2) (by kernel_rfl) _ _ w.heap.size _ _ _ rfl (HR.out.set3 _ _ _)) rfl ⟨rfl, below_set3_Co2 Hb.out _ _ _ _ (Nat.le_refl _) Hb.out.size⟩
theorem rest_nil (a b c : Int) (w : World) : Calls Tryz.prog 223 #[.pointer none, tV a b c] w fun e w' => e = .returned (.tuple #[]) ∧ Below w.heap.size w w' := by
  go_enter Tryz.func223, Tryz.ntmps223
  go_wp2
  exact bodyPost_ret (results_none (by kernel_rfl) _ _ _) rfl ⟨rfl, below_alloc _ _⟩
theorem rest_any (w : World) (B : Nat) (ac r0 r1 r2 a b c : Int) (hB : Str w B ac r0 r1 r2) : Calls Tryz.prog 223 #[sP B, tV a b c] w fun e w' => e = .returned (.tuple #[]) ∧ Str w' B ac a b c ∧ w.grownBy w' (some B) := by
  obtain ⟨W0, hW0, b0, hR, _⟩ := one_box w (tC a b c) 63
  have hS := hB.after b0
  have HG := hide (grown_below b0 (some B))
  have HS := hide hS
  obtain ⟨x0, x1, x2⟩ := three_cells hR
  obtain ⟨_, y1, y2, y3⟩ := four_cells hS
  have f1 := hS.frozen 1
  have f2 := hS.frozen 2
  have f3 := hS.frozen 3
  have hl := hB.lt
  have hne : ¬ w.heap.size = B := by omega
  clear hR hS hB
  go_enter Tryz.func223, Tryz.ntmps223
  go_wp2
  go_end0
  exact ⟨rfl, ((HS.out.set 1 _).set 2 _).set 3 _, grown_more (grown_more (grown_more HG.out (grown_set _ _ _ _)) (grown_set _ _ _ _)) (grown_set _ _ _ _)⟩
theorem roam_any (W : World) (B : Nat) (p : Wn) (x : Int) : Calls Tryz.prog 224 #[sP B, wnV p, .int .i64 x] W fun e w' => e = .returned (.int .i64 p.s) ∧ Below W.heap.size W w' := by
  obtain ⟨c0, c1, c2⟩ := three_cells (Blk.new W (wnC p) 260)
  go_enter Tryz.func224, Tryz.ntmps224
  go_wp2
  go_ret
  exact ⟨rfl, below_alloc _ _⟩
theorem approach_any (W : World) (B : Nat) (p : Wn) (x ac : Int) (hc : W.cell? ⟨B, 0, none⟩ = some (.int .i64 ac)) (hl : B < W.heap.size) (hp : WOk p) (hx : I64 x) (ha : I64 ac) : Calls Tryz.prog 225 #[sP B, wnV p, .int .i64 x] W fun e w' => e = .returned (.int .i64 (lawS (sat (p.a - x)) p.s ac)) ∧ Below W.heap.size W w' := by
  have SU := hide (fun w => sub_any p.a x w hp.a hx)
  have LA := hide (fun w => law_any (sat (p.a - x)) p.s ac w (sat_in _) hp.s ha)
  generalize lawS (sat (p.a - x)) p.s ac = z at *
  generalize sat (p.a - x) = y at *
  have Hb := hide (below_alloc W (.cells (wnC p) 260))
  have c0 : (W.alloc (.cells (wnC p) 260)).cell? ⟨B, 0, none⟩ = some (.int .i64 ac) := (Hb.out.cell (p := ⟨B, 0, none⟩) hl).trans hc
  obtain ⟨d0, d1, d2⟩ := three_cells (Blk.new W (wnC p) 260)
  clear hc hp hx ha
  go_enter Tryz.func225, Tryz.ntmps225
  go_upto_region 1 with fail
  generalize W.alloc (.cells (wnC p) 260) = W1 at *
  generalize hd : W.heap.size = d at *
  go_quiet (first
    | (go_at_call 172; exact Calls.quiet_of_same (SU.out _))
    | (go_at_call 314; exact Calls.quiet_of_same (LA.out _)))
  go_wp2_with fail
  go_ret
  exact ⟨rfl, by rw [hd]; exact below_drewN Hb.out _⟩
end Go.Proofs.YtapfaaaepnplcaaGreatDoor
set_option maxRecDepth 100000
set_option maxHeartbeats 1000000
namespace Go.Proofs.YtapfaaaepnplcaaGreatDoor
open Go.RowKit Go.Great
theorem five_boxes (w : World) (A B C D E : Array Value) (t u v x y : TypeId) : ∃ W0, ((((w.alloc (.cells A t)).alloc (.cells B u)).alloc (.cells C v)).alloc (.cells D x)).alloc (.cells E y) = W0 ∧ Below w.heap.size w W0 ∧ Blk W0 w.heap.size A t ∧ Blk W0 (w.heap.size + 1) B u ∧ Blk W0 (w.heap.size + 1 + 1) C v ∧ Blk W0 (w.heap.size + 1 + 1 + 1) D x ∧ Blk W0 (w.heap.size + 1 + 1 + 1 + 1) E y ∧ W0.heap.size = w.heap.size + 5 := by
  obtain ⟨W0, h0, b0, hA, hB, hC, hz⟩ := three_boxes w A B C t u v
  obtain ⟨W1, h1, b1, hD, hE, hy⟩ := two_boxes W0 D E x y
  rw [h0, h1]
  refine ⟨W1, rfl, below_next b0 (Nat.le_refl _) b1, hA.after b1, hB.after b1, hC.after b1, ?_, ?_, by omega⟩
  · rw [hz] at hD; exact hD
  · rw [hz] at hE; exact hE
/-- Accel of a list of parameters -/
abbrev acc (l : List Int) : Int := l.getD 6 0
theorem newS_no (w : World) (l : List Int) (v : Value) (hv : Ints w v l) (hc : chk l ≠ 0) : Calls Tryz.prog 101 #[v] w fun e w' => e = .returned (.tuple #[.pointer none, .int .i64 (chk l)]) ∧ Below w.heap.size w w' := by
  have CH := hide (check_any l v w hv)
  have hne : (chk l != 0) = true := by simp [hc]
  obtain ⟨a, cap, rfl, _⟩ := hv
  generalize l.length = n at *
  generalize chk l = c at *
  go_enter Tryz.func101, Tryz.ntmps101
  go_wp2_with (go_at_call 163; refine CH.out.mono ?_; rintro e w1 ⟨rfl, hb1⟩)
  go_ret2
  exact ⟨rfl, hb1⟩
theorem newS_any (w : World) (l : List Int) (v : Value) (hv : Ints w v l) (hs : Sound l) : Calls Tryz.prog 101 #[v] w fun e w' => ∃ B, e = .returned (.tuple #[sP B, .int .i64 0]) ∧ Str w' B (acc l) 0 0 0 ∧ Below w.heap.size w w' ∧ w.heap.size ≤ B := by
  have CH := hide (check_any l v w hv)
  rw [hs.chk] at CH
  obtain ⟨g, o, cap, rfl, hg, hc⟩ := hv.open24 hs.len
  have h6 := hc 6 (by omega)
  have HC : Hid (w.cell? ⟨g, o + 6, none⟩ = some (.int .i64 (acc l))) := hide h6
  generalize acc l = ac at *
  clear hv hc h6
  go_enter Tryz.func101, Tryz.ntmps101
  go_upto_region 4 with (go_at_call 163; refine CH.out.mono ?_; rintro e w1 ⟨rfl, hb1⟩)
  have c6 : w1.cell? ⟨g, o + 6, none⟩ = some (.int .i64 ac) := (hb1.cell (p := ⟨g, o + 6, none⟩) hg).trans HC.out
  have HB1 := hide hb1
  clear hb1 CH HC
  go_wp2_with fail
  go_ret2
  exact ⟨w1.heap.size, rfl, Blk.new _ _ _, below_next HB1.out (Nat.le_refl _) (below_alloc _ _), HB1.out.size⟩
theorem step_nil_Co3 (p q r : Wn) (a b c d e f : Int) (w : World) : Calls Tryz.prog 131 #[.pointer none, wsV p q r, tV a b c, tV d e f] w fun e w' => e = .returned (tV 0 0 0) ∧ Below w.heap.size w w' := by
  obtain ⟨W0, hW0, b0, _, _, _, hR, hA, z0⟩ := five_boxes w (wsC p q r) (tC a b c) (tC d e f) (tC 0 0 0) (tC 0 0 0) 261 63 63 63 63
  have Hb := hide b0
  have HR := hide hR
  obtain ⟨r0, r1, r2⟩ := three_cells hR
  obtain ⟨a0, a1, a2⟩ := three_cells hA
  have f0 := hR.frozen 0
  have f1 := hR.frozen 1
  have f2 := hR.frozen 2
  clear hR hA b0
  go_enter Tryz.func131, Tryz.ntmps131
  go_wp2
  exact bodyPost_ret (t_back (p := 8) (by kernel_rfl) _ _ (w.heap.size + 1 + 1 + 1) _ _ _ rfl (HR.out.set3 _ _ _)) rfl ⟨rfl, below_set3_Co2 Hb.out _ _ _ _ (by omega) Hb.out.size⟩
end Go.Proofs.YtapfaaaepnplcaaGreatDoor
