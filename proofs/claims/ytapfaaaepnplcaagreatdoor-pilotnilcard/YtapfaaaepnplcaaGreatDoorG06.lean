/- Gn0, Qc, Gn3, Gn4, MoM, Mo1, Gr1. -/
import Derived.Test.YtapfaaaepnplcaaGreatDoorG04
import Derived.Deep.DeepCutAuto
import Derived.Test.YtapfaaaepnplcaaGreatDoorG05
set_option maxRecDepth 100000
namespace Go.Proofs.YtapfaaaepnplcaaGreatDoor
open Go.RowKit Go.Great
theorem res_one {fn : Func} {p : Tmp} {ty : TypeId} (h : fn.results = #[.cell p ty]) (tmps : Array Value) (P : Program) (w : World) :
    (results fn tmps).run P w = ((asAddr (tmps.getD p undef)).run P w).andThen fun a w₁ => (loadVar ty a).run P w₁ := by
  simp only [results, h]
  simp [Sem.run_bind, Result.andThen]
/-- one result, out of its variable's block -/
theorem res_back {fn : Func} {p : Tmp} {ty : TypeId} {fs : Array Field} (h : fn.results = #[.cell p ty]) (hu : Tryz.prog.underlying ty = some (.struct fs)) {cs : Array Value} (hz : (Tryz.prog.info? ty).map (·.size) = some cs.size) (tmps : Array Value) (w : World) (g : Nat) (hp : tmps.getD p undef = .pointer (some ⟨g, 0, none⟩)) (hg : Blk w g cs ty) : (results fn tmps).run Tryz.prog w = .ok (.agg cs) w := by
  rw [res_one h]
  have := run_loadVar_row (P := Tryz.prog) w g ty ty cs (0, 0) _ hg hu rfl hz
  rw [hp]
  simp [asAddr, this, Result.andThen]
/-- two results, the first one out of its variable's block -/
theorem res_back2 {fn : Func} {p u : Tmp} {ty : TypeId} {fs : Array Field} (h : fn.results = #[.cell p ty, .tmp u]) (hu : Tryz.prog.underlying ty = some (.struct fs)) {cs : Array Value} (hz : (Tryz.prog.info? ty).map (·.size) = some cs.size) (tmps : Array Value) (w : World) (g : Nat) (b : Value) (hp : tmps.getD p undef = .pointer (some ⟨g, 0, none⟩)) (hq : tmps.getD u undef = b) (hg : Blk w g cs ty) : (results fn tmps).run Tryz.prog w = .ok (.tuple #[.agg cs, b]) w := by
  rw [results_cell_tmp h]
  have := run_loadVar_row (P := Tryz.prog) w g ty ty cs (0, 0) _ hg hu rfl hz
  rw [hp, hq]
  simp [asAddr, this, Result.andThen]
/-- the others are quiet in a class of worlds, then the last one -/
theorem reg_last_in {P : Program} {Q : Exit → Act → World → Prop} {id : Nat} {a : Act} {w : World} {l : List Oper} (C : World → Prop) (n : Nat) (hl : l.take n ++ (l.drop n).take 1 = l) (hlen : (l.take n).length = n) (o : Oper) (ho : (l.drop n).take 1 = [o]) (hm : P.follows .mixedOrders = true) (hB : Region.lexB .any (l.take n).toArray = true) (hp0 : plainB2 .any (l.take n) o = true) (hC : C w.drew)
    (h : wpQuiet P (l.take n).toArray C (fun a' => ∀ w', C w' → o.wp P a' w' (fun a'' w'' => Q .normal a'' w'') Q) (l.take n) a) : (Code.region id l.toArray true).wp P Q a w := by
  have hp := plain_of2 hp0
  rw [ho] at hl
  simp only [Region.lexB, Bool.and_eq_true] at hB
  refine wp_region_any hm ?_
  have h1 := wpAnyQ_lex (C := C) (md := .any) hB.1 (l.take n) 0 (Array.replicate (l.take n).length false) a (by simp) (by simpa using hB.2) h
  have h2 := wpAny_of_quiet (P := P) (md := .any) (ops := (l.take n).toArray) (C := C) (Q := fun a' => ∀ w', C w' → o.wp P a' w' (fun a'' w'' => Q .normal a'' w'') Q) (Q' := thenLast2 P o Q) (fun a' w' hw' h => h w' hw') _ _ a w.drew hC h1
  have h3 := any_last2 hp _ _ a w.drew (by simp) (closed_none2 _) h2
  have hsz : l.length = n + 1 := by
    have := congrArg List.length hl
    rw [List.length_append, hlen] at this
    simpa using this.symm
  rw [hl] at h3
  have e1 : (Array.replicate (l.take n).length false).push false = Array.replicate l.toArray.size false := by
    rw [hlen, List.size_toArray, hsz, Array.replicate_succ]
  rw [e1, hlen] at h3
  rw [show l.toArray.size = n + 1 by simp [hsz]] at h3 ⊢
  exact h3
/-- the others only lay memory, then the last one -/
theorem reg_last_calm {P : Program} {Q : Exit → Act → World → Prop} {id : Nat} {a : Act} {w : World} {l : List Oper} (n : Nat) (hl : l.take n ++ (l.drop n).take 1 = l) (hlen : (l.take n).length = n) (o : Oper) (ho : (l.drop n).take 1 = [o]) (hm : P.follows .mixedOrders = true) (hB : Region.lexB .any (l.take n).toArray = true) (hp0 : plainB2 .any (l.take n) o = true)
    (h : wpQuiet P (l.take n).toArray (fun w' => ∃ x : BelowW w, w' = x.q) (fun a' => ∀ w', (∃ x : BelowW w, w' = x.q) → o.wp P a' w' (fun a'' w'' => Q .normal a'' w'') Q) (l.take n) a) : (Code.region id l.toArray true).wp P Q a w :=
  reg_last_in (fun w' => ∃ x : BelowW w, w' = x.q) n hl hlen o ho hm hB hp0 ⟨⟨w.drew, (Below.refl _ _).drew⟩, rfl⟩ h
/-- the others only read, then the last one -/
theorem reg_last {P : Program} {Q : Exit → Act → World → Prop} {id : Nat} {a : Act} {w : World} {l : List Oper} (n : Nat) (hl : l.take n ++ (l.drop n).take 1 = l) (hlen : (l.take n).length = n) (o : Oper) (ho : (l.drop n).take 1 = [o]) (hm : P.follows .mixedOrders = true) (hB : Region.lexB .any (l.take n).toArray = true) (hp0 : plainB2 .any (l.take n) o = true)
    (h : wpQuiet P (l.take n).toArray (fun w' => ∃ k, w' = w.drewN k) (fun a' => ∀ k, o.wp P a' (w.drewN k) (fun a'' w'' => Q .normal a'' w'') Q) (l.take n) a) : (Code.region id l.toArray true).wp P Q a w := by
  refine reg_last_in (fun w' => ∃ k, w' = w.drewN k) n hl hlen o ho hm hB hp0 ⟨1, rfl⟩ ?_
  have e : (fun a' => ∀ w', (∃ k, w' = w.drewN k) → o.wp P a' w' (fun a'' w'' => Q .normal a'' w'') Q) = (fun a' => ∀ k, o.wp P a' (w.drewN k) (fun a'' w'' => Q .normal a'' w'') Q) := by
    funext a'
    exact propext ⟨fun h k => h _ ⟨k, rfl⟩, fun h w' ⟨k, hk⟩ => by rw [hk]; exact h k⟩
  rw [e]
  exact h
/-- the others while S is held, then the last one, behind which nothing need be held -/
theorem reg_last_held {P : Program} {Q : Exit → Act → World → Prop} {id : Nat} {a : Act} {w : World} {l : List Oper} (S : World → Prop) (n : Nat) (hl : l.take n ++ (l.drop n).take 1 = l) (hlen : (l.take n).length = n) (o : Oper) (ho : (l.drop n).take 1 = [o]) (hm : P.follows .mixedOrders = true) (hp0 : plainB2 .any (l.take n) o = true) (hS : S w.drew)
    (h : S w.drew → wpAnyH P .any (l.take n).toArray (thenLast2 P o Q) S n (Array.replicate n false) a w.drew) : (Code.region id l.toArray true).wp P Q a w := by
  have hp := plain_of2 hp0
  rw [ho] at hl
  refine wp_region_any hm ?_
  have h3 := any_last2 hp _ _ a w.drew (by simp [hlen]) (closed_none2 _) (wpAny_of_held _ _ _ _ (h hS))
  have hsz : l.length = n + 1 := by
    have := congrArg List.length hl
    rw [List.length_append, hlen] at this
    simpa using this.symm
  rw [hl] at h3
  have e1 : (Array.replicate n false).push false = Array.replicate l.toArray.size false := by
    rw [List.size_toArray, hsz, Array.replicate_succ]
  rw [e1] at h3
  rw [show l.toArray.size = n + 1 by simp [hsz]] at h3 ⊢
  exact h3
theorem then_last {P : Program} {o : Oper} {Q : Exit → Act → World → Prop} {a : Act} {w : World} (h : o.wp P a w (fun a' w' => Q .normal a' w') Q) : thenLast2 P o Q .normal a w := h
/-- from here on more may be held -/
theorem held_more {P : Program} {md : Region.Mode} {ops : Array Oper} {Q : Exit → Act → World → Prop} {S S' : World → Prop} (hs : ∀ w, S' w → S w) : ∀ (fuel : Nat) (listed : Array Bool) (a : Act) (w : World), wpAnyH P md ops Q S' fuel listed a w → wpAnyH P md ops Q S fuel listed a w
  | 0, _, _, _, h => h
  | fuel + 1, _, _, _, h => ⟨h.1, fun i hi => wpOp_mono (fun a' w' h' => ⟨hs _ h'.1, held_more hs fuel _ a' w' h'.2⟩) (h.2 i hi)⟩
theorem blk_drewN {W : World} {B : Nat} {cs : Array Value} {t : TypeId} (h : Blk W B cs t) (k : Nat) : Blk (W.drewN k) B cs t := by
  induction k with
  | zero => exact h
  | succ k ih => exact ih
theorem blk_drew {W : World} {B : Nat} {cs : Array Value} {t : TypeId} (h : Blk W B cs t) : Blk W.drew B cs t := h
theorem grown_drewNN {w w1 : World} {row : Option Nat} (h : w.grownBy w1 row) (n : Nat) : w.grownBy (w1.drewN n) row := by
  induction n with
  | zero => exact h
  | succ n ih => exact ⟨ih.os, ih.tape, ih.output, ih.size, ih.block⟩
theorem grown_drew1 {w w1 : World} {row : Option Nat} (h : w.grownBy w1 row) : w.grownBy w1.drew row := ⟨h.os, h.tape, h.output, h.size, h.block⟩
/-- what a call has changed: its own block, and new ones -/
theorem below_grown {w w1 w2 : World} {row : Option Nat} (h1 : Below w.heap.size w w1) (h2 : w1.grownBy w2 row) (hr : ∀ k, row = some k → w.heap.size ≤ k) : Below w.heap.size w w2 := h1.grown h2 h1.size hr
theorem grown_more {w w1 w2 : World} {B : Nat} (h1 : w.grownBy w1 (some B)) (h2 : w1.grownBy w2 (some B)) : w.grownBy w2 (some B) := grown_then h1 h2 (fun k e => .inl (by injection e with e; exact e.symm))
theorem grown_after {w w1 w2 : World} {B : Nat} (h1 : w.grownBy w1 (some B)) (h2 : Below w1.heap.size w1 w2) : w.grownBy w2 (some B) := grown_then h1 (grown_below h2 none) (fun _ e => by cases e)
end Go.Proofs.YtapfaaaepnplcaaGreatDoor
set_option maxRecDepth 100000
set_option maxHeartbeats 2000000
namespace Go.Proofs.YtapfaaaepnplcaaGreatDoor
open Go.RowKit Go.Great
abbrev pt (g : Nat) : Value := .pointer (some ⟨g, 0, none⟩)
/-- a filter's, a compass's cells, who know nothing -/
def fE (s : Int) : Array Value := #[.int .i64 s, .bool false, .int .i64 0, .int .i64 0, .int .i64 0, .int .i64 0, .int .i64 0, .int .i64 0, .int .i64 0]
def cE (s : Int) : Array Value := #[.int .i64 s, .bool false, .int .i64 0, .int .i64 0, .int .i64 0, .int .i64 0]
abbrev FilE (w : World) (B : Nat) (s : Int) : Prop := Blk w B (fE s) 169
abbrev ComE (w : World) (B : Nat) (s : Int) : Prop := Blk w B (cE s) 305
/-- a measure -/
abbrev meV (o : Bool) (x e : Int) : Value := .agg #[.bool o, .int .i64 x, .int .i64 e]
theorem thereE (x e : Int) (w : World) : Calls Tryz.prog 346 #[meV false x e] w fun e w' => e = .returned (.bool false) ∧ Below w.heap.size w w' := by
  go_enter Tryz.func346, Tryz.ntmps346
  go_wp2
  all_goals go_ret
  all_goals exact ⟨rfl, below_alloc _ _⟩
theorem beginFE (w : World) (B : Nat) (x e : Int) (o' : Bool) (x' e' : Int) : Calls Tryz.prog 287 #[pt B, meV false x e, meV o' x' e'] w fun e w' => e = .returned (.tuple #[]) ∧ Below w.heap.size w w' := by
  obtain ⟨W0, hW0, b0, P0, V0, hz0⟩ := two_boxes w #[.bool false, .int .i64 x, .int .i64 e] #[.bool o', .int .i64 x', .int .i64 e'] 345 345
  have TP := hide (thereE x e)
  have HB := hide b0
  have a0 : W0.cell? ⟨w.heap.size, 0, none⟩ = some (.bool false) := P0.cell 0 rfl
  have a1 : W0.cell? ⟨w.heap.size, 1, none⟩ = some (.int .i64 x) := P0.cell 1 rfl
  have a2 : W0.cell? ⟨w.heap.size, 2, none⟩ = some (.int .i64 e) := P0.cell 2 rfl
  clear b0 P0 V0
  go_enter Tryz.func287, Tryz.ntmps287
  go_wp2_with fail
  refine (TP.out _).mono ?_
  rintro e w1 ⟨rfl, hb1⟩
  go_wp2_with fail
  go_end0
  exact ⟨rfl, below_next HB.out (Nat.le_refl _) hb1⟩
theorem stepFE (w : World) (B : Nat) (s ac dv : Int) (st : Bool) (x e : Int) (o' : Bool) (x' e' : Int) (hB : FilE w B s) : Calls Tryz.prog 198 #[pt B, .int .i64 ac, .int .i64 dv, .bool st, meV false x e, meV o' x' e'] w fun e w' => e = .returned (.tuple #[]) ∧ Below w.heap.size w w' := by
  obtain ⟨W0, hW0, b0, P0, V0, hz0⟩ := two_boxes w #[.bool false, .int .i64 x, .int .i64 e] #[.bool o', .int .i64 x', .int .i64 e'] 345 345
  have hkn : W0.cell? ⟨B, 1, none⟩ = some (.bool false) := (hB.after b0).cell 1 rfl
  have HB := hide b0
  have BG := hide (fun W => beginFE W B x e o' x' e')
  have a0 : W0.cell? ⟨w.heap.size, 0, none⟩ = some (.bool false) := P0.cell 0 rfl
  have a1 : W0.cell? ⟨w.heap.size, 1, none⟩ = some (.int .i64 x) := P0.cell 1 rfl
  have a2 : W0.cell? ⟨w.heap.size, 2, none⟩ = some (.int .i64 e) := P0.cell 2 rfl
  have d0 : W0.cell? ⟨w.heap.size + 1, 0, none⟩ = some (.bool o') := V0.cell 0 rfl
  have d1 : W0.cell? ⟨w.heap.size + 1, 1, none⟩ = some (.int .i64 x') := V0.cell 1 rfl
  have d2 : W0.cell? ⟨w.heap.size + 1, 2, none⟩ = some (.int .i64 e') := V0.cell 2 rfl
  clear b0 P0 V0 hB
  go_enter Tryz.func198, Tryz.ntmps198
  go_wp2_with (go_at_call 287; refine (BG.out _).mono ?_; rintro e w1 ⟨rfl, hb1⟩)
  refine bodyPost_ret (results_none rfl _ _ _) rfl ?_
  exact ⟨rfl, below_next HB.out (Nat.le_refl _) hb1⟩
abbrev axV (a b c d : Int) : Value := .agg #[.int .i64 a, .int .i64 b, .int .i64 c, .int .i64 d]
theorem axis_bk {fn : Func} {p : Tmp} (h : fn.results = #[.cell p 43]) (tmps : Array Value) (w : World) (g : Nat) (x y z u : Value) (hp : tmps.getD p undef = .pointer (some ⟨g, 0, none⟩)) (hg : Blk w g #[x, y, z, u] 43) : (results fn tmps).run Tryz.prog w = .ok (.agg #[x, y, z, u]) w :=
  res_back h Tryz.underlying43 (by kernel_rfl) tmps w g hp hg
theorem axisE (w : World) (B : Nat) (s : Int) (hB : FilE w B s) : Calls Tryz.prog 28 #[pt B] w fun e w' => e = .returned (axV 0 0 0 0) ∧ Below w.heap.size w w' := by
  have c4 : w.cell? ⟨B, 4, none⟩ = some (.int .i64 0) := hB.cell 4 rfl
  have c5 : w.cell? ⟨B, 5, none⟩ = some (.int .i64 0) := hB.cell 5 rfl
  have c6 : w.cell? ⟨B, 6, none⟩ = some (.int .i64 0) := hB.cell 6 rfl
  have c7 : w.cell? ⟨B, 7, none⟩ = some (.int .i64 0) := hB.cell 7 rfl
  have hl := hB.lt
  clear hB
  go_enter Tryz.func28, Tryz.ntmps28
  go_wp2_with fail
  exact bodyPost_ret (axis_bk (p := 2) (by kernel_rfl) _ _ w.heap.size _ _ _ _ rfl (Blk.new _ _ _)) rfl ⟨rfl, below_alloc _ _⟩
theorem middleE (w : World) (B : Nat) (s : Int) (hB : FilE w B s) : Calls Tryz.prog 203 #[pt B] w fun e w' => e = .returned (.tuple #[.int .i64 0, .int .i64 0]) ∧ Below w.heap.size w w' := by
  have HA := hide (axisE w B s hB)
  have I1 := hide (fun w => middle_any 0 0 w (by unfold I64; omega) (by unfold I64; omega))
  clear hB
  go_enter Tryz.func203, Tryz.ntmps203
  go_upto_region 2 with (go_at_call 28; refine HA.out.mono ?_; rintro e w1 ⟨rfl, hb1⟩)
  have HX := hide (Blk.new w1 #[.int .i64 0, .int .i64 0, .int .i64 0, .int .i64 0] 43)
  have Hb := hide (below_next hb1 (Nat.le_refl _) (below_alloc w1 (.cells #[.int .i64 0, .int .i64 0, .int .i64 0, .int .i64 0] 43)))
  clear hb1
  generalize w1.heap.size = g at *
  generalize w1.alloc (.cells #[.int .i64 0, .int .i64 0, .int .i64 0, .int .i64 0] 43) = W1 at *
  have c0 : W1.cell? ⟨g, 0, none⟩ = some (.int .i64 0) := HX.out.cell 0 rfl
  have c1 : W1.cell? ⟨g, 1, none⟩ = some (.int .i64 0) := HX.out.cell 1 rfl
  have c2 : W1.cell? ⟨g, 2, none⟩ = some (.int .i64 0) := HX.out.cell 2 rfl
  have c3 : W1.cell? ⟨g, 3, none⟩ = some (.int .i64 0) := HX.out.cell 3 rfl
  go_quiet ((go_at_call 298; exact Calls.quiet_of_same (I1.out _)))
  go_wp2_with fail
  go_ret2
  exact ⟨rfl, below_drewN Hb.out nq⟩
theorem freshE (w : World) (B : Nat) (cs : Array Value) (tt : TypeId) (hB : Blk w B cs tt) (h1 : cs[1]? = some (.bool false)) : Calls Tryz.prog 234 #[pt B] w fun e w' => e = .returned (.bool false) ∧ ∃ k, w' = w.drewN k := by
  have c1 := hB.cell 1 h1
  clear hB h1
  go_enter Tryz.func234, Tryz.ntmps234
  go_wp2_with fail
  go_quiet (fail)
  go_wp2_with fail
  go_ret
  exact ⟨rfl, nq, rfl⟩
theorem goodE (w : World) (B : Nat) (s : Int) (hB : FilE w B s) : Calls Tryz.prog 299 #[pt B] w fun e w' => e = .returned (.bool false) ∧ Below w.heap.size w w' := by
  have FR := hide (freshE w B _ _ hB rfl)
  clear hB
  go_enter Tryz.func299, Tryz.ntmps299
  go_wp2_with (go_at_call 234; refine FR.out.mono ?_; rintro e w1 ⟨rfl, k, rfl⟩)
  go_ret
  exact ⟨rfl, below_drewN (Below.refl _ _) k⟩
theorem newFE (w : World) (s : Int) (hs : 1 ≤ s) : Calls Tryz.prog 98 #[.int .i64 s] w fun e w' => ∃ B, e = .returned (.tuple #[pt B, .int .i64 0]) ∧ FilE w' B s ∧ Below w.heap.size w w' ∧ w.heap.size ≤ B := by
  have h1 : ¬ s < 1 := by omega
  go_enter Tryz.func98, Tryz.ntmps98
  go_wp2_with fail
  go_ret2
  exact ⟨w.heap.size, rfl, Blk.new _ _ _, below_alloc _ _, Nat.le_refl _⟩
theorem newCE (w : World) (s : Int) (hs : 1 ≤ s) : Calls Tryz.prog 99 #[.int .i64 s] w fun e w' => ∃ B, e = .returned (.tuple #[pt B, .int .i64 0]) ∧ ComE w' B s ∧ Below w.heap.size w w' ∧ w.heap.size ≤ B := by
  have h1 : ¬ s < 1 := by omega
  go_enter Tryz.func99, Tryz.ntmps99
  go_wp2_with fail
  go_ret2
  exact ⟨w.heap.size, rfl, Blk.new _ _ _, below_alloc _ _, Nat.le_refl _⟩
theorem beginCE (w : World) (B : Nat) (x e : Int) : Calls Tryz.prog 295 #[pt B, meV false x e] w fun e w' => e = .returned (.tuple #[]) ∧ Below w.heap.size w w' := by
  have TH := hide (thereE x e)
  obtain ⟨W0, hW0⟩ : ∃ W0, w.alloc (.cells #[.bool false, .int .i64 x, .int .i64 e] 345) = W0 := ⟨_, rfl⟩
  have HM0 : Hid (Blk W0 w.heap.size #[.bool false, .int .i64 x, .int .i64 e] 345) := hide (by rw [← hW0]; exact Blk.new _ _ _)
  have HB : Hid (Below w.heap.size w W0) := hide (by rw [← hW0]; exact below_alloc _ _)
  have c0 : W0.cell? ⟨w.heap.size, 0, none⟩ = some (.bool false) := HM0.out.cell 0 rfl
  have c1 : W0.cell? ⟨w.heap.size, 1, none⟩ = some (.int .i64 x) := HM0.out.cell 1 rfl
  have c2 : W0.cell? ⟨w.heap.size, 2, none⟩ = some (.int .i64 e) := HM0.out.cell 2 rfl
  go_enter Tryz.func295, Tryz.ntmps295
  go_wp2_with (go_at_call 346; refine (TH.out _).mono ?_; rintro e w1 ⟨rfl, hb1⟩)
  go_end0
  exact ⟨rfl, below_next HB.out (Nat.le_refl _) hb1⟩
theorem stepCE (w : World) (B : Nat) (s : Int) (o : Bool) (x e x' e' : Int) (hB : ComE w B s) : Calls Tryz.prog 201 #[pt B, meV o x e, meV false x' e'] w fun e w' => e = .returned (.tuple #[]) ∧ Below w.heap.size w w' := by
  obtain ⟨W0, hW0, b0, P0, V0, hz0⟩ := two_boxes w #[.bool o, .int .i64 x, .int .i64 e] #[.bool false, .int .i64 x', .int .i64 e'] 345 345
  have hkn : W0.cell? ⟨B, 1, none⟩ = some (.bool false) := (hB.after b0).cell 1 rfl
  have HB := hide b0
  have BG := hide (fun W => beginCE W B x' e')
  have a0 : W0.cell? ⟨w.heap.size, 0, none⟩ = some (.bool o) := P0.cell 0 rfl
  have a1 : W0.cell? ⟨w.heap.size, 1, none⟩ = some (.int .i64 x) := P0.cell 1 rfl
  have a2 : W0.cell? ⟨w.heap.size, 2, none⟩ = some (.int .i64 e) := P0.cell 2 rfl
  have d0 : W0.cell? ⟨w.heap.size + 1, 0, none⟩ = some (.bool false) := V0.cell 0 rfl
  have d1 : W0.cell? ⟨w.heap.size + 1, 1, none⟩ = some (.int .i64 x') := V0.cell 1 rfl
  have d2 : W0.cell? ⟨w.heap.size + 1, 2, none⟩ = some (.int .i64 e') := V0.cell 2 rfl
  clear b0 P0 V0 hB
  go_enter Tryz.func201, Tryz.ntmps201
  go_wp2_with (go_at_call 295; refine (BG.out _).mono ?_; rintro e w1 ⟨rfl, hb1⟩)
  refine bodyPost_ret (results_none rfl _ _ _) rfl ?_
  exact ⟨rfl, below_next HB.out (Nat.le_refl _) hb1⟩
theorem headingE (w : World) (B : Nat) (s : Int) (hB : ComE w B s) : Calls Tryz.prog 137 #[pt B] w fun e w' => e = .returned (.tuple #[.int .i64 0, .int .i64 0, .bool false]) ∧ Below w.heap.size w w' := by
  have FQ : Hid (∀ k, Calls Tryz.prog 234 #[pt B] (w.drewN k) fun e w' => e = .returned (.bool false) ∧ ∃ k, w' = w.drewN k) := hide (fun k => (freshE (w.drewN k) B _ _ (hB.after (below_drewN (Below.refl _ _) k)) rfl).mono fun e w' ⟨h1, k2, h2⟩ => ⟨h1, k + k2, by rw [h2, drewN_drewN]⟩)
  have c4 : w.cell? ⟨B, 4, none⟩ = some (.int .i64 0) := hB.cell 4 rfl
  have c5 : w.cell? ⟨B, 5, none⟩ = some (.int .i64 0) := hB.cell 5 rfl
  clear hB
  go_enter Tryz.func137, Tryz.ntmps137
  go_wp2_with fail
  go_quiet ((go_at_call 234; exact FQ.out _))
  go_wp2_with fail
  (try simp only [Exit.inBlock, Exit.then])
  go_ret3
  exact ⟨rfl, below_drewN (Below.refl _ _) nq⟩
end Go.Proofs.YtapfaaaepnplcaaGreatDoor
set_option maxRecDepth 100000
namespace Go.Proofs.YtapfaaaepnplcaaGreatDoor
open Go.RowKit Go.Great
theorem rep_push (n : Nat) : (Array.replicate n false).push false = Array.replicate (n + 1) false := by rw [Array.replicate_succ]
/-- the others only read; then three operations, one behind the other -/
theorem reg_last3 {P : Program} {Q : Exit → Act → World → Prop} {id : Nat} {a : Act} {w : World} {l : List Oper} (n : Nat) (o1 o2 o3 : Oper) (hl : l.take n ++ [o1] ++ [o2] ++ [o3] = l) (hlen : (l.take n).length = n) (hm : P.follows .mixedOrders = true) (hB : Region.lexB .any (l.take n).toArray = true) (p1 : plainB2 .any (l.take n) o1 = true) (p2 : plainB2 .any (l.take n ++ [o1]) o2 = true) (p3 : plainB2 .any (l.take n ++ [o1] ++ [o2]) o3 = true)
    (h : wpQuiet P (l.take n).toArray (fun w' => ∃ k, w' = w.drewN k) (fun a' => ∀ k, o1.wp P a' (w.drewN k) (fun a1 w1 => o2.wp P a1 w1 (fun a2 w2 => o3.wp P a2 w2 (fun a3 w3 => Q .normal a3 w3) Q) (thenLast2 P o3 Q)) (thenLast2 P o2 (thenLast2 P o3 Q))) (l.take n) a) : (Code.region id l.toArray true).wp P Q a w := by
  have q1 := plain_of2 p1
  have q2 := plain_of2 p2
  have q3 := plain_of2 p3
  simp only [Region.lexB, Bool.and_eq_true] at hB
  refine wp_region_any hm ?_
  have h1 := wpAnyQ_lex (C := fun w' => ∃ k, w' = w.drewN k) (md := .any) hB.1 (l.take n) 0 (Array.replicate (l.take n).length false) a (by simp) (by simpa using hB.2) h
  have h2 := wpAny_of_quiet (P := P) (md := .any) (ops := (l.take n).toArray) (C := fun w' => ∃ k, w' = w.drewN k) (Q := fun a' => ∀ k, o1.wp P a' (w.drewN k) (fun a1 w1 => o2.wp P a1 w1 (fun a2 w2 => o3.wp P a2 w2 (fun a3 w3 => Q .normal a3 w3) Q) (thenLast2 P o3 Q)) (thenLast2 P o2 (thenLast2 P o3 Q))) (Q' := thenLast2 P o1 (thenLast2 P o2 (thenLast2 P o3 Q))) (fun a' w' ⟨k, hk⟩ h => by rw [hk]; exact h k) _ _ a w.drew ⟨1, rfl⟩ h1
  have h3 := any_last2 q1 _ _ a w.drew (by simp) (closed_none2 _) h2
  rw [hlen, rep_push] at h3
  have h4 := any_last2 q2 _ _ a w.drew (by simp [hlen]) (closed_none2 _) h3
  rw [rep_push] at h4
  have h5 := any_last2 q3 _ _ a w.drew (by simp [hlen]) (closed_none2 _) h4
  rw [rep_push] at h5
  have hsz : l.length = n + 1 + 1 + 1 := by
    have := congrArg List.length hl
    simp only [List.length_append, List.length_singleton, hlen] at this
    omega
  rw [hl] at h5
  rw [show l.toArray.size = n + 1 + 1 + 1 by simp [hsz]]
  exact h5
/-- cells that were laid anew, room behind them -/
theorem owns_fresh {w : World} {base n c size : Nat} {e : TypeId} (xs : List Value) (z : Array Value) (hl : xs.length = n * size) (hz : z.size = size) (hn : n ≤ c) (hc : c ≤ maxLen) (hb : base ≤ w.heap.size) : (w.alloc (.cells (xs.toArray ++ Builtin.zeroCells z (c - n)) e)).ownsRow base e size (.slice (some ⟨w.heap.size, 0, none⟩) n c) n xs := by
  have h1 : (xs.toArray ++ Builtin.zeroCells z (c - n)).size = c * size := by
    have h2 : n * size + (c - n) * size = c * size := by rw [← Nat.add_mul, Nat.add_sub_cancel' hn]
    rw [Array.size_append, size_zeroCells, List.size_toArray, hl, hz, h2]
  have h3 : (xs.toArray ++ Builtin.zeroCells z (c - n)).toList.take (n * size) = xs := by
    rw [Array.toList_append, ← hl]
    exact List.take_left
  exact ⟨hl, .inr ⟨w.heap.size, c, _, rfl, hb, Blk.new w _ e, hn, hc, h1, h3⟩⟩
/-- from 256 on a list grows by a quarter at most -/
theorem quarter (n : Nat) : 4 * Builtin.nextslicecap (n + 1) n ≤ 5 * (n + 1) + 1024 := by
  rcases Nat.eq_zero_or_pos n with rfl | h0
  · rw [nextslicecap_zero (by omega)]; omega
  · by_cases h : n < 256
    · have := nextslicecap_succ h0
      omega
    · unfold Builtin.nextslicecap
      simp only [growBy_four]
      repeat' split
      all_goals omega
/-- append of one element to a row of the call's own: its bytes may be more than the kit's law has, up to four fifths of all -/
theorem run_append_one {P : Program} (w : World) (t ty : TypeId)
    (base : Nat) (e : TypeId) (i : TypeInfo) (z : Value) (size bytes : Nat) (ht : P.underlying t = some (.slice e)) (hi : P.info? e = some i) (hz : i.zero = some z)
    (hsize : i.size = size) (hby : i.bytes = bytes) (hzs : z.cells.size = size) (hsz : 0 < size)
    (v : Value) (n : Nat) (xs : List Value) (hown : w.ownsRow base e size v n xs)
    (ad : Addr) (c : Nat) (news : List Value) (hl : news.length = size) (hnews : ∀ j u, news[j]? = some u → w.cell? (ad.add j) = some u) (h1 : ∀ u ∈ news, u.oneCell' = true)
    (hbytes : (n + 1) * (bytes * 5) + 1024 * bytes ≤ 1125899906842624) (hb0 : 1 ≤ bytes) (hbase : base ≤ w.heap.size) :
    ∃ v' w', (Builtin.append_ #[t, t] ty #[v, .slice (some ad) 1 c]).run P w = .ok v' w' ∧ w'.ownsRow base e size v' (n + 1) (xs ++ news) ∧ w.grownBy w' v.ownBlock := by
  have hnb : n + 1 ≤ 1125899906842624 := by
    have : (n + 1) * 1 ≤ (n + 1) * (bytes * 5) := Nat.mul_le_mul_left _ (by omega)
    omega
  have h63 : n + 1 ≤ maxLen := by unfold maxLen; omega
  have hl1 : news.length = 1 * size := by rw [hl, Nat.one_mul]
  by_cases hfull : ∃ g, v = .slice (some ⟨g, 0, none⟩) n n
  · obtain ⟨g, rfl⟩ := hfull
    have hq : Builtin.nextslicecap (n + 1) n * i.bytes ≤ 281474976710656 := by
      have h2 : 4 * Builtin.nextslicecap (n + 1) n * bytes ≤ (5 * (n + 1) + 1024) * bytes := Nat.mul_le_mul_right _ (quarter n)
      have h3 : (n + 1) * (bytes * 5) = 5 * (n + 1) * bytes := by rw [Nat.mul_comm bytes 5, ← Nat.mul_assoc, Nat.mul_comm (n + 1) 5]
      rw [Nat.add_mul, Nat.mul_assoc] at h2
      rw [hby]
      omega
    have hr := run_append_grow (P := P) w t ty e i z ht hi hz ⟨g, 0, none⟩ n n xs (by rw [hsize]; exact hown.1) (hown.cells (g := g) rfl) ad 1 c news (by rw [hsize]; exact hl1) hnews (by omega) (by omega) hq
    rw [show xs.toArray ++ news.toArray = (xs ++ news).toArray by simp] at hr
    have hlen : (xs ++ news).length = (n + 1) * size := by rw [List.length_append, hown.1, hl, Nat.succ_mul]
    exact ⟨_, _, hr, owns_fresh (w := w.drew) (xs ++ news) z.cells hlen hzs (grownCap_ge w (n + 1) n e) (grownCap_le_maxLen w (n + 1) n e h63) hbase, grown_below (below_undrew (below_alloc w.drew _)) _⟩
  · rcases hown.2 with ⟨rfl, rfl⟩ | ⟨g, cap, cur, rfl, _, _, hnc, _⟩
    · obtain ⟨v', w', hr, h2, h3, _⟩ := run_append_own (P := P) w base t ty e i z size bytes ht hi hz hsize hby hzs hsz (.slice none 0 0) 0 xs hown ad 1 c news hl1 hnews h1 h63 (by omega) hbase
      exact ⟨v', w', hr, h2, h3⟩
    · have hroom : n + 1 ≤ cap := by
        refine Decidable.byContradiction fun h => hfull ⟨g, ?_⟩
        rw [show cap = n by omega]
      obtain ⟨w', hr, h2, h3⟩ := run_append_fits (P := P) w base t ty e i size ht hi hsize g n cap xs hown ad 1 c news hl1 hnews h1 hroom
      exact ⟨_, w', hr, h2, h3⟩
end Go.Proofs.YtapfaaaepnplcaaGreatDoor
set_option maxRecDepth 100000
namespace Go.Proofs.YtapfaaaepnplcaaGreatDoor
open Go.RowKit Go.Great
/-- the others only read; then two operations, one behind the other -/
theorem reg_two {P : Program} {Q : Exit → Act → World → Prop} {id : Nat} {a : Act} {w : World} {l : List Oper} (n : Nat) (o1 o2 : Oper) (_g1 : (l.drop n).take 1 = [o1]) (_g2 : (l.drop (n + 1)).take 1 = [o2]) (hl : l.take n ++ [o1] ++ [o2] = l) (hlen : (l.take n).length = n) (hm : P.follows .mixedOrders = true) (hB : Region.lexB .any (l.take n).toArray = true) (p1 : plainB2 .any (l.take n) o1 = true) (p2 : plainB2 .any (l.take n ++ [o1]) o2 = true)
    (h : wpQuiet P (l.take n).toArray (fun w' => ∃ k, w' = w.drewN k) (fun a' => ∀ k, o1.wp P a' (w.drewN k) (fun a1 w1 => o2.wp P a1 w1 (fun a2 w2 => Q .normal a2 w2) Q) (thenLast2 P o2 Q)) (l.take n) a) : (Code.region id l.toArray true).wp P Q a w := by
  have q1 := plain_of2 p1
  have q2 := plain_of2 p2
  simp only [Region.lexB, Bool.and_eq_true] at hB
  refine wp_region_any hm ?_
  have h1 := wpAnyQ_lex (C := fun w' => ∃ k, w' = w.drewN k) (md := .any) hB.1 (l.take n) 0 (Array.replicate (l.take n).length false) a (by simp) (by simpa using hB.2) h
  have h2 := wpAny_of_quiet (P := P) (md := .any) (ops := (l.take n).toArray) (C := fun w' => ∃ k, w' = w.drewN k) (Q := fun a' => ∀ k, o1.wp P a' (w.drewN k) (fun a1 w1 => o2.wp P a1 w1 (fun a2 w2 => Q .normal a2 w2) Q) (thenLast2 P o2 Q)) (Q' := thenLast2 P o1 (thenLast2 P o2 Q)) (fun a' w' ⟨k, hk⟩ h => by rw [hk]; exact h k) _ _ a w.drew ⟨1, rfl⟩ h1
  have h3 := any_last2 q1 _ _ a w.drew (by simp) (closed_none2 _) h2
  rw [hlen, rep_push] at h3
  have h4 := any_last2 q2 _ _ a w.drew (by simp [hlen]) (closed_none2 _) h3
  rw [rep_push] at h4
  have hsz : l.length = n + 1 + 1 := by
    have := congrArg List.length hl
    simp only [List.length_append, List.length_singleton, hlen] at this
    omega
  rw [hl] at h4
  rw [show l.toArray.size = n + 1 + 1 by simp [hsz]]
  exact h4
end Go.Proofs.YtapfaaaepnplcaaGreatDoor
set_option maxRecDepth 100000
namespace Go.Proofs.YtapfaaaepnplcaaGreatDoor
open Go.RowKit Go.Great
/-- a row of the table: an event, from a mode to a last one, and where it leads -/
structure Rw where
  e : Int
  f : Int
  l : Int
  t : Int
def tabR : List Rw := [⟨0, 3, 11, 12⟩, ⟨1, 3, 11, 12⟩, ⟨2, 3, 11, 12⟩, ⟨3, 10, 11, 14⟩, ⟨3, 13, 13, 14⟩, ⟨4, 3, 7, 8⟩, ⟨5, 3, 7, 8⟩, ⟨6, 3, 3, 4⟩, ⟨6, 8, 8, 9⟩, ⟨6, 9, 9, 10⟩, ⟨6, 12, 12, 13⟩, ⟨7, 2, 2, 1⟩, ⟨8, 1, 1, 2⟩, ⟨9, 2, 2, 3⟩, ⟨10, 3, 3, 4⟩, ⟨10, 5, 11, 4⟩, ⟨11, 4, 4, 5⟩, ⟨11, 6, 11, 5⟩, ⟨12, 4, 5, 6⟩, ⟨12, 7, 11, 6⟩, ⟨13, 2, 2, 7⟩, ⟨13, 4, 6, 7⟩, ⟨14, 3, 7, 8⟩, ⟨14, 11, 11, 8⟩, ⟨15, 3, 10, 11⟩, ⟨16, 0, 0, 1⟩, ⟨16, 14, 14, 1⟩, ⟨17, 1, 1, 0⟩, ⟨17, 14, 14, 0⟩]
theorem tab_len : tabR.length = 29 := rfl
/-- does a row fit? -/
def fitR (r : Rw) (m e : Int) : Bool := decide (r.e = e) && (decide (r.f ≤ m) && decide (m ≤ r.l))
/-- the first row that fits -/
def nxL : List Rw → Int → Int → Int
  | [], m, _ => m
  | r :: l, m, e => if fitR r m e = true then r.t else nxL l m e
/-- the mode behind an event -/
def nx_MoM (m e : Int) : Int := nxL tabR m e
/-- is it a mode in the air? -/
def flyB (m : Int) : Bool := decide (3 ≤ m) && decide (m ≤ 13)
def armB (m : Int) : Bool := decide (2 ≤ m) && decide (m ≤ 13)
def rC (r : Rw) : List Value := [.int .i64 r.e, .int .u8 r.f, .int .u8 r.l, .int .u8 r.t]
end Go.Proofs.YtapfaaaepnplcaaGreatDoor
set_option maxRecDepth 100000
set_option maxHeartbeats 1000000
namespace Go.Proofs.YtapfaaaepnplcaaGreatDoor
open Go.RowKit Go.Great
theorem withinM_any (x lo hi : Int) (w : World) : Calls Tryz.prog 147 #[.int .u8 x, .int .u8 lo, .int .u8 hi] w fun e w' => e = .returned (.bool (decide (lo ≤ x) && decide (x ≤ hi))) ∧ w' = w := by
  by_cases h1 : lo ≤ x
  · go_enter Tryz.func147, Tryz.ntmps147
    go_wp2_with fail
    go_ret
    exact ⟨ret_bool (by simp [h1]), rfl⟩
  · go_enter Tryz.func147, Tryz.ntmps147
    go_wp2_with fail
    go_ret
    exact ⟨ret_bool (by simp; omega), rfl⟩
theorem flying_any (m : Int) (w : World) : Calls Tryz.prog 129 #[.int .u8 m] w fun e w' => e = .returned (.bool (flyB m)) ∧ w' = w := by
  have WI := hide withinM_any
  go_enter Tryz.func129, Tryz.ntmps129
  go_wp2_with (go_at_call 147; refine (WI.out _ _ _ _).mono ?_; rintro e w2 ⟨rfl, hw2⟩; obtain rfl := hw2.symm)
  go_ret
  exact ⟨rfl, rfl⟩
theorem armed_any (m : Int) (w : World) : Calls Tryz.prog 65 #[.int .u8 m] w fun e w' => e = .returned (.bool (armB m)) ∧ w' = w := by
  have WI := hide withinM_any
  go_enter Tryz.func65, Tryz.ntmps65
  go_wp2_with (go_at_call 147; refine (WI.out _ _ _ _).mono ?_; rintro e w2 ⟨rfl, hw2⟩; obtain rfl := hw2.symm)
  go_ret
  exact ⟨rfl, rfl⟩
def tabC_Mo1 : Array Value := (tabR.flatMap rC).toArray
def rA (k : Nat) : Value := .agg (rC (tabR.getD k ⟨0, 0, 0, 0⟩)).toArray
def zTab_Mo1 : Array Value := ((List.replicate 29 (⟨0, 0, 0, 0⟩ : Rw)).flatMap rC).toArray
theorem info_tab_Mo1 : (Tryz.prog.info? 489).map (fun i => (i.zero, i.size)) = some (some (.agg zTab_Mo1), 116) := by kernel_rfl
theorem wpList_run_Mo1 {P : Program} {ops : Array Oper} {rest : List Oper} {o : Oper} {a : Act} {w : World} {Q : Exit → Act → World → Prop} (hg_HpM : o.guard = none) (dst : Option Tmp) (hdst : o.dst = dst)
    (v : Value) (w' : World) (hrun : (execOp a.eval o).run P w = .ok (.value v) w')
    (h : wpList P ops Q rest (a.put dst v) w') : wpList P ops Q (o :: rest) a w := by
  subst hdst
  refine wpList_plain hg_HpM fun K hK => ?_
  unfold Oper.wp
  rw [hrun, Oper.upon_value]
  exact hK _ _ h
theorem wpList_same {P : Program} {ops : Array Oper} {rest : List Oper} {o : Oper} {a : Act} {w : World} {Q : Exit → Act → World → Prop} (hg_HpM : o.guard = none) (dst : Option Tmp) (hdst : o.dst = dst)
    (v : Value) (hrun : (execOp a.eval o).run P w = .ok (.value v) w) (h : wpList P ops Q rest (a.put dst v) w) : wpList P ops Q (o :: rest) a w := wpList_run_Mo1 hg_HpM dst hdst v w hrun h
theorem alloc_tab_Mo1 (w : World) (ρ : Operand → Value) (o : Oper) (ho : o.op = .alloc 489) : (execOp ρ o).run Tryz.prog w = .ok (.value (.pointer (some ⟨w.heap.size, 0, none⟩))) (w.alloc (.cells zTab_Mo1 489)) := by
  have hz := (zero_of_info info_tab_Mo1).1
  simp [execOp, ho, go_sem, hz, Value.cells]
theorem rows_any_Mo1 (w : World) : Calls Tryz.prog 357 #[] w fun e w' => e = .returned (.agg tabC_Mo1) ∧ Below w.heap.size w w' := by
  -- the table, operation by operation
  go_enter Tryz.func357, Tryz.ntmps357
  apply wp_seq_k; intro K0 hK0
  apply wp_region_lit
  refine wpList_run_Mo1 rfl (some 0) rfl _ _ (alloc_tab_Mo1 _ _ _ rfl) ?_
  refine wpList_frame (a' := { tmps := #[.pointer (some ⟨w.heap.size, 0, none⟩), undef, undef, undef, undef, undef, undef, undef, undef, undef, undef, undef, undef, undef, undef, undef, undef, undef, undef, undef, undef, undef, undef, undef, undef, undef, undef, undef, undef, undef, undef], defers := [] }) (by kernel_rfl) ?_
  apply wpList_nil
  refine hK0 _ _ ?_
  clear hK0 K0
  apply wp_seq_k; intro K0 hK0
  apply wp_region_lit
  refine wpList_same rfl (some 1) rfl (rA 0) (by kernel_rfl) ?_
  refine wpList_frame (a' := { tmps := #[.pointer (some ⟨w.heap.size, 0, none⟩), rA 0, undef, undef, undef, undef, undef, undef, undef, undef, undef, undef, undef, undef, undef, undef, undef, undef, undef, undef, undef, undef, undef, undef, undef, undef, undef, undef, undef, undef, undef], defers := [] }) (by kernel_rfl) ?_
  refine wpList_same rfl (some 2) rfl (rA 1) (by kernel_rfl) ?_
  refine wpList_frame (a' := { tmps := #[.pointer (some ⟨w.heap.size, 0, none⟩), rA 0, rA 1, undef, undef, undef, undef, undef, undef, undef, undef, undef, undef, undef, undef, undef, undef, undef, undef, undef, undef, undef, undef, undef, undef, undef, undef, undef, undef, undef, undef], defers := [] }) (by kernel_rfl) ?_
  refine wpList_same rfl (some 3) rfl (rA 2) (by kernel_rfl) ?_
  refine wpList_frame (a' := { tmps := #[.pointer (some ⟨w.heap.size, 0, none⟩), rA 0, rA 1, rA 2, undef, undef, undef, undef, undef, undef, undef, undef, undef, undef, undef, undef, undef, undef, undef, undef, undef, undef, undef, undef, undef, undef, undef, undef, undef, undef, undef], defers := [] }) (by kernel_rfl) ?_
  refine wpList_same rfl (some 4) rfl (rA 3) (by kernel_rfl) ?_
  refine wpList_frame (a' := { tmps := #[.pointer (some ⟨w.heap.size, 0, none⟩), rA 0, rA 1, rA 2, rA 3, undef, undef, undef, undef, undef, undef, undef, undef, undef, undef, undef, undef, undef, undef, undef, undef, undef, undef, undef, undef, undef, undef, undef, undef, undef, undef], defers := [] }) (by kernel_rfl) ?_
  refine wpList_same rfl (some 5) rfl (rA 4) (by kernel_rfl) ?_
  refine wpList_frame (a' := { tmps := #[.pointer (some ⟨w.heap.size, 0, none⟩), rA 0, rA 1, rA 2, rA 3, rA 4, undef, undef, undef, undef, undef, undef, undef, undef, undef, undef, undef, undef, undef, undef, undef, undef, undef, undef, undef, undef, undef, undef, undef, undef, undef], defers := [] }) (by kernel_rfl) ?_
  refine wpList_same rfl (some 6) rfl (rA 5) (by kernel_rfl) ?_
  refine wpList_frame (a' := { tmps := #[.pointer (some ⟨w.heap.size, 0, none⟩), rA 0, rA 1, rA 2, rA 3, rA 4, rA 5, undef, undef, undef, undef, undef, undef, undef, undef, undef, undef, undef, undef, undef, undef, undef, undef, undef, undef, undef, undef, undef, undef, undef, undef], defers := [] }) (by kernel_rfl) ?_
  refine wpList_same rfl (some 7) rfl (rA 6) (by kernel_rfl) ?_
  refine wpList_frame (a' := { tmps := #[.pointer (some ⟨w.heap.size, 0, none⟩), rA 0, rA 1, rA 2, rA 3, rA 4, rA 5, rA 6, undef, undef, undef, undef, undef, undef, undef, undef, undef, undef, undef, undef, undef, undef, undef, undef, undef, undef, undef, undef, undef, undef, undef], defers := [] }) (by kernel_rfl) ?_
  refine wpList_same rfl (some 8) rfl (rA 7) (by kernel_rfl) ?_
  refine wpList_frame (a' := { tmps := #[.pointer (some ⟨w.heap.size, 0, none⟩), rA 0, rA 1, rA 2, rA 3, rA 4, rA 5, rA 6, rA 7, undef, undef, undef, undef, undef, undef, undef, undef, undef, undef, undef, undef, undef, undef, undef, undef, undef, undef, undef, undef, undef, undef], defers := [] }) (by kernel_rfl) ?_
  refine wpList_same rfl (some 9) rfl (rA 8) (by kernel_rfl) ?_
  refine wpList_frame (a' := { tmps := #[.pointer (some ⟨w.heap.size, 0, none⟩), rA 0, rA 1, rA 2, rA 3, rA 4, rA 5, rA 6, rA 7, rA 8, undef, undef, undef, undef, undef, undef, undef, undef, undef, undef, undef, undef, undef, undef, undef, undef, undef, undef, undef, undef, undef], defers := [] }) (by kernel_rfl) ?_
  refine wpList_same rfl (some 10) rfl (rA 9) (by kernel_rfl) ?_
  refine wpList_frame (a' := { tmps := #[.pointer (some ⟨w.heap.size, 0, none⟩), rA 0, rA 1, rA 2, rA 3, rA 4, rA 5, rA 6, rA 7, rA 8, rA 9, undef, undef, undef, undef, undef, undef, undef, undef, undef, undef, undef, undef, undef, undef, undef, undef, undef, undef, undef, undef], defers := [] }) (by kernel_rfl) ?_
  refine wpList_same rfl (some 11) rfl (rA 10) (by kernel_rfl) ?_
  refine wpList_frame (a' := { tmps := #[.pointer (some ⟨w.heap.size, 0, none⟩), rA 0, rA 1, rA 2, rA 3, rA 4, rA 5, rA 6, rA 7, rA 8, rA 9, rA 10, undef, undef, undef, undef, undef, undef, undef, undef, undef, undef, undef, undef, undef, undef, undef, undef, undef, undef, undef], defers := [] }) (by kernel_rfl) ?_
  refine wpList_same rfl (some 12) rfl (rA 11) (by kernel_rfl) ?_
  refine wpList_frame (a' := { tmps := #[.pointer (some ⟨w.heap.size, 0, none⟩), rA 0, rA 1, rA 2, rA 3, rA 4, rA 5, rA 6, rA 7, rA 8, rA 9, rA 10, rA 11, undef, undef, undef, undef, undef, undef, undef, undef, undef, undef, undef, undef, undef, undef, undef, undef, undef, undef], defers := [] }) (by kernel_rfl) ?_
  refine wpList_same rfl (some 13) rfl (rA 12) (by kernel_rfl) ?_
  refine wpList_frame (a' := { tmps := #[.pointer (some ⟨w.heap.size, 0, none⟩), rA 0, rA 1, rA 2, rA 3, rA 4, rA 5, rA 6, rA 7, rA 8, rA 9, rA 10, rA 11, rA 12, undef, undef, undef, undef, undef, undef, undef, undef, undef, undef, undef, undef, undef, undef, undef, undef, undef], defers := [] }) (by kernel_rfl) ?_
  refine wpList_same rfl (some 14) rfl (rA 13) (by kernel_rfl) ?_
  refine wpList_frame (a' := { tmps := #[.pointer (some ⟨w.heap.size, 0, none⟩), rA 0, rA 1, rA 2, rA 3, rA 4, rA 5, rA 6, rA 7, rA 8, rA 9, rA 10, rA 11, rA 12, rA 13, undef, undef, undef, undef, undef, undef, undef, undef, undef, undef, undef, undef, undef, undef, undef, undef], defers := [] }) (by kernel_rfl) ?_
  refine wpList_same rfl (some 15) rfl (rA 14) (by kernel_rfl) ?_
  refine wpList_frame (a' := { tmps := #[.pointer (some ⟨w.heap.size, 0, none⟩), rA 0, rA 1, rA 2, rA 3, rA 4, rA 5, rA 6, rA 7, rA 8, rA 9, rA 10, rA 11, rA 12, rA 13, rA 14, undef, undef, undef, undef, undef, undef, undef, undef, undef, undef, undef, undef, undef, undef, undef], defers := [] }) (by kernel_rfl) ?_
  refine wpList_same rfl (some 16) rfl (rA 15) (by kernel_rfl) ?_
  refine wpList_frame (a' := { tmps := #[.pointer (some ⟨w.heap.size, 0, none⟩), rA 0, rA 1, rA 2, rA 3, rA 4, rA 5, rA 6, rA 7, rA 8, rA 9, rA 10, rA 11, rA 12, rA 13, rA 14, rA 15, undef, undef, undef, undef, undef, undef, undef, undef, undef, undef, undef, undef, undef, undef], defers := [] }) (by kernel_rfl) ?_
  refine wpList_same rfl (some 17) rfl (rA 16) (by kernel_rfl) ?_
  refine wpList_frame (a' := { tmps := #[.pointer (some ⟨w.heap.size, 0, none⟩), rA 0, rA 1, rA 2, rA 3, rA 4, rA 5, rA 6, rA 7, rA 8, rA 9, rA 10, rA 11, rA 12, rA 13, rA 14, rA 15, rA 16, undef, undef, undef, undef, undef, undef, undef, undef, undef, undef, undef, undef, undef], defers := [] }) (by kernel_rfl) ?_
  refine wpList_same rfl (some 18) rfl (rA 17) (by kernel_rfl) ?_
  refine wpList_frame (a' := { tmps := #[.pointer (some ⟨w.heap.size, 0, none⟩), rA 0, rA 1, rA 2, rA 3, rA 4, rA 5, rA 6, rA 7, rA 8, rA 9, rA 10, rA 11, rA 12, rA 13, rA 14, rA 15, rA 16, rA 17, undef, undef, undef, undef, undef, undef, undef, undef, undef, undef, undef, undef], defers := [] }) (by kernel_rfl) ?_
  refine wpList_same rfl (some 19) rfl (rA 18) (by kernel_rfl) ?_
  refine wpList_frame (a' := { tmps := #[.pointer (some ⟨w.heap.size, 0, none⟩), rA 0, rA 1, rA 2, rA 3, rA 4, rA 5, rA 6, rA 7, rA 8, rA 9, rA 10, rA 11, rA 12, rA 13, rA 14, rA 15, rA 16, rA 17, rA 18, undef, undef, undef, undef, undef, undef, undef, undef, undef, undef, undef], defers := [] }) (by kernel_rfl) ?_
  refine wpList_same rfl (some 20) rfl (rA 19) (by kernel_rfl) ?_
  refine wpList_frame (a' := { tmps := #[.pointer (some ⟨w.heap.size, 0, none⟩), rA 0, rA 1, rA 2, rA 3, rA 4, rA 5, rA 6, rA 7, rA 8, rA 9, rA 10, rA 11, rA 12, rA 13, rA 14, rA 15, rA 16, rA 17, rA 18, rA 19, undef, undef, undef, undef, undef, undef, undef, undef, undef, undef], defers := [] }) (by kernel_rfl) ?_
  refine wpList_same rfl (some 21) rfl (rA 20) (by kernel_rfl) ?_
  refine wpList_frame (a' := { tmps := #[.pointer (some ⟨w.heap.size, 0, none⟩), rA 0, rA 1, rA 2, rA 3, rA 4, rA 5, rA 6, rA 7, rA 8, rA 9, rA 10, rA 11, rA 12, rA 13, rA 14, rA 15, rA 16, rA 17, rA 18, rA 19, rA 20, undef, undef, undef, undef, undef, undef, undef, undef, undef], defers := [] }) (by kernel_rfl) ?_
  refine wpList_same rfl (some 22) rfl (rA 21) (by kernel_rfl) ?_
  refine wpList_frame (a' := { tmps := #[.pointer (some ⟨w.heap.size, 0, none⟩), rA 0, rA 1, rA 2, rA 3, rA 4, rA 5, rA 6, rA 7, rA 8, rA 9, rA 10, rA 11, rA 12, rA 13, rA 14, rA 15, rA 16, rA 17, rA 18, rA 19, rA 20, rA 21, undef, undef, undef, undef, undef, undef, undef, undef], defers := [] }) (by kernel_rfl) ?_
  refine wpList_same rfl (some 23) rfl (rA 22) (by kernel_rfl) ?_
  refine wpList_frame (a' := { tmps := #[.pointer (some ⟨w.heap.size, 0, none⟩), rA 0, rA 1, rA 2, rA 3, rA 4, rA 5, rA 6, rA 7, rA 8, rA 9, rA 10, rA 11, rA 12, rA 13, rA 14, rA 15, rA 16, rA 17, rA 18, rA 19, rA 20, rA 21, rA 22, undef, undef, undef, undef, undef, undef, undef], defers := [] }) (by kernel_rfl) ?_
  refine wpList_same rfl (some 24) rfl (rA 23) (by kernel_rfl) ?_
  refine wpList_frame (a' := { tmps := #[.pointer (some ⟨w.heap.size, 0, none⟩), rA 0, rA 1, rA 2, rA 3, rA 4, rA 5, rA 6, rA 7, rA 8, rA 9, rA 10, rA 11, rA 12, rA 13, rA 14, rA 15, rA 16, rA 17, rA 18, rA 19, rA 20, rA 21, rA 22, rA 23, undef, undef, undef, undef, undef, undef], defers := [] }) (by kernel_rfl) ?_
  refine wpList_same rfl (some 25) rfl (rA 24) (by kernel_rfl) ?_
  refine wpList_frame (a' := { tmps := #[.pointer (some ⟨w.heap.size, 0, none⟩), rA 0, rA 1, rA 2, rA 3, rA 4, rA 5, rA 6, rA 7, rA 8, rA 9, rA 10, rA 11, rA 12, rA 13, rA 14, rA 15, rA 16, rA 17, rA 18, rA 19, rA 20, rA 21, rA 22, rA 23, rA 24, undef, undef, undef, undef, undef], defers := [] }) (by kernel_rfl) ?_
  refine wpList_same rfl (some 26) rfl (rA 25) (by kernel_rfl) ?_
  refine wpList_frame (a' := { tmps := #[.pointer (some ⟨w.heap.size, 0, none⟩), rA 0, rA 1, rA 2, rA 3, rA 4, rA 5, rA 6, rA 7, rA 8, rA 9, rA 10, rA 11, rA 12, rA 13, rA 14, rA 15, rA 16, rA 17, rA 18, rA 19, rA 20, rA 21, rA 22, rA 23, rA 24, rA 25, undef, undef, undef, undef], defers := [] }) (by kernel_rfl) ?_
  refine wpList_same rfl (some 27) rfl (rA 26) (by kernel_rfl) ?_
  refine wpList_frame (a' := { tmps := #[.pointer (some ⟨w.heap.size, 0, none⟩), rA 0, rA 1, rA 2, rA 3, rA 4, rA 5, rA 6, rA 7, rA 8, rA 9, rA 10, rA 11, rA 12, rA 13, rA 14, rA 15, rA 16, rA 17, rA 18, rA 19, rA 20, rA 21, rA 22, rA 23, rA 24, rA 25, rA 26, undef, undef, undef], defers := [] }) (by kernel_rfl) ?_
  refine wpList_same rfl (some 28) rfl (rA 27) (by kernel_rfl) ?_
  refine wpList_frame (a' := { tmps := #[.pointer (some ⟨w.heap.size, 0, none⟩), rA 0, rA 1, rA 2, rA 3, rA 4, rA 5, rA 6, rA 7, rA 8, rA 9, rA 10, rA 11, rA 12, rA 13, rA 14, rA 15, rA 16, rA 17, rA 18, rA 19, rA 20, rA 21, rA 22, rA 23, rA 24, rA 25, rA 26, rA 27, undef, undef], defers := [] }) (by kernel_rfl) ?_
  refine wpList_same rfl (some 29) rfl (rA 28) (by kernel_rfl) ?_
  refine wpList_frame (a' := { tmps := #[.pointer (some ⟨w.heap.size, 0, none⟩), rA 0, rA 1, rA 2, rA 3, rA 4, rA 5, rA 6, rA 7, rA 8, rA 9, rA 10, rA 11, rA 12, rA 13, rA 14, rA 15, rA 16, rA 17, rA 18, rA 19, rA 20, rA 21, rA 22, rA 23, rA 24, rA 25, rA 26, rA 27, rA 28, undef], defers := [] }) (by kernel_rfl) ?_
  refine wpList_same rfl (some 30) rfl (.agg tabC_Mo1) (by kernel_rfl) ?_
  refine wpList_frame (a' := { tmps := #[.pointer (some ⟨w.heap.size, 0, none⟩), rA 0, rA 1, rA 2, rA 3, rA 4, rA 5, rA 6, rA 7, rA 8, rA 9, rA 10, rA 11, rA 12, rA 13, rA 14, rA 15, rA 16, rA 17, rA 18, rA 19, rA 20, rA 21, rA 22, rA 23, rA 24, rA 25, rA 26, rA 27, rA 28, .agg tabC_Mo1], defers := [] }) (by kernel_rfl) ?_
  refine wpList_store_rowTo rfl 489 _ _ rfl rfl w.heap.size tabC_Mo1 (by kernel_rfl) (by kernel_rfl) 489 zTab_Mo1 (heap_alloc_last _ _) (by kernel_rfl) (by kernel_rfl) (by kernel_rfl) ?_
  rw [World.setRow_alloc_new]
  apply wpList_nil
  refine hK0 _ _ ?_
  clear hK0 K0
  refine wp_ret (bodyPost_ret (v := .agg tabC_Mo1) ?_ rfl ⟨rfl, below_alloc _ _⟩)
  rw [res_one (by kernel_rfl : Tryz.f357.results = #[.cell 0 489])]
  simp only [Array.getD_eq_getD_getElem?, asAddr, Result.andThen]
  exact run_loadVar_new w 489 tabC_Mo1 29 488 (by kernel_rfl) (by kernel_rfl)
  -- so far
end Go.Proofs.YtapfaaaepnplcaaGreatDoor
set_option maxRecDepth 100000
namespace Go.Proofs.YtapfaaaepnplcaaGreatDoor
open Go.RowKit Go.Great
/-- does a step look like standing? -/
def lk (f : Bool) (c a : Int) : Bool := f && decide (-(a.tdiv 2) ≤ c)
/-- for how many steps it has looked so -/
def gs (n : Int) (f : Bool) (c a : Int) : Int := if lk f c a = true then (if n < 65535 then n + 1 else 65535) else 0
/-- a detector's cells: the look that is bound to 2, and what was seen -/
def gC (n : Int) : Array Value := #[.func (.func 96) #[.int .i64 2] #[], .int .i64 n]
/-- the detector in block B -/
abbrev Det (w : World) (B : Nat) (n : Int) : Prop := Blk w B (gC n) 222
abbrev gP (B : Nat) : Value := .pointer (some ⟨B, 0, none⟩)
theorem tdiv2 (a : Int) (h : I64 a) : -4611686018427387904 ≤ a.tdiv 2 ∧ a.tdiv 2 ≤ 4611686018427387904 := by
  unfold I64 at h
  have h1 := Int.mul_tdiv_add_tmod a 2
  have h2 := Int.tmod_lt_of_pos a (show (0 : Int) < 2 by decide)
  have h3 := Int.lt_tmod_of_pos a (show (0 : Int) < 2 by decide)
  omega
theorem gs_in {n : Int} (h : 0 ≤ n ∧ n ≤ 65535) (f : Bool) (c a : Int) : 0 ≤ gs n f c a ∧ gs n f c a ≤ 65535 := by
  unfold gs
  split
  · split <;> omega
  · omega
theorem fn_nil (w : World) : (binOp BinOp.eql 219 (.func (.func 96) #[.int .i64 2] #[]) .nilFunc).run Tryz.prog w = .ok (.bool false) w := by
  rfl
theorem stands_any (f : Bool) (c a : Int) (w : World) (ha : I64 a) : Calls Tryz.prog 96 #[.int .i64 2, .bool f, .int .i64 c, .int .i64 a] w fun e w' => e = .returned (.bool (lk f c a)) ∧ w' = w := by
  have h := tdiv2 a ha
  unfold lk
  cases f
  · go_enter Tryz.func96, Tryz.ntmps96
    go_wp2
    go_ret
    simp
  · go_enter Tryz.func96, Tryz.ntmps96
    go_wp2
    go_ret
    simp
theorem newG_any (w : World) : Calls Tryz.prog 49 #[] w fun e w' => ∃ B, e = .returned (gP B) ∧ Det w' B 0 ∧ Below w.heap.size w w' ∧ w.heap.size ≤ B := by
  have hmf : ∀ (fn : Fn) (first cap : Array Value) (w : World), (Instr.makeFunc fn first cap).run Tryz.prog w = .ok (.func fn first cap) w := fun _ _ _ _ => rfl
  go_enter Tryz.func49, Tryz.ntmps49
  go_wp2
  go_ret
  exact ⟨_, rfl, Blk.new _ _ _, below_alloc _ _, Nat.le_refl _⟩
theorem stepG_nil (f : Bool) (c a : Int) (w : World) : Calls Tryz.prog 123 #[.pointer none, .bool f, .int .i64 c, .int .i64 a] w fun e w' => e = .returned (.bool false) ∧ w' = w := by
  go_enter Tryz.func123, Tryz.ntmps123
  go_wp2
  go_ret
  simp
def GEnd (w : World) (B : Nat) (m : Int) (e : Ending) (w' : World) : Prop := e = .returned (.bool (decide (40 ≤ m))) ∧ Det w' B m ∧ w.grownBy w' (some B)
theorem stepG_any (w : World) (B : Nat) (n : Int) (f : Bool) (c a : Int) (hB : Det w B n) (hn : 0 ≤ n ∧ n ≤ 65535) (ha : I64 a) : Calls Tryz.prog 123 #[gP B, .bool f, .int .i64 c, .int .i64 a] w (GEnd w B (gs n f c a)) := by
  have ST := hide (fun W => stands_any f c a W ha)
  have HB := hide hB
  have c0 : w.cell? ⟨B, 0, none⟩ = some (.func (.func 96) #[.int .i64 2] #[]) := hB.cell 0 rfl
  have c1 : w.cell? ⟨B, 1, none⟩ = some (.int .i64 n) := hB.cell 1 rfl
  have f1 := hB.frozen 1
  have FN := fn_nil
  have S1 : ∀ m : Int, Hid (Det (w.setCell ⟨B, 1, none⟩ (.int .i64 m)) B m) := fun m => hide (hB.set 1 (.int .i64 m))
  have G1 : ∀ m : Int, Hid (w.grownBy (w.setCell ⟨B, 1, none⟩ (.int .i64 m)) (some B)) := fun m => hide (grown_set w B 1 (.int .i64 m))
  have EQ : Hid (gs n f c a = if lk f c a = true then (if n < 65535 then n + 1 else 65535) else 0) := hide rfl
  clear hB ha
  rw [EQ.out]
  clear EQ
  generalize lk f c a = y at *
  cases y
  · go_enter Tryz.func123, Tryz.ntmps123
    go_wp2_with (go_at_call 96; refine (ST.out _).mono ?_; rintro e w1 ⟨rfl, rfl⟩)
    go_ret
    exact ⟨rfl, (S1 0).out, (G1 0).out⟩
  · by_cases hlt : n < 65535
    · go_enter Tryz.func123, Tryz.ntmps123
      go_upto_region 7 with (go_at_call 96; refine (ST.out _).mono ?_; rintro e w1 ⟨rfl, rfl⟩)
      go_wp2
      go_ret
      exact ⟨rfl, (S1 _).out, (G1 _).out⟩
    · go_enter Tryz.func123, Tryz.ntmps123
      go_upto_region 7 with (go_at_call 96; refine (ST.out _).mono ?_; rintro e w1 ⟨rfl, rfl⟩)
      go_wp2
      go_ret
      exact ⟨rfl, (S1 _).out, (G1 _).out⟩
end Go.Proofs.YtapfaaaepnplcaaGreatDoor
