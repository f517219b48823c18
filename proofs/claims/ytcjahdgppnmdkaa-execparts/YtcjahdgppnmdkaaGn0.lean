/- For every layer: what a function hands back out of a variable's cells; a region whose last operation waits for all others, over any class of worlds; more may be held. -/
import Derived.Test.YtcjahdgppnmdkaaRg2
import Derived.Deep.DeepCutAuto
set_option maxRecDepth 100000
namespace Go.Proofs.Ytcjahdgppnmdkaa
open Go.RowKit Go.Great

theorem res_one {fn : Func} {p : Tmp} {ty : TypeId} (h : fn.results = #[.cell p ty]) (tmps : Array Value) (P : Program) (w : World) :
    (results fn tmps).run P w = ((asAddr (tmps.getD p undef)).run P w).andThen fun a w₁ => (loadVar ty a).run P w₁ := by
  simp only [results, h]
  simp [Sem.run_bind, Result.andThen]
/-- one result, out of its variable's block -/
theorem res_back {fn : Func} {p : Tmp} {ty : TypeId} {fs : Array Field} (h : fn.results = #[.cell p ty]) (hu : Try.prog.underlying ty = some (.struct fs)) {cs : Array Value} (hz : (Try.prog.info? ty).map (·.size) = some cs.size) (tmps : Array Value) (w : World) (g : Nat) (hp : tmps.getD p undef = .pointer (some ⟨g, 0, none⟩)) (hg : Blk w g cs ty) : (results fn tmps).run Try.prog w = .ok (.agg cs) w := by
  rw [res_one h]
  have := run_loadVar_row (P := Try.prog) w g ty ty cs (0, 0) _ hg hu rfl hz
  rw [hp]
  simp [asAddr, this, Result.andThen]
/-- two results, the first one out of its variable's block -/
theorem res_back2 {fn : Func} {p u : Tmp} {ty : TypeId} {fs : Array Field} (h : fn.results = #[.cell p ty, .tmp u]) (hu : Try.prog.underlying ty = some (.struct fs)) {cs : Array Value} (hz : (Try.prog.info? ty).map (·.size) = some cs.size) (tmps : Array Value) (w : World) (g : Nat) (b : Value) (hp : tmps.getD p undef = .pointer (some ⟨g, 0, none⟩)) (hq : tmps.getD u undef = b) (hg : Blk w g cs ty) : (results fn tmps).run Try.prog w = .ok (.tuple #[.agg cs, b]) w := by
  rw [results_cell_tmp h]
  have := run_loadVar_row (P := Try.prog) w g ty ty cs (0, 0) _ hg hu rfl hz
  rw [hp, hq]
  simp [asAddr, this, Result.andThen]
/-- the others are quiet in a class of worlds, then the last one -/
theorem reg_last_in {P : Program} {Q : Exit → Act → World → Prop} {id : Nat} {a : Act} {w : World} {l : List Oper} (C : World → Prop) (n : Nat) (hl : l.take n ++ (l.drop n).take 1 = l) (hlen : (l.take n).length = n) (o : Oper) (ho : (l.drop n).take 1 = [o]) (hm : P.follows .mixedOrders = true) (hB : Region.lexB .any (l.take n).toArray = true) (hp0 : plainB2 .any (l.take n) o = true) (hC : C w.drew)
    (h : wpQuiet P (l.take n).toArray C (fun a' => ∀ w', C w' → o.wp P a' w' (fun a'' w'' => Q .normal a'' w'') Q) (l.take n) a) : (Code.region id l.toArray true).wp P Q a w := by
  have hp := plain_of2 hp0
  rw [ho] at hl
  simp only [Region.lexB, Bool.and_eq_true] at hB
  refine wp_region_any hm ?_
  have h1 := wpAnyQ_lex (C := C) (md := .any) hB.1 (l.take n) 0 (Array.replicate (l.take n).length false) a (by simp) (by simpa using hB.2) h
  have h2 := wpAny_of_quiet (P := P) (md := .any) (ops := (l.take n).toArray) (C := C) (Q := fun a' => ∀ w', C w' → o.wp P a' w' (fun a'' w'' => Q .normal a'' w'') Q) (Q' := thenLast2 P o Q) (fun a' w' hw' h => h w' hw') _ _ a w.drew hC h1
  have h3 := any_last2 hp _ _ a w.drew (by simp) (closed_none2 _) h2
  have hsz : l.length = n + 1 := by
    have := congrArg List.length hl
    rw [List.length_append, hlen] at this
    simpa using this.symm
  rw [hl] at h3
  have e1 : (Array.replicate (l.take n).length false).push false = Array.replicate l.toArray.size false := by
    rw [hlen, List.size_toArray, hsz, Array.replicate_succ]
  rw [e1, hlen] at h3
  rw [show l.toArray.size = n + 1 by simp [hsz]] at h3 ⊢
  exact h3
/-- the others only lay memory, then the last one -/
theorem reg_last_calm {P : Program} {Q : Exit → Act → World → Prop} {id : Nat} {a : Act} {w : World} {l : List Oper} (n : Nat) (hl : l.take n ++ (l.drop n).take 1 = l) (hlen : (l.take n).length = n) (o : Oper) (ho : (l.drop n).take 1 = [o]) (hm : P.follows .mixedOrders = true) (hB : Region.lexB .any (l.take n).toArray = true) (hp0 : plainB2 .any (l.take n) o = true)
    (h : wpQuiet P (l.take n).toArray (fun w' => ∃ x : BelowW w, w' = x.q) (fun a' => ∀ w', (∃ x : BelowW w, w' = x.q) → o.wp P a' w' (fun a'' w'' => Q .normal a'' w'') Q) (l.take n) a) : (Code.region id l.toArray true).wp P Q a w :=
  reg_last_in (fun w' => ∃ x : BelowW w, w' = x.q) n hl hlen o ho hm hB hp0 ⟨⟨w.drew, (Below.refl _ _).drew⟩, rfl⟩ h
/-- the others only read, then the last one -/
theorem reg_last {P : Program} {Q : Exit → Act → World → Prop} {id : Nat} {a : Act} {w : World} {l : List Oper} (n : Nat) (hl : l.take n ++ (l.drop n).take 1 = l) (hlen : (l.take n).length = n) (o : Oper) (ho : (l.drop n).take 1 = [o]) (hm : P.follows .mixedOrders = true) (hB : Region.lexB .any (l.take n).toArray = true) (hp0 : plainB2 .any (l.take n) o = true)
    (h : wpQuiet P (l.take n).toArray (fun w' => ∃ k, w' = w.drewN k) (fun a' => ∀ k, o.wp P a' (w.drewN k) (fun a'' w'' => Q .normal a'' w'') Q) (l.take n) a) : (Code.region id l.toArray true).wp P Q a w := by
  refine reg_last_in (fun w' => ∃ k, w' = w.drewN k) n hl hlen o ho hm hB hp0 ⟨1, rfl⟩ ?_
  have e : (fun a' => ∀ w', (∃ k, w' = w.drewN k) → o.wp P a' w' (fun a'' w'' => Q .normal a'' w'') Q) = (fun a' => ∀ k, o.wp P a' (w.drewN k) (fun a'' w'' => Q .normal a'' w'') Q) := by
    funext a'
    exact propext ⟨fun h k => h _ ⟨k, rfl⟩, fun h w' ⟨k, hk⟩ => by rw [hk]; exact h k⟩
  rw [e]
  exact h
/-- the others while S is held, then the last one, behind which nothing need be held -/
theorem reg_last_held {P : Program} {Q : Exit → Act → World → Prop} {id : Nat} {a : Act} {w : World} {l : List Oper} (S : World → Prop) (n : Nat) (hl : l.take n ++ (l.drop n).take 1 = l) (hlen : (l.take n).length = n) (o : Oper) (ho : (l.drop n).take 1 = [o]) (hm : P.follows .mixedOrders = true) (hp0 : plainB2 .any (l.take n) o = true) (hS : S w.drew)
    (h : S w.drew → wpAnyH P .any (l.take n).toArray (thenLast2 P o Q) S n (Array.replicate n false) a w.drew) : (Code.region id l.toArray true).wp P Q a w := by
  have hp := plain_of2 hp0
  rw [ho] at hl
  refine wp_region_any hm ?_
  have h3 := any_last2 hp _ _ a w.drew (by simp [hlen]) (closed_none2 _) (wpAny_of_held _ _ _ _ (h hS))
  have hsz : l.length = n + 1 := by
    have := congrArg List.length hl
    rw [List.length_append, hlen] at this
    simpa using this.symm
  rw [hl] at h3
  have e1 : (Array.replicate n false).push false = Array.replicate l.toArray.size false := by
    rw [List.size_toArray, hsz, Array.replicate_succ]
  rw [e1] at h3
  rw [show l.toArray.size = n + 1 by simp [hsz]] at h3 ⊢
  exact h3
theorem then_last {P : Program} {o : Oper} {Q : Exit → Act → World → Prop} {a : Act} {w : World} (h : o.wp P a w (fun a' w' => Q .normal a' w') Q) : thenLast2 P o Q .normal a w := h
/-- from here on more may be held -/
theorem held_more {P : Program} {md : Region.Mode} {ops : Array Oper} {Q : Exit → Act → World → Prop} {S S' : World → Prop} (hs : ∀ w, S' w → S w) : ∀ (fuel : Nat) (listed : Array Bool) (a : Act) (w : World), wpAnyH P md ops Q S' fuel listed a w → wpAnyH P md ops Q S fuel listed a w
  | 0, _, _, _, h => h
  | fuel + 1, _, _, _, h => ⟨h.1, fun i hi => wpOp_mono (fun a' w' h' => ⟨hs _ h'.1, held_more hs fuel _ a' w' h'.2⟩) (h.2 i hi)⟩
theorem blk_drewN {W : World} {B : Nat} {cs : Array Value} {t : TypeId} (h : Blk W B cs t) (k : Nat) : Blk (W.drewN k) B cs t := by
  induction k with
  | zero => exact h
  | succ k ih => exact ih
theorem blk_drew {W : World} {B : Nat} {cs : Array Value} {t : TypeId} (h : Blk W B cs t) : Blk W.drew B cs t := h
theorem grown_drewNN {w w1 : World} {row : Option Nat} (h : w.grownBy w1 row) (n : Nat) : w.grownBy (w1.drewN n) row := by
  induction n with
  | zero => exact h
  | succ n ih => exact ⟨ih.os, ih.tape, ih.output, ih.size, ih.block⟩
theorem grown_drew1 {w w1 : World} {row : Option Nat} (h : w.grownBy w1 row) : w.grownBy w1.drew row := ⟨h.os, h.tape, h.output, h.size, h.block⟩
/-- what a call has changed: its own block, and new ones -/
theorem below_grown {w w1 w2 : World} {row : Option Nat} (h1 : Below w.heap.size w w1) (h2 : w1.grownBy w2 row) (hr : ∀ k, row = some k → w.heap.size ≤ k) : Below w.heap.size w w2 := h1.grown h2 h1.size hr
theorem grown_more {w w1 w2 : World} {B : Nat} (h1 : w.grownBy w1 (some B)) (h2 : w1.grownBy w2 (some B)) : w.grownBy w2 (some B) := grown_then h1 h2 (fun k e => .inl (by injection e with e; exact e.symm))
theorem grown_after {w w1 w2 : World} {B : Nat} (h1 : w.grownBy w1 (some B)) (h2 : Below w1.heap.size w1 w2) : w.grownBy w2 (some B) := grown_then h1 (grown_below h2 none) (fun _ e => by cases e)
end Go.Proofs.Ytcjahdgppnmdkaa
