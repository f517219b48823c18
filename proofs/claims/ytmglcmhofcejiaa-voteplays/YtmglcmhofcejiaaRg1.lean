/- A region that draws its order and whose last operation waits for all the others: the others first, then that one. -/
import Derived.Test.YtmglcmhofcejiaaBk0
import Derived.Deep.QuietTactic
namespace Go.Proofs.Ytmglcmhofcejiaa
open Go.RowKit Go.Great

section
variable {P : Program} {md : Region.Mode} {L : List Oper} {o : Oper} {Q : Exit → Act → World → Prop}

/-- what is asked behind the others -/
def thenLast (P : Program) (o : Oper) (Q : Exit → Act → World → Prop) : Exit → Act → World → Prop
  | .normal, a, w => o.wp P a w (fun a' w' => Q .normal a' w') Q
  | e, a, w => Q e a w
theorem upon_last {x : Oper} {a : Act} {K K' : Act → World → Prop} (h : ∀ a w, K a w → K' a w) {r : Result Next} (hh : x.upon P a K (thenLast P o Q) r) : x.upon P a K' Q r := by
  cases r with
  | ok n w' =>
    cases n <;> simp only [Oper.upon] at hh ⊢
    case value => exact h _ _ hh
    case skip => exact h _ _ hh
    case defer => exact h _ _ hh
    case enter =>
      refine Calls.mono hh fun e w'' he => ?_
      cases e with
      | returned u => exact h _ _ he
      | panicked c => exact he
      | outgrown => exact he
    case row => exact Rows.mono hh fun u w'' he => h _ _ he
  | halt x w' =>
    cases x <;> simp only [Oper.upon] at hh ⊢
    case panic => exact hh
/-- each operation waits only for earlier ones, and none is guarded -/
def Plainly (md : Region.Mode) (L : List Oper) (o : Oper) : Prop :=
  (∀ x ∈ L, x.guard = none) ∧ o.guard = none ∧ (∀ (i : Nat) (x : Oper), L[i]? = some x → ∀ e ∈ x.after, e.on < i) ∧ (∀ e ∈ o.after, e.on < L.length) ∧ (∀ j, j < L.length → ∃ e ∈ o.after, Region.binds md e = true ∧ e.on = j)
def plainB (md : Region.Mode) (L : List Oper) (o : Oper) : Bool :=
  L.all (fun x => x.guard.isNone) && (o.guard.isNone && (L.zipIdx.all (fun p => p.1.after.all fun e => decide (e.on < p.2)) && (o.after.all (fun e => decide (e.on < L.length)) && (List.range L.length).all fun j => o.after.any fun e => Region.binds md e && e.on == j)))
theorem plain_of (h : plainB md L o = true) : Plainly md L o := by
  simp only [plainB, Bool.and_eq_true] at h
  obtain ⟨h1, h2, h3, h4, h5⟩ := h
  refine ⟨fun x hx => ?_, ?_, fun i x hx e he => ?_, fun e he => ?_, fun j hj => ?_⟩
  · have := List.all_eq_true.1 h1 x hx
    simpa using this
  · simpa using h2
  · have := List.all_eq_true.1 h3 (x, i) (List.mk_mem_zipIdx_iff_getElem?.2 hx)
    exact of_decide_eq_true (Array.all_eq_true'.1 this e he)
  · exact of_decide_eq_true (Array.all_eq_true'.1 h4 e he)
  · have := List.all_eq_true.1 h5 j (List.mem_range.2 hj)
    obtain ⟨e, he, hb⟩ := Array.any_eq_true'.1 this
    simp only [Bool.and_eq_true, beq_iff_eq] at hb
    exact ⟨e, he, hb.1, hb.2⟩
theorem last_at (L : List Oper) (o : Oper) : (L ++ [o]).toArray[L.length]? = some o := by simp
theorem front_at (L : List Oper) (o : Oper) {i : Nat} (h : i < L.length) : (L ++ [o]).toArray[i]? = L.toArray[i]? := by
  simp [List.getElem?_append_left h]
theorem all_or_some (n : Nat) (p : Nat → Bool) : (∀ i, i < n → p i = true) ∨ ∃ i, i < n ∧ p i = false ∧ ∀ j, j < i → p j = true := by
  induction n with
  | zero => exact .inl fun i h => absurd h (Nat.not_lt_zero i)
  | succ n ih =>
    rcases ih with ih | ⟨i, h1, h2, h3⟩
    · cases hp : p n
      · exact .inr ⟨n, Nat.lt_succ_self n, hp, ih⟩
      · refine .inl fun i hi => ?_
        by_cases e : i = n
        · rw [e]; exact hp
        · exact ih i (by omega)
    · exact .inr ⟨i, by omega, h2, h3⟩
theorem getD_push (l : Array Bool) (b : Bool) {i : Nat} (h : i < l.size) (d : Bool) : (l.push b).getD i d = l.getD i d := by
  simp [Array.getD_eq_getD_getElem?, Array.getElem?_push, Nat.ne_of_lt h]
theorem getD_dft (l : Array Bool) {i : Nat} (h : i < l.size) (d d' : Bool) : l.getD i d = l.getD i d' := by
  simp [h]
/-- some operation of the front is ready, or all have come up -/
theorem front_ready (hp : Plainly md L o) {listed : Array Bool} (hs : listed.size = L.length) : (∀ i, i < L.length → listed.getD i true = true) ∨ ∃ i, i < L.length ∧ i ∈ Region.ready md L.toArray listed := by
  rcases all_or_some L.length (fun i => listed.getD i true) with h | ⟨i, h1, h2, h3⟩
  · exact .inl h
  · refine .inr ⟨i, h1, mem_ready.2 ⟨h2, L[i], by simp [h1], fun e he _ => ?_⟩⟩
    have := hp.2.2.1 i L[i] (by simp [h1]) e he
    rw [getD_dft listed (by omega) false true]
    exact h3 _ this
theorem ready_front (hp : Plainly md L o) {listed : Array Bool} (hs : listed.size = L.length) {i : Nat} (hi : i < L.length) : i ∈ Region.ready md (L ++ [o]).toArray (listed.push false) ↔ i ∈ Region.ready md L.toArray listed := by
  rw [mem_ready, mem_ready, getD_push _ _ (by omega), front_at L o hi]
  refine and_congr_right fun _ => ?_
  refine exists_congr fun x => ?_
  refine and_congr_right fun hx => ?_
  have hx' : L[i]? = some x := by simpa using hx
  refine forall_congr' fun e => forall_congr' fun he => forall_congr' fun _ => ?_
  have := hp.2.2.1 i x hx' e he
  rw [getD_push _ _ (by omega)]
theorem ready_last (hp : Plainly md L o) {listed : Array Bool} (hs : listed.size = L.length) : L.length ∈ Region.ready md (L ++ [o]).toArray (listed.push false) ↔ ∀ i, i < L.length → listed.getD i true = true := by
  rw [mem_ready]
  constructor
  · rintro ⟨_, x, hx, hall⟩ i hi
    obtain rfl : o = x := by rw [last_at] at hx; injection hx
    obtain ⟨e, he, hb, hon⟩ := hp.2.2.2.2 i hi
    have := hall e he hb
    rw [hon, getD_push _ _ (by omega)] at this
    rw [getD_dft listed (by omega) true false]
    exact this
  · intro h
    refine ⟨by rw [← hs]; simp [Array.getD_eq_getD_getElem?], o, last_at L o, fun e he _ => ?_⟩
    have := hp.2.2.2.1 e he
    rw [getD_push _ _ (by omega), getD_dft listed (by omega) false true]
    exact h _ this
theorem ready_lt {listed : Array Bool} {i : Nat} (h : i ∈ Region.ready md (L ++ [o]).toArray listed) : i ≤ L.length := by
  obtain ⟨_, x, hx, _⟩ := mem_ready.1 h
  have := (Array.getElem?_eq_some_iff.1 hx).1
  simp at this
  omega
theorem ready_none {listed : Array Bool} (hs : ∀ i, i ≤ L.length → listed.getD i true = true) : Region.ready md (L ++ [o]).toArray listed = [] := by
  rw [List.eq_nil_iff_forall_not_mem]
  intro i hi
  have h1 := ready_lt hi
  have h2 := (mem_ready.1 hi).1
  rw [hs i h1] at h2
  cases h2
theorem last_step (hp : Plainly md L o) {fuel : Nat} {listed : Array Bool} {a : Act} {w : World} (hs : listed.size = L.length) (hall : ∀ i, i < L.length → listed.getD i true = true) (h : o.wp P a w (fun a' w' => Q .normal a' w') Q) : wpOp P (L ++ [o]).toArray Q L.length (wpAny P md (L ++ [o]).toArray Q fuel ((listed.push false).setIfInBounds L.length true)) a w := by
  have hr : Region.ready md (L ++ [o]).toArray ((listed.push false).setIfInBounds L.length true) = [] := by
    apply ready_none
    intro i hi
    by_cases e : i = L.length
    · subst e; simp [Array.getD_eq_getD_getElem?, hs]
    · have hi' : i < L.length := by omega
      have := hall i hi'
      rw [← getD_push listed false (by omega)] at this
      have h2 : ((listed.push false).setIfInBounds L.length true).getD i true = (listed.push false).getD i true := by
        simp [Array.getD_eq_getD_getElem?, Ne.symm e]
      rw [h2]
      exact this
  unfold wpOp
  simp only [last_at]
  have hw : Region.wanted o (yielded (L ++ [o]).toArray a.tmps) = true := by simp [Region.wanted, hp.2.1]
  rw [if_pos hw]
  refine .inl (Oper.wp_mono (fun a' w' hq => ?_) h)
  cases fuel with
  | zero => exact ⟨hr, hq⟩
  | succ n => exact ⟨fun _ => hq, fun i hi => by rw [hr] at hi; cases hi⟩
theorem push_set (l : Array Bool) {i : Nat} (h : i < l.size) : (l.push false).setIfInBounds i true = (l.setIfInBounds i true).push false := by
  apply Array.ext_getElem?
  intro j
  simp only [Array.getElem?_setIfInBounds, Array.getElem?_push, Array.size_push, Array.size_setIfInBounds]
  by_cases e : i = j
  · subst e; simp [h, Nat.lt_succ_of_lt h, Nat.ne_of_lt h]
  · simp [e]
theorem any_last (hp : Plainly md L o) : ∀ (fuel : Nat) (listed : Array Bool) (a : Act) (w : World), listed.size = L.length → wpAny P md L.toArray (thenLast P o Q) fuel listed a w → wpAny P md (L ++ [o]).toArray Q (fuel + 1) (listed.push false) a w := by
  intro fuel
  induction fuel with
  | zero =>
    intro listed a w hs h
    obtain ⟨hr, hq⟩ := h
    have hall : ∀ i, i < L.length → listed.getD i true = true := by
      rcases front_ready hp hs with h | ⟨i, _, hi⟩
      · exact h
      · rw [hr] at hi; cases hi
    refine ⟨fun h0 => ?_, fun i hi => ?_⟩
    · have := (ready_last hp hs).2 hall
      rw [h0] at this; cases this
    · by_cases e : i < L.length
      · have := (ready_front hp hs e).1 hi
        rw [hr] at this; cases this
      · obtain rfl : i = L.length := by have := ready_lt hi; omega
        exact last_step hp hs hall hq
  | succ fuel ih =>
    intro listed a w hs h
    obtain ⟨hn, hi⟩ := h
    refine ⟨fun h0 => ?_, fun i hr => ?_⟩
    · rcases front_ready hp hs with h | ⟨i, hlt, hi⟩
      · have := (ready_last hp hs).2 h
        rw [h0] at this; cases this
      · have := (ready_front hp hs hlt).2 hi
        rw [h0] at this; cases this
    · by_cases e : i < L.length
      · have h1 := hi i ((ready_front hp hs e).1 hr)
        unfold wpOp at h1 ⊢
        rw [front_at L o e]
        cases hx : L.toArray[i]? with
        | none => simp at hx; omega
        | some x =>
          simp only [hx] at h1 ⊢
          have hg := hp.1 x (List.mem_of_getElem? (by simpa using hx))
          have hw : ∀ ops : Array Oper, Region.wanted x (yielded ops a.tmps) = true := fun ops => by simp [Region.wanted, hg]
          rw [if_pos (hw _)] at h1 ⊢
          rcases h1 with h1 | ⟨h1, h2⟩
          · refine .inl (upon_last (fun a' w' hh => ?_) h1)
            rw [push_set _ (by omega)]
            exact ih _ a' w' (by simpa using hs) hh
          · exact .inr ⟨h1, h2⟩
      · obtain rfl : i = L.length := by have := ready_lt hr; omega
        have hall := (ready_last hp hs).1 hr
        refine last_step hp hs hall (hn ?_)
        rw [List.eq_nil_iff_forall_not_mem]
        intro i hi2
        obtain ⟨h2, x, hx, _⟩ := mem_ready.1 hi2
        have hlt : i < L.length := by simpa using (Array.getElem?_eq_some_iff.1 hx).1
        rw [hall i hlt] at h2
        cases h2
/-- the others are quiet, then the last one -/
theorem region_last {id : Nat} {a : Act} {w : World} {l : List Oper} (n : Nat) (hl : l.take n ++ (l.drop n).take 1 = l) (hlen : (l.take n).length = n) (o : Oper) (ho : (l.drop n).take 1 = [o]) (hm : P.follows .mixedOrders = true) (hB : Region.lexB .any (l.take n).toArray = true) (hp0 : plainB .any (l.take n) o = true)
    (h : wpQuiet P (l.take n).toArray (fun w' => ∃ k, w' = w.drewN k) (fun a' => ∀ k, o.wp P a' (w.drewN k) (fun a'' w'' => Q .normal a'' w'') Q) (l.take n) a) : (Code.region id l.toArray true).wp P Q a w := by
  have hp := plain_of hp0
  rw [ho] at hl
  simp only [Region.lexB, Bool.and_eq_true] at hB
  refine wp_region_any hm ?_
  have h1 := wpAnyQ_lex (C := fun w' => ∃ k, w' = w.drewN k) (md := .any) hB.1 (l.take n) 0 (Array.replicate (l.take n).length false) a (by simp) (by simpa using hB.2) h
  have h2 := wpAny_of_quiet (P := P) (md := .any) (ops := (l.take n).toArray) (C := fun w' => ∃ k, w' = w.drewN k) (Q := fun a' => ∀ k, o.wp P a' (w.drewN k) (fun a'' w'' => Q .normal a'' w'') Q) (Q' := thenLast P o Q) (fun a' w' hw' h => by obtain ⟨k, rfl⟩ := hw'; exact h k) _ _ a (w.drewN 1) ⟨1, rfl⟩ h1
  have h3 := any_last hp _ _ a (w.drewN 1) (by simp) h2
  have hsz : l.length = n + 1 := by
    have := congrArg List.length hl
    rw [List.length_append, hlen] at this
    simpa using this.symm
  rw [hl] at h3
  have e1 : (Array.replicate (l.take n).length false).push false = Array.replicate l.toArray.size false := by
    rw [hlen, List.size_toArray, hsz, Array.replicate_succ]
  rw [e1, hlen] at h3
  rw [show l.toArray.size = n + 1 by simp [hsz]] at h3 ⊢
  exact h3
end
end Go.Proofs.Ytmglcmhofcejiaa
