/- A region that draws its order: a move that comes up first, others that only read, then three operations, each of which waits for all others but the move: Rg2 anew. An append of one element beyond the bound of the kit's law: Gn3. -/
import Derived.Test.YtcjahdgppnmdkaaGn3
set_option maxRecDepth 100000
namespace Go.Proofs.Ytcjahdgppnmdkaa
open Go.RowKit Go.Great

section
variable {P : Program} {md : Region.Mode} {L : List Oper} {o : Oper} {Q : Exit → Act → World → Prop}

/-- Plainly2, but nothing is asked of the first operation -/
def Plainly3 (md : Region.Mode) (L : List Oper) (o : Oper) : Prop :=
  (∀ x ∈ L, x.guard = none) ∧ o.guard = none ∧ (∀ (i : Nat) (x : Oper), L[i]? = some x → ∀ e ∈ x.after, e.on < i) ∧ (∀ e ∈ o.after, e.on < L.length) ∧ (∀ j, j < L.length → j = 0 ∨ ∃ e ∈ o.after, Region.binds md e = true ∧ reach2 md L 12 e.on j = true)
def plainB3 (md : Region.Mode) (L : List Oper) (o : Oper) : Bool :=
  L.all (fun x => x.guard.isNone) && (o.guard.isNone && (L.zipIdx.all (fun p => p.1.after.all fun e => decide (e.on < p.2)) && (o.after.all (fun e => decide (e.on < L.length)) && (List.range L.length).all fun j => j == 0 || o.after.any fun e => Region.binds md e && reach2 md L 12 e.on j)))
theorem plain_of3 (h : plainB3 md L o = true) : Plainly3 md L o := by
  simp only [plainB3, Bool.and_eq_true] at h
  obtain ⟨h1, h2, h3, h4, h5⟩ := h
  refine ⟨fun x hx => ?_, ?_, fun i x hx e he => ?_, fun e he => ?_, fun j hj => ?_⟩
  · have := List.all_eq_true.1 h1 x hx
    simpa using this
  · simpa using h2
  · have := List.all_eq_true.1 h3 (x, i) (List.mk_mem_zipIdx_iff_getElem?.2 hx)
    exact of_decide_eq_true (Array.all_eq_true'.1 this e he)
  · exact of_decide_eq_true (Array.all_eq_true'.1 h4 e he)
  · have := List.all_eq_true.1 h5 j (List.mem_range.2 hj)
    rw [Bool.or_eq_true] at this
    rcases this with this | this
    · exact .inl (by simpa using this)
    · obtain ⟨e, he, hb⟩ := Array.any_eq_true'.1 this
      simp only [Bool.and_eq_true] at hb
      exact .inr ⟨e, he, hb.1, hb.2⟩
theorem kept_zero {listed : Array Bool} {i : Nat} (h : listed.getD 0 false = true) : (listed.setIfInBounds i true).getD 0 false = true := by
  rw [Array.getD_eq_getD_getElem?] at h ⊢
  rw [Array.getElem?_setIfInBounds]
  by_cases e : i = 0
  · subst e
    by_cases hlt : 0 < listed.size
    · simp [hlt]
    · rw [Array.getElem?_eq_none (by omega)] at h; cases h
  · rw [if_neg e]; exact h
theorem front_ready3 (hp : Plainly3 md L o) {listed : Array Bool} (hs : listed.size = L.length) : (∀ i, i < L.length → listed.getD i true = true) ∨ ∃ i, i < L.length ∧ i ∈ Region.ready md L.toArray listed := by
  rcases all_or_some2 L.length (fun i => listed.getD i true) with h | ⟨i, h1, h2, h3⟩
  · exact .inl h
  · refine .inr ⟨i, h1, mem_ready.2 ⟨h2, L[i], by simp [h1], fun e he _ => ?_⟩⟩
    have := hp.2.2.1 i L[i] (by simp [h1]) e he
    rw [getD_dft2 listed (by omega) false true]
    exact h3 _ this
theorem ready_front3 (hp : Plainly3 md L o) {listed : Array Bool} (hs : listed.size = L.length) {i : Nat} (hi : i < L.length) : i ∈ Region.ready md (L ++ [o]).toArray (listed.push false) ↔ i ∈ Region.ready md L.toArray listed := by
  rw [mem_ready, mem_ready, getD_push2 _ _ (by omega), front_at2 L o hi]
  refine and_congr_right fun _ => ?_
  refine exists_congr fun x => ?_
  refine and_congr_right fun hx => ?_
  have hx' : L[i]? = some x := by simpa using hx
  refine forall_congr' fun e => forall_congr' fun he => forall_congr' fun _ => ?_
  have := hp.2.2.1 i x hx' e he
  rw [getD_push2 _ _ (by omega)]
theorem ready_last3 (hp : Plainly3 md L o) {listed : Array Bool} (hc : Closed2 md L listed) (hz : listed.getD 0 false = true) (hs : listed.size = L.length) : L.length ∈ Region.ready md (L ++ [o]).toArray (listed.push false) ↔ ∀ i, i < L.length → listed.getD i true = true := by
  rw [mem_ready]
  constructor
  · rintro ⟨_, x, hx, hall⟩ i hi
    obtain rfl : o = x := by rw [last_at2] at hx; injection hx
    rcases hp.2.2.2.2 i hi with rfl | ⟨e, he, hb, hon⟩
    · rw [getD_dft2 listed (by omega) true false]; exact hz
    have := hall e he hb
    have hlt := hp.2.2.2.1 e he
    rw [getD_push2 _ _ (by omega)] at this
    rw [getD_dft2 listed (by omega) true false]
    exact closed_reach2 hc 12 _ _ this hon
  · intro h
    refine ⟨by rw [← hs]; simp [Array.getD_eq_getD_getElem?], o, last_at2 L o, fun e he _ => ?_⟩
    have := hp.2.2.2.1 e he
    rw [getD_push2 _ _ (by omega), getD_dft2 listed (by omega) false true]
    exact h _ this
theorem last_step3 (hp : Plainly3 md L o) {fuel : Nat} {listed : Array Bool} {a : Act} {w : World} (hs : listed.size = L.length) (hall : ∀ i, i < L.length → listed.getD i true = true) (h : o.wp P a w (fun a' w' => Q .normal a' w') Q) : wpOp P (L ++ [o]).toArray Q L.length (wpAny P md (L ++ [o]).toArray Q fuel ((listed.push false).setIfInBounds L.length true)) a w := by
  have hr : Region.ready md (L ++ [o]).toArray ((listed.push false).setIfInBounds L.length true) = [] := by
    apply ready_none2
    intro i hi
    by_cases e : i = L.length
    · subst e; simp [Array.getD_eq_getD_getElem?, hs]
    · have hi' : i < L.length := by omega
      have := hall i hi'
      rw [← getD_push2 listed false (by omega)] at this
      have h2 : ((listed.push false).setIfInBounds L.length true).getD i true = (listed.push false).getD i true := by
        simp [Array.getD_eq_getD_getElem?, Ne.symm e]
      rw [h2]
      exact this
  unfold wpOp
  simp only [last_at2]
  have hw : Region.wanted o (yielded (L ++ [o]).toArray a.tmps) = true := by simp [Region.wanted, hp.2.1]
  rw [if_pos hw]
  refine .inl (Oper.wp_mono (fun a' w' hq => ?_) h)
  cases fuel with
  | zero => exact ⟨hr, hq⟩
  | succ n => exact ⟨fun _ => hq, fun i hi => by rw [hr] at hi; cases hi⟩
theorem any_last3 (hp : Plainly3 md L o) : ∀ (fuel : Nat) (listed : Array Bool) (a : Act) (w : World), listed.size = L.length → Closed2 md L listed → listed.getD 0 false = true → wpAny P md L.toArray (thenLast2 P o Q) fuel listed a w → wpAny P md (L ++ [o]).toArray Q (fuel + 1) (listed.push false) a w := by
  intro fuel
  induction fuel with
  | zero =>
    intro listed a w hs hc hz h
    obtain ⟨hr, hq⟩ := h
    have hall : ∀ i, i < L.length → listed.getD i true = true := by
      rcases front_ready3 hp hs with h | ⟨i, _, hi⟩
      · exact h
      · rw [hr] at hi; cases hi
    refine ⟨fun h0 => ?_, fun i hi => ?_⟩
    · have := (ready_last3 hp hc hz hs).2 hall
      rw [h0] at this; cases this
    · by_cases e : i < L.length
      · have := (ready_front3 hp hs e).1 hi
        rw [hr] at this; cases this
      · obtain rfl : i = L.length := by have := ready_lt2 hi; omega
        exact last_step3 hp hs hall hq
  | succ fuel ih =>
    intro listed a w hs hc hz h
    obtain ⟨hn, hi⟩ := h
    refine ⟨fun h0 => ?_, fun i hr => ?_⟩
    · rcases front_ready3 hp hs with h | ⟨i, hlt, hi⟩
      · have := (ready_last3 hp hc hz hs).2 h
        rw [h0] at this; cases this
      · have := (ready_front3 hp hs hlt).2 hi
        rw [h0] at this; cases this
    · by_cases e : i < L.length
      · have h1 := hi i ((ready_front3 hp hs e).1 hr)
        unfold wpOp at h1 ⊢
        rw [front_at2 L o e]
        cases hx : L.toArray[i]? with
        | none => simp at hx; omega
        | some x =>
          simp only [hx] at h1 ⊢
          have hg := hp.1 x (List.mem_of_getElem? (by simpa using hx))
          have hw : ∀ ops : Array Oper, Region.wanted x (yielded ops a.tmps) = true := fun ops => by simp [Region.wanted, hg]
          rw [if_pos (hw _)] at h1 ⊢
          rcases h1 with h1 | ⟨h1, h2⟩
          · refine .inl (upon_last2 (fun a' w' hh => ?_) h1)
            rw [push_set2 _ (by omega)]
            exact ih _ a' w' (by simpa using hs) (closed_set2 hc ((ready_front3 hp hs e).1 hr)) (kept_zero hz) hh
          · exact .inr ⟨h1, h2⟩
      · obtain rfl : i = L.length := by have := ready_lt2 hr; omega
        have hall := (ready_last3 hp hc hz hs).1 hr
        refine last_step3 hp hs hall (hn ?_)
        rw [List.eq_nil_iff_forall_not_mem]
        intro i hi2
        obtain ⟨h2, x, hx, _⟩ := mem_ready.1 hi2
        have hlt : i < L.length := by simpa using (Array.getElem?_eq_some_iff.1 hx).1
        rw [hall i hlt] at h2
        cases h2
theorem held_of_any : ∀ (fuel : Nat) (listed : Array Bool) (a : Act) (w : World) {ops : Array Oper}, wpAny P md ops Q fuel listed a w → wpAnyH P md ops Q (fun _ => True) fuel listed a w
  | 0, _, _, _, _, h => h
  | fuel + 1, _, _, _, _, h => ⟨h.1, fun i hi => wpOp_mono (fun a' w' h' => ⟨trivial, held_of_any fuel _ a' w' h'⟩) (h.2 i hi)⟩
end
/-- which operations have come up: the first one alone -/
def one1 (n : Nat) : Array Bool := (Array.replicate n false).setIfInBounds 0 true
theorem one1_push (n : Nat) (h : 0 < n) : (one1 n).push false = one1 (n + 1) := by
  unfold one1
  rw [← push_set2 _ (by simpa using h), rep_push]
theorem one1_size (n : Nat) : (one1 n).size = n := by simp [one1]
theorem one1_zero (n : Nat) (h : 0 < n) : (one1 n).getD 0 false = true := by simp [one1, h]
theorem one1_closed {md : Region.Mode} {L : List Oper} {o : Oper} (n : Nat) (h0 : L[0]? = some o) (ha : o.after = #[]) : Closed2 md L (one1 n) := by
  intro k x hx hk e he
  unfold one1 at hk
  rw [Array.getD_eq_getD_getElem?, Array.getElem?_setIfInBounds] at hk
  by_cases e0 : 0 = k
  · subst e0
    rw [h0] at hx
    injection hx with hx
    rw [← hx, ha] at he
    simp at he
  · rw [if_neg e0, Array.getElem?_replicate] at hk
    split at hk <;> cases hk
/-- a move first, others that only read, then three operations one behind the other -/
theorem reg_move3 {P : Program} {Q : Exit → Act → World → Prop} {id : Nat} {a : Act} {w : World} {l : List Oper} (n : Nat) (v : Value) (o0 o1 o2 o3 : Oper) (A : List Oper) (_h0 : l.take 1 = [o0]) (_hA : (l.take n).drop 1 = A) (_g1 : (l.drop n).take 1 = [o1]) (_g2 : (l.drop (n + 1)).take 1 = [o2]) (_g3 : (l.drop (n + 2)).take 1 = [o3]) (hl : o0 :: A ++ [o1] ++ [o2] ++ [o3] = l) (hn : A.length + 1 = n) (ha : o0.after = #[])
    (hm : P.follows .mixedOrders = true) (hs : Region.noSelect l.toArray = true) (hf : Region.free .any l.toArray (Array.replicate l.length false) 0 = true) (hr : (Region.ready .any l.toArray (Array.replicate l.length false)).contains 0 = true)
    (hB : Region.noSelect (o0 :: A).toArray = true) (hB2 : Region.lexFrom .any (o0 :: A).toArray A.length 1 (one1 n) = true) (p1 : plainB3 .any (o0 :: A) o1 = true) (p2 : plainB3 .any (o0 :: A ++ [o1]) o2 = true) (p3 : plainB3 .any (o0 :: A ++ [o1] ++ [o2]) o3 = true)
    (hQ : ∀ c a w, Q (.panic c) (a.put o0.dst v) w → Q (.panic c) a w) (hy : YieldsIf P l.toArray (fun _ => True) o0 v a)
    (h : wpQuiet P (o0 :: A).toArray (fun w' => ∃ k, w' = w.drewN k) (fun a' => ∀ k, o1.wp P a' (w.drewN k) (fun a1 w1 => o2.wp P a1 w1 (fun a2 w2 => o3.wp P a2 w2 (fun a3 w3 => Q .normal a3 w3) Q) (thenLast2 P o3 Q)) (thenLast2 P o2 (thenLast2 P o3 Q))) A (a.put o0.dst v)) : (Code.region id l.toArray true).wp P Q a w := by
  have q1 := plain_of3 p1
  have q2 := plain_of3 p2
  have q3 := plain_of3 p3
  refine wp_region_any hm ?_
  have h1 := wpAnyQ_lex (C := fun w' => ∃ k, w' = w.drewN k) (md := .any) hB A 1 (one1 n) (a.put o0.dst v) (fun j => by simp [Nat.add_comm 1 j]) hB2 h
  have h2 := wpAny_of_quiet (P := P) (md := .any) (ops := (o0 :: A).toArray) (C := fun w' => ∃ k, w' = w.drewN k) (Q := fun a' => ∀ k, o1.wp P a' (w.drewN k) (fun a1 w1 => o2.wp P a1 w1 (fun a2 w2 => o3.wp P a2 w2 (fun a3 w3 => Q .normal a3 w3) Q) (thenLast2 P o3 Q)) (thenLast2 P o2 (thenLast2 P o3 Q))) (Q' := thenLast2 P o1 (thenLast2 P o2 (thenLast2 P o3 Q))) (fun a' w' ⟨k, hk⟩ h => by rw [hk]; exact h k) _ _ (a.put o0.dst v) w.drew ⟨1, rfl⟩ h1
  have h3 := any_last3 q1 _ _ _ w.drew (by rw [one1_size]; simp [hn]) (one1_closed n rfl ha) (one1_zero n (by omega)) h2
  rw [one1_push n (by omega)] at h3
  have h4 := any_last3 q2 _ _ _ w.drew (by rw [one1_size]; simp [hn]) (one1_closed _ rfl ha) (one1_zero _ (by omega)) h3
  rw [one1_push _ (by omega)] at h4
  have h5 := any_last3 q3 _ _ _ w.drew (by rw [one1_size]; simp [hn]) (one1_closed _ rfl ha) (one1_zero _ (by omega)) h4
  rw [one1_push _ (by omega), hl] at h5
  have hsz : l.length = A.length + 1 + 1 + 1 + 1 := by
    have := congrArg List.length hl
    simp only [List.length_append, List.length_cons, List.length_nil] at this
    omega
  have hi0 : l.toArray[0]? = some o0 := by rw [← hl]; simp
  rw [show l.toArray.size = A.length + 1 + 1 + 1 + 1 by simp [hsz]]
  rw [hsz] at hf hr
  refine wpAny_of_held _ _ _ _ (take_at (i := 0) hi0 rfl hs hf hr hQ hy trivial (held_of_any _ _ _ _ ?_))
  rw [show n + 1 + 1 + 1 = A.length + 1 + 1 + 1 + 1 by omega] at h5
  exact h5
theorem wp_abs {P : Program} {o : Oper} {a : Act} {w : World} {K : Act → World → Prop} {Q : Exit → Act → World → Prop} (h : ∀ K' : Act → World → Prop, Hid (∀ a1 w1, K a1 w1 → K' a1 w1) → o.wp P a w K' Q) : o.wp P a w K Q := h K (fun _ _ h => h)
theorem wp_append_run {P : Program} {w w' : World} {o : Oper} {a : Act} {K : Act → World → Prop} {Q : Exit → Act → World → Prop} (s x : Operand) (t : TypeId) (ho : o.op = .call { callee := .builtin .append, args := #[s, x], argTypes := #[t, t] }) (v y v' : Value) (hs : a.eval s = v) (hx : a.eval x = y)
    (hrun : (Builtin.append_ #[t, t] o.type #[v, y]).run P w = .ok v' w') (h : K (a.put o.dst v') w') : o.wp P a w K Q := by
  unfold Oper.wp execOp
  simp only [ho, resolve, invoke, builtin, Sem.run_bind, Sem.run_pure, Result.andThen_ok, List.map_toArray, List.map_cons, List.map_nil, hs, hx, hrun]
  exact h
end Go.Proofs.Ytcjahdgppnmdkaa
