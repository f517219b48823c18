/- A region that draws its order and whose last operation waits for all the others, by itself or by way of another one: the others first, then that one (Rg1, where an edge may be of two steps). -/
import Derived.Test.YtcjahdgppnmdkaaBk0
import Derived.Deep.QuietTactic
set_option maxRecDepth 100000
namespace Go.Proofs.Ytcjahdgppnmdkaa
open Go.RowKit Go.Great

section
variable {P : Program} {md : Region.Mode} {L : List Oper} {o : Oper} {Q : Exit → Act → World → Prop}

/-- what is asked behind the others -/
def thenLast2 (P : Program) (o : Oper) (Q : Exit → Act → World → Prop) : Exit → Act → World → Prop
  | .normal, a, w => o.wp P a w (fun a' w' => Q .normal a' w') Q
  | e, a, w => Q e a w
theorem upon_last2 {x : Oper} {a : Act} {K K' : Act → World → Prop} (h : ∀ a w, K a w → K' a w) {r : Result Next} (hh : x.upon P a K (thenLast2 P o Q) r) : x.upon P a K' Q r := by
  cases r with
  | ok n w' =>
    cases n <;> simp only [Oper.upon] at hh ⊢
    case value => exact h _ _ hh
    case skip => exact h _ _ hh
    case defer => exact h _ _ hh
    case enter =>
      refine Calls.mono hh fun e w'' he => ?_
      cases e with
      | returned u => exact h _ _ he
      | panicked c => exact he
      | outgrown => exact he
    case row => exact Rows.mono hh fun u w'' he => h _ _ he
  | halt x w' =>
    cases x <;> simp only [Oper.upon] at hh ⊢
    case panic => exact hh
/-- by a few steps from an operation to one that it waits for -/
def reach2 (md : Region.Mode) (L : List Oper) : Nat → Nat → Nat → Bool
  | 0, k, j => k == j
  | n + 1, k, j => k == j || match L[k]? with
    | some x => x.after.any (fun f => Region.binds md f && reach2 md L n f.on j)
    | none => false
/-- each operation waits only for earlier ones, and none is guarded -/
def Plainly2 (md : Region.Mode) (L : List Oper) (o : Oper) : Prop :=
  (∀ x ∈ L, x.guard = none) ∧ o.guard = none ∧ (∀ (i : Nat) (x : Oper), L[i]? = some x → ∀ e ∈ x.after, e.on < i) ∧ (∀ e ∈ o.after, e.on < L.length) ∧ (∀ j, j < L.length → ∃ e ∈ o.after, Region.binds md e = true ∧ reach2 md L 12 e.on j = true)
def plainB2 (md : Region.Mode) (L : List Oper) (o : Oper) : Bool :=
  L.all (fun x => x.guard.isNone) && (o.guard.isNone && (L.zipIdx.all (fun p => p.1.after.all fun e => decide (e.on < p.2)) && (o.after.all (fun e => decide (e.on < L.length)) && (List.range L.length).all fun j => o.after.any fun e => Region.binds md e && reach2 md L 12 e.on j)))
theorem plain_of2 (h : plainB2 md L o = true) : Plainly2 md L o := by
  simp only [plainB2, Bool.and_eq_true] at h
  obtain ⟨h1, h2, h3, h4, h5⟩ := h
  refine ⟨fun x hx => ?_, ?_, fun i x hx e he => ?_, fun e he => ?_, fun j hj => ?_⟩
  · have := List.all_eq_true.1 h1 x hx
    simpa using this
  · simpa using h2
  · have := List.all_eq_true.1 h3 (x, i) (List.mk_mem_zipIdx_iff_getElem?.2 hx)
    exact of_decide_eq_true (Array.all_eq_true'.1 this e he)
  · exact of_decide_eq_true (Array.all_eq_true'.1 h4 e he)
  · have := List.all_eq_true.1 h5 j (List.mem_range.2 hj)
    obtain ⟨e, he, hb⟩ := Array.any_eq_true'.1 this
    simp only [Bool.and_eq_true] at hb
    exact ⟨e, he, hb.1, hb.2⟩
/-- whatever has come up waits for nothing -/
def Closed2 (md : Region.Mode) (L : List Oper) (listed : Array Bool) : Prop := ∀ (k : Nat) (x : Oper), L[k]? = some x → listed.getD k false = true → ∀ e ∈ x.after, Region.binds md e = true → listed.getD e.on false = true
theorem closed_reach2 {listed : Array Bool} (h : Closed2 md L listed) : ∀ (n k j : Nat), listed.getD k false = true → reach2 md L n k j = true → listed.getD j false = true
  | 0, k, j, hk, hr => by
    have : k = j := by simpa [reach2] using hr
    rw [← this]; exact hk
  | n + 1, k, j, hk, hr => by
    unfold reach2 at hr
    rw [Bool.or_eq_true] at hr
    rcases hr with hr | hr
    · have : k = j := by simpa using hr
      rw [← this]; exact hk
    · cases hx : L[k]? with
      | none => rw [hx] at hr; cases hr
      | some x =>
        rw [hx] at hr
        obtain ⟨f, hf, hg⟩ := Array.any_eq_true'.1 hr
        rw [Bool.and_eq_true] at hg
        exact closed_reach2 h n f.on j (h k x hx hk f hf hg.1) hg.2
theorem closed_set2 {listed : Array Bool} {i : Nat} (h : Closed2 md L listed) (hi : i ∈ Region.ready md L.toArray listed) : Closed2 md L (listed.setIfInBounds i true) := by
  obtain ⟨_, x, hx, hall⟩ := mem_ready.1 hi
  have up : ∀ j, listed.getD j false = true → (listed.setIfInBounds i true).getD j false = true := by
    intro j hj
    rw [Array.getD_eq_getD_getElem?] at hj ⊢
    rw [Array.getElem?_setIfInBounds]
    by_cases e : i = j
    · subst e
      by_cases hlt : i < listed.size
      · simp [hlt]
      · rw [Array.getElem?_eq_none (by omega)] at hj; cases hj
    · rw [if_neg e]; exact hj
  intro k y hy hk e he hb
  by_cases hki : k = i
  · subst hki
    have : y = x := by
      have h1 : L[k]? = some x := by simpa using hx
      rw [hy] at h1; injection h1
    subst this
    exact up _ (hall e he hb)
  · refine up _ (h k y hy ?_ e he hb)
    rw [Array.getD_eq_getD_getElem?] at hk ⊢
    rw [Array.getElem?_setIfInBounds, if_neg (fun e => hki e.symm)] at hk
    exact hk
theorem closed_none2 (n : Nat) : Closed2 md L (Array.replicate n false) := by
  intro k x _ hk
  rw [Array.getD_eq_getD_getElem?, Array.getElem?_replicate] at hk
  split at hk <;> cases hk
theorem last_at2 (L : List Oper) (o : Oper) : (L ++ [o]).toArray[L.length]? = some o := by simp
theorem front_at2 (L : List Oper) (o : Oper) {i : Nat} (h : i < L.length) : (L ++ [o]).toArray[i]? = L.toArray[i]? := by
  simp [List.getElem?_append_left h]
theorem all_or_some2 (n : Nat) (p : Nat → Bool) : (∀ i, i < n → p i = true) ∨ ∃ i, i < n ∧ p i = false ∧ ∀ j, j < i → p j = true := by
  induction n with
  | zero => exact .inl fun i h => absurd h (Nat.not_lt_zero i)
  | succ n ih =>
    rcases ih with ih | ⟨i, h1, h2, h3⟩
    · cases hp : p n
      · exact .inr ⟨n, Nat.lt_succ_self n, hp, ih⟩
      · refine .inl fun i hi => ?_
        by_cases e : i = n
        · rw [e]; exact hp
        · exact ih i (by omega)
    · exact .inr ⟨i, by omega, h2, h3⟩
theorem getD_push2 (l : Array Bool) (b : Bool) {i : Nat} (h : i < l.size) (d : Bool) : (l.push b).getD i d = l.getD i d := by
  simp [Array.getD_eq_getD_getElem?, Array.getElem?_push, Nat.ne_of_lt h]
theorem getD_dft2 (l : Array Bool) {i : Nat} (h : i < l.size) (d d' : Bool) : l.getD i d = l.getD i d' := by
  simp [h]
/-- some operation of the front is ready, or all have come up -/
theorem front_ready2 (hp : Plainly2 md L o) {listed : Array Bool} (hs : listed.size = L.length) : (∀ i, i < L.length → listed.getD i true = true) ∨ ∃ i, i < L.length ∧ i ∈ Region.ready md L.toArray listed := by
  rcases all_or_some2 L.length (fun i => listed.getD i true) with h | ⟨i, h1, h2, h3⟩
  · exact .inl h
  · refine .inr ⟨i, h1, mem_ready.2 ⟨h2, L[i], by simp [h1], fun e he _ => ?_⟩⟩
    have := hp.2.2.1 i L[i] (by simp [h1]) e he
    rw [getD_dft2 listed (by omega) false true]
    exact h3 _ this
theorem ready_front2 (hp : Plainly2 md L o) {listed : Array Bool} (hs : listed.size = L.length) {i : Nat} (hi : i < L.length) : i ∈ Region.ready md (L ++ [o]).toArray (listed.push false) ↔ i ∈ Region.ready md L.toArray listed := by
  rw [mem_ready, mem_ready, getD_push2 _ _ (by omega), front_at2 L o hi]
  refine and_congr_right fun _ => ?_
  refine exists_congr fun x => ?_
  refine and_congr_right fun hx => ?_
  have hx' : L[i]? = some x := by simpa using hx
  refine forall_congr' fun e => forall_congr' fun he => forall_congr' fun _ => ?_
  have := hp.2.2.1 i x hx' e he
  rw [getD_push2 _ _ (by omega)]
theorem ready_last2 (hp : Plainly2 md L o) {listed : Array Bool} (hc : Closed2 md L listed) (hs : listed.size = L.length) : L.length ∈ Region.ready md (L ++ [o]).toArray (listed.push false) ↔ ∀ i, i < L.length → listed.getD i true = true := by
  rw [mem_ready]
  constructor
  · rintro ⟨_, x, hx, hall⟩ i hi
    obtain rfl : o = x := by rw [last_at2] at hx; injection hx
    obtain ⟨e, he, hb, hon⟩ := hp.2.2.2.2 i hi
    have := hall e he hb
    have hlt := hp.2.2.2.1 e he
    rw [getD_push2 _ _ (by omega)] at this
    rw [getD_dft2 listed (by omega) true false]
    exact closed_reach2 hc 12 _ _ this hon
  · intro h
    refine ⟨by rw [← hs]; simp [Array.getD_eq_getD_getElem?], o, last_at2 L o, fun e he _ => ?_⟩
    have := hp.2.2.2.1 e he
    rw [getD_push2 _ _ (by omega), getD_dft2 listed (by omega) false true]
    exact h _ this
theorem ready_lt2 {listed : Array Bool} {i : Nat} (h : i ∈ Region.ready md (L ++ [o]).toArray listed) : i ≤ L.length := by
  obtain ⟨_, x, hx, _⟩ := mem_ready.1 h
  have := (Array.getElem?_eq_some_iff.1 hx).1
  simp at this
  omega
theorem ready_none2 {listed : Array Bool} (hs : ∀ i, i ≤ L.length → listed.getD i true = true) : Region.ready md (L ++ [o]).toArray listed = [] := by
  rw [List.eq_nil_iff_forall_not_mem]
  intro i hi
  have h1 := ready_lt2 hi
  have h2 := (mem_ready.1 hi).1
  rw [hs i h1] at h2
  cases h2
theorem last_step2 (hp : Plainly2 md L o) {fuel : Nat} {listed : Array Bool} {a : Act} {w : World} (hs : listed.size = L.length) (hall : ∀ i, i < L.length → listed.getD i true = true) (h : o.wp P a w (fun a' w' => Q .normal a' w') Q) : wpOp P (L ++ [o]).toArray Q L.length (wpAny P md (L ++ [o]).toArray Q fuel ((listed.push false).setIfInBounds L.length true)) a w := by
  have hr : Region.ready md (L ++ [o]).toArray ((listed.push false).setIfInBounds L.length true) = [] := by
    apply ready_none2
    intro i hi
    by_cases e : i = L.length
    · subst e; simp [Array.getD_eq_getD_getElem?, hs]
    · have hi' : i < L.length := by omega
      have := hall i hi'
      rw [← getD_push2 listed false (by omega)] at this
      have h2 : ((listed.push false).setIfInBounds L.length true).getD i true = (listed.push false).getD i true := by
        simp [Array.getD_eq_getD_getElem?, Ne.symm e]
      rw [h2]
      exact this
  unfold wpOp
  simp only [last_at2]
  have hw : Region.wanted o (yielded (L ++ [o]).toArray a.tmps) = true := by simp [Region.wanted, hp.2.1]
  rw [if_pos hw]
  refine .inl (Oper.wp_mono (fun a' w' hq => ?_) h)
  cases fuel with
  | zero => exact ⟨hr, hq⟩
  | succ n => exact ⟨fun _ => hq, fun i hi => by rw [hr] at hi; cases hi⟩
theorem push_set2 (l : Array Bool) {i : Nat} (h : i < l.size) : (l.push false).setIfInBounds i true = (l.setIfInBounds i true).push false := by
  apply Array.ext_getElem?
  intro j
  simp only [Array.getElem?_setIfInBounds, Array.getElem?_push, Array.size_push, Array.size_setIfInBounds]
  by_cases e : i = j
  · subst e; simp [h, Nat.lt_succ_of_lt h, Nat.ne_of_lt h]
  · simp [e]
theorem any_last2 (hp : Plainly2 md L o) : ∀ (fuel : Nat) (listed : Array Bool) (a : Act) (w : World), listed.size = L.length → Closed2 md L listed → wpAny P md L.toArray (thenLast2 P o Q) fuel listed a w → wpAny P md (L ++ [o]).toArray Q (fuel + 1) (listed.push false) a w := by
  intro fuel
  induction fuel with
  | zero =>
    intro listed a w hs hc h
    obtain ⟨hr, hq⟩ := h
    have hall : ∀ i, i < L.length → listed.getD i true = true := by
      rcases front_ready2 hp hs with h | ⟨i, _, hi⟩
      · exact h
      · rw [hr] at hi; cases hi
    refine ⟨fun h0 => ?_, fun i hi => ?_⟩
    · have := (ready_last2 hp hc hs).2 hall
      rw [h0] at this; cases this
    · by_cases e : i < L.length
      · have := (ready_front2 hp hs e).1 hi
        rw [hr] at this; cases this
      · obtain rfl : i = L.length := by have := ready_lt2 hi; omega
        exact last_step2 hp hs hall hq
  | succ fuel ih =>
    intro listed a w hs hc h
    obtain ⟨hn, hi⟩ := h
    refine ⟨fun h0 => ?_, fun i hr => ?_⟩
    · rcases front_ready2 hp hs with h | ⟨i, hlt, hi⟩
      · have := (ready_last2 hp hc hs).2 h
        rw [h0] at this; cases this
      · have := (ready_front2 hp hs hlt).2 hi
        rw [h0] at this; cases this
    · by_cases e : i < L.length
      · have h1 := hi i ((ready_front2 hp hs e).1 hr)
        unfold wpOp at h1 ⊢
        rw [front_at2 L o e]
        cases hx : L.toArray[i]? with
        | none => simp at hx; omega
        | some x =>
          simp only [hx] at h1 ⊢
          have hg := hp.1 x (List.mem_of_getElem? (by simpa using hx))
          have hw : ∀ ops : Array Oper, Region.wanted x (yielded ops a.tmps) = true := fun ops => by simp [Region.wanted, hg]
          rw [if_pos (hw _)] at h1 ⊢
          rcases h1 with h1 | ⟨h1, h2⟩
          · refine .inl (upon_last2 (fun a' w' hh => ?_) h1)
            rw [push_set2 _ (by omega)]
            exact ih _ a' w' (by simpa using hs) (closed_set2 hc ((ready_front2 hp hs e).1 hr)) hh
          · exact .inr ⟨h1, h2⟩
      · obtain rfl : i = L.length := by have := ready_lt2 hr; omega
        have hall := (ready_last2 hp hc hs).1 hr
        refine last_step2 hp hs hall (hn ?_)
        rw [List.eq_nil_iff_forall_not_mem]
        intro i hi2
        obtain ⟨h2, x, hx, _⟩ := mem_ready.1 hi2
        have hlt : i < L.length := by simpa using (Array.getElem?_eq_some_iff.1 hx).1
        rw [hall i hlt] at h2
        cases h2
end
end Go.Proofs.Ytcjahdgppnmdkaa
