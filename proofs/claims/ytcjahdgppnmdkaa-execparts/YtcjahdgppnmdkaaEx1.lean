/- Package exec: a queue of turns, and its small methods. -/
import Derived.Test.YtcjahdgppnmdkaaExM
import Derived.Test.YtcjahdgppnmdkaaGn3
import Derived.Test.YtcjahdgppnmdkaaGn4
import Derived.Test.YtcjahdgppnmdkaaRg3
import Derived.WalkSmall
import Derived.Laws.AppendOwnNone
set_option maxRecDepth 100000
namespace Go.Proofs.Ytcjahdgppnmdkaa
open Go.RowKit Go.Great

def tuC (t : Tu) : List Value := [.int .i64 t.tk, .int .i64 t.rk, .int .i64 t.nu, .int .i64 t.pe]
abbrev tuV (t : Tu) : Value := .agg #[.int .i64 t.tk, .int .i64 t.rk, .int .i64 t.nu, .int .i64 t.pe]
def tusC (L : List Tu) : List Value := L.flatMap tuC
theorem tusC_len (L : List Tu) : (tusC L).length = L.length * 4 := by
  induction L with
  | nil => rfl
  | cons x r ih => rw [tusC, List.flatMap_cons, List.length_append, ← tusC, ih, List.length_cons, show (tuC x).length = 4 from rfl]; omega
theorem tusC_app (L M : List Tu) : tusC (L ++ M) = tusC L ++ tusC M := by simp [tusC]
theorem tusC_get {x : Tu} {j : Nat} {u : Value} (hj : (tuC x)[j]? = some u) : ∀ {L : List Tu} {i : Nat}, L[i]? = some x → (tusC L)[i * 4 + j]? = some u
  | [], i, h => by simp at h
  | y :: r, 0, h => by
    simp at h
    subst h
    rw [tusC, List.flatMap_cons, Nat.zero_mul, Nat.zero_add, List.getElem?_append_left ((List.getElem?_eq_some_iff.1 hj).1)]
    exact hj
  | y :: r, i + 1, h => by
    have hl : (tuC y).length = 4 := rfl
    rw [tusC, List.flatMap_cons, List.getElem?_append_right (by rw [hl]; omega), hl, show (i + 1) * 4 + j - 4 = i * 4 + j by omega]
    exact tusC_get hj (by simpa using h)
theorem tusC_one (L : List Tu) : ∀ u ∈ tusC L, u.oneCell' = true := by
  intro u hu
  unfold tusC at hu
  rw [List.mem_flatMap] at hu
  obtain ⟨x, _, hx⟩ := hu
  simp [tuC] at hx
  rcases hx with rfl | rfl | rfl | rfl <;> rfl
theorem tusC_cons (x : Tu) (r : List Tu) : tusC (x :: r) = tuC x ++ tusC r := by rw [tusC, List.flatMap_cons, ← tusC]
theorem tusC_take (L : List Tu) (n : Nat) : tusC (L.take n) = (tusC L).take (n * 4) := by
  induction L generalizing n with
  | nil => simp [tusC]
  | cons x r ih =>
    cases n with
    | zero => simp [tusC]
    | succ n =>
      rw [List.take_succ_cons, tusC_cons, tusC_cons, ih, show (n + 1) * 4 = (tuC x).length + n * 4 by rw [show (tuC x).length = 4 from rfl]; omega, List.take_length_add_append]
theorem tusC_set (x : Tu) : ∀ (L : List Tu) (i : Nat), tusC (L.set i x) = (((((tusC L).set (i * 4) (.int .i64 x.tk)).set (i * 4 + 1) (.int .i64 x.rk)).set (i * 4 + 2) (.int .i64 x.nu)).set (i * 4 + 3) (.int .i64 x.pe))
  | [], i => by simp [tusC]
  | y :: r, 0 => by simp [tusC, tuC]
  | y :: r, i + 1 => by
    have e : ∀ (k : Nat) (l : List Value) (v : Value), (tuC y ++ l).set (4 + k) v = tuC y ++ l.set k v := fun k l v => by simp [tuC, show 4 + k = k + 1 + 1 + 1 + 1 by omega]
    have ih := tusC_set x r i
    rw [List.set_cons_succ, tusC, List.flatMap_cons, ← tusC, ih]
    conv => rhs; rw [tusC, List.flatMap_cons, ← tusC]
    rw [show (i + 1) * 4 = 4 + i * 4 by omega, e, show 4 + i * 4 + 1 = 4 + (i * 4 + 1) by omega, e, show 4 + i * 4 + 2 = 4 + (i * 4 + 2) by omega, e, show 4 + i * 4 + 3 = 4 + (i * 4 + 3) by omega, e]
theorem info_tu : (Try.prog.info? 148).map (fun i => (i.zero, i.size, i.bytes)) = some (some (.agg #[.int .i64 0, .int .i64 0, .int .i64 0, .int .i64 0]), 4, 32) := by kernel_rfl
/-- block j holds turns -/
def TB (w : World) (j : Nat) : Prop := ∃ cs fr, w.heap[j]? = some (.cells cs 148 fr)
/-- all that was there is as it was, but for block Q and blocks of turns from b on -/
structure KB (b Q : Nat) (w w' : World) : Prop where
  os : w'.os = w.os
  tape : w'.tape = w.tape
  output : w'.output = w.output
  size : w.heap.size ≤ w'.heap.size
  block : ∀ j, j < w.heap.size → j ≠ Q → (b ≤ j → ¬ TB w j) → w'.heap[j]? = w.heap[j]?
theorem KB.refl (b Q : Nat) (w : World) : KB b Q w w := ⟨rfl, rfl, rfl, Nat.le_refl _, fun _ _ _ _ => rfl⟩
theorem KB.trans {b Q : Nat} {x y z : World} (h : KB b Q x y) (k : KB b Q y z) : KB b Q x z :=
  ⟨k.os.trans h.os, k.tape.trans h.tape, k.output.trans h.output, Nat.le_trans h.size k.size, fun i hi hn ht => by
    have e := h.block i hi hn ht
    refine (k.block i (Nat.lt_of_lt_of_le hi h.size) hn (fun hb => ?_)).trans e
    rintro ⟨cs, fr, hc⟩
    rw [e] at hc
    exact ht hb ⟨cs, fr, hc⟩⟩
theorem KB.of_below {b Q : Nat} {w w' : World} (h : Below w.heap.size w w') (_hb : b ≤ w.heap.size) : KB b Q w w' := ⟨h.os, h.tape, h.output, h.size, fun j hj _ _ => h.block j hj⟩
theorem KB.below {b Q : Nat} {w w' : World} (h : KB b Q w w') (hb : b ≤ w.heap.size) (hQ : b ≤ Q) : Below b w w' := ⟨h.os, h.tape, h.output, h.size, fun j hj => h.block j (by omega) (by omega) (fun e => by omega)⟩
theorem KB.grown {Q : Nat} {w w' : World} (h : KB w.heap.size Q w w') : w.grownBy w' (some Q) := ⟨h.os, h.tape, h.output, h.size, fun j hj hn => h.block j hj (fun e => hn (by rw [e])) (fun e => by omega)⟩
theorem KB.of_grown {b Q : Nat} {w w' : World} {r : Option Nat} (h : w.grownBy w' r) (_hb : b ≤ w.heap.size) (hr : ∀ k, r = some k → k = Q ∨ (b ≤ k ∧ TB w k)) : KB b Q w w' := ⟨h.os, h.tape, h.output, h.size, fun j hj hn ht => h.block j hj (fun e => by
  rcases hr j e.symm with e | e
  · exact hn e
  · exact ht e.1 e.2)⟩
theorem KB.drewN {b Q : Nat} {w w' : World} (h : KB b Q w w') (k : Nat) : KB b Q w (w'.drewN k) := by
  induction k with
  | zero => exact h
  | succ k ih => exact ⟨ih.os, ih.tape, ih.output, ih.size, ih.block⟩
theorem KB.set {b Q : Nat} {w w' : World} (h : KB b Q w w') (g k : Nat) (x : Value) (hg : g = Q ∨ (b ≤ g ∧ TB w g)) : KB b Q w (w'.setCell ⟨g, k, none⟩ x) :=
  ⟨h.os, h.tape, h.output, by rw [setCell_size]; exact h.size, fun j hj hn ht => (Below.heap_setCell _ _ _ _ (by
    show j ≠ g
    intro e
    subst e
    rcases hg with e | e
    · exact hn e
    · exact ht e.1 e.2)).trans (h.block j hj hn ht)⟩
theorem TB.of {w : World} {g : Nat} {cur : Array Value} (h : Blk w g cur 148) : TB w g := ⟨cur, (0, 0), h⟩
theorem KB.blk {b Q : Nat} {w w' : World} (h : KB b Q w w') {g : Nat} {cs : Array Value} {t : TypeId} (hB : Blk w g cs t) (ht : t ≠ 148) (hg : g ≠ Q) : Blk w' g cs t := by
  unfold Blk at hB ⊢
  rw [h.block g (lt_of_block hB) hg (fun _ => ?_), hB]
  rintro ⟨c2, fr, h2⟩
  rw [hB] at h2
  injection h2 with h2
  injection h2 with _ h2
  exact ht h2
theorem KB.row {b Q : Nat} {w w' : World} (h : KB b Q w w') {base size n : Nat} {e : TypeId} {v : Value} {xs : List Value} (hR : w.ownsRow base e size v n xs) (he : e ≠ 148) (hQ : v.ownBlock ≠ some Q) : w'.ownsRow base e size v n xs := by
  refine ⟨hR.1, ?_⟩
  rcases hR.2 with h1 | ⟨g, cap, cur, rfl, hb, hh, rest⟩
  · exact .inl h1
  · exact .inr ⟨g, cap, cur, rfl, hb, h.blk hh he (by simpa [Value.ownBlock] using hQ), rest⟩
/-- a queue: its slice behind the cells pre of block Q, its turns l in a block of their own, from b on -/
structure Qu (w : World) (b Q o : Nat) (pre : List Value) (ty : TypeId) (a : Option Addr) (cap : Nat) (l : List Tu) : Prop where
  po : pre.length = o
  bs : b ≤ w.heap.size
  box : Blk w Q (pre ++ [Value.slice a l.length cap]).toArray ty
  own : w.ownsRow b 148 4 (.slice a l.length cap) l.length (tusC l)
  ok : ∀ t ∈ l, TOk t
  ht : 148 ≠ ty
theorem Qu.cellQ {w : World} {b Q o cap : Nat} {pre : List Value} {ty : TypeId} {a : Option Addr} {l : List Tu} (h : Qu w b Q o pre ty a cap l) : w.cell? ⟨Q, o, none⟩ = some (.slice a l.length cap) := h.box.cell _ (by simp [← h.po])
theorem Qu.row {w : World} {b Q o cap : Nat} {pre : List Value} {ty : TypeId} {a : Option Addr} {l : List Tu} (h : Qu w b Q o pre ty a cap l) (h0 : 0 < l.length) : ∃ g cur, a = some ⟨g, 0, none⟩ ∧ Blk w g cur 148 ∧ b ≤ g ∧ l.length ≤ cap ∧ cap ≤ maxLen ∧ cur.size = cap * 4 ∧ cur.toList.take (l.length * 4) = tusC l ∧ g ≠ Q := by
  rcases h.own.2 with ⟨_, h1⟩ | ⟨g', cap', cur, hv, hg, hh, hn, hc, hs, ht⟩
  · rw [h1] at h0; exact absurd h0 (Nat.lt_irrefl 0)
  · injection hv with e1 _ e2
    subst e1 e2
    refine ⟨g', cur, rfl, hh, hg, hn, hc, hs, ?_, ?_⟩
    · rw [ht]
    · have := blk_apart h.own h.box h.ht
      intro e
      subst e
      exact this rfl
theorem Qu.cap_in {w : World} {b Q o cap : Nat} {pre : List Value} {ty : TypeId} {a : Option Addr} {l : List Tu} (h : Qu w b Q o pre ty a cap l) : l.length ≤ cap ∧ cap ≤ 9223372036854775807 := by
  rcases h.own.2 with ⟨h0, h1⟩ | ⟨g', cap', cur, hv, hg, hh, hn, hc, _⟩
  · injection h0 with _ e1 e2
    exact ⟨by rw [e1]; exact Nat.zero_le _, by rw [e2]; exact Nat.zero_le _⟩
  · injection hv with e1 _ e2; subst e2; exact ⟨hn, hc⟩
theorem Qu.at {w : World} {b Q o cap g : Nat} {pre : List Value} {ty : TypeId} {l : List Tu} (h : Qu w b Q o pre ty (some ⟨g, 0, none⟩) cap l) (i : Nat) (hi : i < l.length) : w.cell? ⟨g, i * 4, none⟩ = some (.int .i64 (te l i).tk) ∧ w.cell? ⟨g, i * 4 + 1, none⟩ = some (.int .i64 (te l i).rk) ∧ w.cell? ⟨g, i * 4 + 2, none⟩ = some (.int .i64 (te l i).nu) ∧ w.cell? ⟨g, i * 4 + 3, none⟩ = some (.int .i64 (te l i).pe) := by
  have hx : l[i]? = some (te l i) := by rw [te_get hi]; simp [hi]
  have key : ∀ j u, (tuC (te l i))[j]? = some u → w.cell? ⟨g, i * 4 + j, none⟩ = some u := fun j u hu => by
    have := World.ownsRow.cells h.own (g := g) rfl (i * 4 + j) u (tusC_get hu hx)
    rw [add_plain', Nat.zero_add] at this
    exact this
  exact ⟨key 0 _ rfl, key 1 _ rfl, key 2 _ rfl, key 3 _ rfl⟩
theorem Qu.drewN {w : World} {b Q o cap : Nat} {pre : List Value} {ty : TypeId} {a : Option Addr} {l : List Tu} (h : Qu w b Q o pre ty a cap l) (k : Nat) : Qu (w.drewN k) b Q o pre ty a cap l := by
  induction k with
  | zero => exact h
  | succ k ih => exact ⟨ih.po, ih.bs, ih.box, ih.own, ih.ok, ih.ht⟩
theorem Qu.after {w w' : World} {b Q o cap : Nat} {pre : List Value} {ty : TypeId} {a : Option Addr} {l : List Tu} (h : Qu w b Q o pre ty a cap l) (hb : Below w.heap.size w w') : Qu w' b Q o pre ty a cap l :=
  ⟨h.po, Nat.le_trans h.bs hb.size, h.box.after hb, World.ownsRow.kept h.own (grown_below hb none) (by cases hx : (Value.slice a l.length cap).ownBlock with | none => exact .inl rfl | some k => exact .inr (by simp)), h.ok, h.ht⟩
theorem own_of {w : World} {b g cap n : Nat} {l : List Tu} {cur : Array Value} (hb : b ≤ g) (hB : Blk w g cur 148) (hn : l.length = n) (h1 : n ≤ cap) (h2 : cap ≤ maxLen) (h3 : cur.size = cap * 4) (h4 : cur.toList.take (n * 4) = tusC l) : w.ownsRow b 148 4 (.slice (some ⟨g, 0, none⟩) n cap) n (tusC l) :=
  ⟨by rw [tusC_len, hn], .inr ⟨g, cap, cur, rfl, hb, hB, h1, h2, h3, by rw [h4]⟩⟩
/-- four cells of a block are written -/
def set4 (w : World) (g o : Nat) (x : Tu) : World := (((w.setCell ⟨g, o, none⟩ (.int .i64 x.tk)).setCell ⟨g, o + 1, none⟩ (.int .i64 x.rk)).setCell ⟨g, o + 2, none⟩ (.int .i64 x.nu)).setCell ⟨g, o + 3, none⟩ (.int .i64 x.pe)
theorem Qu.set {w : World} {b Q o g cap : Nat} {pre : List Value} {ty : TypeId} {l : List Tu} (h : Qu w b Q o pre ty (some ⟨g, 0, none⟩) cap l) (i : Nat) (x : Tu) (hi : i < l.length) (hx : TOk x) : Qu (set4 w g (i * 4) x) b Q o pre ty (some ⟨g, 0, none⟩) cap (l.set i x) := by
  obtain ⟨g', cur, e0, hB, hb, h1, h2, h3, h4, hne⟩ := h.row (by omega)
  injection e0 with e0
  injection e0 with e0
  subst e0
  have e : (l.set i x).length = l.length := List.length_set
  refine ⟨h.po, by unfold set4; simp only [setCell_size]; exact h.bs, ?_, ?_, fun t ht => ?_, h.ht⟩
  · rw [e]; exact ((((h.box.setOther hne.symm _ _).setOther hne.symm _ _).setOther hne.symm _ _).setOther hne.symm _ _)
  · rw [e]
    refine own_of hb ((((hB.set _ _).set _ _).set _ _).set _ _) e h1 h2 (by simp [h3]) ?_
    rw [Array.toList_setIfInBounds, Array.toList_setIfInBounds, Array.toList_setIfInBounds, Array.toList_setIfInBounds, List.take_set, List.take_set, List.take_set, List.take_set, h4, tusC_set]
  · rcases List.mem_or_eq_of_mem_set ht with h5 | h5
    · exact h.ok t h5
    · rw [h5]; exact hx
theorem Qu.sw {w : World} {b Q o g cap : Nat} {pre : List Value} {ty : TypeId} {l : List Tu} (h : Qu w b Q o pre ty (some ⟨g, 0, none⟩) cap l) (i j : Nat) (hi : i < l.length) (hj : j < l.length) : Qu (set4 (set4 w g (i * 4) (te l j)) g (j * 4) (te l i)) b Q o pre ty (some ⟨g, 0, none⟩) cap (sw l i j) :=
  (h.set i _ hi (h.ok _ (te_mem hj))).set j _ (by simpa using hj) (h.ok _ (te_mem hi))
theorem arr_set_last (pre : List Value) (x y : Value) : ((pre ++ [x]).toArray).setIfInBounds pre.length y = (pre ++ [y]).toArray := by simp
/-- the last one is taken away -/
theorem Qu.less {w : World} {b Q o g cap n : Nat} {pre : List Value} {ty : TypeId} {l : List Tu} (h : Qu w b Q o pre ty (some ⟨g, 0, none⟩) cap l) (hn : l.length = n + 1) : Qu (w.setCell ⟨Q, o, none⟩ (.slice (some ⟨g, 0, none⟩) n cap)) b Q o pre ty (some ⟨g, 0, none⟩) cap (l.take n) := by
  obtain ⟨g', cur, e0, hB, hb, h1, h2, h3, h4, hne⟩ := h.row (by omega)
  injection e0 with e0
  injection e0 with e0
  subst e0
  have e : (l.take n).length = n := by rw [List.length_take]; omega
  refine ⟨h.po, by rw [setCell_size]; exact h.bs, ?_, ?_, fun t ht => h.ok t (List.mem_of_mem_take ht), h.ht⟩
  · rw [e, ← arr_set_last pre (.slice (some ⟨g, 0, none⟩) l.length cap), h.po]; exact h.box.set _ _
  · rw [e]
    refine own_of hb (hB.setOther hne _ _) e (by omega) h2 h3 ?_
    rw [tusC_take, ← h4, List.take_take, hn, Nat.min_eq_left (by omega)]
/-- what a queue's method leaves: the queue, and all below but block Q -/
def QEnd (w : World) (b Q o : Nat) (pre : List Value) (ty : TypeId) (a : Option Addr) (cap : Nat) (l : List Tu) (v : Value) (e : Ending) (w' : World) : Prop := e = .returned v ∧ Qu w' b Q o pre ty a cap l ∧ KB b Q w w'
abbrev slQ (a : Option Addr) (n cap : Nat) : Value := .slice a n cap
abbrev qP (Q o : Nat) : Value := .pointer (some ⟨Q, o, none⟩)
abbrev qI (Q o : Nat) : Value := .iface 145 (qP Q o)
theorem len_any (a : Option Addr) (n cap : Nat) (w : World) : Calls Try.prog 130 #[.slice a n cap] w fun e w' => e = .returned (.int .i64 n) ∧ w' = w := by
  go_enter Try.func130, Try.ntmps130
  go_wp2
  go_ret
  exact ⟨rfl, rfl⟩
theorem nan_any (x : Int) (w : World) : Calls Try.prog 136 #[.int .i64 x] w fun e w' => e = .returned (.bool false) ∧ w' = w := by
  go_enter Try.func136, Try.ntmps136
  go_wp2
  go_ret
  simp
set_option maxHeartbeats 1000000 in
theorem cmp_any (x y : Int) (w : World) : Calls Try.prog 135 #[.int .i64 x, .int .i64 y] w fun e w' => e = .returned (.int .i64 (cm x y)) ∧ w' = w := by
  have N1 := hide (nan_any x w)
  have N2 := hide (nan_any y w)
  rcases cm_cases x y with ⟨h1, e1⟩ | ⟨h1, e1⟩ | ⟨h1, e1⟩ <;> rw [e1] <;> clear e1
  all_goals
    go_enter Try.func135, Try.ntmps135
    go_wp2_with (first | (go_at_call_of 136 (Value.int .i64 x); refine N1.out.mono ?_; rintro e w1 ⟨rfl, hw1⟩; obtain rfl := hw1.symm) | (go_at_call_of 136 (Value.int .i64 y); refine N2.out.mono ?_; rintro e w1 ⟨rfl, hw1⟩; obtain rfl := hw1.symm))
    go_ret
    exact ⟨rfl, rfl⟩
end Go.Proofs.Ytcjahdgppnmdkaa
