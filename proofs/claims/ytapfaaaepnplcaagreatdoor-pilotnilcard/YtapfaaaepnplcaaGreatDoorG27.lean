/- Ex1, Ex2, Ex3, Mo4, Mo5, Mo6. -/
import Derived.Test.YtapfaaaepnplcaaGreatDoorG07
import Derived.Test.YtapfaaaepnplcaaGreatDoorG06
import Derived.Test.YtapfaaaepnplcaaGreatDoorG25
import Derived.WalkSmall
import Derived.Laws.AppendOwnNone
import Derived.Test.YtapfaaaepnplcaaGreatDoorG26
set_option maxRecDepth 100000
set_option maxHeartbeats 1000000
namespace Go.Proofs.YtapfaaaepnplcaaGreatDoor
open Go.RowKit Go.Great
def tuC (t : Tu) : List Value := [.int .i64 t.tk, .int .i64 t.rk, .int .i64 t.nu, .int .i64 t.pe]
abbrev tuV (t : Tu) : Value := .agg #[.int .i64 t.tk, .int .i64 t.rk, .int .i64 t.nu, .int .i64 t.pe]
def tusC (L : List Tu) : List Value := L.flatMap tuC
theorem tusC_len (L : List Tu) : (tusC L).length = L.length * 4 := by
  induction L with
  | nil => rfl
  | cons x r ih => rw [tusC, List.flatMap_cons, List.length_append, ← tusC, ih, List.length_cons, show (tuC x).length = 4 from rfl]; omega
theorem tusC_app (L M : List Tu) : tusC (L ++ M) = tusC L ++ tusC M := by simp [tusC]
theorem tusC_get {x : Tu} {j : Nat} {u : Value} (hj : (tuC x)[j]? = some u) : ∀ {L : List Tu} {i : Nat}, L[i]? = some x → (tusC L)[i * 4 + j]? = some u
  | [], i, h => by simp at h
  | y :: r, 0, h => by
    simp at h
    subst h
    rw [tusC, List.flatMap_cons, Nat.zero_mul, Nat.zero_add, List.getElem?_append_left ((List.getElem?_eq_some_iff.1 hj).1)]
    exact hj
  | y :: r, i + 1, h => by
    have hl : (tuC y).length = 4 := rfl
    rw [tusC, List.flatMap_cons, List.getElem?_append_right (by rw [hl]; omega), hl, show (i + 1) * 4 + j - 4 = i * 4 + j by omega]
    exact tusC_get hj (by simpa using h)
theorem tusC_one (L : List Tu) : ∀ u ∈ tusC L, u.oneCell' = true := by
  intro u hu
  unfold tusC at hu
  rw [List.mem_flatMap] at hu
  obtain ⟨x, _, hx⟩ := hu
  simp [tuC] at hx
  rcases hx with rfl | rfl | rfl | rfl <;> rfl
theorem tusC_cons (x : Tu) (r : List Tu) : tusC (x :: r) = tuC x ++ tusC r := by rw [tusC, List.flatMap_cons, ← tusC]
theorem tusC_take (L : List Tu) (n : Nat) : tusC (L.take n) = (tusC L).take (n * 4) := by
  induction L generalizing n with
  | nil => simp [tusC]
  | cons x r ih =>
    cases n with
    | zero => simp [tusC]
    | succ n =>
      rw [List.take_succ_cons, tusC_cons, tusC_cons, ih, show (n + 1) * 4 = (tuC x).length + n * 4 by rw [show (tuC x).length = 4 from rfl]; omega, List.take_length_add_append]
theorem tusC_set (x : Tu) : ∀ (L : List Tu) (i : Nat), tusC (L.set i x) = (((((tusC L).set (i * 4) (.int .i64 x.tk)).set (i * 4 + 1) (.int .i64 x.rk)).set (i * 4 + 2) (.int .i64 x.nu)).set (i * 4 + 3) (.int .i64 x.pe))
  | [], i => by simp [tusC]
  | y :: r, 0 => by simp [tusC, tuC]
  | y :: r, i + 1 => by
    have e : ∀ (k : Nat) (l : List Value) (v : Value), (tuC y ++ l).set (4 + k) v = tuC y ++ l.set k v := fun k l v => by simp [tuC, show 4 + k = k + 1 + 1 + 1 + 1 by omega]
    have ih := tusC_set x r i
    rw [List.set_cons_succ, tusC, List.flatMap_cons, ← tusC, ih]
    conv => rhs; rw [tusC, List.flatMap_cons, ← tusC]
    rw [show (i + 1) * 4 = 4 + i * 4 by omega, e, show 4 + i * 4 + 1 = 4 + (i * 4 + 1) by omega, e, show 4 + i * 4 + 2 = 4 + (i * 4 + 2) by omega, e, show 4 + i * 4 + 3 = 4 + (i * 4 + 3) by omega, e]
theorem info_tu : (Tryz.prog.info? 183).map (fun i => (i.zero, i.size, i.bytes)) = some (some (.agg #[.int .i64 0, .int .i64 0, .int .i64 0, .int .i64 0]), 4, 32) := by kernel_rfl
/-- block j holds turns -/
def TB (w : World) (j : Nat) : Prop := ∃ cs fr, w.heap[j]? = some (.cells cs 183 fr)
/-- all that was there is as it was, but for block Q and blocks of turns from b on -/
structure KB (b Q : Nat) (w w' : World) : Prop where
  os : w'.os = w.os
  tape : w'.tape = w.tape
  output : w'.output = w.output
  size : w.heap.size ≤ w'.heap.size
  block : ∀ j, j < w.heap.size → j ≠ Q → (b ≤ j → ¬ TB w j) → w'.heap[j]? = w.heap[j]?
theorem KB.refl (b Q : Nat) (w : World) : KB b Q w w := ⟨rfl, rfl, rfl, Nat.le_refl _, fun _ _ _ _ => rfl⟩
theorem KB.trans {b Q : Nat} {x y z : World} (h : KB b Q x y) (k : KB b Q y z) : KB b Q x z :=
  ⟨k.os.trans h.os, k.tape.trans h.tape, k.output.trans h.output, Nat.le_trans h.size k.size, fun i hi hn ht => by
    have e := h.block i hi hn ht
    refine (k.block i (Nat.lt_of_lt_of_le hi h.size) hn (fun hb => ?_)).trans e
    rintro ⟨cs, fr, hc⟩
    rw [e] at hc
    exact ht hb ⟨cs, fr, hc⟩⟩
theorem KB.of_below {b Q : Nat} {w w' : World} (h : Below w.heap.size w w') (_hb : b ≤ w.heap.size) : KB b Q w w' := ⟨h.os, h.tape, h.output, h.size, fun j hj _ _ => h.block j hj⟩
theorem KB.below {b Q : Nat} {w w' : World} (h : KB b Q w w') (hb : b ≤ w.heap.size) (hQ : b ≤ Q) : Below b w w' := ⟨h.os, h.tape, h.output, h.size, fun j hj => h.block j (by omega) (by omega) (fun e => by omega)⟩
theorem KB.grown {Q : Nat} {w w' : World} (h : KB w.heap.size Q w w') : w.grownBy w' (some Q) := ⟨h.os, h.tape, h.output, h.size, fun j hj hn => h.block j hj (fun e => hn (by rw [e])) (fun e => by omega)⟩
theorem KB.of_grown {b Q : Nat} {w w' : World} {r : Option Nat} (h : w.grownBy w' r) (_hb : b ≤ w.heap.size) (hr : ∀ k, r = some k → k = Q ∨ (b ≤ k ∧ TB w k)) : KB b Q w w' := ⟨h.os, h.tape, h.output, h.size, fun j hj hn ht => h.block j hj (fun e => by
  rcases hr j e.symm with e | e
  · exact hn e
  · exact ht e.1 e.2)⟩
theorem KB.drewN {b Q : Nat} {w w' : World} (h : KB b Q w w') (k : Nat) : KB b Q w (w'.drewN k) := by
  induction k with
  | zero => exact h
  | succ k ih => exact ⟨ih.os, ih.tape, ih.output, ih.size, ih.block⟩
theorem KB.set {b Q : Nat} {w w' : World} (h : KB b Q w w') (g k : Nat) (x : Value) (hg : g = Q ∨ (b ≤ g ∧ TB w g)) : KB b Q w (w'.setCell ⟨g, k, none⟩ x) :=
  ⟨h.os, h.tape, h.output, by rw [setCell_size]; exact h.size, fun j hj hn ht => (Below.heap_setCell _ _ _ _ (by
    show j ≠ g
    intro e
    subst e
    rcases hg with e | e
    · exact hn e
    · exact ht e.1 e.2)).trans (h.block j hj hn ht)⟩
theorem TB.of {w : World} {g : Nat} {cur : Array Value} (h : Blk w g cur 183) : TB w g := ⟨cur, (0, 0), h⟩
theorem KB.blk {b Q : Nat} {w w' : World} (h : KB b Q w w') {g : Nat} {cs : Array Value} {t : TypeId} (hB : Blk w g cs t) (ht : t ≠ 183) (hg : g ≠ Q) : Blk w' g cs t := by
  unfold Blk at hB ⊢
  rw [h.block g (lt_of_block hB) hg (fun _ => ?_), hB]
  rintro ⟨c2, fr, h2⟩
  rw [hB] at h2
  injection h2 with h2
  injection h2 with _ h2
  exact ht h2
theorem KB.row {b Q : Nat} {w w' : World} (h : KB b Q w w') {base size n : Nat} {e : TypeId} {v : Value} {xs : List Value} (hR : w.ownsRow base e size v n xs) (he : e ≠ 183) (hQ : v.ownBlock ≠ some Q) : w'.ownsRow base e size v n xs := by
  refine ⟨hR.1, ?_⟩
  rcases hR.2 with h1 | ⟨g, cap, cur, rfl, hb, hh, rest⟩
  · exact .inl h1
  · exact .inr ⟨g, cap, cur, rfl, hb, h.blk hh he (by simpa [Value.ownBlock] using hQ), rest⟩
/-- a queue: its slice behind the cells pre of block Q, its turns l in a block of their own, from b on -/
structure Qu (w : World) (b Q o : Nat) (pre : List Value) (ty : TypeId) (a : Option Addr) (cap : Nat) (l : List Tu) : Prop where
  po : pre.length = o
  bs : b ≤ w.heap.size
  box : Blk w Q (pre ++ [Value.slice a l.length cap]).toArray ty
  own : w.ownsRow b 183 4 (.slice a l.length cap) l.length (tusC l)
  ok : ∀ t ∈ l, TOk t
  ht : 183 ≠ ty
theorem Qu.cellQ {w : World} {b Q o cap : Nat} {pre : List Value} {ty : TypeId} {a : Option Addr} {l : List Tu} (h : Qu w b Q o pre ty a cap l) : w.cell? ⟨Q, o, none⟩ = some (.slice a l.length cap) := h.box.cell _ (by simp [← h.po])
theorem Qu.row {w : World} {b Q o cap : Nat} {pre : List Value} {ty : TypeId} {a : Option Addr} {l : List Tu} (h : Qu w b Q o pre ty a cap l) (h0 : 0 < l.length) : ∃ g cur, a = some ⟨g, 0, none⟩ ∧ Blk w g cur 183 ∧ b ≤ g ∧ l.length ≤ cap ∧ cap ≤ maxLen ∧ cur.size = cap * 4 ∧ cur.toList.take (l.length * 4) = tusC l ∧ g ≠ Q := by
  rcases h.own.2 with ⟨_, h1⟩ | ⟨g', cap', cur, hv, hg, hh, hn, hc, hs, ht⟩
  · rw [h1] at h0; exact absurd h0 (Nat.lt_irrefl 0)
  · injection hv with e1 _ e2
    subst e1 e2
    refine ⟨g', cur, rfl, hh, hg, hn, hc, hs, ?_, ?_⟩
    · rw [ht]
    · have := blk_apart h.own h.box h.ht
      intro e
      subst e
      exact this rfl
theorem Qu.cap_in {w : World} {b Q o cap : Nat} {pre : List Value} {ty : TypeId} {a : Option Addr} {l : List Tu} (h : Qu w b Q o pre ty a cap l) : l.length ≤ cap ∧ cap ≤ 9223372036854775807 := by
  rcases h.own.2 with ⟨h0, h1⟩ | ⟨g', cap', cur, hv, hg, hh, hn, hc, _⟩
  · injection h0 with _ e1 e2
    exact ⟨by rw [e1]; exact Nat.zero_le _, by rw [e2]; exact Nat.zero_le _⟩
  · injection hv with e1 _ e2; subst e2; exact ⟨hn, hc⟩
theorem Qu.at {w : World} {b Q o cap g : Nat} {pre : List Value} {ty : TypeId} {l : List Tu} (h : Qu w b Q o pre ty (some ⟨g, 0, none⟩) cap l) (i : Nat) (hi : i < l.length) : w.cell? ⟨g, i * 4, none⟩ = some (.int .i64 (te l i).tk) ∧ w.cell? ⟨g, i * 4 + 1, none⟩ = some (.int .i64 (te l i).rk) ∧ w.cell? ⟨g, i * 4 + 2, none⟩ = some (.int .i64 (te l i).nu) ∧ w.cell? ⟨g, i * 4 + 3, none⟩ = some (.int .i64 (te l i).pe) := by
  have hx : l[i]? = some (te l i) := by rw [te_get hi]; simp [hi]
  have key : ∀ j u, (tuC (te l i))[j]? = some u → w.cell? ⟨g, i * 4 + j, none⟩ = some u := fun j u hu => by
    have := World.ownsRow.cells h.own (g := g) rfl (i * 4 + j) u (tusC_get hu hx)
    rw [add_plain', Nat.zero_add] at this
    exact this
  exact ⟨key 0 _ rfl, key 1 _ rfl, key 2 _ rfl, key 3 _ rfl⟩
theorem Qu.drewN {w : World} {b Q o cap : Nat} {pre : List Value} {ty : TypeId} {a : Option Addr} {l : List Tu} (h : Qu w b Q o pre ty a cap l) (k : Nat) : Qu (w.drewN k) b Q o pre ty a cap l := by
  induction k with
  | zero => exact h
  | succ k ih => exact ⟨ih.po, ih.bs, ih.box, ih.own, ih.ok, ih.ht⟩
theorem Qu.after {w w' : World} {b Q o cap : Nat} {pre : List Value} {ty : TypeId} {a : Option Addr} {l : List Tu} (h : Qu w b Q o pre ty a cap l) (hb : Below w.heap.size w w') : Qu w' b Q o pre ty a cap l :=
  ⟨h.po, Nat.le_trans h.bs hb.size, h.box.after hb, World.ownsRow.kept h.own (grown_below hb none) (by cases hx : (Value.slice a l.length cap).ownBlock with | none => exact .inl rfl | some k => exact .inr (by simp)), h.ok, h.ht⟩
theorem own_of {w : World} {b g cap n : Nat} {l : List Tu} {cur : Array Value} (hb : b ≤ g) (hB : Blk w g cur 183) (hn : l.length = n) (h1 : n ≤ cap) (h2 : cap ≤ maxLen) (h3 : cur.size = cap * 4) (h4 : cur.toList.take (n * 4) = tusC l) : w.ownsRow b 183 4 (.slice (some ⟨g, 0, none⟩) n cap) n (tusC l) :=
  ⟨by rw [tusC_len, hn], .inr ⟨g, cap, cur, rfl, hb, hB, h1, h2, h3, by rw [h4]⟩⟩
/-- four cells of a block are written -/
def set4 (w : World) (g o : Nat) (x : Tu) : World := (((w.setCell ⟨g, o, none⟩ (.int .i64 x.tk)).setCell ⟨g, o + 1, none⟩ (.int .i64 x.rk)).setCell ⟨g, o + 2, none⟩ (.int .i64 x.nu)).setCell ⟨g, o + 3, none⟩ (.int .i64 x.pe)
theorem Qu.set {w : World} {b Q o g cap : Nat} {pre : List Value} {ty : TypeId} {l : List Tu} (h : Qu w b Q o pre ty (some ⟨g, 0, none⟩) cap l) (i : Nat) (x : Tu) (hi : i < l.length) (hx : TOk x) : Qu (set4 w g (i * 4) x) b Q o pre ty (some ⟨g, 0, none⟩) cap (l.set i x) := by
  obtain ⟨g', cur, e0, hB, hb, h1, h2, h3, h4, hne⟩ := h.row (by omega)
  injection e0 with e0
  injection e0 with e0
  subst e0
  have e : (l.set i x).length = l.length := List.length_set
  refine ⟨h.po, by unfold set4; simp only [setCell_size]; exact h.bs, ?_, ?_, fun t ht => ?_, h.ht⟩
  · rw [e]; exact ((((h.box.setOther hne.symm _ _).setOther hne.symm _ _).setOther hne.symm _ _).setOther hne.symm _ _)
  · rw [e]
    refine own_of hb ((((hB.set _ _).set _ _).set _ _).set _ _) e h1 h2 (by simp [h3]) ?_
    rw [Array.toList_setIfInBounds, Array.toList_setIfInBounds, Array.toList_setIfInBounds, Array.toList_setIfInBounds, List.take_set, List.take_set, List.take_set, List.take_set, h4, tusC_set]
  · rcases List.mem_or_eq_of_mem_set ht with h5 | h5
    · exact h.ok t h5
    · rw [h5]; exact hx
theorem Qu.sw {w : World} {b Q o g cap : Nat} {pre : List Value} {ty : TypeId} {l : List Tu} (h : Qu w b Q o pre ty (some ⟨g, 0, none⟩) cap l) (i j : Nat) (hi : i < l.length) (hj : j < l.length) : Qu (set4 (set4 w g (i * 4) (te l j)) g (j * 4) (te l i)) b Q o pre ty (some ⟨g, 0, none⟩) cap (sw l i j) :=
  (h.set i _ hi (h.ok _ (te_mem hj))).set j _ (by simpa using hj) (h.ok _ (te_mem hi))
theorem arr_set_last (pre : List Value) (x y : Value) : ((pre ++ [x]).toArray).setIfInBounds pre.length y = (pre ++ [y]).toArray := by simp
/-- the last one is taken away -/
theorem Qu.less {w : World} {b Q o g cap n : Nat} {pre : List Value} {ty : TypeId} {l : List Tu} (h : Qu w b Q o pre ty (some ⟨g, 0, none⟩) cap l) (hn : l.length = n + 1) : Qu (w.setCell ⟨Q, o, none⟩ (.slice (some ⟨g, 0, none⟩) n cap)) b Q o pre ty (some ⟨g, 0, none⟩) cap (l.take n) := by
  obtain ⟨g', cur, e0, hB, hb, h1, h2, h3, h4, hne⟩ := h.row (by omega)
  injection e0 with e0
  injection e0 with e0
  subst e0
  have e : (l.take n).length = n := by rw [List.length_take]; omega
  refine ⟨h.po, by rw [setCell_size]; exact h.bs, ?_, ?_, fun t ht => h.ok t (List.mem_of_mem_take ht), h.ht⟩
  · rw [e, ← arr_set_last pre (.slice (some ⟨g, 0, none⟩) l.length cap), h.po]; exact h.box.set _ _
  · rw [e]
    refine own_of hb (hB.setOther hne _ _) e (by omega) h2 h3 ?_
    rw [tusC_take, ← h4, List.take_take, hn, Nat.min_eq_left (by omega)]
/-- what a queue's method leaves: the queue, and all below but block Q -/
def QEnd (w : World) (b Q o : Nat) (pre : List Value) (ty : TypeId) (a : Option Addr) (cap : Nat) (l : List Tu) (v : Value) (e : Ending) (w' : World) : Prop := e = .returned v ∧ Qu w' b Q o pre ty a cap l ∧ KB b Q w w'
abbrev slQ (a : Option Addr) (n cap : Nat) : Value := .slice a n cap
abbrev qP (Q o : Nat) : Value := .pointer (some ⟨Q, o, none⟩)
abbrev qI (Q o : Nat) : Value := .iface 179 (qP Q o)
theorem len_any (a : Option Addr) (n cap : Nat) (w : World) : Calls Tryz.prog 441 #[.slice a n cap] w fun e w' => e = .returned (.int .i64 n) ∧ w' = w := by
  go_enter Tryz.func441, Tryz.ntmps441
  go_wp2
  go_ret
  exact ⟨rfl, rfl⟩
theorem nan_any (x : Int) (w : World) : Calls Tryz.prog 417 #[.int .i64 x] w fun e w' => e = .returned (.bool false) ∧ w' = w := by
  go_enter Tryz.func417, Tryz.ntmps417
  go_wp2
  go_ret
  simp
theorem cmp_any (x y : Int) (w : World) : Calls Tryz.prog 446 #[.int .i64 x, .int .i64 y] w fun e w' => e = .returned (.int .i64 (cm x y)) ∧ w' = w := by
  have N1 := hide (nan_any x w)
  have N2 := hide (nan_any y w)
  rcases cm_cases x y with ⟨h1, e1⟩ | ⟨h1, e1⟩ | ⟨h1, e1⟩ <;> rw [e1] <;> clear e1
  all_goals
    go_enter Tryz.func446, Tryz.ntmps446
    go_wp2_with (first | (go_at_call_of 417 (Value.int .i64 x); refine N1.out.mono ?_; rintro e w1 ⟨rfl, hw1⟩; obtain rfl := hw1.symm) | (go_at_call_of 417 (Value.int .i64 y); refine N2.out.mono ?_; rintro e w1 ⟨rfl, hw1⟩; obtain rfl := hw1.symm))
    go_ret
    exact ⟨rfl, rfl⟩
end Go.Proofs.YtapfaaaepnplcaaGreatDoor
set_option maxRecDepth 100000
set_option maxHeartbeats 1000000
namespace Go.Proofs.YtapfaaaepnplcaaGreatDoor
open Go.RowKit Go.Great
theorem reg_three {P : Program} {Q : Exit → Act → World → Prop} {id : Nat} {a : Act} {w : World} {l : List Oper} (n : Nat) (o1 o2 o3 : Oper) (_g1 : (l.drop n).take 1 = [o1]) (_g2 : (l.drop (n + 1)).take 1 = [o2]) (_g3 : (l.drop (n + 2)).take 1 = [o3]) (hl : l.take n ++ [o1] ++ [o2] ++ [o3] = l) (hlen : (l.take n).length = n) (hm : P.follows .mixedOrders = true) (hB : Region.lexB .any (l.take n).toArray = true) (p1 : plainB2 .any (l.take n) o1 = true) (p2 : plainB2 .any (l.take n ++ [o1]) o2 = true) (p3 : plainB2 .any (l.take n ++ [o1] ++ [o2]) o3 = true)
    (h : wpQuiet P (l.take n).toArray (fun w' => ∃ k, w' = w.drewN k) (fun a' => ∀ k, o1.wp P a' (w.drewN k) (fun a1 w1 => o2.wp P a1 w1 (fun a2 w2 => o3.wp P a2 w2 (fun a3 w3 => Q .normal a3 w3) Q) (thenLast2 P o3 Q)) (thenLast2 P o2 (thenLast2 P o3 Q))) (l.take n) a) : (Code.region id l.toArray true).wp P Q a w :=
  reg_last3 n o1 o2 o3 hl hlen hm hB p1 p2 p3 h
theorem or_any (x y z : Int) (g : Nat) (w : World) (hB : Blk w g #[.int .i64 x, .int .i64 y, .int .i64 z] 3) : Calls Tryz.prog 445 #[.slice (some ⟨g, 0, none⟩) 3 3] w fun e w' => e = .returned (.int .i64 (if x ≠ 0 then x else if y ≠ 0 then y else z)) ∧ w' = w := by
  have c0 := hB.cell 0 rfl
  have c1 := hB.cell 1 rfl
  have c2 := hB.cell 2 rfl
  clear hB
  obtain ⟨R, hR⟩ : ∃ R, Hid ((if x ≠ 0 then x else if y ≠ 0 then y else z) = R) := ⟨_, hide rfl⟩
  rw [hR.out]
  obtain ⟨c, r0, r1, r2, hc⟩ : ∃ c : Nat → Int, Hid (c 0 = x) ∧ Hid (c 1 = y) ∧ Hid (c 2 = z) ∧ Hid (∀ j : Nat, j < 3 → w.cell? ⟨g, j, none⟩ = some (.int .i64 (c j))) := ⟨fun j => if j = 0 then x else if j = 1 then y else z, hide rfl, hide rfl, hide rfl, hide (fun j hj => by
    have : j = 0 ∨ j = 1 ∨ j = 2 := by omega
    rcases this with rfl | rfl | rfl <;> assumption)⟩
  clear c0 c1 c2
  go_enter Tryz.func445, Tryz.ntmps445
  go_wp2_with fail
  go_loopw [8] (fun v8 wr => ∃ j : Nat, v8 = .int .i64 (j : Int) ∧ j ≤ 3 ∧ wr = w ∧ Hid (∀ i : Nat, i < j → c i = 0)) (fun v8 _ => 3 - (intOf v8).toNat)
  case atStart => exact ⟨0, rfl, by omega, rfl, hide (fun i h => by omega)⟩
  case round =>
    obtain ⟨j, rfl, hj, rfl, h0⟩ := hrel
    by_cases hjl : j < 3
    · have cj := hc.out j hjl
      obtain ⟨e, he⟩ : ∃ e, Hid (c j = e) := ⟨_, hide rfl⟩
      rw [he.out] at cj
      by_cases hz : e = 0
      · subst hz
        go_wp2_with fail
        go_roundw
        case rel => exact ⟨j + 1, by simp, by omega, by trivial, hide (fun i hi => by
          rcases Nat.lt_or_ge i j with h | h
          · exact h0.out i h
          · obtain rfl : i = j := by omega
            exact he.out)⟩
        case measure => simp [intOf]; omega
      · have hb : (e != 0) = true := by simpa using hz
        go_wp2_with fail
        go_ret
        refine ⟨?_, rfl⟩
        suffices h : e = R by rw [← h]; rfl
        have h0 := h0.out
        have : j = 0 ∨ j = 1 ∨ j = 2 := by omega
        rcases this with rfl | rfl | rfl
        · rw [← hR.out, ← r0.out, he.out, if_pos hz]
        · rw [← hR.out, ← r0.out, h0 0 (by omega), ← r1.out, he.out, if_neg (by simp), if_pos hz]
        · rw [← hR.out, ← r0.out, h0 0 (by omega), ← r1.out, h0 1 (by omega), ← r2.out, he.out, if_neg (by simp), if_neg (by simp)]
    · have hR0 : R = 0 := by
        have h0 := h0.out
        rw [← hR.out, ← r0.out, h0 0 (by omega), ← r1.out, h0 1 (by omega), ← r2.out, h0 2 (by omega), if_neg (by simp), if_neg (by simp)]
      subst hR0
      go_wp2_with fail
      go_ret
      exact ⟨rfl, rfl⟩
theorem against_num (x0 x1 x2 x3 y0 y1 y2 y3 : Int) (w : World) : Calls Tryz.prog 444 #[.agg #[.int .i64 x0, .int .i64 x1, .int .i64 x2, .int .i64 x3], .agg #[.int .i64 y0, .int .i64 y1, .int .i64 y2, .int .i64 y3]] w fun e w' => e = .returned (.int .i64 (if cm x0 y0 ≠ 0 then cm x0 y0 else if cm x1 y1 ≠ 0 then cm x1 y1 else cm x2 y2)) ∧ Below w.heap.size w w' := by
  obtain ⟨W0, hW, hb0, B1, B2, hz⟩ := two_boxes w #[.int .i64 x0, .int .i64 x1, .int .i64 x2, .int .i64 x3] #[.int .i64 y0, .int .i64 y1, .int .i64 y2, .int .i64 y3] 183 183
  have a0 := B1.cell 0 rfl
  have a1 := B1.cell 1 rfl
  have a2 := B1.cell 2 rfl
  have d0 := B2.cell 0 rfl
  have d1 := B2.cell 1 rfl
  have d2 := B2.cell 2 rfl
  have C1 : Hid (∀ q, Calls Tryz.prog 446 #[.int .i64 x0, .int .i64 y0] q fun e w' => e = .returned (.int .i64 (cm x0 y0)) ∧ w' = q) := hide (fun q => cmp_any _ _ q)
  have C2 : Hid (∀ q, Calls Tryz.prog 446 #[.int .i64 x1, .int .i64 y1] q fun e w' => e = .returned (.int .i64 (cm x1 y1)) ∧ w' = q) := hide (fun q => cmp_any _ _ q)
  have C3 : Hid (∀ q, Calls Tryz.prog 446 #[.int .i64 x2, .int .i64 y2] q fun e w' => e = .returned (.int .i64 (cm x2 y2)) ∧ w' = q) := hide (fun q => cmp_any _ _ q)
  have O : Hid (∀ g q, Blk q g #[.int .i64 (cm x0 y0), .int .i64 (cm x1 y1), .int .i64 (cm x2 y2)] 3 → Calls Tryz.prog 445 #[.slice (some ⟨g, 0, none⟩) 3 3] q fun e w' => e = .returned (.int .i64 (if cm x0 y0 ≠ 0 then cm x0 y0 else if cm x1 y1 ≠ 0 then cm x1 y1 else cm x2 y2)) ∧ w' = q) := hide (fun g q h => or_any _ _ _ g q h)
  generalize (if cm x0 y0 ≠ 0 then cm x0 y0 else if cm x1 y1 ≠ 0 then cm x1 y1 else cm x2 y2) = A at *
  generalize cm x0 y0 = k1 at *
  generalize cm x1 y1 = k2 at *
  generalize cm x2 y2 = k3 at *
  have Hb := hide hb0
  clear hb0 B1 B2
  go_enter Tryz.func444, Tryz.ntmps444
  go_wp2_with fail
  refine reg_three 15 _ _ _ rfl rfl rfl rfl rfl (by kernel_rfl) (by kernel_rfl) (by kernel_rfl) (by kernel_rfl) (by kernel_rfl) ?_
  simp only [List.take_succ_cons, List.take_zero]
  repeat (quiet_step (first | (go_at_call_of 446 (Value.int .i64 x0); refine Calls.quiet_of_same (C1.out _)) | (go_at_call_of 446 (Value.int .i64 x1); refine Calls.quiet_of_same (C2.out _)) | (go_at_call_of 446 (Value.int .i64 x2); refine Calls.quiet_of_same (C3.out _))))
  refine wpQuiet_nil ?_
  intro k
  go_simp
  refine (O.out (w.heap.size + 2) _ (by have := Blk.new (W0.drewN k) #[Value.int .i64 k1, Value.int .i64 k2, Value.int .i64 k3] 3; rw [show (W0.drewN k).heap.size = w.heap.size + 2 from by simp [hz]] at this; exact this)).mono ?_
  rintro e w2 ⟨rfl, hw2⟩
  obtain rfl := hw2.symm
  go_wp2_with fail
  go_ret
  exact ⟨rfl, below_next Hb.out (Nat.le_refl _) (by exact (below_drewN (Below.refl _ _) k).trans ((below_alloc _ _).mono (by simp)))⟩
theorem against_any (x y : Tu) (w : World) : Calls Tryz.prog 444 #[tuV x, tuV y] w fun e w' => e = .returned (.int .i64 (ag x y)) ∧ Below w.heap.size w w' := against_num _ _ _ _ _ _ _ _ w
theorem less_any (w : World) (b Q o : Nat) (pre : List Value) (ty : TypeId) (a : Option Addr) (cap : Nat) (l : List Tu) (i j : Nat) (h : Qu w b Q o pre ty a cap l) (hi : i < l.length) (hj : j < l.length) : Calls Tryz.prog 442 #[slQ a l.length cap, .int .i64 i, .int .i64 j] w (QEnd w b Q o pre ty a cap l (.bool (decide (hg l i < hg l j)))) := by
  have HQ := hide h
  obtain ⟨g, cur, rfl, _, _, hlc, hcm, _⟩ := h.row (by omega)
  have hcp := h.cap_in
  have hs := hide h.bs
  obtain ⟨c0, c1, c2, c3⟩ := h.at i hi
  obtain ⟨d0, d1, d2, d3⟩ := h.at j hj
  have AG : Hid (∀ x : BelowW w, Calls Tryz.prog 444 #[.agg #[.int .i64 (te l i).tk, .int .i64 (te l i).rk, .int .i64 (te l i).nu, .int .i64 (te l i).pe], .agg #[.int .i64 (te l j).tk, .int .i64 (te l j).rk, .int .i64 (te l j).nu, .int .i64 (te l j).pe]] x.q fun e w' => e = .returned (.int .i64 (ag (te l i) (te l j))) ∧ Below x.q.heap.size x.q w') := hide (fun x => against_any _ _ _)
  have hlt : Hid (decide (ag (te l i) (te l j) < 0) = decide (hg l i < hg l j)) := hide (ag_lt (h.ok _ (te_mem hi)) (h.ok _ (te_mem hj)))
  have hag : ag (te l i) (te l j) ≤ 1 ∧ -1 ≤ ag (te l i) (te l j) := by
    unfold ag
    rcases cm_cases (te l i).tk (te l j).tk with ⟨_, e⟩ | ⟨_, e⟩ | ⟨_, e⟩ <;> rw [e]
    · simp
    · simp
    rcases cm_cases (te l i).rk (te l j).rk with ⟨_, e⟩ | ⟨_, e⟩ | ⟨_, e⟩ <;> rw [e]
    · simp
    · simp
    rcases cm_cases (te l i).nu (te l j).nu with ⟨_, e⟩ | ⟨_, e⟩ | ⟨_, e⟩ <;> rw [e] <;> simp
  rw [← hlt.out]
  generalize ag (te l i) (te l j) = A at *
  generalize (te l i).tk = x0 at *
  generalize (te l i).rk = x1 at *
  generalize (te l i).nu = x2 at *
  generalize (te l i).pe = x3 at *
  generalize (te l j).tk = y0 at *
  generalize (te l j).rk = y1 at *
  generalize (te l j).nu = y2 at *
  generalize (te l j).pe = y3 at *
  generalize l.length = n at *
  clear h hlt
  go_enter Tryz.func442, Tryz.ntmps442
  go_wp2_with fail
  refine reg_three 8 _ _ _ rfl rfl rfl rfl rfl (by kernel_rfl) (by kernel_rfl) (by kernel_rfl) (by kernel_rfl) (by kernel_rfl) ?_
  simp only [List.take_succ_cons, List.take_zero]
  repeat (quiet_step (fail))
  refine wpQuiet_nil ?_
  intro k
  go_simp
  refine (AG.out ⟨w.drewN k, below_drewN (Below.refl _ _) k⟩).mono ?_
  rintro e w2 ⟨rfl, hb2⟩
  have Hb : Hid (Below w.heap.size w w2) := hide ((below_drewN (Below.refl _ _) k).trans hb2)
  clear hb2 AG
  go_wp2_with fail
  go_ret
  exact ⟨rfl, HQ.out.after Hb.out, KB.of_below Hb.out hs.out⟩
theorem swap_any (w : World) (b Q o : Nat) (pre : List Value) (ty : TypeId) (a : Option Addr) (cap : Nat) (l : List Tu) (i j : Nat) (h : Qu w b Q o pre ty a cap l) (hi : i < l.length) (hj : j < l.length) : Calls Tryz.prog 443 #[slQ a l.length cap, .int .i64 i, .int .i64 j] w (QEnd w b Q o pre ty a cap (sw l i j) (.tuple #[])) := by
  have HQ := hide h
  obtain ⟨g, cur, rfl, hB, hbg, hlc, hcm, _⟩ := h.row (by omega)
  have hcp := h.cap_in
  have hs := hide h.bs
  have HS : Hid (∀ k, Qu (set4 (set4 (w.drewN k) g (i * 4) (te l j)) g (j * 4) (te l i)) b Q o pre ty (some ⟨g, 0, none⟩) cap (sw l i j)) := hide (fun k => (h.drewN k).sw i j hi hj)
  obtain ⟨c0, c1, c2, c3⟩ := h.at i hi
  obtain ⟨d0, d1, d2, d3⟩ := h.at j hj
  have f : ∀ k, w.frozen? ⟨g, k, none⟩ = false := fun k => hB.frozen k
  obtain ⟨z0, z1, z2, z3⟩ := (h.set i (te l j) hi (h.ok _ (te_mem hj))).at j (by simpa using hj)
  generalize te (l.set i (te l j)) j = z at *
  unfold set4 at HS z0 z1 z2 z3
  generalize (te l i).tk = x0 at *
  generalize (te l i).rk = x1 at *
  generalize (te l i).nu = x2 at *
  generalize (te l i).pe = x3 at *
  generalize (te l j).tk = y0 at *
  generalize (te l j).rk = y1 at *
  generalize (te l j).nu = y2 at *
  generalize (te l j).pe = y3 at *
  generalize sw l i j = m at *
  generalize l.length = n at *
  have hT := hide (TB.of hB)
  clear h hB
  go_enter Tryz.func443, Tryz.ntmps443
  go_wp2_with fail
  go_region
  all_goals go_wp2
  go_end0
  exact ⟨rfl, (HS.out 0).drewN 1, KB.drewN (((((((((KB.refl b Q w).set g _ _ (.inr ⟨hbg, hT.out⟩)).set g _ _ (.inr ⟨hbg, hT.out⟩)).set g _ _ (.inr ⟨hbg, hT.out⟩)).set g _ _ (.inr ⟨hbg, hT.out⟩)).set g _ _ (.inr ⟨hbg, hT.out⟩)).set g _ _ (.inr ⟨hbg, hT.out⟩)).set g _ _ (.inr ⟨hbg, hT.out⟩)).set g _ _ (.inr ⟨hbg, hT.out⟩)) 1⟩
end Go.Proofs.YtapfaaaepnplcaaGreatDoor
set_option maxRecDepth 100000
set_option maxHeartbeats 1000000
namespace Go.Proofs.YtapfaaaepnplcaaGreatDoor
open Go.RowKit Go.Great
theorem wrap_nil (A : Array TypeId) (t : TypeId) (a : Addr) (x y : String) : Builtin.ssaWrapNilChk_ A t #[.pointer (some a), strVal x, strVal y] = pure (.pointer (some a)) := rfl
theorem method_via {t elem : TypeId} {name : String} {f : FuncId} (hm : (Tryz.prog.info? t).bind (fun i => (i.methods.find? (·.name == name)).map fun m => (m.path.toList.length, m.func)) = some (0, some (f, false))) (hu : Tryz.prog.underlying t = some (.pointer elem)) (F : Nat) (w : World) (a : Addr) (v : Value) (hl : (loadVar elem a).run Tryz.prog w = .ok v w) : (method (F + 1) t (.pointer (some a)) name).run Tryz.prog w = .ok (f, v) w := by
  cases hi : Tryz.prog.info? t with
  | none => rw [hi] at hm; cases hm
  | some i =>
    rw [hi] at hm
    simp only [Option.bind_some] at hm
    cases hq : i.methods.find? (·.name == name) with
    | none => rw [hq] at hm; cases hm
    | some m =>
      rw [hq] at hm
      simp only [Option.map_some, Option.some.injEq, Prod.mk.injEq] at hm
      obtain ⟨h1, h2⟩ := hm
      have hp : m.path = #[] := by
        have := List.eq_nil_of_length_eq_zero h1
        exact Array.toList_eq_nil_iff.1 this
      unfold method
      simp [typeInfo, hi, hq, hp, h2, follow, receiverAt, run_underlying hu, Place.get, wrap_nil, asAddr, hl, Result.andThen]
theorem load_queue (w : World) (Q o : Nat) (a : Option Addr) (n cap : Nat) (h : w.cell? ⟨Q, o, none⟩ = some (slQ a n cap)) : (loadVar 122 ⟨Q, o, none⟩).run Tryz.prog w = .ok (slQ a n cap) w := by
  simp [go_sem, h]
theorem meth_less (F : Nat) (w : World) (Q o : Nat) (a : Option Addr) (n cap : Nat) (h : w.cell? ⟨Q, o, none⟩ = some (slQ a n cap)) : (method (F + 1) 179 (qP Q o) "Less").run Tryz.prog w = .ok (442, slQ a n cap) w :=
  method_via (by kernel_rfl) (by kernel_rfl) F w _ _ (load_queue w Q o a n cap h)
theorem meth_swap (F : Nat) (w : World) (Q o : Nat) (a : Option Addr) (n cap : Nat) (h : w.cell? ⟨Q, o, none⟩ = some (slQ a n cap)) : (method (F + 1) 179 (qP Q o) "Swap").run Tryz.prog w = .ok (443, slQ a n cap) w :=
  method_via (by kernel_rfl) (by kernel_rfl) F w _ _ (load_queue w Q o a n cap h)
theorem meth_len (F : Nat) (w : World) (Q o : Nat) (a : Option Addr) (n cap : Nat) (h : w.cell? ⟨Q, o, none⟩ = some (slQ a n cap)) : (method (F + 1) 179 (qP Q o) "Len").run Tryz.prog w = .ok (441, slQ a n cap) w :=
  method_via (by kernel_rfl) (by kernel_rfl) F w _ _ (load_queue w Q o a n cap h)
theorem upQ_any (w : World) (b Q o : Nat) (pre : List Value) (ty : TypeId) (a : Option Addr) (cap : Nat) (l : List Tu) (j : Nat) (h : Qu w b Q o pre ty a cap l) (hj : j < l.length) (hU : UpI l j l.length) : Calls Tryz.prog 149 #[qI Q o, .int .i64 j] w fun e w' => ∃ l', QEnd w b Q o pre ty a cap l' (.tuple #[]) e w' ∧ l'.Perm l ∧ Hp l' l'.length := by
  have HQ := hide h
  have HU := hide hU
  obtain ⟨n, hn⟩ : ∃ n, Hid (l.length = n) := ⟨_, hide rfl⟩
  rw [hn.out] at hj
  have hcp := h.cap_in
  rw [hn.out] at hcp
  clear h hU
  go_enter Tryz.func149, Tryz.ntmps149
  go_wp2_with fail
  go_loopw [1] (fun vj wr => ∃ (i : Nat) (k : List Tu), vj = .int .i64 (i : Int) ∧ i < n ∧ Hid (k.length = n) ∧ Hid (Qu wr b Q o pre ty a cap k) ∧ Hid (KB b Q w wr) ∧ Hid (UpI k i n) ∧ Hid (k.Perm l)) (fun vj _ => (intOf vj).toNat)
  case atStart => exact ⟨j, l, rfl, hj, hn, HQ, hide (KB.refl _ _ _), hide (by rw [← hn.out]; exact HU.out), hide (List.Perm.refl _)⟩
  case round =>
    clear HQ HU
    obtain ⟨i, k, rfl, hi, hk, HQ, Hb, HU, HP⟩ := hrel
    by_cases h0 : i = 0
    · subst h0
      go_wp2_with fail
      go_end0
      exact ⟨k, ⟨rfl, HQ.out, Hb.out⟩, HP.out, by rw [hk.out]; exact HU.out.done (.inl rfl)⟩
    · obtain ⟨p, hp⟩ : ∃ p, (i - 1) / 2 = p := ⟨_, rfl⟩
      have e1 : ((i : Int) - 1) / 2 = (p : Int) := by omega
      have hpi : p < i := by omega
      have HS : Hid (hg k i < hg k p → UpI (sw k p i) p n) := hide (fun h => by have := HU.out.swap (by rw [hk.out]; exact Nat.le_refl _) (by omega) hi (by rw [hp]; exact h); rwa [hp] at this)
      have HT : Hid (¬ hg k i < hg k p → Hp k n) := hide (fun h => HU.out.done (.inr (by rw [hp]; omega)))
      have LE := hide (less_any wr b Q o pre ty a cap k i p HQ.out (by rw [hk.out]; exact hi) (by rw [hk.out]; omega))
      rw [hk.out] at LE
      have m1 : (method 684 179 (qP Q o) "Less").run Tryz.prog wr = .ok (442, slQ a n cap) wr := meth_less 683 wr Q o a n cap (by rw [← hk.out]; exact HQ.out.cellQ)
      clear hp HU HQ
      by_cases hlt : hg k i < hg k p
      · rw [decide_eq_true hlt] at LE
        replace HS := hide (HS.out hlt)
        clear HT hlt
        go_wp2_with (go_at_call 442; refine LE.out.mono ?_; rintro e w2 ⟨rfl, hQ2, hb2⟩; have SW := hide (swap_any w2 b Q o pre ty a cap k p i hQ2 (by rw [hk.out]; omega) (by rw [hk.out]; exact hi)); rw [hk.out] at SW; have m2 : (method 684 179 (qP Q o) "Swap").run Tryz.prog w2 = .ok (443, slQ a n cap) w2 := meth_swap 683 w2 Q o a n cap (by rw [← hk.out]; exact hQ2.cellQ); replace Hb := hide (Hb.out.trans hb2); clear hQ2 hb2 LE m1)
        refine SW.out.mono ?_
        rintro e w3 ⟨rfl, hQ3, hb3⟩
        replace Hb := hide (Hb.out.trans hb3)
        have HQ := hide hQ3
        have HK : Hid ((sw k p i).length = n) := hide (by rw [sw_len, hk.out])
        have HP2 : Hid ((sw k p i).Perm l) := hide ((sw_perm k p i (by rw [hk.out]; omega) (by rw [hk.out]; exact hi)).trans HP.out)
        clear hQ3 hb3 SW HP hk m2
        generalize sw k p i = k2 at *
        go_wp2_with fail
        go_roundw
        case rel => exact ⟨p, k2, rfl, by omega, HK, HQ, Hb, HS, HP2⟩
        case measure => simp [intOf]; omega
      · rw [decide_eq_false hlt] at LE
        replace HT := hide (HT.out hlt)
        clear HS hlt
        go_wp2_with (go_at_call 442; refine LE.out.mono ?_; rintro e w2 ⟨rfl, hQ2, hb2⟩; have HQ := hide hQ2; replace Hb := hide (Hb.out.trans hb2); clear hQ2 hb2 LE m1)
        go_end0
        exact ⟨k, ⟨rfl, HQ.out, Hb.out⟩, HP.out, by rw [hk.out]; exact HT.out⟩
end Go.Proofs.YtapfaaaepnplcaaGreatDoor
set_option maxRecDepth 100000
set_option maxHeartbeats 1000000
namespace Go.Proofs.YtapfaaaepnplcaaGreatDoor
open Go.RowKit Go.Great
theorem load_queue_Mo4 (w : World) (Q g n cap : Nat) (h : w.cell? ⟨Q, 0, none⟩ = some (slQ_Mo3 g n cap)) : (loadVar 434 ⟨Q, 0, none⟩).run Tryz.prog w = .ok (slQ_Mo3 g n cap) w := by
  simp [go_sem, h]
theorem meth_less_Mo4 (F : Nat) (w : World) (Q g n cap : Nat) (h : w.cell? ⟨Q, 0, none⟩ = some (slQ_Mo3 g n cap)) : (method (F + 1) 362 (qP_Mo3 Q) "Less").run Tryz.prog w = .ok (450, slQ_Mo3 g n cap) w :=
  method_via (by kernel_rfl) (by kernel_rfl) F w _ _ (load_queue_Mo4 w Q g n cap h)
theorem meth_swap_Mo4 (F : Nat) (w : World) (Q g n cap : Nat) (h : w.cell? ⟨Q, 0, none⟩ = some (slQ_Mo3 g n cap)) : (method (F + 1) 362 (qP_Mo3 Q) "Swap").run Tryz.prog w = .ok (453, slQ_Mo3 g n cap) w :=
  method_via (by kernel_rfl) (by kernel_rfl) F w _ _ (load_queue_Mo4 w Q g n cap h)
theorem meth_len_Mo4 (F : Nat) (w : World) (Q g n cap : Nat) (h : w.cell? ⟨Q, 0, none⟩ = some (slQ_Mo3 g n cap)) : (method (F + 1) 362 (qP_Mo3 Q) "Len").run Tryz.prog w = .ok (309, slQ_Mo3 g n cap) w :=
  method_via (by kernel_rfl) (by kernel_rfl) F w _ _ (load_queue_Mo4 w Q g n cap h)
theorem upQ_any_Mo4 (w : World) (b Q g cap : Nat) (l : List Int) (j : Nat) (h : Qu_Mo3 w b Q g cap l) (hj : j < l.length) (hU : UpI_HpM l j l.length) : Calls Tryz.prog 149 #[qI_Mo3 Q, .int .i64 j] w fun e w' => ∃ l', QEnd_Mo3 w b Q g cap l' (.tuple #[]) e w' ∧ l'.Perm l ∧ Hp_HpM l' l'.length := by
  have HQ := hide h
  have HU := hide hU
  obtain ⟨n, hn⟩ : ∃ n, Hid (l.length = n) := ⟨_, hide rfl⟩
  rw [hn.out] at hj
  have hcp := h.cap_in
  rw [hn.out] at hcp
  clear h hU
  go_enter Tryz.func149, Tryz.ntmps149
  go_wp2_with fail
  go_loopw [1] (fun vj wr => ∃ (i : Nat) (k : List Int), vj = .int .i64 (i : Int) ∧ i < n ∧ Hid (k.length = n) ∧ Hid (Qu_Mo3 wr b Q g cap k) ∧ Hid (Below b w wr) ∧ Hid (UpI_HpM k i n) ∧ Hid (k.Perm l)) (fun vj _ => (intOf vj).toNat)
  case atStart => exact ⟨j, l, rfl, hj, hn, HQ, hide (Below.refl _ _), hide (by rw [← hn.out]; exact HU.out), hide (List.Perm.refl _)⟩
  case round =>
    clear HQ HU
    obtain ⟨i, k, rfl, hi, hk, HQ, Hb, HU, HP⟩ := hrel
    by_cases h0 : i = 0
    · subst h0
      go_wp2_with fail
      go_end0
      exact ⟨k, ⟨rfl, HQ.out, Hb.out⟩, HP.out, by rw [hk.out]; exact HU.out.done (.inl rfl)⟩
    · obtain ⟨p, hp⟩ : ∃ p, (i - 1) / 2 = p := ⟨_, rfl⟩
      have e1 : ((i : Int) - 1) / 2 = (p : Int) := by omega
      have hpi : p < i := by omega
      have HS : Hid (hg_HpM k i < hg_HpM k p → UpI_HpM (sw_HpM k p i) p n) := hide (fun h => by have := HU.out.swap (by rw [hk.out]; exact Nat.le_refl _) (by omega) hi (by rw [hp]; exact h); rwa [hp] at this)
      have HT : Hid (¬ hg_HpM k i < hg_HpM k p → Hp_HpM k n) := hide (fun h => HU.out.done (.inr (by rw [hp]; omega)))
      have LE := hide (less_any_Mo3 wr b Q g cap k i p HQ.out (by rw [hk.out]; exact hi) (by rw [hk.out]; omega))
      rw [hk.out] at LE
      have m1 : (method 684 362 (qP_Mo3 Q) "Less").run Tryz.prog wr = .ok (450, slQ_Mo3 g n cap) wr := meth_less_Mo4 683 wr Q g n cap (by rw [← hk.out]; exact HQ.out.box.cell 0 rfl)
      clear hp HU HQ
      by_cases hlt : hg_HpM k i < hg_HpM k p
      · rw [decide_eq_true hlt] at LE
        replace HS := hide (HS.out hlt)
        clear HT hlt
        go_wp2_with (go_at_call 450; refine LE.out.mono ?_; rintro e w2 ⟨rfl, hQ2, hb2⟩; have SW := hide (swap_any_Mo3 w2 b Q g cap k p i hQ2 (by rw [hk.out]; omega) (by rw [hk.out]; exact hi)); rw [hk.out] at SW; have m2 : (method 684 362 (qP_Mo3 Q) "Swap").run Tryz.prog w2 = .ok (453, slQ_Mo3 g n cap) w2 := meth_swap_Mo4 683 w2 Q g n cap (by rw [← hk.out]; exact hQ2.box.cell 0 rfl); replace Hb := hide (Hb.out.trans hb2); clear hQ2 hb2 LE m1)
        refine SW.out.mono ?_
        rintro e w3 ⟨rfl, hQ3, hb3⟩
        replace Hb := hide (Hb.out.trans hb3)
        have HQ := hide hQ3
        have HK : Hid ((sw_HpM k p i).length = n) := hide (by rw [sw_len_HpM, hk.out])
        have HP2 : Hid ((sw_HpM k p i).Perm l) := hide ((sw_perm_HpM k p i (by rw [hk.out]; omega) (by rw [hk.out]; exact hi)).trans HP.out)
        clear hQ3 hb3 SW HP hk m2
        generalize sw_HpM k p i = k2 at *
        go_wp2_with fail
        go_roundw
        case rel => exact ⟨p, k2, rfl, by omega, HK, HQ, Hb, HS, HP2⟩
        case measure => simp [intOf]; omega
      · rw [decide_eq_false hlt] at LE
        replace HT := hide (HT.out hlt)
        clear HS hlt
        go_wp2_with (go_at_call 450; refine LE.out.mono ?_; rintro e w2 ⟨rfl, hQ2, hb2⟩; have HQ := hide hQ2; replace Hb := hide (Hb.out.trans hb2); clear hQ2 hb2 LE m1)
        go_end0
        exact ⟨k, ⟨rfl, HQ.out, Hb.out⟩, HP.out, by rw [hk.out]; exact HT.out⟩
end Go.Proofs.YtapfaaaepnplcaaGreatDoor
set_option maxRecDepth 100000
set_option maxHeartbeats 4000000
namespace Go.Proofs.YtapfaaaepnplcaaGreatDoor
open Go.RowKit Go.Great
theorem DnI_HpM.leaf {l : List Int} {i n : Nat} (h : DnI_HpM l i n) (hi : n ≤ 2 * i + 1) : Hp_HpM l n := h.done (fun k h0 hk hp => by omega)
theorem DnI_HpM.less {l : List Int} {i j n : Nat} (h : DnI_HpM l i n) (hmin : ∀ k, 0 < k → k < n → (k - 1) / 2 = i → hg_HpM l j ≤ hg_HpM l k) (hj : ¬ hg_HpM l j < hg_HpM l i) : Hp_HpM l n := h.done (fun k h0 hk hp => by have := hmin k h0 hk hp; omega)
theorem min_two_Mo5 {l : List Int} {i n : Nat} (j : Nat) (h1 : hg_HpM l j ≤ hg_HpM l (2 * i + 1)) (h2 : 2 * i + 2 < n → hg_HpM l j ≤ hg_HpM l (2 * i + 2)) : ∀ k, 0 < k → k < n → (k - 1) / 2 = i → hg_HpM l j ≤ hg_HpM l k := by
  intro k h0 hk hp
  have : k = 2 * i + 1 ∨ k = 2 * i + 2 := by omega
  rcases this with rfl | rfl
  · exact h1
  · exact h2 hk
theorem sw_last_Mo5 {l : List Int} {i j n : Nat} (hi : i < n) (hj : j < n) (hl : n < l.length) : hg_HpM (sw_HpM l i j) n = hg_HpM l n := by
  rw [hg_sw_HpM _ _ _ _ (by omega) (by omega), if_neg (by omega), if_neg (by omega)]
def DEnd_Mo5 (w : World) (b Q g cap n : Nat) (l : List Int) (e : Ending) (w' : World) : Prop := ∃ (d : Bool) (k : List Int), QEnd_Mo3 w b Q g cap k (.bool d) e w' ∧ k.Perm l ∧ Hp_HpM k n ∧ hg_HpM k n = hg_HpM l n
theorem downQ_any_Mo5 (w : World) (b Q g cap n : Nat) (l : List Int) (h : Qu_Mo3 w b Q g cap l) (hl : l.length = n + 1) (hD : DnI_HpM l 0 n) (hn : n ≤ 64) : Calls Tryz.prog 148 #[qI_Mo3 Q, .int .i64 0, .int .i64 n] w (DEnd_Mo5 w b Q g cap n l) := by
  have HQ := hide h
  have HD := hide hD
  obtain ⟨N, hN⟩ : ∃ N, Hid (N = n + 1) := ⟨_, hide rfl⟩
  have HL : Hid (l.length = N) := hide (by rw [hN.out]; exact hl)
  clear h hD hl
  go_enter Tryz.func148, Tryz.ntmps148
  go_wp2_with fail
  go_loopw [7] (fun vj wr => ∃ (i : Nat) (k : List Int), vj = .int .i64 (i : Int) ∧ i ≤ n ∧ Hid (k.length = N) ∧ Hid (Qu_Mo3 wr b Q g cap k) ∧ Hid (Below b w wr) ∧ Hid (DnI_HpM k i n) ∧ Hid (k.Perm l) ∧ Hid (hg_HpM k n = hg_HpM l n)) (fun vj _ => n - (intOf vj).toNat)
  case atStart => exact ⟨0, l, rfl, by omega, HL, HQ, hide (Below.refl _ _), HD, hide (List.Perm.refl _), hide rfl⟩
  case round =>
    clear HQ HD HL
    obtain ⟨i, k, rfl, hi, hk, HQ, Hb, HU, HP, HE⟩ := hrel
    obtain ⟨p, hp⟩ : ∃ p, 2 * i + 1 = p := ⟨_, rfl⟩
    have e1 : 2 * (i : Int) + 1 = (p : Int) := by omega
    by_cases hlf : n ≤ p
    · have HH := hide (HU.out.leaf (by omega))
      clear hp
      go_wp2_with fail
      go_ret
      exact ⟨_, k, ⟨rfl, HQ.out, Hb.out⟩, HP.out, HH.out, HE.out⟩
    obtain ⟨q, hq⟩ : ∃ q, p + 1 = q := ⟨_, rfl⟩
    have e2 : (p : Int) + 1 = (q : Int) := by omega
    have hin : i < p := by omega
    have hkl : Hid (∀ t, t ≤ n → t < k.length) := hide (fun t ht => by rw [hk.out, hN.out]; omega)
    have m1 : (method 684 362 (qP_Mo3 Q) "Less").run Tryz.prog wr = .ok (450, slQ_Mo3 g N cap) wr := meth_less_Mo4 683 wr Q g N cap (by rw [← hk.out]; exact HQ.out.box.cell 0 rfl)
    by_cases hqn : q < n
    · have LE := hide (less_any_Mo3 wr b Q g cap k q p HQ.out (hkl.out q (by omega)) (hkl.out p (by omega)))
      rw [hk.out] at LE
      by_cases hc : hg_HpM k q < hg_HpM k p
      · have HM := hide (min_two_Mo5 (l := k) (i := i) (n := n) q (by rw [hp]; omega) (fun _ => by rw [show 2 * i + 2 = q by omega]; omega))
        rw [decide_eq_true hc] at LE
        clear hc
        by_cases hlt : hg_HpM k q < hg_HpM k i
        · have HC : Hid (decide (hg_HpM k q < hg_HpM k i) = true) := hide (decide_eq_true hlt)
          have HS := hide (HU.out.swap (j := q) (by rw [hk.out, hN.out]; omega) (by omega) (by omega) (by omega) hlt HM.out)
          clear HU HM hlt hp hq HQ
          go_wp2_with (go_at_call 450; refine LE.out.mono ?_; rintro e w2 ⟨rfl, hQ2, hb2⟩; have L2 := hide (less_any_Mo3 w2 b Q g cap k q i hQ2 (hkl.out q (by omega)) (hkl.out i (by omega))); rw [hk.out, HC.out] at L2; have m2 : (method 684 362 (qP_Mo3 Q) "Less").run Tryz.prog w2 = .ok (450, slQ_Mo3 g N cap) w2 := meth_less_Mo4 683 w2 Q g N cap (by rw [← hk.out]; exact hQ2.box.cell 0 rfl); replace Hb := hide (Hb.out.trans hb2); clear hQ2 hb2 LE m1)
          refine L2.out.mono ?_
          rintro e w3 ⟨rfl, hQ3, hb3⟩
          have SW := hide (swap_any_Mo3 w3 b Q g cap k i q hQ3 (hkl.out i (by omega)) (hkl.out q (by omega)))
          rw [hk.out] at SW
          have m3 : (method 684 362 (qP_Mo3 Q) "Swap").run Tryz.prog w3 = .ok (453, slQ_Mo3 g N cap) w3 := meth_swap_Mo4 683 w3 Q g N cap (by rw [← hk.out]; exact hQ3.box.cell 0 rfl)
          replace Hb := hide (Hb.out.trans hb3)
          clear hQ3 hb3 L2
          go_wp2_with fail
          refine SW.out.mono ?_
          rintro e w4 ⟨rfl, hQ4, hb4⟩
          replace Hb := hide (Hb.out.trans hb4)
          have HQ := hide hQ4
          have HK : Hid ((sw_HpM k i q).length = N) := hide (by rw [sw_len_HpM, hk.out])
          have HP2 : Hid ((sw_HpM k i q).Perm l) := hide ((sw_perm_HpM k i q (hkl.out i (by omega)) (hkl.out q (by omega))).trans HP.out)
          have HE2 : Hid (hg_HpM (sw_HpM k i q) n = hg_HpM l n) := hide (by rw [sw_last_Mo5 (by omega) (by omega) (hkl.out n (Nat.le_refl _))]; exact HE.out)
          clear hQ4 hb4 SW HP hk m3 HE HC hkl
          generalize sw_HpM k i q = k2 at *
          go_wp2_with fail
          go_roundw
          case rel => exact ⟨q, k2, rfl, by omega, HK, HQ, Hb, HS, HP2, HE2⟩
          case measure => simp [intOf]; omega
        · have HC : Hid (decide (hg_HpM k q < hg_HpM k i) = false) := hide (decide_eq_false hlt)
          have HS := hide (HU.out.less HM.out hlt)
          clear HU HM hlt hp hq HQ
          go_wp2_with (go_at_call 450; refine LE.out.mono ?_; rintro e w2 ⟨rfl, hQ2, hb2⟩; have L2 := hide (less_any_Mo3 w2 b Q g cap k q i hQ2 (hkl.out q (by omega)) (hkl.out i (by omega))); rw [hk.out, HC.out] at L2; have m2 : (method 684 362 (qP_Mo3 Q) "Less").run Tryz.prog w2 = .ok (450, slQ_Mo3 g N cap) w2 := meth_less_Mo4 683 w2 Q g N cap (by rw [← hk.out]; exact hQ2.box.cell 0 rfl); replace Hb := hide (Hb.out.trans hb2); clear hQ2 hb2 LE m1)
          refine L2.out.mono ?_
          rintro e w3 ⟨rfl, hQ3, hb3⟩
          have HQ := hide hQ3
          replace Hb := hide (Hb.out.trans hb3)
          clear hQ3 hb3 L2
          go_wp2_with fail
          go_ret
          exact ⟨_, k, ⟨rfl, HQ.out, Hb.out⟩, HP.out, HS.out, HE.out⟩
      · have HM := hide (min_two_Mo5 (l := k) (i := i) (n := n) p (by rw [hp]; omega) (fun _ => by rw [show 2 * i + 2 = q by omega]; omega))
        rw [decide_eq_false hc] at LE
        clear hc
        by_cases hlt : hg_HpM k p < hg_HpM k i
        · have HC : Hid (decide (hg_HpM k p < hg_HpM k i) = true) := hide (decide_eq_true hlt)
          have HS := hide (HU.out.swap (j := p) (by rw [hk.out, hN.out]; omega) (by omega) (by omega) (by omega) hlt HM.out)
          clear HU HM hlt hp hq HQ
          go_wp2_with (go_at_call 450; refine LE.out.mono ?_; rintro e w2 ⟨rfl, hQ2, hb2⟩; have L2 := hide (less_any_Mo3 w2 b Q g cap k p i hQ2 (hkl.out p (by omega)) (hkl.out i (by omega))); rw [hk.out, HC.out] at L2; have m2 : (method 684 362 (qP_Mo3 Q) "Less").run Tryz.prog w2 = .ok (450, slQ_Mo3 g N cap) w2 := meth_less_Mo4 683 w2 Q g N cap (by rw [← hk.out]; exact hQ2.box.cell 0 rfl); replace Hb := hide (Hb.out.trans hb2); clear hQ2 hb2 LE m1)
          refine L2.out.mono ?_
          rintro e w3 ⟨rfl, hQ3, hb3⟩
          have SW := hide (swap_any_Mo3 w3 b Q g cap k i p hQ3 (hkl.out i (by omega)) (hkl.out p (by omega)))
          rw [hk.out] at SW
          have m3 : (method 684 362 (qP_Mo3 Q) "Swap").run Tryz.prog w3 = .ok (453, slQ_Mo3 g N cap) w3 := meth_swap_Mo4 683 w3 Q g N cap (by rw [← hk.out]; exact hQ3.box.cell 0 rfl)
          replace Hb := hide (Hb.out.trans hb3)
          clear hQ3 hb3 L2
          go_wp2_with fail
          refine SW.out.mono ?_
          rintro e w4 ⟨rfl, hQ4, hb4⟩
          replace Hb := hide (Hb.out.trans hb4)
          have HQ := hide hQ4
          have HK : Hid ((sw_HpM k i p).length = N) := hide (by rw [sw_len_HpM, hk.out])
          have HP2 : Hid ((sw_HpM k i p).Perm l) := hide ((sw_perm_HpM k i p (hkl.out i (by omega)) (hkl.out p (by omega))).trans HP.out)
          have HE2 : Hid (hg_HpM (sw_HpM k i p) n = hg_HpM l n) := hide (by rw [sw_last_Mo5 (by omega) (by omega) (hkl.out n (Nat.le_refl _))]; exact HE.out)
          clear hQ4 hb4 SW HP hk m3 HE HC hkl
          generalize sw_HpM k i p = k2 at *
          go_wp2_with fail
          go_roundw
          case rel => exact ⟨p, k2, rfl, by omega, HK, HQ, Hb, HS, HP2, HE2⟩
          case measure => simp [intOf]; omega
        · have HC : Hid (decide (hg_HpM k p < hg_HpM k i) = false) := hide (decide_eq_false hlt)
          have HS := hide (HU.out.less HM.out hlt)
          clear HU HM hlt hp hq HQ
          go_wp2_with (go_at_call 450; refine LE.out.mono ?_; rintro e w2 ⟨rfl, hQ2, hb2⟩; have L2 := hide (less_any_Mo3 w2 b Q g cap k p i hQ2 (hkl.out p (by omega)) (hkl.out i (by omega))); rw [hk.out, HC.out] at L2; have m2 : (method 684 362 (qP_Mo3 Q) "Less").run Tryz.prog w2 = .ok (450, slQ_Mo3 g N cap) w2 := meth_less_Mo4 683 w2 Q g N cap (by rw [← hk.out]; exact hQ2.box.cell 0 rfl); replace Hb := hide (Hb.out.trans hb2); clear hQ2 hb2 LE m1)
          refine L2.out.mono ?_
          rintro e w3 ⟨rfl, hQ3, hb3⟩
          have HQ := hide hQ3
          replace Hb := hide (Hb.out.trans hb3)
          clear hQ3 hb3 L2
          go_wp2_with fail
          go_ret
          exact ⟨_, k, ⟨rfl, HQ.out, Hb.out⟩, HP.out, HS.out, HE.out⟩
    · have HM := hide (min_two_Mo5 (l := k) (i := i) (n := n) p (by rw [hp]; omega) (fun _ => by omega))
      by_cases hlt : hg_HpM k p < hg_HpM k i
      · have HC : Hid (decide (hg_HpM k p < hg_HpM k i) = true) := hide (decide_eq_true hlt)
        have HS := hide (HU.out.swap (j := p) (by rw [hk.out, hN.out]; omega) (by omega) (by omega) (by omega) hlt HM.out)
        have L2 := hide (less_any_Mo3 wr b Q g cap k p i HQ.out (hkl.out p (by omega)) (hkl.out i (by omega)))
        rw [hk.out, HC.out] at L2
        clear HU HM hlt hp hq HQ
        go_wp2_with fail
        refine L2.out.mono ?_
        rintro e w3 ⟨rfl, hQ3, hb3⟩
        have SW := hide (swap_any_Mo3 w3 b Q g cap k i p hQ3 (hkl.out i (by omega)) (hkl.out p (by omega)))
        rw [hk.out] at SW
        have m3 : (method 684 362 (qP_Mo3 Q) "Swap").run Tryz.prog w3 = .ok (453, slQ_Mo3 g N cap) w3 := meth_swap_Mo4 683 w3 Q g N cap (by rw [← hk.out]; exact hQ3.box.cell 0 rfl)
        replace Hb := hide (Hb.out.trans hb3)
        clear hQ3 hb3 L2
        go_wp2_with fail
        refine SW.out.mono ?_
        rintro e w4 ⟨rfl, hQ4, hb4⟩
        replace Hb := hide (Hb.out.trans hb4)
        have HQ := hide hQ4
        have HK : Hid ((sw_HpM k i p).length = N) := hide (by rw [sw_len_HpM, hk.out])
        have HP2 : Hid ((sw_HpM k i p).Perm l) := hide ((sw_perm_HpM k i p (hkl.out i (by omega)) (hkl.out p (by omega))).trans HP.out)
        have HE2 : Hid (hg_HpM (sw_HpM k i p) n = hg_HpM l n) := hide (by rw [sw_last_Mo5 (by omega) (by omega) (hkl.out n (Nat.le_refl _))]; exact HE.out)
        clear hQ4 hb4 SW HP hk m3 HE HC hkl
        generalize sw_HpM k i p = k2 at *
        go_wp2_with fail
        go_roundw
        case rel => exact ⟨p, k2, rfl, by omega, HK, HQ, Hb, HS, HP2, HE2⟩
        case measure => simp [intOf]; omega
      · have HC : Hid (decide (hg_HpM k p < hg_HpM k i) = false) := hide (decide_eq_false hlt)
        have HS := hide (HU.out.less HM.out hlt)
        have L2 := hide (less_any_Mo3 wr b Q g cap k p i HQ.out (hkl.out p (by omega)) (hkl.out i (by omega)))
        rw [hk.out, HC.out] at L2
        clear HU HM hlt hp hq HQ
        go_wp2_with fail
        refine L2.out.mono ?_
        rintro e w3 ⟨rfl, hQ3, hb3⟩
        have HQ := hide hQ3
        replace Hb := hide (Hb.out.trans hb3)
        clear hQ3 hb3 L2
        go_wp2_with fail
        go_ret
        exact ⟨_, k, ⟨rfl, HQ.out, Hb.out⟩, HP.out, HS.out, HE.out⟩
end Go.Proofs.YtapfaaaepnplcaaGreatDoor
set_option maxRecDepth 100000
set_option maxHeartbeats 2000000
namespace Go.Proofs.YtapfaaaepnplcaaGreatDoor
open Go.RowKit Go.Great
abbrev evI (x : Int) : Value := .iface 3 (.int .i64 x)
theorem assert_two_Mo6 (x : Int) (u : TypeId) (w : World) : (Instr.typeAssert (evI x) u 3 true).run Tryz.prog w = .ok (.tuple #[.int .i64 x, .bool true]) w := by kernel_rfl
theorem assert_one_Mo6 (x : Int) (u : TypeId) (w : World) : (Instr.typeAssert (evI x) u 3 false).run Tryz.prog w = .ok (.int .i64 x) w := by kernel_rfl
theorem own_shape_Mo6 {w : World} {b n : Nat} {v : Value} {xs : List Value} (h : w.ownsRow b 3 1 v (n + 1) xs) : ∃ g cap, v = slQ_Mo3 g (n + 1) cap := by
  rcases h.2 with ⟨_, h0⟩ | ⟨g, cap, _, hv, _⟩
  · cases h0
  · exact ⟨g, cap, hv⟩
theorem pushM_any_Mo6 (w : World) (b Q g cap : Nat) (l : List Int) (x : Int) (h : Qu_Mo3 w b Q g cap l) (hl : l.length ≤ 64) : Calls Tryz.prog 452 #[qP_Mo3 Q, evI x] w fun e w' => ∃ g2 cap2, QEnd_Mo3 w b Q g2 cap2 (l ++ [x]) (.tuple #[]) e w' := by
  obtain ⟨i0, hi, hz0, hz1, hz2⟩ := info_parts info_int
  have A2 := assert_two_Mo6 x
  have cq : w.cell? ⟨Q, 0, none⟩ = some (slQ_Mo3 g l.length cap) := h.box.cell 0 rfl
  have hbs : b ≤ w.heap.size := Nat.le_trans h.bq (Nat.le_of_lt h.box.lt)
  have HA := hide (h.after (below_alloc w (.cells #[.int .i64 x] 3)))
  have Hbq := hide h.bq
  have Hbg := hide h.bg
  obtain ⟨n, hn⟩ : ∃ n, Hid (l.length = n) := ⟨_, hide rfl⟩
  rw [hn.out] at cq hl
  have HO := hide HA.out.own
  rw [hn.out] at HO
  have HN : Hid (∀ j u, [Value.int .i64 x][j]? = some u → (w.alloc (.cells #[.int .i64 x] 3)).cell? ((⟨w.heap.size, 0, none⟩ : Addr).add j) = some u) := hide (new_cell1 w _ rfl (.int .i64 x) 3)
  clear h
  go_enter Tryz.func452, Tryz.ntmps452
  go_wp2_with (at_builtin; refine wpList_append_own _ rfl (.tmp 15) (.tmp 17) 434 rfl b 3 i0 _ 1 8 Tryz.underlying434 hi hz0 hz1 hz2 rfl (by decide) _ _ _ rfl HO.out ⟨w.heap.size, 0, none⟩ 1 1 [.int .i64 x] rfl rfl ?c1 ?c2 ?c3 ?c4 ?c5 ?_)
  case c1 => exact HN.out
  case c2 => simp [Value.oneCell']
  case c3 => unfold maxLen; omega
  case c4 => omega
  case c5 => rw [size_alloc]; omega
  intro v' w5 hown5 hgrow5 _
  obtain ⟨g2, cap2, rfl⟩ := own_shape_Mo6 hown5
  have HX := hide (blk_grown HO.out HA.out.box (by decide) hgrow5)
  have HB5 : Hid (Below b w w5) := hide (((Below.refl b w).alloc hbs _).grown hgrow5 (by rw [size_alloc]; omega) (fun j e => by cases e; exact Hbg.out))
  have hne : g2 ≠ Q := by
    have := blk_apart hown5 HX.out (by decide)
    intro e; subst e; exact this rfl
  have HR := hide hown5
  clear hown5 hgrow5 hi hz0 hz1 hz2 HO HN A2 cq
  have cq : w5.cell? ⟨Q, 0, none⟩ = some (slQ_Mo3 g l.length cap) := HX.out.cell 0 rfl
  have fq := HX.out.frozen 0
  go_wp2_with fail
  go_end0
  have hlen : (l ++ [x]).length = n + 1 := by rw [List.length_append, hn.out]; rfl
  refine ⟨g2, cap2, rfl, ⟨Hbq.out, ?_, ?_⟩, below_set HB5.out Q 0 _ Hbq.out (by have := HX.out.lt; have := Hbq.out; omega)⟩
  · rw [hlen]; exact HX.out.set 0 _
  · rw [hlen, List.map_append]
    exact ownsRow_setCell_other HR.out (by simp [Value.ownBlock]; exact hne) _
theorem popM_any_Mo6 (w : World) (b Q g cap n : Nat) (l : List Int) (h : Qu_Mo3 w b Q g cap l) (hl : l.length = n + 1) (hn : n ≤ 64) : Calls Tryz.prog 451 #[qP_Mo3 Q] w (QEnd_Mo3 w b Q g cap (l.take n) (evI (hg_HpM l n))) := by
  have cq : w.cell? ⟨Q, 0, none⟩ = some (slQ_Mo3 g l.length cap) := h.box.cell 0 rfl
  have fq := h.box.frozen 0
  have ce := h.at n (by omega)
  have hcp := h.cap_in
  have HS := hide (h.less hl)
  have Hb := hide (below_set (Below.refl b w) Q 0 (slQ_Mo3 g n cap) h.bq (Nat.le_trans h.bq (Nat.le_of_lt h.box.lt)))
  obtain ⟨N, hN⟩ : ∃ N, l.length = N := ⟨_, rfl⟩
  rw [hN] at cq hcp hl
  have e1 : (N : Int) - 1 = (n : Int) := by omega
  have hnc : n ≤ cap := by omega
  generalize hg_HpM l n = x at *
  generalize l.take n = m at *
  clear h hN
  go_enter Tryz.func451, Tryz.ntmps451
  go_wp2_with fail
  go_ret
  exact ⟨rfl, HS.out, Hb.out⟩
end Go.Proofs.YtapfaaaepnplcaaGreatDoor
