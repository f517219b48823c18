/- Pb, Qs, Pc, Pn3, Qa, Pn2. -/
import Derived.Test.YtapfaaaepnplcaaGreatDoorG06
import Derived.Deep.MidRow
import Derived.Test.YtapfaaaepnplcaaGreatDoorG05
namespace Go.Proofs.YtapfaaaepnplcaaGreatDoor
open Go.RowKit Go.Great
def cN (n : Nat) (c : Nat → Value) : Array Value := ((List.range n).map c).toArray
theorem cN_size (n : Nat) (c : Nat → Value) : (cN n c).size = n := by simp [cN]
theorem cN_at (n : Nat) (c : Nat → Value) (k : Nat) (h : k < n) : (cN n c)[k]? = some (c k) := by simp [cN, h]
def updV (c : Nat → Value) (k : Nat) (v : Value) : Nat → Value := fun j => if j = k then v else c j
def updL (c : Nat → Value) : Nat → List Value → Nat → Value
  | _, [] => c
  | o, v :: r => updL (updV c o v) (o + 1) r
theorem updV_at (c : Nat → Value) (k : Nat) (v : Value) : updV c k v k = v := if_pos rfl
theorem updV_ne (c : Nat → Value) {k j : Nat} (v : Value) (h : j ≠ k) : updV c k v j = c j := if_neg h
theorem updL_lt : ∀ (vs : List Value) (c : Nat → Value) (o j : Nat), j < o → updL c o vs j = c j
  | [], _, _, _, _ => rfl
  | v :: r, c, o, j, h => by rw [updL, updL_lt r _ _ _ (by omega), updV_ne _ _ (by omega)]
theorem updL_ge : ∀ (vs : List Value) (c : Nat → Value) (o j : Nat), o + vs.length ≤ j → updL c o vs j = c j
  | [], _, _, _, _ => rfl
  | v :: r, c, o, j, h => by
    rw [List.length_cons] at h
    rw [updL, updL_ge r _ _ _ (by omega), updV_ne _ _ (by omega)]
theorem updL_in : ∀ (vs : List Value) (c : Nat → Value) (o j : Nat) (v : Value), vs[j]? = some v → updL c o vs (o + j) = v
  | [], _, _, _, _, h => by cases h
  | u :: r, c, o, 0, v, h => by
    injection h with h
    rw [updL, updL_lt r _ _ _ (by omega), Nat.add_zero, updV_at, h]
  | u :: r, c, o, j + 1, v, h => by
    rw [updL, show o + (j + 1) = o + 1 + j from by omega]
    exact updL_in r _ _ _ _ (by simpa using h)
theorem cN_set (n : Nat) (c : Nat → Value) (k : Nat) (v : Value) : (cN n c).setIfInBounds k v = cN n (updV c k v) := by
  apply Array.ext_getElem?
  intro j
  rw [Array.getElem?_setIfInBounds, cN_size]
  by_cases h : k = j
  · subst h
    rw [if_pos rfl]
    by_cases hk : k < n
    · rw [if_pos hk, cN_at _ _ _ hk, updV_at]
    · rw [if_neg hk, Array.getElem?_eq_none (by rw [cN_size]; omega)]
  · rw [if_neg h]
    by_cases hj : j < n
    · rw [cN_at _ _ _ hj, cN_at _ _ _ hj, updV_ne _ _ (fun e => h e.symm)]
    · rw [Array.getElem?_eq_none (by rw [cN_size]; omega), Array.getElem?_eq_none (by rw [cN_size]; omega)]
/-- a block of n cells, told by a function -/
def BF (w : World) (B n : Nat) (c : Nat → Value) (t : TypeId) : Prop := Blk w B (cN n c) t
theorem BF.cell {w : World} {B n : Nat} {c : Nat → Value} {t : TypeId} (h : BF w B n c t) (k : Nat) (hk : k < n) {v : Value} (hv : c k = v) : w.cell? ⟨B, k, none⟩ = some v := Blk.cell h k (by rw [cN_at _ _ _ hk, hv])
theorem BF.fz {w : World} {B n : Nat} {c : Nat → Value} {t : TypeId} (h : BF w B n c t) (k : Nat) : w.frozen? ⟨B, k, none⟩ = false := Blk.frozen h k
theorem BF.lt {w : World} {B n : Nat} {c : Nat → Value} {t : TypeId} (h : BF w B n c t) : B < w.heap.size := Blk.lt h
theorem BF.set {w : World} {B n : Nat} {c : Nat → Value} {t : TypeId} (h : BF w B n c t) (k : Nat) (v : Value) : BF (w.setCell ⟨B, k, none⟩ v) B n (updV c k v) t := by
  have := Blk.set h k v
  rwa [cN_set] at this
theorem BF.after {w w' : World} {B n : Nat} {c : Nat → Value} {t : TypeId} (h : BF w B n c t) (hb : Below w.heap.size w w') : BF w' B n c t := Blk.after h hb
theorem BF.grown {w w' : World} {B n : Nat} {c : Nat → Value} {t : TypeId} {row : Option Nat} (h : BF w B n c t) (hg : w.grownBy w' row) (hr : row ≠ some B) : BF w' B n c t := Blk.grown h hg hr
theorem BF.setL : ∀ (vs : List Value) {w : World} {B n : Nat} {c : Nat → Value} {t : TypeId} (o : Nat), BF w B n c t → BF (w.setCells B o vs) B n (updL c o vs) t
  | [], _, _, _, _, _, _, h => h
  | v :: r, _, _, _, _, _, o, h => BF.setL r (o + 1) (h.set o v)
theorem BF.there {w : World} {B n : Nat} {c : Nat → Value} {t : TypeId} (h : BF w B n c t) (o m : Nat) (hm : o + m ≤ n) : w.there B o m := fun j hj => ⟨by rw [h.cell (o + j) (by omega) rfl]; rfl, h.fz _⟩
theorem BF.range {w : World} {B n : Nat} {c : Nat → Value} {t : TypeId} (h : BF w B n c t) (o : Nat) (cs : List Value) (hm : o + cs.length ≤ n) (hc : ∀ j v, cs[j]? = some v → c (o + j) = v) : w.rangeAt B o cs := fun j v hv => h.cell (o + j) (by have := (List.getElem?_eq_some_iff.1 hv).1; omega) (hc j v hv)
theorem grown_setL : ∀ (vs : List Value) (w : World) (g o : Nat), w.grownBy (w.setCells g o vs) (some g)
  | [], _, _, _ => ⟨rfl, rfl, rfl, Nat.le_refl _, fun _ _ _ => rfl⟩
  | v :: r, w, g, o => grown_more (grown_set w g o v) (grown_setL r _ g (o + 1))
theorem BF.of {w : World} {B n : Nat} {l : List Value} {t : TypeId} (h : Blk w B l.toArray t) (hl : l.length = n) : BF w B n (fun k => l.getD k undef) t := by
  unfold BF
  have : cN n (fun k => l.getD k undef) = l.toArray := by
    subst hl
    unfold cN
    congr 1
    refine List.ext_getElem? fun j => ?_
    by_cases hj : j < l.length
    · simp [hj, List.getD_eq_getElem?_getD]
    · simp [hj]
  rw [this]; exact h
theorem BF.other {w : World} {B n : Nat} {c : Nat → Value} {t : TypeId} (h : BF w B n c t) {g : Nat} (hne : B ≠ g) (k : Nat) (v : Value) : BF (w.setCell ⟨g, k, none⟩ v) B n c t := Blk.setOther h hne k v
theorem BF.lit {w : World} {B n : Nat} {c : Nat → Value} {t : TypeId} (h : BF w B n c t) {a : Array Value} (ha : cN n c = a) : Blk w B a t := by subst ha; exact h
theorem cN_fill (c : Nat → Value) (F : Array Value) : cN F.size (updL c 0 F.toList) = F := by
  apply Array.ext_getElem?
  intro j
  by_cases hj : j < F.size
  · rw [cN_at _ _ _ hj, Array.getElem?_eq_getElem hj]
    have := updL_in F.toList c 0 j F[j] (by simp [hj])
    rw [Nat.zero_add] at this
    rw [this]
  · rw [Array.getElem?_eq_none (by rw [cN_size]; omega), Array.getElem?_eq_none (by omega)]
/-- a whole block is written -/
theorem BF.fill {w : World} {B n : Nat} {c : Nat → Value} {t : TypeId} (h : BF w B n c t) (F : Array Value) (hF : F.size = n) : Blk (w.setCells B 0 F.toList) B F t := by
  subst hF
  have := BF.setL F.toList 0 h
  unfold BF at this
  rwa [cN_fill] at this
end Go.Proofs.YtapfaaaepnplcaaGreatDoor
set_option maxRecDepth 100000
namespace Go.Proofs.YtapfaaaepnplcaaGreatDoor
open Go.RowKit Go.Great
theorem set_same {w : World} {B k : Nat} {cs : Array Value} {t : TypeId} {fr : Nat × Nat} {v : Value} (h : w.heap[B]? = some (.cells cs t fr)) (hk : cs[k]? = some v) : w.setCell ⟨B, k, none⟩ v = w := by
  have h2 : cs.setIfInBounds k v = cs := by
    apply Array.ext_getElem?
    intro j
    rw [Array.getElem?_setIfInBounds]
    split
    · subst j; rw [hk]; split
      · rfl
      · rename_i q; rw [Array.getElem?_eq_none (by omega)] at hk; cases hk
    · rfl
  have e : ∀ f : Obj → Obj, f (.cells cs t fr) = .cells cs t fr → w.heap.modify B f = w.heap := by
    intro f hf
    apply Array.ext_getElem?
    intro j
    rw [Array.getElem?_modify]
    split
    · subst j; rw [h]; simp [hf]
    · rfl
  unfold World.setCell
  rw [e _ (by simp [h2])]
theorem setL_same {B : Nat} : ∀ (vs : List Value) {w : World} {o : Nat} {cs : Array Value} {t : TypeId} {fr : Nat × Nat}, w.heap[B]? = some (.cells cs t fr) → (∀ j v, vs[j]? = some v → cs[o + j]? = some v) → w.setCells B o vs = w
  | [], _, _, _, _, _, _, _ => rfl
  | v :: r, w, o, cs, t, fr, h, hv => by
    rw [World.setCells, set_same (k := o) h (hv 0 v rfl)]
    exact setL_same r h (fun j u hu => by rw [show o + 1 + j = o + (j + 1) by omega]; exact hv (j + 1) u hu)
theorem Blk.same {w : World} {B : Nat} {cs : Array Value} {t : TypeId} (h : Blk w B cs t) {k : Nat} {v : Value} (hk : cs[k]? = some v) : w.setCell ⟨B, k, none⟩ v = w := set_same h hk
theorem BF.same {w : World} {B n : Nat} {c : Nat → Value} {t : TypeId} (h : BF w B n c t) (k : Nat) (hk : k < n) {v : Value} (hv : c k = v) : w.setCell ⟨B, k, none⟩ v = w := set_same h (by rw [cN_at _ _ _ hk, hv])
theorem BF.sameL {w : World} {B n : Nat} {c : Nat → Value} {t : TypeId} (h : BF w B n c t) (o : Nat) (vs : List Value) (hn : o + vs.length ≤ n) (hv : ∀ j v, vs[j]? = some v → c (o + j) = v) : w.setCells B o vs = w :=
  setL_same vs h (fun j v hj => by have := (List.getElem?_eq_some_iff.1 hj).1; rw [cN_at _ _ _ (by omega), hv j v hj])
/-- who may change one block, and leaves it as it was, changes nothing -/
theorem grown_same {w w' : World} {B : Nat} {cs : Array Value} {t : TypeId} (h : w.grownBy w' (some B)) (h1 : Blk w B cs t) (h2 : Blk w' B cs t) : Below w.heap.size w w' :=
  ⟨h.os, h.tape, h.output, h.size, fun b hb => by
    by_cases e : b = B
    · subst e; exact h2.trans h1.symm
    · exact h.block b hb (fun q => e (by injection q))⟩
end Go.Proofs.YtapfaaaepnplcaaGreatDoor
namespace Go.Proofs.YtapfaaaepnplcaaGreatDoor
open Go.RowKit Go.Great
/-- a part: what it says of memory, where its blocks are among F -/
structure Asn where
  p : World → (Nat → Prop) → Prop
  loc : ∀ w w' F F', p w F → w.heap.size ≤ w'.heap.size → (∀ b, F b → F' b ∧ w'.heap[b]? = w.heap[b]?) → p w' F'
/-- one block -/
def cB (g : Nat) (cs : Array Value) (t : TypeId) : Asn := ⟨fun w F => F g ∧ Blk w g cs t, fun _ _ _ _ h _ k => ⟨(k g h.1).1, (k g h.1).2.trans h.2⟩⟩
/-- nothing -/
def cNo : Asn := ⟨fun _ _ => True, fun _ _ _ _ _ _ _ => trivial⟩
def updC (C : Nat → Asn) (i : Nat) (x : Asn) : Nat → Asn := fun j => if j = i then x else C j
theorem updC_at (C : Nat → Asn) (i : Nat) (x : Asn) : updC C i x i = x := if_pos rfl
theorem updC_ne (C : Nat → Asn) {i j : Nat} (x : Asn) (h : j ≠ i) : updC C i x j = C j := if_neg h
/-- all parts stand in w; what was there in w0 and is no part's (99) is as it was -/
structure LivO (w0 : World) (o0 : Nat → Nat) (w : World) (o : Nat → Nat) (C : Nat → Asn) : Prop where
  part : ∀ i, i < 99 → (C i).p w (fun b => b < w.heap.size ∧ o b = i)
  size : w0.heap.size ≤ w.heap.size
  old : ∀ b, b < w0.heap.size → o b = o0 b
  keep : ∀ b, b < w0.heap.size → o0 b = 99 → w.heap[b]? = w0.heap[b]?
  os : w.os = w0.os
  tape : w.tape = w0.tape
  output : w.output = w0.output
def Liv (w0 : World) (o0 : Nat → Nat) (w : World) (C : Nat → Asn) : Prop := ∃ o, LivO w0 o0 w o C
/-- part i changes, and nothing else that was there -/
theorem LivO.part_to {w0 : World} {o0 : Nat → Nat} {w : World} {o : Nat → Nat} {C : Nat → Asn} (h : LivO w0 o0 w o C) {w' : World} (i : Nat) (x : Asn) (hi : i < 99) (hs : w.heap.size ≤ w'.heap.size) (he : w'.os = w.os ∧ w'.tape = w.tape ∧ w'.output = w.output) (hk : ∀ b, b < w.heap.size → o b ≠ i → w'.heap[b]? = w.heap[b]?)
    (hx : x.p w' (fun b => b < w'.heap.size ∧ (if b < w.heap.size then o b else i) = i)) : Liv w0 o0 w' (updC C i x) := by
  refine ⟨fun b => if b < w.heap.size then o b else i, fun j hj => ?_, Nat.le_trans h.size hs, fun b hb => ?_, fun b hb h9 => ?_, he.1.trans h.os, he.2.1.trans h.tape, he.2.2.trans h.output⟩
  · unfold updC
    split
    · subst j; exact hx
    · rename_i hne
      refine (C j).loc w w' _ _ (h.part j hj) hs fun b hb => ⟨⟨Nat.lt_of_lt_of_le hb.1 hs, by rw [if_pos hb.1]; exact hb.2⟩, hk b hb.1 (by rw [hb.2]; exact hne)⟩
  · rw [if_pos (Nat.lt_of_lt_of_le hb h.size)]; exact h.old b hb
  · rw [hk b (Nat.lt_of_lt_of_le hb h.size) (by rw [h.old b hb, h9]; omega)]; exact h.keep b hb h9
theorem Liv.below {w0 : World} {o0 : Nat → Nat} {w w' : World} {C : Nat → Asn} (h : Liv w0 o0 w C) (hb : Below w.heap.size w w') : Liv w0 o0 w' C := by
  obtain ⟨o, h⟩ := h
  refine ⟨fun b => if b < w.heap.size then o b else 99, fun j hj => ?_, Nat.le_trans h.size hb.size, fun b hlt => ?_, fun b hlt h9 => ?_, hb.os.trans h.os, hb.tape.trans h.tape, hb.output.trans h.output⟩
  · exact (C j).loc w w' _ _ (h.part j hj) hb.size fun b hlt => ⟨⟨Nat.lt_of_lt_of_le hlt.1 hb.size, by rw [if_pos hlt.1]; exact hlt.2⟩, hb.block b hlt.1⟩
  · rw [if_pos (Nat.lt_of_lt_of_le hlt h.size)]; exact h.old b hlt
  · rw [hb.block b (Nat.lt_of_lt_of_le hlt h.size)]; exact h.keep b hlt h9
theorem Liv.blk {w0 : World} {o0 : Nat → Nat} {w : World} {C : Nat → Asn} (h : Liv w0 o0 w C) {i g : Nat} {cs : Array Value} {t : TypeId} (hi : i < 99) (hc : C i = cB g cs t) : Blk w g cs t := by
  obtain ⟨o, h⟩ := h
  have := h.part i hi
  rw [hc] at this
  exact this.2
theorem grown_env {w w' : World} {r : Option Nat} (h : w.grownBy w' r) : w'.os = w.os ∧ w'.tape = w.tape ∧ w'.output = w.output := ⟨h.os, h.tape, h.output⟩
/-- a call that changes its own block -/
theorem Liv.own {w0 : World} {o0 : Nat → Nat} {w w' : World} {C : Nat → Asn} (h : Liv w0 o0 w C) {i g : Nat} {cs cs' : Array Value} {t t' : TypeId} (hi : i < 99) (hc : C i = cB g cs t) (hB : Blk w' g cs' t') (hg : w.grownBy w' (some g)) : Liv w0 o0 w' (updC C i (cB g cs' t')) := by
  obtain ⟨o, h⟩ := h
  have h1 := h.part i hi
  rw [hc] at h1
  have hlt : g < w.heap.size := h1.2.lt
  refine h.part_to i _ hi hg.size (grown_env hg) (fun b hb hne => hg.block b hb (fun e => hne (by injection e with e; rw [e]; exact h1.1.2))) ⟨⟨hB.lt, ?_⟩, hB⟩
  rw [if_pos hlt]; exact h1.1.2
/-- a call that lays a new block for part i -/
theorem Liv.new {w0 : World} {o0 : Nat → Nat} {w w' : World} {C : Nat → Asn} (h : Liv w0 o0 w C) (i : Nat) {g : Nat} {cs : Array Value} {t : TypeId} (hi : i < 99) (hB : Blk w' g cs t) (hg : w.heap.size ≤ g) (hb : Below w.heap.size w w') : Liv w0 o0 w' (updC C i (cB g cs t)) := by
  obtain ⟨o, h⟩ := h
  refine h.part_to i _ hi hb.size ⟨hb.os, hb.tape, hb.output⟩ (fun b hlt _ => hb.block b hlt) ⟨⟨hB.lt, ?_⟩, hB⟩
  rw [if_neg (by omega)]
/-- a part's block of cells told by a function: one cell, a row of cells -/
theorem Liv.set {w0 : World} {o0 : Nat → Nat} {w : World} {C : Nat → Asn} (h : Liv w0 o0 w C) {i g n : Nat} {c : Nat → Value} {t : TypeId} (hi : i < 99) (hc : C i = cB g (cN n c) t) (k : Nat) (v : Value) : Liv w0 o0 (w.setCell ⟨g, k, none⟩ v) (updC C i (cB g (cN n (updV c k v)) t)) :=
  h.own hi hc (BF.set (h.blk hi hc) k v) (grown_set w g k v)
theorem Liv.setL {w0 : World} {o0 : Nat → Nat} {w : World} {C : Nat → Asn} (h : Liv w0 o0 w C) {i g n : Nat} {c : Nat → Value} {t : TypeId} (hi : i < 99) (hc : C i = cB g (cN n c) t) (k : Nat) (vs : List Value) : Liv w0 o0 (w.setCells g k vs) (updC C i (cB g (cN n (updL c k vs)) t)) :=
  h.own hi hc (BF.setL vs k (h.blk hi hc)) (grown_setL vs w g k)
theorem updC_two (C : Nat → Asn) (i : Nat) (x y : Asn) : updC (updC C i x) i y = updC C i y := by
  funext j
  unfold updC
  split <;> rfl
/-- a part that says nothing else -/
theorem updC_same (C : Nat → Asn) (i : Nat) (x : Asn) (h : C i = x) : updC C i x = C := by
  funext j
  unfold updC
  split
  · rename_i e; rw [e, h]
  · rfl
theorem Liv.drew {w0 : World} {o0 : Nat → Nat} {w : World} {C : Nat → Asn} (h : Liv w0 o0 w C) : Liv w0 o0 w.drew C := h.below (Below.refl _ _).drew
theorem Liv.drewN {w0 : World} {o0 : Nat → Nat} {w : World} {C : Nat → Asn} (h : Liv w0 o0 w C) (n : Nat) : Liv w0 o0 (w.drewN n) C := h.below (below_drewN (Below.refl _ _) n)
theorem irow_low {w : World} {b b2 : Nat} {v : Value} {l : List Int} (h : IRow w b v l) (hb : b2 ≤ b) : IRow w b2 v l := ⟨h.1, h.2.imp id (fun ⟨g, cap, cur, h1, h2, h3⟩ => ⟨g, cap, cur, h1, Nat.le_trans hb h2, h3⟩)⟩
theorem irow_same {w w' : World} {b : Nat} {v : Value} {l : List Int} (h : IRow w b v l) (hs : ∀ g, v.ownBlock = some g → w'.heap[g]? = w.heap[g]?) : IRow w' b v l := ⟨h.1, h.2.imp id (fun ⟨g, cap, cur, h1, h2, h3, h4⟩ => ⟨g, cap, cur, h1, h2, (hs g (by rw [h1]; rfl)).trans h3, h4⟩)⟩
theorem irow_ge {w : World} {b : Nat} {v : Value} {l : List Int} (h : IRow w b v l) {g : Nat} (hg : v.ownBlock = some g) : b ≤ g := by
  rcases h.2 with ⟨e, _⟩ | ⟨g', _, _, e, h2, _⟩
  · rw [e] at hg; cases hg
  · rw [e] at hg; injection hg with hg; rw [← hg]; exact h2
/-- a list of numbers in a block of its own -/
def cI (b : Nat) (v : Value) (l : List Int) : Asn := ⟨fun w F => IRow w b v l ∧ ∀ g, v.ownBlock = some g → F g, fun _ _ _ _ h _ k => ⟨irow_same h.1 (fun g hg => (k g (h.2 g hg)).2), fun g hg => (k g (h.2 g hg)).1⟩⟩
theorem Liv.ints {w0 : World} {o0 : Nat → Nat} {w : World} {C : Nat → Asn} (h : Liv w0 o0 w C) {i b : Nat} {v : Value} {l : List Int} (hi : i < 99) (hc : C i = cI b v l) : Ints w v l := by
  obtain ⟨o, h⟩ := h
  have := h.part i hi
  rw [hc] at this
  exact this.1.ints
/-- a call that lays a new part -/
theorem Liv.lay {w0 : World} {o0 : Nat → Nat} {w w' : World} {C : Nat → Asn} (h : Liv w0 o0 w C) (i : Nat) (x : Asn) (hi : i < 99) (hb : Below w.heap.size w w') (hx : ∃ F : Nat → Prop, x.p w' F ∧ ∀ b, F b → w.heap.size ≤ b ∧ b < w'.heap.size) : Liv w0 o0 w' (updC C i x) := by
  obtain ⟨o, h⟩ := h
  obtain ⟨F, h1, h2⟩ := hx
  refine h.part_to i _ hi hb.size ⟨hb.os, hb.tape, hb.output⟩ (fun b hlt _ => hb.block b hlt) (x.loc w' w' F _ h1 (Nat.le_refl _) fun b hF => ⟨⟨(h2 b hF).2, ?_⟩, rfl⟩)
  rw [if_neg (by have := (h2 b hF).1; omega)]
/-- the parts of a list: number, block, cells, type -/
def mkC (L : List (Nat × Nat × Array Value × TypeId)) (i : Nat) : Asn := match L.find? (fun x => x.1 == i) with
  | some x => cB x.2.1 x.2.2.1 x.2.2.2
  | none => cNo
theorem find_only : ∀ (L : List (Nat × Nat × Array Value × TypeId)) (x : Nat × Nat × Array Value × TypeId), x ∈ L → (L.map (fun y => y.2.1)).Nodup → L.find? (fun y => y.2.1 == x.2.1) = some x
  | [], _, h, _ => by cases h
  | y :: L, x, h, hn => by
    rw [List.map_cons, List.nodup_cons] at hn
    rcases List.mem_cons.1 h with rfl | h
    · simp
    · have hne : y.2.1 ≠ x.2.1 := fun e => hn.1 (e ▸ List.mem_map.2 ⟨x, h, rfl⟩)
      rw [List.find?_cons, show (y.2.1 == x.2.1) = false from by simpa using hne]
      exact find_only L x h hn.2
theorem Liv.start {w0 w : World} (hb : Below w0.heap.size w0 w) (L : List (Nat × Nat × Array Value × TypeId)) (hall : ∀ x ∈ L, w0.heap.size ≤ x.2.1 ∧ Blk w x.2.1 x.2.2.1 x.2.2.2) (hn : (L.map (fun y => y.2.1)).Nodup) : Liv w0 (fun _ => 99) w (mkC L) := by
  refine ⟨fun b => match L.find? (fun y => y.2.1 == b) with | some x => x.1 | none => 99, fun i _ => ?_, hb.size, fun b h => ?_, fun b h _ => hb.block b h, hb.os, hb.tape, hb.output⟩
  · unfold mkC
    cases hf : L.find? (fun x => x.1 == i) with
    | none => trivial
    | some x =>
      have hx := List.mem_of_find?_eq_some hf
      have hi : x.1 = i := by simpa using List.find?_some hf
      refine ⟨⟨(hall x hx).2.lt, ?_⟩, (hall x hx).2⟩
      show (match L.find? (fun y => y.2.1 == x.2.1) with | some x => x.1 | none => 99) = i
      rw [find_only L x hx hn]
      exact hi
  · have : L.find? (fun y => y.2.1 == b) = none := by
      rw [List.find?_eq_none]
      intro x hx e
      have := (hall x hx).1
      have : x.2.1 = b := by simpa using e
      omega
    rw [this]
end Go.Proofs.YtapfaaaepnplcaaGreatDoor
namespace Go.Proofs.YtapfaaaepnplcaaGreatDoor
open Go.RowKit Go.Great
theorem newLink_any (w : World) (hN : ∀ w : World, Calls Tryz.prog 46 #[] w fun e w' => e = .returned (.pointer (some ⟨w.heap.size, 0, none⟩)) ∧ w' = w.alloc (.cells #[.string ⟨#[]⟩, .int .i64 0] 214)) : Calls Tryz.prog 17 #[] w fun e w' => ∃ R, e = .returned (.agg #[.pointer (some ⟨R, 0, none⟩), .slice none 0 0, .int .i64 65535, .int .i64 0, .int .i64 0, .slice none 0 0]) ∧ Blk w' R #[.string ⟨#[]⟩, .int .i64 0] 214 ∧ w.heap.size ≤ R ∧ Below w.heap.size w w' := by
  go_enter Tryz.func17, Tryz.ntmps17
  go_wp2_with fail
  refine (hN _).mono ?_
  rintro e w1 ⟨rfl, rfl⟩
  go_wp2_with fail
  obtain ⟨W0, hW0, hB, B0, B1, hz⟩ := two_boxes w #[.pointer (some ⟨w.heap.size + 1, 0, none⟩), .slice none 0 0, .int .i64 65535, .int .i64 0, .int .i64 0, .slice none 0 0] #[.string ⟨#[]⟩, .int .i64 0] 79 214
  rw [hW0]
  refine bodyPost_ret (res_back (p := 0) rfl Tryz.underlying79 (by kernel_rfl) _ _ w.heap.size rfl B0) rfl ?_
  exact ⟨_, rfl, B1, by omega, hB⟩
/-- a flight's cells -/
def fliC (M B G : Nat) : Array Value := #[.pointer (some ⟨M, 0, none⟩), .pointer none, .pointer none, .pointer (some ⟨B, 0, none⟩), .pointer (some ⟨G, 0, none⟩), .int .i64 0, .bool false, .int .i64 0, .int .i64 0, .int .i64 0, .int .i64 0, .int .i64 0, .int .i64 0, .int .i64 0, .int .i64 0, .int .i64 0, .int .i64 0, .int .i64 0, .int .i64 0, .bool false, .bool false, .bool false, .bool false, .int .i64 0, .int .i64 0, .int .i64 0, .int .i64 0, .int .i64 0, .int .i64 0, .int .i64 0, .int .i64 0, .int .i64 0, .int .i64 0, .int .i64 0]
theorem newFlight_any (w : World) (cM cB cG : Array Value) (tM tB tG : TypeId)
    (h1 : ∀ w : World, Calls Tryz.prog 47 #[] w fun e w' => ∃ M, e = .returned (.pointer (some ⟨M, 0, none⟩)) ∧ Blk w' M cM tM ∧ Below w.heap.size w w' ∧ w.heap.size ≤ M)
    (h2 : ∀ w : World, Calls Tryz.prog 48 #[] w fun e w' => ∃ M, e = .returned (.pointer (some ⟨M, 0, none⟩)) ∧ Blk w' M cB tB ∧ Below w.heap.size w w' ∧ w.heap.size ≤ M)
    (h3 : ∀ w : World, Calls Tryz.prog 49 #[] w fun e w' => ∃ M, e = .returned (.pointer (some ⟨M, 0, none⟩)) ∧ Blk w' M cG tG ∧ Below w.heap.size w w' ∧ w.heap.size ≤ M) :
    Calls Tryz.prog 18 #[] w fun e w' => ∃ M B G, e = .returned (.agg (fliC M B G)) ∧ Blk w' M cM tM ∧ Blk w' B cB tB ∧ Blk w' G cG tG ∧ w.heap.size ≤ M ∧ M < B ∧ B < G ∧ Below w.heap.size w w' := by
  have H1 := hide h1
  have H2 := hide h2
  have H3 := hide h3
  clear h1 h2 h3
  go_enter Tryz.func18, Tryz.ntmps18
  go_wp2_with fail
  obtain ⟨z, hz⟩ : ∃ z, z = #[Value.pointer none, .pointer none, .pointer none, .pointer none, .pointer none, .int .i64 0, .bool false, .int .i64 0, .int .i64 0, .int .i64 0, .int .i64 0, .int .i64 0, .int .i64 0, .int .i64 0, .int .i64 0, .int .i64 0, .int .i64 0, .int .i64 0, .int .i64 0, .bool false, .bool false, .bool false, .bool false, .int .i64 0, .int .i64 0, .int .i64 0, .int .i64 0, .int .i64 0, .int .i64 0, .int .i64 0, .int .i64 0, .int .i64 0, .int .i64 0, .int .i64 0] := ⟨_, rfl⟩
  rw [← hz]
  have Z0 := hide (Blk.new w z 86)
  have B0 := hide (below_alloc w (.cells z 86))
  have S0 : Hid ((w.alloc (.cells z 86)).heap.size = w.heap.size + 1) := hide (size_alloc _ _)
  have HZ := hide hz
  clear hz
  generalize w.alloc (.cells z 86) = w0 at *
  refine (H1.out _).mono ?_
  rintro e w1 ⟨M, rfl, hM, hb, gM⟩
  have Z1 := hide (Z0.out.after hb)
  have B1 := hide (below_next B0.out (Nat.le_refl _) hb)
  have M1 := hide hM
  have S1 : Hid (w.heap.size + 1 ≤ M ∧ M < w1.heap.size) := hide ⟨by have := S0.out; omega, hM.lt⟩
  clear hM hb gM Z0 B0 S0 H1
  go_wp2_with fail
  refine (H2.out _).mono ?_
  rintro e w2 ⟨B, rfl, hM, hb, gM⟩
  have Z2 := hide (Z1.out.after hb)
  have B2 := hide (below_next B1.out (Nat.le_refl _) hb)
  have M2 := hide (M1.out.after hb)
  have N2 := hide hM
  have S2 : Hid (w.heap.size + 1 ≤ M ∧ M < B ∧ B < w2.heap.size) := hide ⟨S1.out.1, Nat.lt_of_lt_of_le S1.out.2 gM, hM.lt⟩
  clear hM hb gM Z1 B1 M1 S1 H2
  go_wp2_with fail
  refine (H3.out _).mono ?_
  rintro e w3 ⟨G, rfl, hM, hb, gM⟩
  have Z3 := hide (Z2.out.after hb)
  have B3 := hide (below_next B2.out (Nat.le_refl _) hb)
  have M3 := hide (M2.out.after hb)
  have N3 := hide (N2.out.after hb)
  have G3 := hide hM
  have S3 : Hid (w.heap.size + 1 ≤ M ∧ M < B ∧ B < G) := hide ⟨S2.out.1, S2.out.2.1, Nat.lt_of_lt_of_le S2.out.2.2 gM⟩
  clear hM hb gM Z2 B2 M2 N2 S2 H3
  obtain ⟨c, hc⟩ : ∃ c : Nat → Value, BF w3 w.heap.size 34 c 86 := ⟨_, BF.of (l := z.toList) (by simpa using Z3.out) (by rw [HZ.out]; rfl)⟩
  obtain ⟨F, hF⟩ : ∃ F, Hid (fliC M B G = F) := ⟨_, hide rfl⟩
  have hs : F.size = 34 := by rw [← hF.out]; rfl
  have h1 : F.all (·.oneCell') = true := by rw [← hF.out]; kernel_rfl
  clear HZ Z3
  rename_i K hK
  refine hK _ _ ?_
  clear hK
  refine wpList_run rfl (some 4) rfl (.agg F) w3 (by rw [← hF.out]; kernel_rfl) ?_
  refine wpList_frame (a' := { tmps := #[.pointer (some ⟨w.heap.size, 0, none⟩), .pointer (some ⟨M, 0, none⟩), .pointer (some ⟨B, 0, none⟩), .pointer (some ⟨G, 0, none⟩), .agg F], defers := [] }) (by kernel_rfl) ?_
  refine wpList_store_mid rfl 86 _ _ rfl w.heap.size 0 F rfl rfl (hs ▸ hc.there 0 34 (Nat.le_refl _)) (by rw [hs]; kernel_rfl) h1 ?_
  have X := hc.fill F hs
  have Y := grown_setL F.toList w3 w.heap.size 0
  clear hc
  have s3 := S3.out
  have HM := hide (Blk.grown M3.out Y (fun e => by injection e with e; omega))
  have HN := hide (Blk.grown N3.out Y (fun e => by injection e with e; omega))
  have HG := hide (Blk.grown G3.out Y (fun e => by injection e with e; omega))
  have HB := hide (B3.out.grown Y B3.out.size (fun j e => by injection e with e; omega))
  have HX := hide X
  clear X Y B3 M3 N3 G3
  generalize w3.setCells w.heap.size 0 F.toList = w4 at *
  go_wp2_with fail
  refine bodyPost_ret (res_back (p := 0) rfl Tryz.underlying86 (by rw [hs]; kernel_rfl) _ _ w.heap.size rfl HX.out) rfl ?_
  exact ⟨M, B, G, by rw [hF.out], HM.out, HN.out, HG.out, by omega, s3.2.1, s3.2.2, HB.out⟩
/-- sensors at which nothing has been heard -/
def senR (n : Nat) : List Value := (List.replicate n [Value.bool false, Value.int .i64 0]).flatten
def senF (age : Int) : List Value := senR 31 ++ [Value.int .i64 0, Value.int .i64 0, Value.bool false, Value.int .i64 age, Value.int .i64 0, Value.int .i64 0, Value.int .i64 0, Value.int .i64 0] ++ List.replicate 10 (Value.pointer none) ++ senR 10 ++ List.replicate 5 (Value.pointer none)
def senA : Array Value := (senF 65535).toArray
def senZ : Array Value := (senF 0).toArray
theorem info_sen : (Tryz.prog.info? 74).map (fun i => (i.zero, i.size)) = some (some (.agg senZ), 105) := by kernel_rfl
theorem alloc_sen (w : World) (ρ : Operand → Value) (o : Oper) (ho : o.op = .alloc 74) : (execOp ρ o).run Tryz.prog w = .ok (.value (.pointer (some ⟨w.heap.size, 0, none⟩))) (w.alloc (.cells senZ 74)) := by
  have hz := (zero_of_info info_sen).1
  simp [execOp, ho, go_sem, hz, Value.cells]
theorem newSensors_any (w : World) : Calls Tryz.prog 16 #[] w fun e w' => e = .returned (.agg senA) ∧ Below w.heap.size w w' := by
  go_enter Tryz.func16, Tryz.ntmps16
  apply wp_seq_k; intro K0 hK0
  apply wp_region_lit
  refine wpList_run rfl (some 0) rfl _ _ (alloc_sen _ _ _ rfl) ?_
  refine wpList_frame (a' := { tmps := #[.pointer (some ⟨w.heap.size, 0, none⟩), undef, undef], defers := [] }) (by kernel_rfl) ?_
  apply wpList_nil
  refine hK0 _ _ ?_
  clear hK0 K0
  apply wp_seq_k; intro K0 hK0
  apply wp_region_lit
  refine wpList_same rfl (some 1) rfl (.agg #[.bool false, .int .i64 65535, .int .i64 0, .int .i64 0, .int .i64 0, .int .i64 0]) (by kernel_rfl) ?_
  refine wpList_same rfl (some 2) rfl (.agg senA) (by kernel_rfl) ?_
  refine wpList_frame (a' := { tmps := #[.pointer (some ⟨w.heap.size, 0, none⟩), .agg #[.bool false, .int .i64 65535, .int .i64 0, .int .i64 0, .int .i64 0, .int .i64 0], .agg senA], defers := [] }) (by kernel_rfl) ?_
  have hc := BF.of (l := senZ.toList) (n := 105) (Blk.new w senZ 74) rfl
  have hs : senA.size = 105 := by kernel_rfl
  refine wpList_store_mid rfl 74 _ _ rfl w.heap.size 0 senA rfl rfl (hs ▸ hc.there 0 105 (Nat.le_refl _)) (by kernel_rfl) (by kernel_rfl) ?_
  have X := hide (hc.fill senA hs)
  have Y := hide ((below_alloc w (.cells senZ 74)).grown (grown_setL senA.toList _ w.heap.size 0) (below_alloc w (.cells senZ 74)).size (fun j e => by injection e with e; omega))
  clear hc
  generalize (w.alloc (.cells senZ 74)).setCells w.heap.size 0 senA.toList = w4 at *
  apply wpList_nil
  refine hK0 _ _ ?_
  clear hK0 K0
  go_wp2_with fail
  exact bodyPost_ret (res_back (p := 0) rfl Tryz.underlying74 (by kernel_rfl) _ _ w.heap.size rfl X.out) rfl ⟨rfl, Y.out⟩
end Go.Proofs.YtapfaaaepnplcaaGreatDoor
set_option maxRecDepth 100000
set_option maxHeartbeats 2000000
namespace Go.Proofs.YtapfaaaepnplcaaGreatDoor
open Go.RowKit Go.Great
abbrev noS : Value := .string ⟨#[]⟩
theorem decP_no (w : World) : Calls Tryz.prog 39 #[noS] w fun e w' => e = .returned (.tuple #[.slice none 0 0, .int .i64 3]) ∧ w' = w := by
  go_enter Tryz.func39, Tryz.ntmps39
  go_wp2_with fail
  go_ret2
  exact ⟨rfl, rfl⟩
theorem decM_no (w : World) : Calls Tryz.prog 43 #[noS] w fun e w' => e = .returned (.tuple #[.slice none 0 0, .int .i64 3]) ∧ w' = w := by
  go_enter Tryz.func43, Tryz.ntmps43
  go_wp2_with fail
  go_ret2
  exact ⟨rfl, rfl⟩
/-- the fence's reader at its end -/
abbrev RdE (w : World) (B : Nat) (sh : Bool) : Prop := Blk w B #[noS, .bool sh] 208
theorem takeE (w : World) (B : Nat) (sh : Bool) (n : Int) (hn : 1 ≤ n) (hR : RdE w B sh) : Calls Tryz.prog 170 #[.pointer (some ⟨B, 0, none⟩), .int .i64 n] w fun e w' => e = .returned noS ∧ RdE w' B true ∧ w.grownBy w' (some B) := by
  have c0 := hR.cell 0 rfl
  have c1 := hR.cell 1 rfl
  have fz := hR.frozen 1
  have h0 : (0 : Int) < n := by omega
  have HR := hide hR
  clear hR
  cases sh
  · go_enter Tryz.func170, Tryz.ntmps170
    go_wp2_with fail
    go_ret
    exact ⟨rfl, HR.out.set 1 _, grown_set _ _ _ _⟩
  · go_enter Tryz.func170, Tryz.ntmps170
    go_wp2_with fail
    go_ret
    exact ⟨rfl, HR.out.set 1 _, grown_set _ _ _ _⟩
theorem pointsE (w : World) (B : Nat) (sh : Bool) (hR : RdE w B sh) : Calls Tryz.prog 92 #[.pointer (some ⟨B, 0, none⟩)] w fun e w' => e = .returned (.slice none 0 0) ∧ RdE w' B true ∧ w.grownBy w' (some B) := by
  have TK := hide (takeE w B sh 1 (by omega) hR)
  clear hR
  go_enter Tryz.func92, Tryz.ntmps92
  go_wp2_with fail
  refine TK.out.mono ?_
  rintro e w1 ⟨rfl, hR1, hg1⟩
  go_wp2_with fail
  go_ret
  exact ⟨rfl, hR1, hg1⟩
theorem conv_no (w : World) : ∃ wx cap, (convert 9 77 noS).run Tryz.prog w = .ok (.slice (some ⟨w.heap.size, 0, none⟩) 0 cap) wx ∧ Below w.heap.size w wx :=
  ⟨_, _, run_bytes_of_string w 9 77 5 ⟨#[]⟩ (by kernel_rfl) (by kernel_rfl) (by kernel_rfl), (Below.refl _ _).drew.alloc (Nat.le_refl _) _⟩
theorem numberE (w : World) (B : Nat) (sh : Bool) (hR : RdE w B sh) : Calls Tryz.prog 93 #[.pointer (some ⟨B, 0, none⟩)] w fun e w' => e = .returned (.int .i64 0) ∧ RdE w' B true ∧ w.grownBy w' (some B) := by
  have TK := hide (takeE w B sh 4 (by omega) hR)
  clear hR
  go_enter Tryz.func93, Tryz.ntmps93
  go_wp2_with fail
  refine TK.out.mono ?_
  rintro e w1 ⟨rfl, hR1, hg1⟩
  obtain ⟨wx, cap, hconv, hB⟩ := conv_no w1
  have HR1 := hide (hR1.after hB)
  have HG1 := hide (grown_after hg1 hB)
  clear hR1 hg1 hB TK
  go_wp2_with fail
  go_loopw [3, 10] (fun wd i wy => i = .int .i64 0 ∧ wd = .int .u32 0 ∧ wy = wx) (fun _ i _ => 0)
  case atStart => exact ⟨rfl, rfl, rfl⟩
  case round =>
    obtain ⟨rfl, rfl, hw⟩ := hrel
    subst hw
    go_wp2_with fail
    go_ret
    exact ⟨rfl, HR1.out, HG1.out⟩
theorem decF_no (w : World) : Calls Tryz.prog 45 #[noS] w fun e w' => e = .returned (.tuple #[.agg #[.slice none 0 0, .int .i64 0, .int .i64 0, .slice none 0 0], .int .i64 3]) ∧ Below w.heap.size w w' := by
  go_enter Tryz.func45, Tryz.ntmps45
  go_wp2_with fail
  obtain ⟨W0, hW0, hB, B0, B1, hz⟩ := two_boxes w #[.slice none 0 0, .int .i64 0, .int .i64 0, .slice none 0 0] #[noS, .bool false] 34 208
  rw [hW0]
  clear hW0
  refine (pointsE _ _ _ B1).mono ?_
  rintro e w1 ⟨rfl, hR1, hg1⟩
  go_wp2_with fail
  refine (numberE _ _ _ hR1).mono ?_
  rintro e w2 ⟨rfl, hR2, hg2⟩
  go_wp2_with fail
  refine (numberE _ _ _ hR2).mono ?_
  rintro e w3 ⟨rfl, hR3, hg3⟩
  go_wp2_with fail
  refine (pointsE _ _ _ hR3).mono ?_
  rintro e w4 ⟨rfl, hR4, hg4⟩
  have g14 := grown_more (grown_more (grown_more hg1 hg2) hg3) hg4
  have hB4 : Below w.heap.size w w4 := hB.grown g14 (by omega) (fun k e => by injection e with e; omega)
  have z1 := B0.grown g14 (by simp)
  obtain ⟨W5, hW5⟩ : ∃ W5, w4.alloc (.cells #[.slice none 0 0, .int .i64 0, .int .i64 0, .slice none 0 0] 34) = W5 := ⟨_, rfl⟩
  have hb5 : Below w4.heap.size w4 W5 := hW5 ▸ below_alloc _ _
  have hR5 := hR4.after hb5
  have z5 := z1.after hb5
  have B2 : Blk W5 w4.heap.size #[.slice none 0 0, .int .i64 0, .int .i64 0, .slice none 0 0] 34 := hW5 ▸ Blk.new _ _ _
  have HB5 := hide (below_next hB4 (by have := hB4.size; omega) hb5)
  have k0 := hR5.cell 0 rfl
  have k1 := hR5.cell 1 rfl
  have j0 := B2.cell 0 rfl
  have j1 := B2.cell 1 rfl
  have j2 := B2.cell 2 rfl
  have j3 := B2.cell 3 rfl
  have m0 := z5.cell 0 rfl
  have m1 := z5.cell 1 rfl
  have m2 := z5.cell 2 rfl
  have m3 := z5.cell 3 rfl
  have fz := z5.frozen
  have fB := B2.frozen
  have hne : ¬ (w.heap.size + 1 = w4.heap.size) := fun e => by have := hR4.lt; omega
  have e0 : W5.setCell ⟨w4.heap.size, 0, none⟩ (.slice none 0 0) = W5 := set_same B2 rfl
  have e1 : W5.setCell ⟨w4.heap.size, 1, none⟩ (.int .i64 0) = W5 := set_same B2 rfl
  have e2 : W5.setCell ⟨w4.heap.size, 2, none⟩ (.int .i64 0) = W5 := set_same B2 rfl
  have e3 : W5.setCell ⟨w4.heap.size, 3, none⟩ (.slice none 0 0) = W5 := set_same B2 rfl
  have Z5 := hide z5
  clear hR1 hR2 hR3 hR4 hg1 hg2 hg3 hg4 g14 hB4 z1 B0 B1 hB hR5 z5 B2 hb5
  go_wp2_with fail
  rw [set_same (w := W5) Z5.out rfl, set_same (w := W5) Z5.out rfl, set_same (w := W5) Z5.out rfl, set_same (w := W5) Z5.out rfl]
  refine bodyPost_ret (res_back2 Tryz.results45 Tryz.underlying34 (by kernel_rfl) _ _ w.heap.size _ rfl rfl Z5.out) rfl ?_
  exact ⟨rfl, HB5.out⟩
theorem deco_p (w : World) (S : Nat) (hG : ∀ W, Below w.heap.size w W → Calls Tryz.prog 85 #[.pointer (some ⟨S, 0, none⟩), .int .i64 0] W fun e w' => e = .returned (.tuple #[noS, .bool false]) ∧ Below W.heap.size W w') :
    Calls Tryz.prog 38 #[.pointer (some ⟨S, 0, none⟩), .int .i64 0, .func (.func 39) #[] #[]] w fun e w' => e = .returned (.tuple #[.slice none 0 0, .int .i64 3]) ∧ Below w.heap.size w w' := by
  have HG := hide hG
  clear hG
  go_enter Tryz.func38, Tryz.ntmps38
  go_wp2_with fail
  refine (HG.out _ (by first | exact Below.refl _ _ | exact below_alloc _ _)).mono ?_
  rintro e w1 ⟨rfl, hb1⟩
  have HB1 : Hid (Below w.heap.size w w1) := hide (below_next (by first | exact Below.refl _ _ | exact below_alloc _ _) (Nat.le_refl _) hb1)
  clear HG
  go_wp2_with fail
  refine (decP_no _).mono ?_
  rintro e w2 ⟨rfl, hw⟩
  obtain rfl := hw.symm
  go_wp2_with fail
  go_ret2
  exact ⟨rfl, HB1.out⟩
theorem deco_m (w : World) (S : Nat) (hG : ∀ W, Below w.heap.size w W → Calls Tryz.prog 85 #[.pointer (some ⟨S, 0, none⟩), .int .i64 1] W fun e w' => e = .returned (.tuple #[noS, .bool false]) ∧ Below W.heap.size W w') :
    Calls Tryz.prog 42 #[.pointer (some ⟨S, 0, none⟩), .int .i64 1, .func (.func 43) #[] #[]] w fun e w' => e = .returned (.tuple #[.slice none 0 0, .int .i64 3]) ∧ Below w.heap.size w w' := by
  have HG := hide hG
  clear hG
  go_enter Tryz.func42, Tryz.ntmps42
  go_wp2_with fail
  refine (HG.out _ (by first | exact Below.refl _ _ | exact below_alloc _ _)).mono ?_
  rintro e w1 ⟨rfl, hb1⟩
  have HB1 : Hid (Below w.heap.size w w1) := hide (below_next (by first | exact Below.refl _ _ | exact below_alloc _ _) (Nat.le_refl _) hb1)
  clear HG
  go_wp2_with fail
  refine (decM_no _).mono ?_
  rintro e w2 ⟨rfl, hw⟩
  obtain rfl := hw.symm
  go_wp2_with fail
  go_ret2
  exact ⟨rfl, HB1.out⟩
theorem deco_f (w : World) (S : Nat) (hG : ∀ W, Below w.heap.size w W → Calls Tryz.prog 85 #[.pointer (some ⟨S, 0, none⟩), .int .i64 2] W fun e w' => e = .returned (.tuple #[noS, .bool false]) ∧ Below W.heap.size W w') :
    Calls Tryz.prog 44 #[.pointer (some ⟨S, 0, none⟩), .int .i64 2, .func (.func 45) #[] #[]] w fun e w' => e = .returned (.tuple #[.agg #[.slice none 0 0, .int .i64 0, .int .i64 0, .slice none 0 0], .int .i64 3]) ∧ Below w.heap.size w w' := by
  have HG := hide hG
  clear hG
  go_enter Tryz.func44, Tryz.ntmps44
  go_wp2_with fail
  refine (HG.out _ (by first | exact Below.refl _ _ | exact below_alloc _ _)).mono ?_
  rintro e w1 ⟨rfl, hb1⟩
  have HB1 : Hid (Below w.heap.size w w1) := hide (below_next (by first | exact Below.refl _ _ | exact below_alloc _ _) (Nat.le_refl _) hb1)
  clear HG
  go_wp2_with fail
  refine (decF_no _).mono ?_
  rintro e w2 ⟨rfl, hb⟩
  have Z2 := ((Blk.new w #[.slice none 0 0, .int .i64 0, .int .i64 0, .slice none 0 0] 34).after hb1).after hb
  have HB := hide (below_next HB1.out (Nat.le_refl _) hb)
  have m0 := Z2.cell 0 rfl
  have m1 := Z2.cell 1 rfl
  have m2 := Z2.cell 2 rfl
  have m3 := Z2.cell 3 rfl
  have fz := Z2.frozen
  have e0 : w2.setCell ⟨w.heap.size, 0, none⟩ (.slice none 0 0) = w2 := set_same Z2 rfl
  have e1 : w2.setCell ⟨w.heap.size, 1, none⟩ (.int .i64 0) = w2 := set_same Z2 rfl
  have e2 : w2.setCell ⟨w.heap.size, 2, none⟩ (.int .i64 0) = w2 := set_same Z2 rfl
  have e3 : w2.setCell ⟨w.heap.size, 3, none⟩ (.slice none 0 0) = w2 := set_same Z2 rfl
  have ZZ := hide Z2
  clear hb Z2
  go_wp2_with fail
  (try rw [e0, e1, e2, e3])
  refine bodyPost_ret (res_back2 Tryz.results44 Tryz.underlying34 (by kernel_rfl) _ _ w.heap.size _ rfl rfl ZZ.out) rfl ?_
  exact ⟨rfl, HB.out⟩
end Go.Proofs.YtapfaaaepnplcaaGreatDoor
namespace Go.Proofs.YtapfaaaepnplcaaGreatDoor
open Go.RowKit Go.Great
/-- what a store keeps: force's cells -/
def frc (S : Nat) (v : Value) (k : Bool) (m : List Value) (u : Value) (f : List Value) (b : Bool) : List Value := .pointer (some ⟨S, 0, none⟩) :: v :: .bool k :: m ++ u :: f ++ [.bool b]
set_option maxRecDepth 100000 in
theorem use_any (w : World) (f : Nat) (c : Nat → Value) (v : Value) (a : Option Addr) (n k : Nat) (he : v = .slice a n k) (m0 m1 m2 m3 m4 m5 x : Int) (hB : BF w f 15 c 58)
    (hM : ∀ W : World, Below w.heap.size w W ∨ (∃ W', Below w.heap.size w W' ∧ W = W'.setCell ⟨f, 1, none⟩ v) → Calls Tryz.prog 89 #[v] W fun e w' => e = .returned (.tuple #[.agg #[.int .i64 m0, .int .i64 m1, .int .i64 m2, .int .i64 m3, .int .i64 m4, .int .i64 m5], .int .i64 x]) ∧ Below W.heap.size W w') :
    Calls Tryz.prog 41 #[.pointer (some ⟨f, 0, none⟩), v] w fun e w' => e = .returned (.tuple #[]) ∧ BF w' f 15 (updL (updV c 1 v) 3 [.int .i64 m0, .int .i64 m1, .int .i64 m2, .int .i64 m3, .int .i64 m4, .int .i64 m5]) 58 ∧ w.grownBy w' (some f) := by
  subst he
  have c1 := hB.cell 1 (by omega) rfl
  have fz := hB.fz
  have HB := hide hB
  have HM := hide hM
  have HL := hide hB.lt
  clear hB hM
  go_enter Tryz.func41, Tryz.ntmps41
  go_wp2_with fail
  refine (HM.out _ (.inr ⟨w, Below.refl _ _, rfl⟩)).mono ?_
  rintro e w1 ⟨rfl, hb⟩
  have B1 := hide ((HB.out.set 1 (.slice a n k)).after hb)
  have G1 := hide (grown_after (grown_set w f 1 (.slice a n k)) hb)
  clear hb fz c1
  have fz := B1.out.fz
  have c3 := B1.out.cell 3 (by omega) rfl
  have c4 := B1.out.cell 4 (by omega) rfl
  have c5 := B1.out.cell 5 (by omega) rfl
  have c6 := B1.out.cell 6 (by omega) rfl
  have c7 := B1.out.cell 7 (by omega) rfl
  have c8 := B1.out.cell 8 (by omega) rfl
  go_wp2_with fail
  go_end0
  refine ⟨rfl, ?_, ?_⟩
  · exact (((((B1.out.set 3 _).set 4 _).set 5 _).set 6 _).set 7 _).set 8 _
  · exact grown_more G1.out (grown_more (grown_set _ f 3 _) (grown_more (grown_set _ f 4 _) (grown_more (grown_set _ f 5 _) (grown_more (grown_set _ f 6 _) (grown_more (grown_set _ f 7 _) (grown_set _ f 8 _))))))
set_option maxRecDepth 100000 in
/-- a store that keeps nothing -/
theorem recall_any (w : World) (S : Nat) (l : List Int) (m0 m1 m2 m3 m4 m5 x e1 e2 : Int)
    (hD0 : ∀ W : World, Below w.heap.size w W → Calls Tryz.prog 38 #[.pointer (some ⟨S, 0, none⟩), .int .i64 0, .func (.func 39) #[] #[]] W fun e w' => ∃ v, e = .returned (.tuple #[v, .int .i64 3]) ∧ Below W.heap.size W w')
    (hDf : ∀ W : World, Calls Tryz.prog 40 #[] W fun e w' => ∃ v, e = .returned v ∧ IRow w' W.heap.size v l ∧ Below W.heap.size W w')
    (hM : ∀ (W : World) (v : Value), Ints W v l → Calls Tryz.prog 89 #[v] W fun e w' => e = .returned (.tuple #[.agg #[.int .i64 m0, .int .i64 m1, .int .i64 m2, .int .i64 m3, .int .i64 m4, .int .i64 m5], .int .i64 x]) ∧ Below W.heap.size W w')
    (hD1 : ∀ W : World, Below w.heap.size w W → Calls Tryz.prog 42 #[.pointer (some ⟨S, 0, none⟩), .int .i64 1, .func (.func 43) #[] #[]] W fun e w' => e = .returned (.tuple #[.slice none 0 0, .int .i64 e1]) ∧ Below W.heap.size W w')
    (hD2 : ∀ W : World, Below w.heap.size w W → Calls Tryz.prog 44 #[.pointer (some ⟨S, 0, none⟩), .int .i64 2, .func (.func 45) #[] #[]] W fun e w' => e = .returned (.tuple #[.agg #[.slice none 0 0, .int .i64 0, .int .i64 0, .slice none 0 0], .int .i64 e2]) ∧ Below W.heap.size W w')
    (he2 : e2 ≠ 0) :
    Calls Tryz.prog 15 #[.pointer (some ⟨S, 0, none⟩)] w fun e w' => ∃ v, e = .returned (.agg #[.pointer (some ⟨S, 0, none⟩), v, .bool false, .int .i64 m0, .int .i64 m1, .int .i64 m2, .int .i64 m3, .int .i64 m4, .int .i64 m5, .slice none 0 0, .slice none 0 0, .int .i64 0, .int .i64 0, .slice none 0 0, .bool false]) ∧ IRow w' w.heap.size v l ∧ Below w.heap.size w w' := by
  have H0 := hide hD0
  have HDF := hide hDf
  have HM := hide hM
  have H1 := hide hD1
  have H2 := hide hD2
  have HE2 : Hid ((e2 == 0) = false) := hide (by simpa using he2)
  clear hD0 hDf hM hD1 hD2 he2
  go_enter Tryz.func15, Tryz.ntmps15
  go_wp2_with fail
  obtain ⟨W0, hW0, hB, B0, B1, hz⟩ := two_boxes w #[.pointer none, .slice none 0 0, .bool false, .int .i64 0, .int .i64 0, .int .i64 0, .int .i64 0, .int .i64 0, .int .i64 0, .slice none 0 0, .slice none 0 0, .int .i64 0, .int .i64 0, .slice none 0 0, .bool false] #[.pointer (some ⟨S, 0, none⟩), .slice none 0 0, .bool false, .int .i64 0, .int .i64 0, .int .i64 0, .int .i64 0, .int .i64 0, .int .i64 0, .slice none 0 0, .slice none 0 0, .int .i64 0, .int .i64 0, .slice none 0 0, .bool false] 58 58
  rw [hW0]
  clear hW0
  obtain ⟨N, hN⟩ : ∃ N, Hid (w.heap.size + 1 = N) := ⟨_, hide rfl⟩
  rw [hN.out] at B1 ⊢
  have HZ0 := hide B0
  have HF0 := hide (BF.of B1 rfl : BF W0 N 15 _ 58)
  have HB0 := hide hB
  clear B0 B1 hB
  refine (H0.out _ HB0.out).mono ?_
  rintro e w1 ⟨v0, rfl, hb⟩
  have HF1 := hide (HF0.out.after hb)
  have HZ1 := hide (HZ0.out.after hb)
  have HB1 := hide (below_next HB0.out (Nat.le_refl _) hb)
  clear hb HF0 HZ0 HB0 H0
  have c2 : w1.cell? ⟨N, 2, none⟩ = some (.bool false) := HF1.out.cell 2 (by omega) rfl
  have fz := HF1.out.fz 2
  go_wp2_with fail
  refine (HDF.out _).mono ?_
  rintro e w2 ⟨v, rfl, hI, hb⟩
  have hlt := HF1.out.lt
  have HF2 := hide ((HF1.out.set 2 (.bool false)).after hb)
  have HZ2 := hide ((HZ1.out.setOther (by have := hN.out; omega) 2 (.bool false)).after hb)
  have HB2 := hide (below_next (below_set HB1.out N 2 (.bool false) (by have := hN.out; omega) HB1.out.size) (Nat.le_refl _) hb)
  have HS2 : Hid (w.heap.size + 2 ≤ w2.heap.size) := hide (by have := hb.size; rw [setCell_size] at this; have := hN.out; omega)
  obtain ⟨av, cv, rfl, hsh⟩ := hI.shape
  have HI2 := hide (irow_low hI (by rw [setCell_size]; exact hlt : N + 1 ≤ _))
  clear hI hb hlt HF1 HZ1 HB1 HDF fz c2
  go_wp2_with fail
  refine (use_any w2 N _ _ _ _ _ rfl m0 m1 m2 m3 m4 m5 x HF2.out (fun W hW => HM.out W _ ?_)).mono ?_
  · rcases hW with hW | ⟨W', hW, rfl⟩
    · exact (HI2.out.below hW).ints
    · refine (irow_same (HI2.out.below hW) fun g hg => ?_).ints
      exact Below.heap_setCell _ _ _ _ (fun e => by have := irow_ge HI2.out hg; have : g = N := e; omega)
  rintro e w3 ⟨rfl, hF3, hg3⟩
  have HI3 := hide (irow_same HI2.out (fun g hg => hg3.block g (by have := hg3.size; exact (World.ownsRow.lt HI2.out g hg).2) (fun e => by injection e with e; have := irow_ge HI2.out hg; omega)))
  have HF3 := hide hF3
  have HZ3 := hide (HZ2.out.grown hg3 (fun e => by injection e with e; have := hN.out; omega))
  have HB3 := hide (HB2.out.grown hg3 HB2.out.size (fun j e => by injection e with e; have := hN.out; omega))
  have HS3 : Hid (w.heap.size + 2 ≤ w3.heap.size) := hide (by have := hg3.size; have := HS2.out; omega)
  clear hF3 hg3 HI2 HF2 HZ2 HB2 HS2 HM
  go_wp2_with fail
  refine (H1.out _ HB3.out).mono ?_
  rintro e w4 ⟨rfl, hb⟩
  have HI4 := hide (HI3.out.below hb)
  have HF4 := hide (HF3.out.after hb)
  have HZ4 := hide (HZ3.out.after hb)
  have HB4 := hide (below_next HB3.out (Nat.le_refl _) hb)
  have HS4 : Hid (w.heap.size + 2 ≤ w4.heap.size) := hide (by have := hb.size; have := HS3.out; omega)
  clear hb HI3 HF3 HZ3 HB3 HS3 H1
  have c9 := HF4.out.cell 9 (by omega) rfl
  have fz := HF4.out.fz 9
  go_wp2_with fail
  have bs := below_set HB4.out N 9 (.slice none 0 0) (by have := hN.out; omega) HB4.out.size
  refine (H2.out _ bs).mono ?_
  rintro e w5 ⟨rfl, hb⟩
  have HI5 := hide ((irow_same HI4.out (fun g hg => Below.heap_setCell _ _ _ _ (fun e => by have := irow_ge HI4.out hg; have : g = N := e; omega)) : IRow (w4.setCell ⟨N, 9, none⟩ (.slice none 0 0)) _ _ _).below hb)
  have HF5 := hide ((HF4.out.set 9 (.slice none 0 0)).after hb)
  have HZ5 := hide ((HZ4.out.setOther (by have := hN.out; omega) 9 (.slice none 0 0)).after hb)
  have HB5 := hide (below_next bs (Nat.le_refl _) hb)
  clear hb bs HI4 HF4 HZ4 HB4 H2 c9 fz
  have k0 : w5.cell? ⟨N, 0, none⟩ = some (.pointer (some ⟨S, 0, none⟩)) := HF5.out.cell 0 (by omega) rfl
  have k1 : w5.cell? ⟨N, 1, none⟩ = some (.slice av l.length cv) := HF5.out.cell 1 (by omega) rfl
  have k2 : w5.cell? ⟨N, 2, none⟩ = some (.bool false) := HF5.out.cell 2 (by omega) rfl
  have k3 : w5.cell? ⟨N, 3, none⟩ = some (.int .i64 m0) := HF5.out.cell 3 (by omega) rfl
  have k4 : w5.cell? ⟨N, 4, none⟩ = some (.int .i64 m1) := HF5.out.cell 4 (by omega) rfl
  have k5 : w5.cell? ⟨N, 5, none⟩ = some (.int .i64 m2) := HF5.out.cell 5 (by omega) rfl
  have k6 : w5.cell? ⟨N, 6, none⟩ = some (.int .i64 m3) := HF5.out.cell 6 (by omega) rfl
  have k7 : w5.cell? ⟨N, 7, none⟩ = some (.int .i64 m4) := HF5.out.cell 7 (by omega) rfl
  have k8 : w5.cell? ⟨N, 8, none⟩ = some (.int .i64 m5) := HF5.out.cell 8 (by omega) rfl
  have k9 : w5.cell? ⟨N, 9, none⟩ = some (.slice none 0 0) := HF5.out.cell 9 (by omega) rfl
  have k10 : w5.cell? ⟨N, 10, none⟩ = some (.slice none 0 0) := HF5.out.cell 10 (by omega) rfl
  have k11 : w5.cell? ⟨N, 11, none⟩ = some (.int .i64 0) := HF5.out.cell 11 (by omega) rfl
  have k12 : w5.cell? ⟨N, 12, none⟩ = some (.int .i64 0) := HF5.out.cell 12 (by omega) rfl
  have k13 : w5.cell? ⟨N, 13, none⟩ = some (.slice none 0 0) := HF5.out.cell 13 (by omega) rfl
  have k14 : w5.cell? ⟨N, 14, none⟩ = some (.bool false) := HF5.out.cell 14 (by omega) rfl
  have z0 : w5.cell? ⟨w.heap.size, 0, none⟩ = some (.pointer none) := HZ5.out.cell 0 rfl
  have z1 : w5.cell? ⟨w.heap.size, 1, none⟩ = some (.slice none 0 0) := HZ5.out.cell 1 rfl
  have z2 : w5.cell? ⟨w.heap.size, 2, none⟩ = some (.bool false) := HZ5.out.cell 2 rfl
  have z3 : w5.cell? ⟨w.heap.size, 3, none⟩ = some (.int .i64 0) := HZ5.out.cell 3 rfl
  have z4 : w5.cell? ⟨w.heap.size, 4, none⟩ = some (.int .i64 0) := HZ5.out.cell 4 rfl
  have z5 : w5.cell? ⟨w.heap.size, 5, none⟩ = some (.int .i64 0) := HZ5.out.cell 5 rfl
  have z6 : w5.cell? ⟨w.heap.size, 6, none⟩ = some (.int .i64 0) := HZ5.out.cell 6 rfl
  have z7 : w5.cell? ⟨w.heap.size, 7, none⟩ = some (.int .i64 0) := HZ5.out.cell 7 rfl
  have z8 : w5.cell? ⟨w.heap.size, 8, none⟩ = some (.int .i64 0) := HZ5.out.cell 8 rfl
  have z9 : w5.cell? ⟨w.heap.size, 9, none⟩ = some (.slice none 0 0) := HZ5.out.cell 9 rfl
  have z10 : w5.cell? ⟨w.heap.size, 10, none⟩ = some (.slice none 0 0) := HZ5.out.cell 10 rfl
  have z11 : w5.cell? ⟨w.heap.size, 11, none⟩ = some (.int .i64 0) := HZ5.out.cell 11 rfl
  have z12 : w5.cell? ⟨w.heap.size, 12, none⟩ = some (.int .i64 0) := HZ5.out.cell 12 rfl
  have z13 : w5.cell? ⟨w.heap.size, 13, none⟩ = some (.slice none 0 0) := HZ5.out.cell 13 rfl
  have z14 : w5.cell? ⟨w.heap.size, 14, none⟩ = some (.bool false) := HZ5.out.cell 14 rfl
  have fN := HF5.out.fz
  have fZ := HZ5.out.frozen
  have hne : w.heap.size ≠ N := by have := hN.out; omega
  have hne2 : N ≠ w.heap.size := fun e => hne e.symm
  go_wp2_with fail
  rw [HE2.out]
  have X := (((((BF.of HZ5.out rfl : BF w5 w.heap.size 15 _ 58).other hne 10 (.slice none 0 0)).other hne 11 (.int .i64 0)).other hne 12 (.int .i64 0)).other hne 13 (.slice none 0 0)).other hne 14 (.bool false)
  have X := X.set 0 (.pointer (some ⟨S, 0, none⟩))
  have X := X.set 1 (.slice av l.length cv)
  have X := X.set 2 (.bool false)
  have X := X.set 3 (.int .i64 m0)
  have X := X.set 4 (.int .i64 m1)
  have X := X.set 5 (.int .i64 m2)
  have X := X.set 6 (.int .i64 m3)
  have X := X.set 7 (.int .i64 m4)
  have X := X.set 8 (.int .i64 m5)
  have X := X.set 9 (.slice none 0 0)
  have X := X.set 10 (.slice none 0 0)
  have X := X.set 11 (.int .i64 0)
  have X := X.set 12 (.int .i64 0)
  have X := X.set 13 (.slice none 0 0)
  have X := X.set 14 (.bool false)
  have X := X.lit (a := #[.pointer (some ⟨S, 0, none⟩), .slice av l.length cv, .bool false, .int .i64 m0, .int .i64 m1, .int .i64 m2, .int .i64 m3, .int .i64 m4, .int .i64 m5, .slice none 0 0, .slice none 0 0, .int .i64 0, .int .i64 0, .slice none 0 0, .bool false]) (by kernel_rfl)
  have Y := below_set (below_set (below_set (below_set (below_set HB5.out N 10 (.slice none 0 0) (by have := hN.out; omega) HB5.out.size) N 11 (.int .i64 0) (by have := hN.out; omega) (by simp only [setCell_size]; exact HB5.out.size)) N 12 (.int .i64 0) (by have := hN.out; omega) (by simp only [setCell_size]; exact HB5.out.size)) N 13 (.slice none 0 0) (by have := hN.out; omega) (by simp only [setCell_size]; exact HB5.out.size)) N 14 (.bool false) (by have := hN.out; omega) (by simp only [setCell_size]; exact HB5.out.size)
  have Y := below_set Y w.heap.size 0 (.pointer (some ⟨S, 0, none⟩)) (Nat.le_refl _) (by simp only [setCell_size]; exact HB5.out.size)
  have Y := below_set Y w.heap.size 1 (.slice av l.length cv) (Nat.le_refl _) (by simp only [setCell_size]; exact HB5.out.size)
  have Y := below_set Y w.heap.size 2 (.bool false) (Nat.le_refl _) (by simp only [setCell_size]; exact HB5.out.size)
  have Y := below_set Y w.heap.size 3 (.int .i64 m0) (Nat.le_refl _) (by simp only [setCell_size]; exact HB5.out.size)
  have Y := below_set Y w.heap.size 4 (.int .i64 m1) (Nat.le_refl _) (by simp only [setCell_size]; exact HB5.out.size)
  have Y := below_set Y w.heap.size 5 (.int .i64 m2) (Nat.le_refl _) (by simp only [setCell_size]; exact HB5.out.size)
  have Y := below_set Y w.heap.size 6 (.int .i64 m3) (Nat.le_refl _) (by simp only [setCell_size]; exact HB5.out.size)
  have Y := below_set Y w.heap.size 7 (.int .i64 m4) (Nat.le_refl _) (by simp only [setCell_size]; exact HB5.out.size)
  have Y := below_set Y w.heap.size 8 (.int .i64 m5) (Nat.le_refl _) (by simp only [setCell_size]; exact HB5.out.size)
  have Y := below_set Y w.heap.size 9 (.slice none 0 0) (Nat.le_refl _) (by simp only [setCell_size]; exact HB5.out.size)
  have Y := below_set Y w.heap.size 10 (.slice none 0 0) (Nat.le_refl _) (by simp only [setCell_size]; exact HB5.out.size)
  have Y := below_set Y w.heap.size 11 (.int .i64 0) (Nat.le_refl _) (by simp only [setCell_size]; exact HB5.out.size)
  have Y := below_set Y w.heap.size 12 (.int .i64 0) (Nat.le_refl _) (by simp only [setCell_size]; exact HB5.out.size)
  have Y := below_set Y w.heap.size 13 (.slice none 0 0) (Nat.le_refl _) (by simp only [setCell_size]; exact HB5.out.size)
  have Y := below_set Y w.heap.size 14 (.bool false) (Nat.le_refl _) (by simp only [setCell_size]; exact HB5.out.size)
  refine bodyPost_ret (res_back (p := 2) rfl Tryz.underlying58 (by kernel_rfl) _ _ w.heap.size rfl X) rfl ?_
  refine ⟨_, rfl, irow_low (irow_same HI5.out fun g hg => ?_) (by have := hN.out; omega), Y⟩
  have h1 := irow_ge HI5.out hg
  have h2 := hN.out
  have hs : ∀ (W : World) (b k : Nat) (u : Value), b < g → (W.setCell ⟨b, k, none⟩ u).heap[g]? = W.heap[g]? := fun W b k u hb => Below.heap_setCell _ _ _ _ (fun e => by have : g = b := e; omega)
  simp only [hs _ N _ _ (by omega), hs _ w.heap.size _ _ (by omega)]
end Go.Proofs.YtapfaaaepnplcaaGreatDoor
