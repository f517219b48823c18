/- The document's store: a move. -/
import Derived.Test.YthccigikelinbaaSq3
import Derived.Deep.RegionHeld3
namespace Go.Proofs.Ythccigikelinbaa
open Go.RowKit Go.Great

theorem takeQ {P : Program} {ops : Array Oper} {Q : Exit → Act → World → Prop} {md : Region.Mode} {S : World → Prop} {i : Nat} {oi : Oper} {v : Value} {d : Option Tmp} {fuel : Nat} {listed : Array Bool} {a : Act} {w : World} (hi : ops[i]? = some oi) (hd : oi.dst = d)
    (hs : Region.noSelect ops = true) (hf : Region.free md ops listed i = true) (hr : (Region.ready md ops listed).contains i = true)
    (hQ : ∀ c a w, Q (.panic c) (a.put d v) w → Q (.panic c) a w) (hy : YieldsIf P ops S oi v a) (hS : S w)
    (h : wpAnyH P md ops Q S fuel (listed.setIfInBounds i true) (a.put d v) w) : wpAnyH P md ops Q S (fuel + 1) listed a w := by
  subst hd
  exact wpAnyH_take hi hs hf hr hQ hy hS h
/-- what is kept but for blocks X, D and T -/
structure K3 (X D T : Nat) (w w' : World) : Prop where
  os : w'.os = w.os
  tape : w'.tape = w.tape
  output : w'.output = w.output
  size : w.heap.size ≤ w'.heap.size
  block : ∀ k, k < w.heap.size → k ≠ X → k ≠ D → k ≠ T → w'.heap[k]? = w.heap[k]?
theorem K3.refl (X D T : Nat) (w : World) : K3 X D T w w := ⟨rfl, rfl, rfl, Nat.le_refl _, fun _ _ _ _ _ => rfl⟩
theorem K3.trans {X D T : Nat} {w w1 w2 : World} (h : K3 X D T w w1) (g : K3 X D T w1 w2) : K3 X D T w w2 :=
  ⟨g.os.trans h.os, g.tape.trans h.tape, g.output.trans h.output, Nat.le_trans h.size g.size, fun k hk h1 h2 h3 => (g.block k (Nat.lt_of_lt_of_le hk h.size) h1 h2 h3).trans (h.block k hk h1 h2 h3)⟩
theorem K3.of2 {X D : Nat} {w w1 : World} (h : Kept2 X D w w1) (T : Nat) : K3 X D T w w1 := ⟨h.os, h.tape, h.output, h.size, fun k hk h1 h2 _ => h.block k hk h1 h2⟩
theorem K3.below {w w1 : World} (h : Below w.heap.size w w1) (X D T : Nat) : K3 X D T w w1 := ⟨h.os, h.tape, h.output, h.size, fun k hk _ _ _ => h.block k hk⟩
theorem K3.set {X D T : Nat} (w : World) (i : Nat) (u : Value) : K3 X D T w (w.setCell ⟨T, i, none⟩ u) := ⟨rfl, rfl, rfl, by rw [size_set]; exact Nat.le_refl _, fun _ _ _ _ h3 => set_other _ _ h3⟩
theorem K3.setN {X D T : Nat} (w : World) (B i : Nat) (u : Value) (hB : w.heap.size ≤ B) : K3 X D T w (w.setCell ⟨B, i, none⟩ u) := ⟨rfl, rfl, rfl, by rw [size_set]; exact Nat.le_refl _, fun _ hk _ _ _ => set_other _ _ (by omega)⟩
theorem K3.setT {X D T : Nat} {w w1 : World} (h : K3 X D T w w1) (i : Nat) (u : Value) : K3 X D T w (w1.setCell ⟨T, i, none⟩ u) := h.trans (K3.set w1 i u)
theorem K3.setNew {X D T : Nat} {w w1 : World} (h : K3 X D T w w1) (B i : Nat) (u : Value) (hB : w.heap.size ≤ B) : K3 X D T w (w1.setCell ⟨B, i, none⟩ u) := ⟨h.os, h.tape, h.output, by rw [size_set]; exact h.size, fun k hk h1 h2 h3 => (set_other _ _ (by omega)).trans (h.block k hk h1 h2 h3)⟩
theorem Rf.set3 {w : World} {X D cap B : Nat} {ρ : St} (h : Rf w X D cap ρ) (h1 : B ≠ X) (h2 : B ≠ D) (i : Nat) (u : Value) : Rf (w.setCell ⟨B, i, none⟩ u) X D cap ρ :=
  ⟨h.len, h.ne, h.cle, by rw [size_set]; exact h.lt, (set_other _ _ (Ne.symm h1)).trans h.blk, row_block h.row (set_other _ _ (Ne.symm h2))⟩
theorem mv_fin {w w5 : World} {X D cap T B sec sp : Nat} {τ : St} {V0 V : Nat → Option (List UInt8)} {en0 a : Int} {d0 st : Bool} (hR : Rf w5 X D cap τ) (hT : Bl w5 T (skC X (sec : Int) V0 en0 d0 st) 105) (hk : K3 X D T w w5) (hB : w.heap.size ≤ B) (h1 : B ≠ X) (h2 : B ≠ D) (h3 : B ≠ T) (hTX : T ≠ X) (hTD : T ≠ D) : Rf (((((((((((w5.setCell ⟨B, 6, none⟩ (.int .i64 a)).setCell ⟨B, 7, none⟩ (.bool false)).setCell ⟨T, 2, none⟩ (.bool (V 0).isSome)).setCell ⟨T, 3, none⟩ (.bool (V 1).isSome)).setCell ⟨T, 4, none⟩ (.bool (V 2).isSome)).setCell ⟨T, 5, none⟩ (.string (bs ((V 0).getD [])))).setCell ⟨T, 6, none⟩ (.string (bs ((V 1).getD [])))).setCell ⟨T, 7, none⟩ (.string (bs ((V 2).getD [])))).setCell ⟨T, 8, none⟩ (.int .i64 a)).setCell ⟨T, 9, none⟩ (.bool false)).setCell ⟨T, 1, none⟩ (.int .i64 (sp : Int))) X D cap τ ∧ Bl (((((((((((w5.setCell ⟨B, 6, none⟩ (.int .i64 a)).setCell ⟨B, 7, none⟩ (.bool false)).setCell ⟨T, 2, none⟩ (.bool (V 0).isSome)).setCell ⟨T, 3, none⟩ (.bool (V 1).isSome)).setCell ⟨T, 4, none⟩ (.bool (V 2).isSome)).setCell ⟨T, 5, none⟩ (.string (bs ((V 0).getD [])))).setCell ⟨T, 6, none⟩ (.string (bs ((V 1).getD [])))).setCell ⟨T, 7, none⟩ (.string (bs ((V 2).getD [])))).setCell ⟨T, 8, none⟩ (.int .i64 a)).setCell ⟨T, 9, none⟩ (.bool false)).setCell ⟨T, 1, none⟩ (.int .i64 (sp : Int))) T (skC X (sp : Int) V a false st) 105 ∧ K3 X D T w (((((((((((w5.setCell ⟨B, 6, none⟩ (.int .i64 a)).setCell ⟨B, 7, none⟩ (.bool false)).setCell ⟨T, 2, none⟩ (.bool (V 0).isSome)).setCell ⟨T, 3, none⟩ (.bool (V 1).isSome)).setCell ⟨T, 4, none⟩ (.bool (V 2).isSome)).setCell ⟨T, 5, none⟩ (.string (bs ((V 0).getD [])))).setCell ⟨T, 6, none⟩ (.string (bs ((V 1).getD [])))).setCell ⟨T, 7, none⟩ (.string (bs ((V 2).getD [])))).setCell ⟨T, 8, none⟩ (.int .i64 a)).setCell ⟨T, 9, none⟩ (.bool false)).setCell ⟨T, 1, none⟩ (.int .i64 (sp : Int))) := by
  refine ⟨?_, ?_, ?_⟩
  · exact ((((((((((hR.set3 h1 h2 _ _).set3 h1 h2 _ _).set3 hTX hTD _ _).set3 hTX hTD _ _).set3 hTX hTD _ _).set3 hTX hTD _ _).set3 hTX hTD _ _).set3 hTX hTD _ _).set3 hTX hTD _ _).set3 hTX hTD _ _).set3 hTX hTD _ _
  · have b0 := (hT.setOther (C := B) (Ne.symm h3) 6 (.int .i64 a)).setOther (C := B) (Ne.symm h3) 7 (.bool false)
    have b1 : Bl _ T #[fp X, .int .i64 (sec : Int), .bool (V 0).isSome, .bool (V0 1).isSome, .bool (V0 2).isSome, .string (bs ((V0 0).getD [])), .string (bs ((V0 1).getD [])), .string (bs ((V0 2).getD [])), .int .i64 en0, .bool d0, .bool st] 105 := b0.set 2 (.bool (V 0).isSome)
    have b2 : Bl _ T #[fp X, .int .i64 (sec : Int), .bool (V 0).isSome, .bool (V 1).isSome, .bool (V0 2).isSome, .string (bs ((V0 0).getD [])), .string (bs ((V0 1).getD [])), .string (bs ((V0 2).getD [])), .int .i64 en0, .bool d0, .bool st] 105 := b1.set 3 (.bool (V 1).isSome)
    have b3 : Bl _ T #[fp X, .int .i64 (sec : Int), .bool (V 0).isSome, .bool (V 1).isSome, .bool (V 2).isSome, .string (bs ((V0 0).getD [])), .string (bs ((V0 1).getD [])), .string (bs ((V0 2).getD [])), .int .i64 en0, .bool d0, .bool st] 105 := b2.set 4 (.bool (V 2).isSome)
    have b4 : Bl _ T #[fp X, .int .i64 (sec : Int), .bool (V 0).isSome, .bool (V 1).isSome, .bool (V 2).isSome, .string (bs ((V 0).getD [])), .string (bs ((V0 1).getD [])), .string (bs ((V0 2).getD [])), .int .i64 en0, .bool d0, .bool st] 105 := b3.set 5 (.string (bs ((V 0).getD [])))
    have b5 : Bl _ T #[fp X, .int .i64 (sec : Int), .bool (V 0).isSome, .bool (V 1).isSome, .bool (V 2).isSome, .string (bs ((V 0).getD [])), .string (bs ((V 1).getD [])), .string (bs ((V0 2).getD [])), .int .i64 en0, .bool d0, .bool st] 105 := b4.set 6 (.string (bs ((V 1).getD [])))
    have b6 : Bl _ T #[fp X, .int .i64 (sec : Int), .bool (V 0).isSome, .bool (V 1).isSome, .bool (V 2).isSome, .string (bs ((V 0).getD [])), .string (bs ((V 1).getD [])), .string (bs ((V 2).getD [])), .int .i64 en0, .bool d0, .bool st] 105 := b5.set 7 (.string (bs ((V 2).getD [])))
    have b7 : Bl _ T #[fp X, .int .i64 (sec : Int), .bool (V 0).isSome, .bool (V 1).isSome, .bool (V 2).isSome, .string (bs ((V 0).getD [])), .string (bs ((V 1).getD [])), .string (bs ((V 2).getD [])), .int .i64 a, .bool d0, .bool st] 105 := b6.set 8 (.int .i64 a)
    have b8 : Bl _ T #[fp X, .int .i64 (sec : Int), .bool (V 0).isSome, .bool (V 1).isSome, .bool (V 2).isSome, .string (bs ((V 0).getD [])), .string (bs ((V 1).getD [])), .string (bs ((V 2).getD [])), .int .i64 a, .bool false, .bool st] 105 := b7.set 9 (.bool false)
    exact b8.set 1 (.int .i64 (sp : Int))
  · exact ((((((((((hk.setNew B 6 _ hB).setNew B 7 _ hB).setT 2 _).setT 3 _).setT 4 _).setT 5 _).setT 6 _).setT 7 _).setT 8 _).setT 9 _).setT 1 _
theorem Bl.k3 {W W' : World} {B X D T : Nat} {cs : Array Value} {t : TypeId} (h : Bl W B cs t) (hk : K3 X D T W W') (h1 : B ≠ X) (h2 : B ≠ D) (h3 : B ≠ T) : Bl W' B cs t := (hk.block B h.lt h1 h2 h3).trans h
theorem progSR_jk (d : List UInt8) : ∀ (ρ : St) (a : Nat), (progSR ρ a d).1.jk = ρ.jk := by
  induction d with
  | nil => intro ρ a; rfl
  | cons b t ih =>
    intro ρ a
    rw [progSR]
    split
    · rw [ih, progBR_jk]
    · exact progBR_jk ρ a b
theorem progRR_jk (ρ : St) (a : Int) (d : ByteArray) : (progRR ρ a d).1.jk = ρ.jk := by
  unfold progRR
  split
  · rfl
  · split
    · exact progSR_jk _ _ _
    · rfl
theorem eraseRR_jk (ρ : St) (s : Int) : (eraseRR ρ s).1.jk = ρ.jk := by
  unfold eraseRR
  split
  · rfl
  · split
    · unfold eraseSR; split <;> exact stepR_jk ρ
    · rfl
/-- values that are written one behind the other into sector sp -/
def eachR (sp : Nat) (V : Nat → Option (List UInt8)) : Nat → Nat → Nat → St → St × Nat × Int
  | _, 0, a, ρ => (ρ, a, 0)
  | i, n + 1, a, ρ => match V i with
    | none => eachR sp V (i + 1) n a ρ
    | some t => if (progRR ρ ((sp * 4096 + a : Nat) : Int) (bs (recB i t))).2 = 0 then eachR sp V (i + 1) n (a + (4 + t.length)) (progRR ρ ((sp * 4096 + a : Nat) : Int) (bs (recB i t))).1 else ((progRR ρ ((sp * 4096 + a : Nat) : Int) (bs (recB i t))).1, a, (progRR ρ ((sp * 4096 + a : Nat) : Int) (bs (recB i t))).2)
/-- what a move leaves: the flash, where the records end, an error's number -/
def moveR (ρ : St) (sec : Nat) (V : Nat → Option (List UInt8)) : St × Nat × Int :=
  if (eraseRR ρ ((1 - sec : Nat) : Int)).2 = 0 then
    if (eachR (1 - sec) V 0 3 1 (eraseRR ρ ((1 - sec : Nat) : Int)).1).2.2 = 0 then
      ((progRR (eachR (1 - sec) V 0 3 1 (eraseRR ρ ((1 - sec : Nat) : Int)).1).1 (((1 - sec) * 4096 : Nat) : Int) (bs [nxR ((eachR (1 - sec) V 0 3 1 (eraseRR ρ ((1 - sec : Nat) : Int)).1).1.C.getD (sec * 4096) 0)])).1,
        (eachR (1 - sec) V 0 3 1 (eraseRR ρ ((1 - sec : Nat) : Int)).1).2.1,
        (progRR (eachR (1 - sec) V 0 3 1 (eraseRR ρ ((1 - sec : Nat) : Int)).1).1 (((1 - sec) * 4096 : Nat) : Int) (bs [nxR ((eachR (1 - sec) V 0 3 1 (eraseRR ρ ((1 - sec : Nat) : Int)).1).1.C.getD (sec * 4096) 0)])).2)
    else ((eachR (1 - sec) V 0 3 1 (eraseRR ρ ((1 - sec : Nat) : Int)).1).1, 0, (eachR (1 - sec) V 0 3 1 (eraseRR ρ ((1 - sec : Nat) : Int)).1).2.2)
  else ((eraseRR ρ ((1 - sec : Nat) : Int)).1, 0, (eraseRR ρ ((1 - sec : Nat) : Int)).2)
/-- behind a move -/
def MvEnd (x : St × Nat × Int) (X D cap T sec : Nat) (V0 V : Nat → Option (List UInt8)) (en0 : Int) (d0 st : Bool) (w : World) (e : Ending) (w' : World) : Prop :=
  e = .returned (.int .i64 x.2.2) ∧ Rf w' X D cap x.1 ∧ (x.2.2 = 0 → Bl w' T (skC X ((1 - sec : Nat) : Int) V (x.2.1 : Nat) false st) 105) ∧ (x.2.2 ≠ 0 → Bl w' T (skC X (sec : Int) V0 en0 d0 st) 105) ∧ K3 X D T w w'
/-- while values are written -/
structure MvM (w : World) (X D cap T sec : Nat) (V0 V : Nat → Option (List UInt8)) (en0 : Int) (d0 st : Bool) (en : Int) (dd : Bool) (ρ : St) (Y : St × Nat × Int) (i a : Nat) (wx : World) : Prop where
  ii : i ≤ 3
  al : a ≤ 1 + i * 2004
  rest : ∃ τ, Rf wx X D cap τ ∧ τ.jk = ρ.jk ∧ eachR (1 - sec) V i (3 - i) a τ = Y
  tb : Bl wx T (skC X (sec : Int) V0 en0 d0 st) 105
  kb : Bl wx w.heap.size (kpC V en dd) 103
  k3 : K3 X D T w wx
theorem conv_one7 (w : World) (a : UInt8) : (convert 77 9 (.slice (some ⟨w.heap.size, 0, none⟩) 1 1)).run Try.prog (w.alloc (.cells #[.int .u8 (a.toNat : Int)] 5)) = .ok (.string (bs [a])) (w.alloc (.cells #[.int .u8 (a.toNat : Int)] 5)) := by
  refine run_convert_bytes_back _ 77 9 5 ⟨w.heap.size, 0, none⟩ 1 [a] (by kernel_rfl) (by kernel_rfl) (by kernel_rfl) ?_
  intro j hj
  have h0 : j = 0 := by simp at hj; omega
  subst h0
  rw [show (Addr.add ⟨w.heap.size, 0, none⟩ 0) = ⟨w.heap.size, 0, none⟩ by simp [Addr.add], World.cell?_alloc_new]
  rfl
theorem opt_two (x : Option (List UInt8)) : x = none ∨ ∃ t, x = some t := by
  cases x with
  | none => exact .inl rfl
  | some t => exact .inr ⟨t, rfl⟩
theorem eachR_none {sp : Nat} {V : Nat → Option (List UInt8)} {i n a : Nat} {ρ : St} (h : V i = none) : eachR sp V i (n + 1) a ρ = eachR sp V (i + 1) n a ρ := by rw [eachR, h]
theorem eachR_some {sp : Nat} {V : Nat → Option (List UInt8)} {i n a : Nat} {ρ : St} {t : List UInt8} (h : V i = some t) : eachR sp V i (n + 1) a ρ = if (progRR ρ ((sp * 4096 + a : Nat) : Int) (bs (recB i t))).2 = 0 then eachR sp V (i + 1) n (a + (4 + t.length)) (progRR ρ ((sp * 4096 + a : Nat) : Int) (bs (recB i t))).1 else ((progRR ρ ((sp * 4096 + a : Nat) : Int) (bs (recB i t))).1, a, (progRR ρ ((sp * 4096 + a : Nat) : Int) (bs (recB i t))).2) := by rw [eachR, h]
theorem moveR_no1 {ρ : St} {sec : Nat} {V : Nat → Option (List UInt8)} (h : (eraseRR ρ ((1 - sec : Nat) : Int)).2 ≠ 0) : moveR ρ sec V = ((eraseRR ρ ((1 - sec : Nat) : Int)).1, 0, (eraseRR ρ ((1 - sec : Nat) : Int)).2) := by unfold moveR; rw [if_neg h]
theorem moveR_no2 {ρ : St} {sec : Nat} {V : Nat → Option (List UInt8)} (h : (eraseRR ρ ((1 - sec : Nat) : Int)).2 = 0) (h2 : (eachR (1 - sec) V 0 3 1 (eraseRR ρ ((1 - sec : Nat) : Int)).1).2.2 ≠ 0) : moveR ρ sec V = ((eachR (1 - sec) V 0 3 1 (eraseRR ρ ((1 - sec : Nat) : Int)).1).1, 0, (eachR (1 - sec) V 0 3 1 (eraseRR ρ ((1 - sec : Nat) : Int)).1).2.2) := by unfold moveR; rw [if_pos h, if_neg h2]
theorem moveR_yes {ρ : St} {sec : Nat} {V : Nat → Option (List UInt8)} (h : (eraseRR ρ ((1 - sec : Nat) : Int)).2 = 0) (h2 : (eachR (1 - sec) V 0 3 1 (eraseRR ρ ((1 - sec : Nat) : Int)).1).2.2 = 0) : moveR ρ sec V = ((progRR (eachR (1 - sec) V 0 3 1 (eraseRR ρ ((1 - sec : Nat) : Int)).1).1 (((1 - sec) * 4096 : Nat) : Int) (bs [nxR ((eachR (1 - sec) V 0 3 1 (eraseRR ρ ((1 - sec : Nat) : Int)).1).1.C.getD (sec * 4096) 0)])).1, (eachR (1 - sec) V 0 3 1 (eraseRR ρ ((1 - sec : Nat) : Int)).1).2.1, (progRR (eachR (1 - sec) V 0 3 1 (eraseRR ρ ((1 - sec : Nat) : Int)).1).1 (((1 - sec) * 4096 : Nat) : Int) (bs [nxR ((eachR (1 - sec) V 0 3 1 (eraseRR ρ ((1 - sec : Nat) : Int)).1).1.C.getD (sec * 4096) 0)])).2) := by unfold moveR; rw [if_pos h, if_pos h2]
theorem row_cell {w : World} {D : Nat} {l : List UInt8} (h : Row w D l) (i : Nat) (hi : i < l.length) : w.cell? ⟨D, i, none⟩ = some (.int .u8 ((l.getD i 0).toNat : Int)) := by
  rw [(h i hi).1, List.getD, List.getElem?_eq_getElem hi]; rfl
set_option maxRecDepth 100000 in
set_option maxHeartbeats 8000000 in
theorem rmove_any (w : World) (X D cap T : Nat) (ρ : St) (hR : Rf w X D cap ρ) (hj : ρ.jk.size ≤ 140737488351232) (sec : Nat) (hs : sec < 2) (V0 V : Nat → Option (List UInt8)) (en0 en : Int) (d0 dd st : Bool) (hT : Bl w T (skC X (sec : Int) V0 en0 d0 st) 105) (hTX : T ≠ X) (hTD : T ≠ D) (hV : ∀ i, i < 3 → ((V i).getD []).length ≤ 2000) : Calls Try.prog 48 #[fp T, .agg (kpC V en dd)] w fun e w' => MvEnd (moveR ρ sec V) X D cap T sec V0 V en0 d0 st w e w' := by
  have HN1 := hide (moveR_no1 (ρ := ρ) (sec := sec) (V := V))
  have HN2 := hide (moveR_no2 (ρ := ρ) (sec := sec) (V := V))
  have HY := hide (moveR_yes (ρ := ρ) (sec := sec) (V := V))
  generalize moveR ρ sec V = MR at *
  have HV := hide hV
  obtain ⟨sp, hsp⟩ : ∃ sp, 1 - sec = sp := ⟨_, rfl⟩
  have hspi : (1 : Int) - (sec : Int) = (sp : Int) := by omega
  have HSP := hide hsp
  rw [hsp] at HN1 HN2 HY
  have hsp2 : sp < 2 := by omega
  clear hsp
  obtain ⟨W0, hW0⟩ : ∃ W0, w.alloc (.cells (kpC V en dd) 103) = W0 := ⟨_, rfl⟩
  have hb0 : Below w.heap.size w W0 := by rw [← hW0]; exact below_alloc _ _
  have hK0 : Bl W0 w.heap.size (kpC V en dd) 103 := by rw [← hW0]; exact Bl.new _ _ _
  have hT0 := hT.below hb0
  have hR0 : Rf W0 X D cap ρ := hR.below hb0
  have hTl := hT.lt
  have hXl := hR.ltX
  have hDl := hR.lt
  have ER := rerase_any W0 X D cap ρ hR0 hj (sp : Int)
  have HJ := hide hj
  unfold kpC at hW0
  clear hR hT hj hV
  have t0 : W0.cell? ⟨T, 0, none⟩ = some (fp X) := hT0.cell 0 rfl
  have t1 : W0.cell? ⟨T, 1, none⟩ = some (.int .i64 (sec : Int)) := hT0.cell 1 rfl
  have HT0 := hide hT0
  have HK0 := hide hK0
  have HJE := hide (eraseRR_jk ρ (sp : Int))
  generalize eraseRR ρ (sp : Int) = E1 at *
  unfold kpC
  go_enter Try.func48, Try.ntmps48
  go_wp2_with fail
  refine ER.mono ?_
  rintro e w1 ⟨rfl, hR1, hk1⟩
  have HT1 := hide (HT0.out.kept2 hk1 hTX hTD)
  have HK1 := hide (HK0.out.kept2 hk1 (by omega) (by omega))
  have HK31 : Hid (K3 X D T w w1) := hide ((K3.below hb0 X D T).trans (K3.of2 hk1 T))
  have HR1 := hide hR1
  clear hR1 hk1 ER t0 t1 hW0
  by_cases he : E1.2 = 0
  · have heb : (E1.2 != 0) = false := by rw [he]; rfl
    have HHE := hide he
    clear he
    obtain ⟨Y, HYY⟩ : ∃ Y, Hid (eachR sp V 0 3 1 E1.1 = Y) := ⟨_, rfl⟩
    have HN2' := hide (fun h => HN2.out HHE.out h)
    have HY' := hide (fun h => HY.out HHE.out h)
    rw [HYY.out] at HN2' HY'
    generalize E1.2 = ev at *
    go_wp2_with fail
    go_loopw [7, 8] (fun at' i wx => ∃ (j a : Nat), i = .int .i64 j ∧ at' = .int .i64 a ∧ Hid (MvM w X D cap T sec V0 V en0 d0 st en dd ρ Y j a wx)) (fun _ i _ => 3 - (intOf i).toNat)
    case atStart => exact ⟨0, 1, rfl, rfl, hide ⟨by omega, by omega, ⟨E1.1, HR1.out, HJE.out, by rw [HSP.out]; exact HYY.out⟩, HT1.out, HK1.out, HK31.out⟩⟩
    case round =>
      obtain ⟨j, a, rfl, rfl, HM⟩ := hrel
      have hal := HM.out.al
      have hji := HM.out.ii
      have t0 : wr.cell? ⟨T, 0, none⟩ = some (fp X) := HM.out.tb.cell 0 rfl
      have t1 : wr.cell? ⟨T, 1, none⟩ = some (.int .i64 (sec : Int)) := HM.out.tb.cell 1 rfl
      obtain ⟨τ, hRt, hjt, hev⟩ := HM.out.rest
      have HRT := hide hRt
      have HEV := hide hev
      rw [HSP.out] at HEV
      have hjt2 : τ.jk.size ≤ 140737488351232 := by rw [hjt]; exact HJ.out
      have HJT := hide hjt
      clear hRt hjt hev
      by_cases hlt : j < 3
      · have h3 : j = 0 ∨ j = 1 ∨ j = 2 := by omega
        rcases h3 with rfl | rfl | rfl
        · have kh : wr.cell? ⟨w.heap.size, 0, none⟩ = some (.bool (V 0).isSome) := HM.out.kb.cell 0 rfl
          have kv : wr.cell? ⟨w.heap.size, 3, none⟩ = some (.string (bs ((V 0).getD []))) := HM.out.kb.cell 3 rfl
          have hvl := HV.out 0 (by decide)
          rcases opt_two (V 0) with hVi | ⟨t, hVi⟩
          · rw [hVi] at kh kv
            have HE2 : Hid (eachR sp V 1 2 a τ = Y) := hide (by rw [← HEV.out]; exact (eachR_none hVi).symm)
            clear hVi
            go_wp2_with fail
            go_roundw
            case rel => exact ⟨1, a, by go_num, rfl, hide ⟨by omega, by omega, ⟨τ, HRT.out, HJT.out, by rw [HSP.out]; exact HE2.out⟩, HM.out.tb, HM.out.kb, HM.out.k3⟩⟩
            case measure => simp [intOf]
          · rw [hVi] at kh kv hvl
            have hvl2 : t.length ≤ 2000 := hvl
            have RC := record_any 0 (by decide) t hvl2 wr
            have HE2 : Hid (_ = Y) := hide ((eachR_some hVi).symm.trans HEV.out)
            have kv2 : wr.cell? ⟨w.heap.size, 3, none⟩ = some (.string (bs t)) := kv
            obtain ⟨pl, hpl⟩ : ∃ pl : Nat, (sp : Int) * 4096 + (a : Int) = (pl : Int) := ⟨sp * 4096 + a, by omega⟩
            have HPL : Hid (sp * 4096 + a = pl) := hide (by omega)
            rw [HPL.out] at HE2
            have hp1 : (sp : Int) * 4096 ≤ 4096 := by omega
            have PG := fun W hR => rprog_any W X D cap τ hR hjt2 (pl : Int) (by unfold I64; omega) (bs (recB 0 t))
            have HPJ := hide (progRR_jk τ (pl : Int) (bs (recB 0 t)))
            generalize progRR τ (pl : Int) (bs (recB 0 t)) = PR at *
            have hrl : (bs (recB 0 t)).size = 4 + t.length := by rw [bs_size, recB_length]
            generalize bs (recB 0 t) = rb at *
            generalize bs t = tb at *
            clear hVi kv hvl
            go_wp2_with fail
            refine RC.mono ?_
            rintro e w2 ⟨rfl, hb2⟩
            have t2 := (hb2.cell (p := ⟨T, 0, none⟩) HM.out.tb.lt).trans t0
            have HRT2 := hide (HRT.out.below hb2)
            have HT2 := hide (HM.out.tb.below hb2)
            have HK2 := hide (HM.out.kb.below hb2)
            have HK32 := hide (HM.out.k3.trans (K3.below hb2 X D T))
            clear hb2 RC
            go_wp2_with fail
            refine (PG _ HRT2.out).mono ?_
            rintro e w3 ⟨rfl, hR3, hk3⟩
            have HR3 := hide hR3
            have HT3 := hide (HT2.out.kept2 hk3 hTX hTD)
            have HK3 := hide (HK2.out.kept2 hk3 (by omega) (by omega))
            have HK33 := hide (HK32.out.trans (K3.of2 hk3 T))
            clear hR3 hk3 PG
            by_cases hp : PR.2 = 0
            · have hpb : (PR.2 != 0) = false := by rw [hp]; rfl
              have HE3 : Hid (eachR sp V 1 2 (a + (4 + t.length)) PR.1 = Y) := hide (by rw [← HE2.out, if_pos hp])
              generalize PR.2 = pe at *
              clear hp HE2
              go_wp2_with fail
              go_roundw
              case rel => exact ⟨1, a + (4 + t.length), by go_num, by go_num, hide ⟨by omega, by omega, ⟨PR.1, HR3.out, by rw [HPJ.out]; exact HJT.out, by rw [HSP.out]; exact HE3.out⟩, HT3.out, HK3.out, HK33.out⟩⟩
              case measure => simp [intOf]
            · have hpb : (PR.2 != 0) = true := by simpa using hp
              have HE3 : Hid (Y = (PR.1, a, PR.2)) := hide (by rw [← HE2.out, if_neg hp])
              have HMR := hide (HN2'.out (by rw [HE3.out]; exact hp))
              rw [HE3.out] at HMR
              generalize hev : PR.2 = pe at *
              go_wp2_with fail
              go_ret
              unfold MvEnd
              rw [HMR.out]
              exact ⟨rfl, HR3.out, fun h => absurd h hp, fun _ => HT3.out, HK33.out⟩
        · have kh : wr.cell? ⟨w.heap.size, 1, none⟩ = some (.bool (V 1).isSome) := HM.out.kb.cell 1 rfl
          have kv : wr.cell? ⟨w.heap.size, 4, none⟩ = some (.string (bs ((V 1).getD []))) := HM.out.kb.cell 4 rfl
          have hvl := HV.out 1 (by decide)
          rcases opt_two (V 1) with hVi | ⟨t, hVi⟩
          · rw [hVi] at kh kv
            have HE2 : Hid (eachR sp V 2 1 a τ = Y) := hide (by rw [← HEV.out]; exact (eachR_none hVi).symm)
            clear hVi
            go_wp2_with fail
            go_roundw
            case rel => exact ⟨2, a, by go_num, rfl, hide ⟨by omega, by omega, ⟨τ, HRT.out, HJT.out, by rw [HSP.out]; exact HE2.out⟩, HM.out.tb, HM.out.kb, HM.out.k3⟩⟩
            case measure => simp [intOf]
          · rw [hVi] at kh kv hvl
            have hvl2 : t.length ≤ 2000 := hvl
            have RC := record_any 1 (by decide) t hvl2 wr
            have HE2 : Hid (_ = Y) := hide ((eachR_some hVi).symm.trans HEV.out)
            have kv2 : wr.cell? ⟨w.heap.size, 4, none⟩ = some (.string (bs t)) := kv
            obtain ⟨pl, hpl⟩ : ∃ pl : Nat, (sp : Int) * 4096 + (a : Int) = (pl : Int) := ⟨sp * 4096 + a, by omega⟩
            have HPL : Hid (sp * 4096 + a = pl) := hide (by omega)
            rw [HPL.out] at HE2
            have hp1 : (sp : Int) * 4096 ≤ 4096 := by omega
            have PG := fun W hR => rprog_any W X D cap τ hR hjt2 (pl : Int) (by unfold I64; omega) (bs (recB 1 t))
            have HPJ := hide (progRR_jk τ (pl : Int) (bs (recB 1 t)))
            generalize progRR τ (pl : Int) (bs (recB 1 t)) = PR at *
            have hrl : (bs (recB 1 t)).size = 4 + t.length := by rw [bs_size, recB_length]
            generalize bs (recB 1 t) = rb at *
            generalize bs t = tb at *
            clear hVi kv hvl
            go_wp2_with fail
            refine RC.mono ?_
            rintro e w2 ⟨rfl, hb2⟩
            have t2 := (hb2.cell (p := ⟨T, 0, none⟩) HM.out.tb.lt).trans t0
            have HRT2 := hide (HRT.out.below hb2)
            have HT2 := hide (HM.out.tb.below hb2)
            have HK2 := hide (HM.out.kb.below hb2)
            have HK32 := hide (HM.out.k3.trans (K3.below hb2 X D T))
            clear hb2 RC
            go_wp2_with fail
            refine (PG _ HRT2.out).mono ?_
            rintro e w3 ⟨rfl, hR3, hk3⟩
            have HR3 := hide hR3
            have HT3 := hide (HT2.out.kept2 hk3 hTX hTD)
            have HK3 := hide (HK2.out.kept2 hk3 (by omega) (by omega))
            have HK33 := hide (HK32.out.trans (K3.of2 hk3 T))
            clear hR3 hk3 PG
            by_cases hp : PR.2 = 0
            · have hpb : (PR.2 != 0) = false := by rw [hp]; rfl
              have HE3 : Hid (eachR sp V 2 1 (a + (4 + t.length)) PR.1 = Y) := hide (by rw [← HE2.out, if_pos hp])
              generalize PR.2 = pe at *
              clear hp HE2
              go_wp2_with fail
              go_roundw
              case rel => exact ⟨2, a + (4 + t.length), by go_num, by go_num, hide ⟨by omega, by omega, ⟨PR.1, HR3.out, by rw [HPJ.out]; exact HJT.out, by rw [HSP.out]; exact HE3.out⟩, HT3.out, HK3.out, HK33.out⟩⟩
              case measure => simp [intOf]
            · have hpb : (PR.2 != 0) = true := by simpa using hp
              have HE3 : Hid (Y = (PR.1, a, PR.2)) := hide (by rw [← HE2.out, if_neg hp])
              have HMR := hide (HN2'.out (by rw [HE3.out]; exact hp))
              rw [HE3.out] at HMR
              generalize hev : PR.2 = pe at *
              go_wp2_with fail
              go_ret
              unfold MvEnd
              rw [HMR.out]
              exact ⟨rfl, HR3.out, fun h => absurd h hp, fun _ => HT3.out, HK33.out⟩
        · have kh : wr.cell? ⟨w.heap.size, 2, none⟩ = some (.bool (V 2).isSome) := HM.out.kb.cell 2 rfl
          have kv : wr.cell? ⟨w.heap.size, 5, none⟩ = some (.string (bs ((V 2).getD []))) := HM.out.kb.cell 5 rfl
          have hvl := HV.out 2 (by decide)
          rcases opt_two (V 2) with hVi | ⟨t, hVi⟩
          · rw [hVi] at kh kv
            have HE2 : Hid (eachR sp V 3 0 a τ = Y) := hide (by rw [← HEV.out]; exact (eachR_none hVi).symm)
            clear hVi
            go_wp2_with fail
            go_roundw
            case rel => exact ⟨3, a, by go_num, rfl, hide ⟨by omega, by omega, ⟨τ, HRT.out, HJT.out, by rw [HSP.out]; exact HE2.out⟩, HM.out.tb, HM.out.kb, HM.out.k3⟩⟩
            case measure => simp [intOf]
          · rw [hVi] at kh kv hvl
            have hvl2 : t.length ≤ 2000 := hvl
            have RC := record_any 2 (by decide) t hvl2 wr
            have HE2 : Hid (_ = Y) := hide ((eachR_some hVi).symm.trans HEV.out)
            have kv2 : wr.cell? ⟨w.heap.size, 5, none⟩ = some (.string (bs t)) := kv
            obtain ⟨pl, hpl⟩ : ∃ pl : Nat, (sp : Int) * 4096 + (a : Int) = (pl : Int) := ⟨sp * 4096 + a, by omega⟩
            have HPL : Hid (sp * 4096 + a = pl) := hide (by omega)
            rw [HPL.out] at HE2
            have hp1 : (sp : Int) * 4096 ≤ 4096 := by omega
            have PG := fun W hR => rprog_any W X D cap τ hR hjt2 (pl : Int) (by unfold I64; omega) (bs (recB 2 t))
            have HPJ := hide (progRR_jk τ (pl : Int) (bs (recB 2 t)))
            generalize progRR τ (pl : Int) (bs (recB 2 t)) = PR at *
            have hrl : (bs (recB 2 t)).size = 4 + t.length := by rw [bs_size, recB_length]
            generalize bs (recB 2 t) = rb at *
            generalize bs t = tb at *
            clear hVi kv hvl
            go_wp2_with fail
            refine RC.mono ?_
            rintro e w2 ⟨rfl, hb2⟩
            have t2 := (hb2.cell (p := ⟨T, 0, none⟩) HM.out.tb.lt).trans t0
            have HRT2 := hide (HRT.out.below hb2)
            have HT2 := hide (HM.out.tb.below hb2)
            have HK2 := hide (HM.out.kb.below hb2)
            have HK32 := hide (HM.out.k3.trans (K3.below hb2 X D T))
            clear hb2 RC
            go_wp2_with fail
            refine (PG _ HRT2.out).mono ?_
            rintro e w3 ⟨rfl, hR3, hk3⟩
            have HR3 := hide hR3
            have HT3 := hide (HT2.out.kept2 hk3 hTX hTD)
            have HK3 := hide (HK2.out.kept2 hk3 (by omega) (by omega))
            have HK33 := hide (HK32.out.trans (K3.of2 hk3 T))
            clear hR3 hk3 PG
            by_cases hp : PR.2 = 0
            · have hpb : (PR.2 != 0) = false := by rw [hp]; rfl
              have HE3 : Hid (eachR sp V 3 0 (a + (4 + t.length)) PR.1 = Y) := hide (by rw [← HE2.out, if_pos hp])
              generalize PR.2 = pe at *
              clear hp HE2
              go_wp2_with fail
              go_roundw
              case rel => exact ⟨3, a + (4 + t.length), by go_num, by go_num, hide ⟨by omega, by omega, ⟨PR.1, HR3.out, by rw [HPJ.out]; exact HJT.out, by rw [HSP.out]; exact HE3.out⟩, HT3.out, HK3.out, HK33.out⟩⟩
              case measure => simp [intOf]
            · have hpb : (PR.2 != 0) = true := by simpa using hp
              have HE3 : Hid (Y = (PR.1, a, PR.2)) := hide (by rw [← HE2.out, if_neg hp])
              have HMR := hide (HN2'.out (by rw [HE3.out]; exact hp))
              rw [HE3.out] at HMR
              generalize hev : PR.2 = pe at *
              go_wp2_with fail
              go_ret
              unfold MvEnd
              rw [HMR.out]
              exact ⟨rfl, HR3.out, fun h => absurd h hp, fun _ => HT3.out, HK33.out⟩
      · have hj3 : j = 3 := by omega
        have hjd : decide ((j : Int) < 3) = false := decide_eq_false (by omega)
        have HYE : Hid (Y = (τ, a, 0)) := hide (by rw [← HEV.out, hj3]; rfl)
        have HMR := hide (HY'.out (by rw [HYE.out]))
        rw [HYE.out] at HMR
        clear hj3 hlt
        obtain ⟨ps, hps⟩ : ∃ ps : Nat, (sp : Int) * 4096 = (ps : Int) := ⟨sp * 4096, by omega⟩
        obtain ⟨pc, hpc⟩ : ∃ pc : Nat, (sec : Int) * 4096 = (pc : Int) := ⟨sec * 4096, by omega⟩
        have HPS : Hid (sp * 4096 = ps) := hide (by omega)
        have HPC : Hid (sec * 4096 = pc) := hide (by omega)
        have hpcl : pc < 8192 := by omega
        rw [HPS.out, HPC.out] at HMR
        have NX := fun W => next_any (τ.C.getD pc 0) W
        have hcv := fun W => conv_one7 W (nxR (τ.C.getD pc 0))
        have PG := fun W hR => rprog_any W X D cap τ hR hjt2 (ps : Int) (by unfold I64; omega) (bs [nxR (τ.C.getD pc 0)])
        have cD : wr.cell? ⟨D, pc, none⟩ = some (.int .u8 ((τ.C.getD pc 0).toNat : Int)) := row_cell HRT.out.row pc (by rw [HRT.out.len]; exact hpcl)
        have cX : wr.cell? ⟨X, 0, none⟩ = some (.slice (some ⟨D, 0, none⟩) 8192 cap) := by
          have := HRT.out.blk
          rw [HRT.out.len] at this
          exact Bl.cell (t := 79) this 0 rfl
        have hcap : 8192 ≤ cap := by have := HRT.out.cle; rw [HRT.out.len] at this; exact this
        have hpi : (pc : Int) < 8192 := by omega
        generalize progRR τ (ps : Int) (bs [nxR (τ.C.getD pc 0)]) = PR at *
        generalize bs [nxR (τ.C.getD pc 0)] = nb at *
        generalize nxR (τ.C.getD pc 0) = nx at *
        generalize τ.C.getD pc 0 = cc at *
        go_wp2_with fail
        refine wp_region_held_drew (S := fun wx => wx.cell? ⟨T, 0, none⟩ = some (fp X) ∧ wx.cell? ⟨T, 1, none⟩ = some (.int .i64 (sec : Int)) ∧ wx.cell? ⟨X, 0, none⟩ = some (.slice (some ⟨D, 0, none⟩) 8192 cap)) (by kernel_rfl) (⟨t0, t1, cX⟩) (fun hHeld => ?_)
        refine takeQ (i := 0) (v := fp T) (d := some 55) rfl rfl (by kernel_rfl) (by kernel_rfl) (by kernel_rfl) (fun _ _ _ h => h) (Or.inl ⟨by rfl, fun wS ⟨hS0, hS1, hS2⟩ => by go_simp; all_goals (rw [IntKind.wrap_i64]; omega)⟩) (by assumption) ?_
        simp only [Act.put, List.setIfInBounds_toArray, List.set_cons_zero, List.set_cons_succ]
        refine takeQ (i := 1) (v := .pointer (some ⟨T, 0, none⟩)) (d := some 56) rfl rfl (by kernel_rfl) (by kernel_rfl) (by kernel_rfl) (fun _ _ _ h => h) (Or.inl ⟨by rfl, fun wS ⟨hS0, hS1, hS2⟩ => by go_simp; all_goals (rw [IntKind.wrap_i64]; omega)⟩) (by assumption) ?_
        simp only [Act.put, List.setIfInBounds_toArray, List.set_cons_zero, List.set_cons_succ]
        refine takeQ (i := 2) (v := .pointer (some ⟨T, 0, none⟩)) (d := some 57) rfl rfl (by kernel_rfl) (by kernel_rfl) (by kernel_rfl) (fun _ _ _ h => h) (Or.inl ⟨by rfl, fun wS ⟨hS0, hS1, hS2⟩ => by go_simp; all_goals (rw [IntKind.wrap_i64]; omega)⟩) (by assumption) ?_
        simp only [Act.put, List.setIfInBounds_toArray, List.set_cons_zero, List.set_cons_succ]
        refine takeQ (i := 3) (v := fp X) (d := some 58) rfl rfl (by kernel_rfl) (by kernel_rfl) (by kernel_rfl) (fun _ _ _ h => h) (Or.inl ⟨by rfl, fun wS ⟨hS0, hS1, hS2⟩ => by go_simp; all_goals (rw [IntKind.wrap_i64]; omega)⟩) (by assumption) ?_
        simp only [Act.put, List.setIfInBounds_toArray, List.set_cons_zero, List.set_cons_succ]
        refine takeQ (i := 4) (v := .int .i64 (sp : Int)) (d := some 59) rfl rfl (by kernel_rfl) (by kernel_rfl) (by kernel_rfl) (fun _ _ _ h => h) (Or.inl ⟨by rfl, fun wS ⟨hS0, hS1, hS2⟩ => by go_simp; all_goals (rw [IntKind.wrap_i64]; omega)⟩) (by assumption) ?_
        simp only [Act.put, List.setIfInBounds_toArray, List.set_cons_zero, List.set_cons_succ]
        refine takeQ (i := 5) (v := .int .i64 (ps : Int)) (d := some 60) rfl rfl (by kernel_rfl) (by kernel_rfl) (by kernel_rfl) (fun _ _ _ h => h) (Or.inl ⟨by rfl, fun wS ⟨hS0, hS1, hS2⟩ => by go_simp; all_goals (rw [IntKind.wrap_i64]; omega)⟩) (by assumption) ?_
        simp only [Act.put, List.setIfInBounds_toArray, List.set_cons_zero, List.set_cons_succ]
        refine takeQ (i := 6) (v := fp T) (d := some 61) rfl rfl (by kernel_rfl) (by kernel_rfl) (by kernel_rfl) (fun _ _ _ h => h) (Or.inl ⟨by rfl, fun wS ⟨hS0, hS1, hS2⟩ => by go_simp; all_goals (rw [IntKind.wrap_i64]; omega)⟩) (by assumption) ?_
        simp only [Act.put, List.setIfInBounds_toArray, List.set_cons_zero, List.set_cons_succ]
        refine takeQ (i := 7) (v := .pointer (some ⟨T, 0, none⟩)) (d := some 62) rfl rfl (by kernel_rfl) (by kernel_rfl) (by kernel_rfl) (fun _ _ _ h => h) (Or.inl ⟨by rfl, fun wS ⟨hS0, hS1, hS2⟩ => by go_simp; all_goals (rw [IntKind.wrap_i64]; omega)⟩) (by assumption) ?_
        simp only [Act.put, List.setIfInBounds_toArray, List.set_cons_zero, List.set_cons_succ]
        refine takeQ (i := 8) (v := .pointer (some ⟨T, 0, none⟩)) (d := some 63) rfl rfl (by kernel_rfl) (by kernel_rfl) (by kernel_rfl) (fun _ _ _ h => h) (Or.inl ⟨by rfl, fun wS ⟨hS0, hS1, hS2⟩ => by go_simp; all_goals (rw [IntKind.wrap_i64]; omega)⟩) (by assumption) ?_
        simp only [Act.put, List.setIfInBounds_toArray, List.set_cons_zero, List.set_cons_succ]
        refine takeQ (i := 9) (v := fp X) (d := some 64) rfl rfl (by kernel_rfl) (by kernel_rfl) (by kernel_rfl) (fun _ _ _ h => h) (Or.inl ⟨by rfl, fun wS ⟨hS0, hS1, hS2⟩ => by go_simp; all_goals (rw [IntKind.wrap_i64]; omega)⟩) (by assumption) ?_
        simp only [Act.put, List.setIfInBounds_toArray, List.set_cons_zero, List.set_cons_succ]
        refine takeQ (i := 10) (v := .pointer (some ⟨X, 0, none⟩)) (d := some 65) rfl rfl (by kernel_rfl) (by kernel_rfl) (by kernel_rfl) (fun _ _ _ h => h) (Or.inl ⟨by rfl, fun wS ⟨hS0, hS1, hS2⟩ => by go_simp; all_goals (rw [IntKind.wrap_i64]; omega)⟩) (by assumption) ?_
        simp only [Act.put, List.setIfInBounds_toArray, List.set_cons_zero, List.set_cons_succ]
        refine takeQ (i := 11) (v := .pointer (some ⟨X, 0, none⟩)) (d := some 66) rfl rfl (by kernel_rfl) (by kernel_rfl) (by kernel_rfl) (fun _ _ _ h => h) (Or.inl ⟨by rfl, fun wS ⟨hS0, hS1, hS2⟩ => by go_simp; all_goals (rw [IntKind.wrap_i64]; omega)⟩) (by assumption) ?_
        simp only [Act.put, List.setIfInBounds_toArray, List.set_cons_zero, List.set_cons_succ]
        refine takeQ (i := 12) (v := .slice (some ⟨D, 0, none⟩) 8192 cap) (d := some 67) rfl rfl (by kernel_rfl) (by kernel_rfl) (by kernel_rfl) (fun _ _ _ h => h) (Or.inl ⟨by rfl, fun wS ⟨hS0, hS1, hS2⟩ => by go_simp; all_goals (rw [IntKind.wrap_i64]; omega)⟩) (by assumption) ?_
        simp only [Act.put, List.setIfInBounds_toArray, List.set_cons_zero, List.set_cons_succ]
        refine takeQ (i := 13) (v := fp T) (d := some 68) rfl rfl (by kernel_rfl) (by kernel_rfl) (by kernel_rfl) (fun _ _ _ h => h) (Or.inl ⟨by rfl, fun wS ⟨hS0, hS1, hS2⟩ => by go_simp; all_goals (rw [IntKind.wrap_i64]; omega)⟩) (by assumption) ?_
        simp only [Act.put, List.setIfInBounds_toArray, List.set_cons_zero, List.set_cons_succ]
        refine takeQ (i := 14) (v := .pointer (some ⟨T, 0, none⟩)) (d := some 69) rfl rfl (by kernel_rfl) (by kernel_rfl) (by kernel_rfl) (fun _ _ _ h => h) (Or.inl ⟨by rfl, fun wS ⟨hS0, hS1, hS2⟩ => by go_simp; all_goals (rw [IntKind.wrap_i64]; omega)⟩) (by assumption) ?_
        simp only [Act.put, List.setIfInBounds_toArray, List.set_cons_zero, List.set_cons_succ]
        refine takeQ (i := 15) (v := .pointer (some ⟨T, 1, none⟩)) (d := some 70) rfl rfl (by kernel_rfl) (by kernel_rfl) (by kernel_rfl) (fun _ _ _ h => h) (Or.inl ⟨by rfl, fun wS ⟨hS0, hS1, hS2⟩ => by go_simp; all_goals (rw [IntKind.wrap_i64]; omega)⟩) (by assumption) ?_
        simp only [Act.put, List.setIfInBounds_toArray, List.set_cons_zero, List.set_cons_succ]
        refine takeQ (i := 16) (v := .int .i64 (sec : Int)) (d := some 71) rfl rfl (by kernel_rfl) (by kernel_rfl) (by kernel_rfl) (fun _ _ _ h => h) (Or.inl ⟨by rfl, fun wS ⟨hS0, hS1, hS2⟩ => by go_simp; all_goals (rw [IntKind.wrap_i64]; omega)⟩) (by assumption) ?_
        simp only [Act.put, List.setIfInBounds_toArray, List.set_cons_zero, List.set_cons_succ]
        refine takeQ (i := 17) (v := .int .i64 (pc : Int)) (d := some 72) rfl rfl (by kernel_rfl) (by kernel_rfl) (by kernel_rfl) (fun _ _ _ h => h) (Or.inl ⟨by rfl, fun wS ⟨hS0, hS1, hS2⟩ => by go_simp; all_goals (rw [IntKind.wrap_i64]; omega)⟩) (by assumption) ?_
        simp only [Act.put, List.setIfInBounds_toArray, List.set_cons_zero, List.set_cons_succ]
        refine takeQ (i := 18) (v := .pointer (some ⟨D, pc, none⟩)) (d := some 73) rfl rfl (by kernel_rfl) (by kernel_rfl) (by kernel_rfl) (fun _ _ _ h => h) (Or.inl ⟨by rfl, fun wS ⟨hS0, hS1, hS2⟩ => by go_simp; all_goals (rw [IntKind.wrap_i64]; omega)⟩) (by assumption) ?_
        simp only [Act.put, List.setIfInBounds_toArray, List.set_cons_zero, List.set_cons_succ]
        have cDd : wr.drew.cell? ⟨D, pc, none⟩ = some (.int .u8 (cc.toNat : Int)) := cD
        have HRd : Hid (Rf wr.drew X D cap τ) := hide HRT.out.drew
        have HTd : Hid (Bl wr.drew T (skC X (sec : Int) V0 en0 d0 st) 105) := hide HM.out.tb
        have HKd : Hid (Bl wr.drew w.heap.size (kpC V en dd) 103) := hide HM.out.kb
        have H3d : Hid (K3 X D T w wr.drew) := hide ⟨HM.out.k3.os, HM.out.k3.tape, HM.out.k3.output, HM.out.k3.size, HM.out.k3.block⟩
        obtain ⟨wd, hwd⟩ : ∃ wd, wr.drew = wd := ⟨_, rfl⟩
        rw [hwd] at hHeld cDd HRd HTd HKd H3d ⊢
        clear hwd t0 t1 cX cD HRT HM
        refine wpAnyH_ready (rs := [19]) (by kernel_rfl) (by simp) ?_
        refine AllReadyH.cons rfl (fun K hK => ?_) AllReadyH.nil
        go_simp
        refine hK.out _ _ hHeld (fun hHeld => ?_)
        clear hK K
        refine wpAnyH_ready (rs := [20]) (by kernel_rfl) (by simp) ?_
        refine AllReadyH.cons rfl (fun K hK => ?_) AllReadyH.nil
        go_simp
        refine (NX _).mono ?_
        rintro e w2 ⟨rfl, hw2⟩
        obtain rfl := hw2.symm
        refine hK.out _ _ hHeld (fun hHeld => ?_)
        clear hK K
        refine wpAnyH_ready (rs := [21]) (by kernel_rfl) (by simp) ?_
        refine AllReadyH.cons rfl (fun K hK => ?_) AllReadyH.nil
        go_simp
        have hA := below_alloc wd (.cells #[.int .u8 (nx.toNat : Int)] 5)
        have hcw := hcv wd
        have HR4 := hide (HRd.out.below hA)
        have HT4 := hide (HTd.out.below hA)
        have HK4 := hide (HKd.out.below hA)
        have HK34 := hide (H3d.out.trans (K3.below hA X D T))
        have q0 : (wd.alloc (.cells #[.int .u8 (nx.toNat : Int)] 5)).cell? ⟨T, 0, none⟩ = some (fp X) := HT4.out.cell 0 rfl
        have q1 : (wd.alloc (.cells #[.int .u8 (nx.toNat : Int)] 5)).cell? ⟨T, 1, none⟩ = some (.int .i64 (sec : Int)) := HT4.out.cell 1 rfl
        have q2 : (wd.alloc (.cells #[.int .u8 (nx.toNat : Int)] 5)).cell? ⟨X, 0, none⟩ = some (.slice (some ⟨D, 0, none⟩) 8192 cap) := by
          have := HR4.out.blk
          rw [HR4.out.len] at this
          exact Bl.cell (t := 79) this 0 rfl
        obtain ⟨w4, hw4⟩ : ∃ w4, wd.alloc (.cells #[.int .u8 (nx.toNat : Int)] 5) = w4 := ⟨_, rfl⟩
        rw [hw4] at hcw HR4 HT4 HK4 HK34 q0 q1 q2 ⊢
        clear hw4 hA hcv hHeld
        refine hK.out _ _ ⟨q0, q1, q2⟩ (fun hHeld => ?_)
        clear hK K
        refine wpAnyH_ready (rs := [22]) (by kernel_rfl) (by simp) ?_
        refine AllReadyH.cons rfl (fun K hK => ?_) AllReadyH.nil
        go_simp
        refine hK.out _ _ hHeld (fun hHeld => ?_)
        clear hK K
        refine wpAnyH_ready (rs := [23]) (by kernel_rfl) (by simp) ?_
        refine AllReadyH.cons rfl (fun K hK => ?_) AllReadyH.nil
        go_simp
        refine (PG _ HR4.out).mono ?_
        rintro e w5 ⟨rfl, hR5, hk5⟩
        have q0 : w5.cell? ⟨T, 0, none⟩ = some (fp X) := (HT4.out.kept2 hk5 hTX hTD).cell 0 rfl
        have q1 : w5.cell? ⟨T, 1, none⟩ = some (.int .i64 (sec : Int)) := (HT4.out.kept2 hk5 hTX hTD).cell 1 rfl
        have q2 : w5.cell? ⟨X, 0, none⟩ = some (.slice (some ⟨D, 0, none⟩) 8192 cap) := by
          have := hR5.blk
          rw [hR5.len] at this
          exact Bl.cell (t := 79) this 0 rfl
        clear hHeld
        refine hK.out _ _ ⟨q0, q1, q2⟩ (fun hHeld => ?_)
        clear hK K
        refine wpAnyH_ready (rs := [24]) (by kernel_rfl) (by simp) ?_
        refine AllReadyH.cons rfl (fun K hK => ?_) AllReadyH.nil
        go_simp
        refine hK.out _ _ hHeld (fun hHeld => ?_)
        clear hK K hHeld
        refine wpAnyH_done (by kernel_rfl) ?_ _
        have HT5 := hide (HT4.out.kept2 hk5 hTX hTD)
        have HK5 := hide (HK4.out.kept2 hk5 (by omega) (by omega))
        have HK35 := hide (HK34.out.trans (K3.of2 hk5 T))
        have HR5 := hide hR5
        clear hR5 hk5
        by_cases hp : PR.2 = 0
        · have hpb : (PR.2 != 0) = false := by rw [hp]; rfl
          have HP0 := hide hp
          have c0 := HK5.out.cell 0 (v := .bool (V 0).isSome) rfl
          have c1 := HK5.out.cell 1 (v := .bool (V 1).isSome) rfl
          have c2 := HK5.out.cell 2 (v := .bool (V 2).isSome) rfl
          have c3 := HK5.out.cell 3 (v := .string (bs ((V 0).getD []))) rfl
          have c4 := HK5.out.cell 4 (v := .string (bs ((V 1).getD []))) rfl
          have c5 := HK5.out.cell 5 (v := .string (bs ((V 2).getD []))) rfl
          have c6 := HK5.out.cell 6 (v := .int .i64 en) rfl
          have c7 := HK5.out.cell 7 (v := .bool dd) rfl
          have fk := HK5.out.fz
          have ft := HT5.out.fz
          have d1 := HT5.out.cell 1 (v := .int .i64 (sec : Int)) rfl
          have d2 := HT5.out.cell 2 (v := .bool (V0 0).isSome) rfl
          have d3 := HT5.out.cell 3 (v := .bool (V0 1).isSome) rfl
          have d4 := HT5.out.cell 4 (v := .bool (V0 2).isSome) rfl
          have d5 := HT5.out.cell 5 (v := .string (bs ((V0 0).getD []))) rfl
          have d6 := HT5.out.cell 6 (v := .string (bs ((V0 1).getD []))) rfl
          have d7 := HT5.out.cell 7 (v := .string (bs ((V0 2).getD []))) rfl
          have d8 := HT5.out.cell 8 (v := .int .i64 en0) rfl
          have d9 := HT5.out.cell 9 (v := .bool d0) rfl
          have hne : ¬ T = w.heap.size := by omega
          have hne2 : ¬ w.heap.size = T := by omega
          generalize PR.2 = pe at *
          clear hp
          go_wp2_with fail
          go_ret
          obtain ⟨z1, z2, z3⟩ := mv_fin (sp := sp) (V := V) (a := (a : Int)) HR5.out HT5.out HK35.out (B := w.heap.size) (Nat.le_refl _) (by omega) (by omega) (by omega) hTX hTD
          unfold MvEnd
          rw [HMR.out]
          refine ⟨by rw [HP0.out]; rfl, z1, fun _ => ?_, fun h => absurd HP0.out h, z3⟩
          rw [HSP.out]
          exact z2
        · have hpb : (PR.2 != 0) = true := by simpa using hp
          generalize hev : PR.2 = pe at *
          go_wp2_with fail
          go_ret
          unfold MvEnd
          rw [HMR.out]
          exact ⟨rfl, HR5.out, fun h => absurd h hp, fun _ => HT5.out, HK35.out⟩
  · have heb : (E1.2 != 0) = true := by simpa using he
    have HMR := hide (HN1.out he)
    generalize hev : E1.2 = ev at *
    have HEV := hide hev
    clear hev
    go_wp2_with fail
    go_ret
    unfold MvEnd
    rw [HMR.out]
    exact ⟨rfl, HR1.out, fun h => absurd h he, fun _ => HT1.out, HK31.out⟩
end Go.Proofs.Ythccigikelinbaa
