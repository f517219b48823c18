/- Sq4, Sq5, Sq6. -/
import Derived.Test.YtcjahdgppnmdkaaStoreRunsG06
import Derived.Deep.RegionHeld3
set_option maxRecDepth 100000
namespace Go.Proofs.Ytcjahdgppnmdkaa
open Go.RowKit Go.Great
theorem takeQ {P : Program} {ops : Array Oper} {Q : Exit → Act → World → Prop} {md : Region.Mode} {S : World → Prop} {i : Nat} {oi : Oper} {v : Value} {d : Option Tmp} {fuel : Nat} {listed : Array Bool} {a : Act} {w : World} (hi : ops[i]? = some oi) (hd : oi.dst = d)
    (hs : Region.noSelect ops = true) (hf : Region.free md ops listed i = true) (hr : (Region.ready md ops listed).contains i = true)
    (hQ : ∀ c a w, Q (.panic c) (a.put d v) w → Q (.panic c) a w) (hy : YieldsIf P ops S oi v a) (hS : S w)
    (h : wpAnyH P md ops Q S fuel (listed.setIfInBounds i true) (a.put d v) w) : wpAnyH P md ops Q S (fuel + 1) listed a w := by
  subst hd
  exact wpAnyH_take hi hs hf hr hQ hy hS h
/-- what is kept but for blocks X, D and T -/
structure K3 (X D T : Nat) (w w' : World) : Prop where
  os : w'.os = w.os
  tape : w'.tape = w.tape
  output : w'.output = w.output
  size : w.heap.size ≤ w'.heap.size
  block : ∀ k, k < w.heap.size → k ≠ X → k ≠ D → k ≠ T → w'.heap[k]? = w.heap[k]?
theorem K3.refl (X D T : Nat) (w : World) : K3 X D T w w := ⟨rfl, rfl, rfl, Nat.le_refl _, fun _ _ _ _ _ => rfl⟩
theorem K3.trans {X D T : Nat} {w w1 w2 : World} (h : K3 X D T w w1) (g : K3 X D T w1 w2) : K3 X D T w w2 :=
  ⟨g.os.trans h.os, g.tape.trans h.tape, g.output.trans h.output, Nat.le_trans h.size g.size, fun k hk h1 h2 h3 => (g.block k (Nat.lt_of_lt_of_le hk h.size) h1 h2 h3).trans (h.block k hk h1 h2 h3)⟩
theorem K3.of2 {X D : Nat} {w w1 : World} (h : Kept2 X D w w1) (T : Nat) : K3 X D T w w1 := ⟨h.os, h.tape, h.output, h.size, fun k hk h1 h2 _ => h.block k hk h1 h2⟩
theorem K3.below {w w1 : World} (h : Below w.heap.size w w1) (X D T : Nat) : K3 X D T w w1 := ⟨h.os, h.tape, h.output, h.size, fun k hk _ _ _ => h.block k hk⟩
theorem K3.set {X D T : Nat} (w : World) (i : Nat) (u : Value) : K3 X D T w (w.setCell ⟨T, i, none⟩ u) := ⟨rfl, rfl, rfl, by rw [size_set]; exact Nat.le_refl _, fun _ _ _ _ h3 => set_other _ _ h3⟩
theorem K3.setN {X D T : Nat} (w : World) (B i : Nat) (u : Value) (hB : w.heap.size ≤ B) : K3 X D T w (w.setCell ⟨B, i, none⟩ u) := ⟨rfl, rfl, rfl, by rw [size_set]; exact Nat.le_refl _, fun _ hk _ _ _ => set_other _ _ (by omega)⟩
theorem K3.setT {X D T : Nat} {w w1 : World} (h : K3 X D T w w1) (i : Nat) (u : Value) : K3 X D T w (w1.setCell ⟨T, i, none⟩ u) := h.trans (K3.set w1 i u)
theorem K3.setNew {X D T : Nat} {w w1 : World} (h : K3 X D T w w1) (B i : Nat) (u : Value) (hB : w.heap.size ≤ B) : K3 X D T w (w1.setCell ⟨B, i, none⟩ u) := ⟨h.os, h.tape, h.output, by rw [size_set]; exact h.size, fun k hk h1 h2 h3 => (set_other _ _ (by omega)).trans (h.block k hk h1 h2 h3)⟩
theorem Rf.set3 {w : World} {X D cap B : Nat} {ρ : St} (h : Rf w X D cap ρ) (h1 : B ≠ X) (h2 : B ≠ D) (i : Nat) (u : Value) : Rf (w.setCell ⟨B, i, none⟩ u) X D cap ρ :=
  ⟨h.len, h.ne, h.cle, by rw [size_set]; exact h.lt, (set_other _ _ (Ne.symm h1)).trans h.blk, row_block h.row (set_other _ _ (Ne.symm h2))⟩
theorem mv_fin {w w5 : World} {X D cap T B sec sp : Nat} {τ : St} {V0 V : Nat → Option (List UInt8)} {en0 a : Int} {d0 st : Bool} (hR : Rf w5 X D cap τ) (hT : Bl w5 T (skC X (sec : Int) V0 en0 d0 st) 133) (hk : K3 X D T w w5) (hB : w.heap.size ≤ B) (h1 : B ≠ X) (h2 : B ≠ D) (h3 : B ≠ T) (hTX : T ≠ X) (hTD : T ≠ D) : Rf (((((((((((w5.setCell ⟨B, 6, none⟩ (.int .i64 a)).setCell ⟨B, 7, none⟩ (.bool false)).setCell ⟨T, 2, none⟩ (.bool (V 0).isSome)).setCell ⟨T, 3, none⟩ (.bool (V 1).isSome)).setCell ⟨T, 4, none⟩ (.bool (V 2).isSome)).setCell ⟨T, 5, none⟩ (.string (bs ((V 0).getD [])))).setCell ⟨T, 6, none⟩ (.string (bs ((V 1).getD [])))).setCell ⟨T, 7, none⟩ (.string (bs ((V 2).getD [])))).setCell ⟨T, 8, none⟩ (.int .i64 a)).setCell ⟨T, 9, none⟩ (.bool false)).setCell ⟨T, 1, none⟩ (.int .i64 (sp : Int))) X D cap τ ∧ Bl (((((((((((w5.setCell ⟨B, 6, none⟩ (.int .i64 a)).setCell ⟨B, 7, none⟩ (.bool false)).setCell ⟨T, 2, none⟩ (.bool (V 0).isSome)).setCell ⟨T, 3, none⟩ (.bool (V 1).isSome)).setCell ⟨T, 4, none⟩ (.bool (V 2).isSome)).setCell ⟨T, 5, none⟩ (.string (bs ((V 0).getD [])))).setCell ⟨T, 6, none⟩ (.string (bs ((V 1).getD [])))).setCell ⟨T, 7, none⟩ (.string (bs ((V 2).getD [])))).setCell ⟨T, 8, none⟩ (.int .i64 a)).setCell ⟨T, 9, none⟩ (.bool false)).setCell ⟨T, 1, none⟩ (.int .i64 (sp : Int))) T (skC X (sp : Int) V a false st) 133 ∧ K3 X D T w (((((((((((w5.setCell ⟨B, 6, none⟩ (.int .i64 a)).setCell ⟨B, 7, none⟩ (.bool false)).setCell ⟨T, 2, none⟩ (.bool (V 0).isSome)).setCell ⟨T, 3, none⟩ (.bool (V 1).isSome)).setCell ⟨T, 4, none⟩ (.bool (V 2).isSome)).setCell ⟨T, 5, none⟩ (.string (bs ((V 0).getD [])))).setCell ⟨T, 6, none⟩ (.string (bs ((V 1).getD [])))).setCell ⟨T, 7, none⟩ (.string (bs ((V 2).getD [])))).setCell ⟨T, 8, none⟩ (.int .i64 a)).setCell ⟨T, 9, none⟩ (.bool false)).setCell ⟨T, 1, none⟩ (.int .i64 (sp : Int))) := by
  refine ⟨?_, ?_, ?_⟩
  · exact ((((((((((hR.set3 h1 h2 _ _).set3 h1 h2 _ _).set3 hTX hTD _ _).set3 hTX hTD _ _).set3 hTX hTD _ _).set3 hTX hTD _ _).set3 hTX hTD _ _).set3 hTX hTD _ _).set3 hTX hTD _ _).set3 hTX hTD _ _).set3 hTX hTD _ _
  · have b0 := (hT.setOther (C := B) (Ne.symm h3) 6 (.int .i64 a)).setOther (C := B) (Ne.symm h3) 7 (.bool false)
    have b1 : Bl _ T #[fp X, .int .i64 (sec : Int), .bool (V 0).isSome, .bool (V0 1).isSome, .bool (V0 2).isSome, .string (bs ((V0 0).getD [])), .string (bs ((V0 1).getD [])), .string (bs ((V0 2).getD [])), .int .i64 en0, .bool d0, .bool st] 133 := b0.set 2 (.bool (V 0).isSome)
    have b2 : Bl _ T #[fp X, .int .i64 (sec : Int), .bool (V 0).isSome, .bool (V 1).isSome, .bool (V0 2).isSome, .string (bs ((V0 0).getD [])), .string (bs ((V0 1).getD [])), .string (bs ((V0 2).getD [])), .int .i64 en0, .bool d0, .bool st] 133 := b1.set 3 (.bool (V 1).isSome)
    have b3 : Bl _ T #[fp X, .int .i64 (sec : Int), .bool (V 0).isSome, .bool (V 1).isSome, .bool (V 2).isSome, .string (bs ((V0 0).getD [])), .string (bs ((V0 1).getD [])), .string (bs ((V0 2).getD [])), .int .i64 en0, .bool d0, .bool st] 133 := b2.set 4 (.bool (V 2).isSome)
    have b4 : Bl _ T #[fp X, .int .i64 (sec : Int), .bool (V 0).isSome, .bool (V 1).isSome, .bool (V 2).isSome, .string (bs ((V 0).getD [])), .string (bs ((V0 1).getD [])), .string (bs ((V0 2).getD [])), .int .i64 en0, .bool d0, .bool st] 133 := b3.set 5 (.string (bs ((V 0).getD [])))
    have b5 : Bl _ T #[fp X, .int .i64 (sec : Int), .bool (V 0).isSome, .bool (V 1).isSome, .bool (V 2).isSome, .string (bs ((V 0).getD [])), .string (bs ((V 1).getD [])), .string (bs ((V0 2).getD [])), .int .i64 en0, .bool d0, .bool st] 133 := b4.set 6 (.string (bs ((V 1).getD [])))
    have b6 : Bl _ T #[fp X, .int .i64 (sec : Int), .bool (V 0).isSome, .bool (V 1).isSome, .bool (V 2).isSome, .string (bs ((V 0).getD [])), .string (bs ((V 1).getD [])), .string (bs ((V 2).getD [])), .int .i64 en0, .bool d0, .bool st] 133 := b5.set 7 (.string (bs ((V 2).getD [])))
    have b7 : Bl _ T #[fp X, .int .i64 (sec : Int), .bool (V 0).isSome, .bool (V 1).isSome, .bool (V 2).isSome, .string (bs ((V 0).getD [])), .string (bs ((V 1).getD [])), .string (bs ((V 2).getD [])), .int .i64 a, .bool d0, .bool st] 133 := b6.set 8 (.int .i64 a)
    have b8 : Bl _ T #[fp X, .int .i64 (sec : Int), .bool (V 0).isSome, .bool (V 1).isSome, .bool (V 2).isSome, .string (bs ((V 0).getD [])), .string (bs ((V 1).getD [])), .string (bs ((V 2).getD [])), .int .i64 a, .bool false, .bool st] 133 := b7.set 9 (.bool false)
    exact b8.set 1 (.int .i64 (sp : Int))
  · exact ((((((((((hk.setNew B 6 _ hB).setNew B 7 _ hB).setT 2 _).setT 3 _).setT 4 _).setT 5 _).setT 6 _).setT 7 _).setT 8 _).setT 9 _).setT 1 _
theorem Bl.k3 {W W' : World} {B X D T : Nat} {cs : Array Value} {t : TypeId} (h : Bl W B cs t) (hk : K3 X D T W W') (h1 : B ≠ X) (h2 : B ≠ D) (h3 : B ≠ T) : Bl W' B cs t := (hk.block B h.lt h1 h2 h3).trans h
theorem progSR_jk (d : List UInt8) : ∀ (ρ : St) (a : Nat), (progSR ρ a d).1.jk = ρ.jk := by
  induction d with
  | nil => intro ρ a; rfl
  | cons b t ih =>
    intro ρ a
    rw [progSR]
    split
    · rw [ih, progBR_jk]
    · exact progBR_jk ρ a b
theorem progRR_jk (ρ : St) (a : Int) (d : ByteArray) : (progRR ρ a d).1.jk = ρ.jk := by
  unfold progRR
  split
  · rfl
  · split
    · exact progSR_jk _ _ _
    · rfl
theorem eraseRR_jk (ρ : St) (s : Int) : (eraseRR ρ s).1.jk = ρ.jk := by
  unfold eraseRR
  split
  · rfl
  · split
    · unfold eraseSR; split <;> exact stepR_jk ρ
    · rfl
/-- values that are written one behind the other into sector sp -/
def eachR (sp : Nat) (V : Nat → Option (List UInt8)) : Nat → Nat → Nat → St → St × Nat × Int
  | _, 0, a, ρ => (ρ, a, 0)
  | i, n + 1, a, ρ => match V i with
    | none => eachR sp V (i + 1) n a ρ
    | some t => if (progRR ρ ((sp * 4096 + a : Nat) : Int) (bs (recB i t))).2 = 0 then eachR sp V (i + 1) n (a + (4 + t.length)) (progRR ρ ((sp * 4096 + a : Nat) : Int) (bs (recB i t))).1 else ((progRR ρ ((sp * 4096 + a : Nat) : Int) (bs (recB i t))).1, a, (progRR ρ ((sp * 4096 + a : Nat) : Int) (bs (recB i t))).2)
/-- what a move leaves: the flash, where the records end, an error's number -/
def moveR (ρ : St) (sec : Nat) (V : Nat → Option (List UInt8)) : St × Nat × Int :=
  if (eraseRR ρ ((1 - sec : Nat) : Int)).2 = 0 then
    if (eachR (1 - sec) V 0 3 1 (eraseRR ρ ((1 - sec : Nat) : Int)).1).2.2 = 0 then
      ((progRR (eachR (1 - sec) V 0 3 1 (eraseRR ρ ((1 - sec : Nat) : Int)).1).1 (((1 - sec) * 4096 : Nat) : Int) (bs [nxR ((eachR (1 - sec) V 0 3 1 (eraseRR ρ ((1 - sec : Nat) : Int)).1).1.C.getD (sec * 4096) 0)])).1,
        (eachR (1 - sec) V 0 3 1 (eraseRR ρ ((1 - sec : Nat) : Int)).1).2.1,
        (progRR (eachR (1 - sec) V 0 3 1 (eraseRR ρ ((1 - sec : Nat) : Int)).1).1 (((1 - sec) * 4096 : Nat) : Int) (bs [nxR ((eachR (1 - sec) V 0 3 1 (eraseRR ρ ((1 - sec : Nat) : Int)).1).1.C.getD (sec * 4096) 0)])).2)
    else ((eachR (1 - sec) V 0 3 1 (eraseRR ρ ((1 - sec : Nat) : Int)).1).1, 0, (eachR (1 - sec) V 0 3 1 (eraseRR ρ ((1 - sec : Nat) : Int)).1).2.2)
  else ((eraseRR ρ ((1 - sec : Nat) : Int)).1, 0, (eraseRR ρ ((1 - sec : Nat) : Int)).2)
/-- behind a move -/
def MvEnd (x : St × Nat × Int) (X D cap T sec : Nat) (V0 V : Nat → Option (List UInt8)) (en0 : Int) (d0 st : Bool) (w : World) (e : Ending) (w' : World) : Prop :=
  e = .returned (.int .i64 x.2.2) ∧ Rf w' X D cap x.1 ∧ (x.2.2 = 0 → Bl w' T (skC X ((1 - sec : Nat) : Int) V (x.2.1 : Nat) false st) 133) ∧ (x.2.2 ≠ 0 → Bl w' T (skC X (sec : Int) V0 en0 d0 st) 133) ∧ K3 X D T w w'
/-- while values are written -/
structure MvM (w : World) (X D cap T sec : Nat) (V0 V : Nat → Option (List UInt8)) (en0 : Int) (d0 st : Bool) (en : Int) (dd : Bool) (ρ : St) (Y : St × Nat × Int) (i a : Nat) (wx : World) : Prop where
  ii : i ≤ 3
  al : a ≤ 1 + i * 2004
  rest : ∃ τ, Rf wx X D cap τ ∧ τ.jk = ρ.jk ∧ eachR (1 - sec) V i (3 - i) a τ = Y
  tb : Bl wx T (skC X (sec : Int) V0 en0 d0 st) 133
  kb : Bl wx w.heap.size (kpC V en dd) 131
  k3 : K3 X D T w wx
theorem conv_one7 (w : World) (a : UInt8) : (convert 93 9 (.slice (some ⟨w.heap.size, 0, none⟩) 1 1)).run Try.prog (w.alloc (.cells #[.int .u8 (a.toNat : Int)] 5)) = .ok (.string (bs [a])) (w.alloc (.cells #[.int .u8 (a.toNat : Int)] 5)) := by
  refine run_convert_bytes_back _ 93 9 5 ⟨w.heap.size, 0, none⟩ 1 [a] (by kernel_rfl) (by kernel_rfl) (by kernel_rfl) ?_
  intro j hj
  have h0 : j = 0 := by simp at hj; omega
  subst h0
  rw [show (Addr.add ⟨w.heap.size, 0, none⟩ 0) = ⟨w.heap.size, 0, none⟩ by simp [Addr.add], World.cell?_alloc_new]
  rfl
theorem opt_two (x : Option (List UInt8)) : x = none ∨ ∃ t, x = some t := by
  cases x with
  | none => exact .inl rfl
  | some t => exact .inr ⟨t, rfl⟩
theorem eachR_none {sp : Nat} {V : Nat → Option (List UInt8)} {i n a : Nat} {ρ : St} (h : V i = none) : eachR sp V i (n + 1) a ρ = eachR sp V (i + 1) n a ρ := by rw [eachR, h]
theorem eachR_some {sp : Nat} {V : Nat → Option (List UInt8)} {i n a : Nat} {ρ : St} {t : List UInt8} (h : V i = some t) : eachR sp V i (n + 1) a ρ = if (progRR ρ ((sp * 4096 + a : Nat) : Int) (bs (recB i t))).2 = 0 then eachR sp V (i + 1) n (a + (4 + t.length)) (progRR ρ ((sp * 4096 + a : Nat) : Int) (bs (recB i t))).1 else ((progRR ρ ((sp * 4096 + a : Nat) : Int) (bs (recB i t))).1, a, (progRR ρ ((sp * 4096 + a : Nat) : Int) (bs (recB i t))).2) := by rw [eachR, h]
theorem moveR_no1 {ρ : St} {sec : Nat} {V : Nat → Option (List UInt8)} (h : (eraseRR ρ ((1 - sec : Nat) : Int)).2 ≠ 0) : moveR ρ sec V = ((eraseRR ρ ((1 - sec : Nat) : Int)).1, 0, (eraseRR ρ ((1 - sec : Nat) : Int)).2) := by unfold moveR; rw [if_neg h]
theorem moveR_no2 {ρ : St} {sec : Nat} {V : Nat → Option (List UInt8)} (h : (eraseRR ρ ((1 - sec : Nat) : Int)).2 = 0) (h2 : (eachR (1 - sec) V 0 3 1 (eraseRR ρ ((1 - sec : Nat) : Int)).1).2.2 ≠ 0) : moveR ρ sec V = ((eachR (1 - sec) V 0 3 1 (eraseRR ρ ((1 - sec : Nat) : Int)).1).1, 0, (eachR (1 - sec) V 0 3 1 (eraseRR ρ ((1 - sec : Nat) : Int)).1).2.2) := by unfold moveR; rw [if_pos h, if_neg h2]
theorem moveR_yes {ρ : St} {sec : Nat} {V : Nat → Option (List UInt8)} (h : (eraseRR ρ ((1 - sec : Nat) : Int)).2 = 0) (h2 : (eachR (1 - sec) V 0 3 1 (eraseRR ρ ((1 - sec : Nat) : Int)).1).2.2 = 0) : moveR ρ sec V = ((progRR (eachR (1 - sec) V 0 3 1 (eraseRR ρ ((1 - sec : Nat) : Int)).1).1 (((1 - sec) * 4096 : Nat) : Int) (bs [nxR ((eachR (1 - sec) V 0 3 1 (eraseRR ρ ((1 - sec : Nat) : Int)).1).1.C.getD (sec * 4096) 0)])).1, (eachR (1 - sec) V 0 3 1 (eraseRR ρ ((1 - sec : Nat) : Int)).1).2.1, (progRR (eachR (1 - sec) V 0 3 1 (eraseRR ρ ((1 - sec : Nat) : Int)).1).1 (((1 - sec) * 4096 : Nat) : Int) (bs [nxR ((eachR (1 - sec) V 0 3 1 (eraseRR ρ ((1 - sec : Nat) : Int)).1).1.C.getD (sec * 4096) 0)])).2) := by unfold moveR; rw [if_pos h, if_pos h2]
theorem row_cell {w : World} {D : Nat} {l : List UInt8} (h : Row w D l) (i : Nat) (hi : i < l.length) : w.cell? ⟨D, i, none⟩ = some (.int .u8 ((l.getD i 0).toNat : Int)) := by
  rw [(h i hi).1, List.getD, List.getElem?_eq_getElem hi]; rfl
set_option maxRecDepth 100000 in
set_option maxHeartbeats 8000000 in
theorem rmove_any (w : World) (X D cap T : Nat) (ρ : St) (hR : Rf w X D cap ρ) (hj : ρ.jk.size ≤ 140737488351232) (sec : Nat) (hs : sec < 2) (V0 V : Nat → Option (List UInt8)) (en0 en : Int) (d0 dd st : Bool) (hT : Bl w T (skC X (sec : Int) V0 en0 d0 st) 133) (hTX : T ≠ X) (hTD : T ≠ D) (hV : ∀ i, i < 3 → ((V i).getD []).length ≤ 2000) : Calls Try.prog 68 #[fp T, .agg (kpC V en dd)] w fun e w' => MvEnd (moveR ρ sec V) X D cap T sec V0 V en0 d0 st w e w' := by
  have HN1 := hide (moveR_no1 (ρ := ρ) (sec := sec) (V := V))
  have HN2 := hide (moveR_no2 (ρ := ρ) (sec := sec) (V := V))
  have HY := hide (moveR_yes (ρ := ρ) (sec := sec) (V := V))
  generalize moveR ρ sec V = MR at *
  have HV := hide hV
  obtain ⟨sp, hsp⟩ : ∃ sp, 1 - sec = sp := ⟨_, rfl⟩
  have hspi : (1 : Int) - (sec : Int) = (sp : Int) := by omega
  have HSP := hide hsp
  rw [hsp] at HN1 HN2 HY
  have hsp2 : sp < 2 := by omega
  clear hsp
  obtain ⟨W0, hW0⟩ : ∃ W0, w.alloc (.cells (kpC V en dd) 131) = W0 := ⟨_, rfl⟩
  have hb0 : Below w.heap.size w W0 := by rw [← hW0]; exact below_alloc _ _
  have hK0 : Bl W0 w.heap.size (kpC V en dd) 131 := by rw [← hW0]; exact Bl.new _ _ _
  have hT0 := hT.below hb0
  have hR0 : Rf W0 X D cap ρ := hR.below hb0
  have hTl := hT.lt
  have hXl := hR.ltX
  have hDl := hR.lt
  have ER := rerase_any W0 X D cap ρ hR0 hj (sp : Int)
  have HJ := hide hj
  unfold kpC at hW0
  clear hR hT hj hV
  have t0 : W0.cell? ⟨T, 0, none⟩ = some (fp X) := hT0.cell 0 rfl
  have t1 : W0.cell? ⟨T, 1, none⟩ = some (.int .i64 (sec : Int)) := hT0.cell 1 rfl
  have HT0 := hide hT0
  have HK0 := hide hK0
  have HJE := hide (eraseRR_jk ρ (sp : Int))
  generalize eraseRR ρ (sp : Int) = E1 at *
  unfold kpC
  go_enter Try.func68, Try.ntmps68
  go_wp2_with fail
  refine ER.mono ?_
  rintro e w1 ⟨rfl, hR1, hk1⟩
  have HT1 := hide (HT0.out.kept2 hk1 hTX hTD)
  have HK1 := hide (HK0.out.kept2 hk1 (by omega) (by omega))
  have HK31 : Hid (K3 X D T w w1) := hide ((K3.below hb0 X D T).trans (K3.of2 hk1 T))
  have HR1 := hide hR1
  clear hR1 hk1 ER t0 t1 hW0
  by_cases he : E1.2 = 0
  · have heb : (E1.2 != 0) = false := by rw [he]; rfl
    have HHE := hide he
    clear he
    obtain ⟨Y, HYY⟩ : ∃ Y, Hid (eachR sp V 0 3 1 E1.1 = Y) := ⟨_, rfl⟩
    have HN2' := hide (fun h => HN2.out HHE.out h)
    have HY' := hide (fun h => HY.out HHE.out h)
    rw [HYY.out] at HN2' HY'
    generalize E1.2 = ev at *
    go_wp2_with fail
    go_loopw [7, 8] (fun at' i wx => ∃ (j a : Nat), i = .int .i64 j ∧ at' = .int .i64 a ∧ Hid (MvM w X D cap T sec V0 V en0 d0 st en dd ρ Y j a wx)) (fun _ i _ => 3 - (intOf i).toNat)
    case atStart => exact ⟨0, 1, rfl, rfl, hide ⟨by omega, by omega, ⟨E1.1, HR1.out, HJE.out, by rw [HSP.out]; exact HYY.out⟩, HT1.out, HK1.out, HK31.out⟩⟩
    case round =>
      obtain ⟨j, a, rfl, rfl, HM⟩ := hrel
      have hal := HM.out.al
      have hji := HM.out.ii
      have t0 : wr.cell? ⟨T, 0, none⟩ = some (fp X) := HM.out.tb.cell 0 rfl
      have t1 : wr.cell? ⟨T, 1, none⟩ = some (.int .i64 (sec : Int)) := HM.out.tb.cell 1 rfl
      obtain ⟨τ, hRt, hjt, hev⟩ := HM.out.rest
      have HRT := hide hRt
      have HEV := hide hev
      rw [HSP.out] at HEV
      have hjt2 : τ.jk.size ≤ 140737488351232 := by rw [hjt]; exact HJ.out
      have HJT := hide hjt
      clear hRt hjt hev
      by_cases hlt : j < 3
      · have h3 : j = 0 ∨ j = 1 ∨ j = 2 := by omega
        rcases h3 with rfl | rfl | rfl
        · have kh : wr.cell? ⟨w.heap.size, 0, none⟩ = some (.bool (V 0).isSome) := HM.out.kb.cell 0 rfl
          have kv : wr.cell? ⟨w.heap.size, 3, none⟩ = some (.string (bs ((V 0).getD []))) := HM.out.kb.cell 3 rfl
          have hvl := HV.out 0 (by decide)
          rcases opt_two (V 0) with hVi | ⟨t, hVi⟩
          · rw [hVi] at kh kv
            have HE2 : Hid (eachR sp V 1 2 a τ = Y) := hide (by rw [← HEV.out]; exact (eachR_none hVi).symm)
            clear hVi
            go_wp2_with fail
            go_roundw
            case rel => exact ⟨1, a, by go_num, rfl, hide ⟨by omega, by omega, ⟨τ, HRT.out, HJT.out, by rw [HSP.out]; exact HE2.out⟩, HM.out.tb, HM.out.kb, HM.out.k3⟩⟩
            case measure => simp [intOf]
          · rw [hVi] at kh kv hvl
            have hvl2 : t.length ≤ 2000 := hvl
            have RC := record_any 0 (by decide) t hvl2 wr
            have HE2 : Hid (_ = Y) := hide ((eachR_some hVi).symm.trans HEV.out)
            have kv2 : wr.cell? ⟨w.heap.size, 3, none⟩ = some (.string (bs t)) := kv
            obtain ⟨pl, hpl⟩ : ∃ pl : Nat, (sp : Int) * 4096 + (a : Int) = (pl : Int) := ⟨sp * 4096 + a, by omega⟩
            have HPL : Hid (sp * 4096 + a = pl) := hide (by omega)
            rw [HPL.out] at HE2
            have hp1 : (sp : Int) * 4096 ≤ 4096 := by omega
            have PG := fun W hR => rprog_any W X D cap τ hR hjt2 (pl : Int) (by unfold I64; omega) (bs (recB 0 t))
            have HPJ := hide (progRR_jk τ (pl : Int) (bs (recB 0 t)))
            generalize progRR τ (pl : Int) (bs (recB 0 t)) = PR at *
            have hrl : (bs (recB 0 t)).size = 4 + t.length := by rw [bs_size, recB_length]
            generalize bs (recB 0 t) = rb at *
            generalize bs t = tb at *
            clear hVi kv hvl
            go_wp2_with fail
            refine RC.mono ?_
            rintro e w2 ⟨rfl, hb2⟩
            have t2 := (hb2.cell (p := ⟨T, 0, none⟩) HM.out.tb.lt).trans t0
            have HRT2 := hide (HRT.out.below hb2)
            have HT2 := hide (HM.out.tb.below hb2)
            have HK2 := hide (HM.out.kb.below hb2)
            have HK32 := hide (HM.out.k3.trans (K3.below hb2 X D T))
            clear hb2 RC
            go_wp2_with fail
            refine (PG _ HRT2.out).mono ?_
            rintro e w3 ⟨rfl, hR3, hk3⟩
            have HR3 := hide hR3
            have HT3 := hide (HT2.out.kept2 hk3 hTX hTD)
            have HK3 := hide (HK2.out.kept2 hk3 (by omega) (by omega))
            have HK33 := hide (HK32.out.trans (K3.of2 hk3 T))
            clear hR3 hk3 PG
            by_cases hp : PR.2 = 0
            · have hpb : (PR.2 != 0) = false := by rw [hp]; rfl
              have HE3 : Hid (eachR sp V 1 2 (a + (4 + t.length)) PR.1 = Y) := hide (by rw [← HE2.out, if_pos hp])
              generalize PR.2 = pe at *
              clear hp HE2
              go_wp2_with fail
              go_roundw
              case rel => exact ⟨1, a + (4 + t.length), by go_num, by go_num, hide ⟨by omega, by omega, ⟨PR.1, HR3.out, by rw [HPJ.out]; exact HJT.out, by rw [HSP.out]; exact HE3.out⟩, HT3.out, HK3.out, HK33.out⟩⟩
              case measure => simp [intOf]
            · have hpb : (PR.2 != 0) = true := by simpa using hp
              have HE3 : Hid (Y = (PR.1, a, PR.2)) := hide (by rw [← HE2.out, if_neg hp])
              have HMR := hide (HN2'.out (by rw [HE3.out]; exact hp))
              rw [HE3.out] at HMR
              generalize hev : PR.2 = pe at *
              go_wp2_with fail
              go_ret
              unfold MvEnd
              rw [HMR.out]
              exact ⟨rfl, HR3.out, fun h => absurd h hp, fun _ => HT3.out, HK33.out⟩
        · have kh : wr.cell? ⟨w.heap.size, 1, none⟩ = some (.bool (V 1).isSome) := HM.out.kb.cell 1 rfl
          have kv : wr.cell? ⟨w.heap.size, 4, none⟩ = some (.string (bs ((V 1).getD []))) := HM.out.kb.cell 4 rfl
          have hvl := HV.out 1 (by decide)
          rcases opt_two (V 1) with hVi | ⟨t, hVi⟩
          · rw [hVi] at kh kv
            have HE2 : Hid (eachR sp V 2 1 a τ = Y) := hide (by rw [← HEV.out]; exact (eachR_none hVi).symm)
            clear hVi
            go_wp2_with fail
            go_roundw
            case rel => exact ⟨2, a, by go_num, rfl, hide ⟨by omega, by omega, ⟨τ, HRT.out, HJT.out, by rw [HSP.out]; exact HE2.out⟩, HM.out.tb, HM.out.kb, HM.out.k3⟩⟩
            case measure => simp [intOf]
          · rw [hVi] at kh kv hvl
            have hvl2 : t.length ≤ 2000 := hvl
            have RC := record_any 1 (by decide) t hvl2 wr
            have HE2 : Hid (_ = Y) := hide ((eachR_some hVi).symm.trans HEV.out)
            have kv2 : wr.cell? ⟨w.heap.size, 4, none⟩ = some (.string (bs t)) := kv
            obtain ⟨pl, hpl⟩ : ∃ pl : Nat, (sp : Int) * 4096 + (a : Int) = (pl : Int) := ⟨sp * 4096 + a, by omega⟩
            have HPL : Hid (sp * 4096 + a = pl) := hide (by omega)
            rw [HPL.out] at HE2
            have hp1 : (sp : Int) * 4096 ≤ 4096 := by omega
            have PG := fun W hR => rprog_any W X D cap τ hR hjt2 (pl : Int) (by unfold I64; omega) (bs (recB 1 t))
            have HPJ := hide (progRR_jk τ (pl : Int) (bs (recB 1 t)))
            generalize progRR τ (pl : Int) (bs (recB 1 t)) = PR at *
            have hrl : (bs (recB 1 t)).size = 4 + t.length := by rw [bs_size, recB_length]
            generalize bs (recB 1 t) = rb at *
            generalize bs t = tb at *
            clear hVi kv hvl
            go_wp2_with fail
            refine RC.mono ?_
            rintro e w2 ⟨rfl, hb2⟩
            have t2 := (hb2.cell (p := ⟨T, 0, none⟩) HM.out.tb.lt).trans t0
            have HRT2 := hide (HRT.out.below hb2)
            have HT2 := hide (HM.out.tb.below hb2)
            have HK2 := hide (HM.out.kb.below hb2)
            have HK32 := hide (HM.out.k3.trans (K3.below hb2 X D T))
            clear hb2 RC
            go_wp2_with fail
            refine (PG _ HRT2.out).mono ?_
            rintro e w3 ⟨rfl, hR3, hk3⟩
            have HR3 := hide hR3
            have HT3 := hide (HT2.out.kept2 hk3 hTX hTD)
            have HK3 := hide (HK2.out.kept2 hk3 (by omega) (by omega))
            have HK33 := hide (HK32.out.trans (K3.of2 hk3 T))
            clear hR3 hk3 PG
            by_cases hp : PR.2 = 0
            · have hpb : (PR.2 != 0) = false := by rw [hp]; rfl
              have HE3 : Hid (eachR sp V 2 1 (a + (4 + t.length)) PR.1 = Y) := hide (by rw [← HE2.out, if_pos hp])
              generalize PR.2 = pe at *
              clear hp HE2
              go_wp2_with fail
              go_roundw
              case rel => exact ⟨2, a + (4 + t.length), by go_num, by go_num, hide ⟨by omega, by omega, ⟨PR.1, HR3.out, by rw [HPJ.out]; exact HJT.out, by rw [HSP.out]; exact HE3.out⟩, HT3.out, HK3.out, HK33.out⟩⟩
              case measure => simp [intOf]
            · have hpb : (PR.2 != 0) = true := by simpa using hp
              have HE3 : Hid (Y = (PR.1, a, PR.2)) := hide (by rw [← HE2.out, if_neg hp])
              have HMR := hide (HN2'.out (by rw [HE3.out]; exact hp))
              rw [HE3.out] at HMR
              generalize hev : PR.2 = pe at *
              go_wp2_with fail
              go_ret
              unfold MvEnd
              rw [HMR.out]
              exact ⟨rfl, HR3.out, fun h => absurd h hp, fun _ => HT3.out, HK33.out⟩
        · have kh : wr.cell? ⟨w.heap.size, 2, none⟩ = some (.bool (V 2).isSome) := HM.out.kb.cell 2 rfl
          have kv : wr.cell? ⟨w.heap.size, 5, none⟩ = some (.string (bs ((V 2).getD []))) := HM.out.kb.cell 5 rfl
          have hvl := HV.out 2 (by decide)
          rcases opt_two (V 2) with hVi | ⟨t, hVi⟩
          · rw [hVi] at kh kv
            have HE2 : Hid (eachR sp V 3 0 a τ = Y) := hide (by rw [← HEV.out]; exact (eachR_none hVi).symm)
            clear hVi
            go_wp2_with fail
            go_roundw
            case rel => exact ⟨3, a, by go_num, rfl, hide ⟨by omega, by omega, ⟨τ, HRT.out, HJT.out, by rw [HSP.out]; exact HE2.out⟩, HM.out.tb, HM.out.kb, HM.out.k3⟩⟩
            case measure => simp [intOf]
          · rw [hVi] at kh kv hvl
            have hvl2 : t.length ≤ 2000 := hvl
            have RC := record_any 2 (by decide) t hvl2 wr
            have HE2 : Hid (_ = Y) := hide ((eachR_some hVi).symm.trans HEV.out)
            have kv2 : wr.cell? ⟨w.heap.size, 5, none⟩ = some (.string (bs t)) := kv
            obtain ⟨pl, hpl⟩ : ∃ pl : Nat, (sp : Int) * 4096 + (a : Int) = (pl : Int) := ⟨sp * 4096 + a, by omega⟩
            have HPL : Hid (sp * 4096 + a = pl) := hide (by omega)
            rw [HPL.out] at HE2
            have hp1 : (sp : Int) * 4096 ≤ 4096 := by omega
            have PG := fun W hR => rprog_any W X D cap τ hR hjt2 (pl : Int) (by unfold I64; omega) (bs (recB 2 t))
            have HPJ := hide (progRR_jk τ (pl : Int) (bs (recB 2 t)))
            generalize progRR τ (pl : Int) (bs (recB 2 t)) = PR at *
            have hrl : (bs (recB 2 t)).size = 4 + t.length := by rw [bs_size, recB_length]
            generalize bs (recB 2 t) = rb at *
            generalize bs t = tb at *
            clear hVi kv hvl
            go_wp2_with fail
            refine RC.mono ?_
            rintro e w2 ⟨rfl, hb2⟩
            have t2 := (hb2.cell (p := ⟨T, 0, none⟩) HM.out.tb.lt).trans t0
            have HRT2 := hide (HRT.out.below hb2)
            have HT2 := hide (HM.out.tb.below hb2)
            have HK2 := hide (HM.out.kb.below hb2)
            have HK32 := hide (HM.out.k3.trans (K3.below hb2 X D T))
            clear hb2 RC
            go_wp2_with fail
            refine (PG _ HRT2.out).mono ?_
            rintro e w3 ⟨rfl, hR3, hk3⟩
            have HR3 := hide hR3
            have HT3 := hide (HT2.out.kept2 hk3 hTX hTD)
            have HK3 := hide (HK2.out.kept2 hk3 (by omega) (by omega))
            have HK33 := hide (HK32.out.trans (K3.of2 hk3 T))
            clear hR3 hk3 PG
            by_cases hp : PR.2 = 0
            · have hpb : (PR.2 != 0) = false := by rw [hp]; rfl
              have HE3 : Hid (eachR sp V 3 0 (a + (4 + t.length)) PR.1 = Y) := hide (by rw [← HE2.out, if_pos hp])
              generalize PR.2 = pe at *
              clear hp HE2
              go_wp2_with fail
              go_roundw
              case rel => exact ⟨3, a + (4 + t.length), by go_num, by go_num, hide ⟨by omega, by omega, ⟨PR.1, HR3.out, by rw [HPJ.out]; exact HJT.out, by rw [HSP.out]; exact HE3.out⟩, HT3.out, HK3.out, HK33.out⟩⟩
              case measure => simp [intOf]
            · have hpb : (PR.2 != 0) = true := by simpa using hp
              have HE3 : Hid (Y = (PR.1, a, PR.2)) := hide (by rw [← HE2.out, if_neg hp])
              have HMR := hide (HN2'.out (by rw [HE3.out]; exact hp))
              rw [HE3.out] at HMR
              generalize hev : PR.2 = pe at *
              go_wp2_with fail
              go_ret
              unfold MvEnd
              rw [HMR.out]
              exact ⟨rfl, HR3.out, fun h => absurd h hp, fun _ => HT3.out, HK33.out⟩
      · have hj3 : j = 3 := by omega
        have hjd : decide ((j : Int) < 3) = false := decide_eq_false (by omega)
        have HYE : Hid (Y = (τ, a, 0)) := hide (by rw [← HEV.out, hj3]; rfl)
        have HMR := hide (HY'.out (by rw [HYE.out]))
        rw [HYE.out] at HMR
        clear hj3 hlt
        obtain ⟨ps, hps⟩ : ∃ ps : Nat, (sp : Int) * 4096 = (ps : Int) := ⟨sp * 4096, by omega⟩
        obtain ⟨pc, hpc⟩ : ∃ pc : Nat, (sec : Int) * 4096 = (pc : Int) := ⟨sec * 4096, by omega⟩
        have HPS : Hid (sp * 4096 = ps) := hide (by omega)
        have HPC : Hid (sec * 4096 = pc) := hide (by omega)
        have hpcl : pc < 8192 := by omega
        rw [HPS.out, HPC.out] at HMR
        have NX := fun W => next_any (τ.C.getD pc 0) W
        have hcv := fun W => conv_one7 W (nxR (τ.C.getD pc 0))
        have PG := fun W hR => rprog_any W X D cap τ hR hjt2 (ps : Int) (by unfold I64; omega) (bs [nxR (τ.C.getD pc 0)])
        have cD : wr.cell? ⟨D, pc, none⟩ = some (.int .u8 ((τ.C.getD pc 0).toNat : Int)) := row_cell HRT.out.row pc (by rw [HRT.out.len]; exact hpcl)
        have cX : wr.cell? ⟨X, 0, none⟩ = some (.slice (some ⟨D, 0, none⟩) 8192 cap) := by
          have := HRT.out.blk
          rw [HRT.out.len] at this
          exact Bl.cell (t := 95) this 0 rfl
        have hcap : 8192 ≤ cap := by have := HRT.out.cle; rw [HRT.out.len] at this; exact this
        have hpi : (pc : Int) < 8192 := by omega
        generalize progRR τ (ps : Int) (bs [nxR (τ.C.getD pc 0)]) = PR at *
        generalize bs [nxR (τ.C.getD pc 0)] = nb at *
        generalize nxR (τ.C.getD pc 0) = nx at *
        generalize τ.C.getD pc 0 = cc at *
        go_wp2_with fail
        refine wp_region_held_drew (S := fun wx => wx.cell? ⟨T, 0, none⟩ = some (fp X) ∧ wx.cell? ⟨T, 1, none⟩ = some (.int .i64 (sec : Int)) ∧ wx.cell? ⟨X, 0, none⟩ = some (.slice (some ⟨D, 0, none⟩) 8192 cap)) (by kernel_rfl) (⟨t0, t1, cX⟩) (fun hHeld => ?_)
        refine takeQ (i := 0) (v := fp T) (d := some 55) rfl rfl (by kernel_rfl) (by kernel_rfl) (by kernel_rfl) (fun _ _ _ h => h) (Or.inl ⟨by rfl, fun wS ⟨hS0, hS1, hS2⟩ => by go_simp; all_goals (rw [IntKind.wrap_i64]; omega)⟩) (by assumption) ?_
        simp only [Act.put, List.setIfInBounds_toArray, List.set_cons_zero, List.set_cons_succ]
        refine takeQ (i := 1) (v := .pointer (some ⟨T, 0, none⟩)) (d := some 56) rfl rfl (by kernel_rfl) (by kernel_rfl) (by kernel_rfl) (fun _ _ _ h => h) (Or.inl ⟨by rfl, fun wS ⟨hS0, hS1, hS2⟩ => by go_simp; all_goals (rw [IntKind.wrap_i64]; omega)⟩) (by assumption) ?_
        simp only [Act.put, List.setIfInBounds_toArray, List.set_cons_zero, List.set_cons_succ]
        refine takeQ (i := 2) (v := .pointer (some ⟨T, 0, none⟩)) (d := some 57) rfl rfl (by kernel_rfl) (by kernel_rfl) (by kernel_rfl) (fun _ _ _ h => h) (Or.inl ⟨by rfl, fun wS ⟨hS0, hS1, hS2⟩ => by go_simp; all_goals (rw [IntKind.wrap_i64]; omega)⟩) (by assumption) ?_
        simp only [Act.put, List.setIfInBounds_toArray, List.set_cons_zero, List.set_cons_succ]
        refine takeQ (i := 3) (v := fp X) (d := some 58) rfl rfl (by kernel_rfl) (by kernel_rfl) (by kernel_rfl) (fun _ _ _ h => h) (Or.inl ⟨by rfl, fun wS ⟨hS0, hS1, hS2⟩ => by go_simp; all_goals (rw [IntKind.wrap_i64]; omega)⟩) (by assumption) ?_
        simp only [Act.put, List.setIfInBounds_toArray, List.set_cons_zero, List.set_cons_succ]
        refine takeQ (i := 4) (v := .int .i64 (sp : Int)) (d := some 59) rfl rfl (by kernel_rfl) (by kernel_rfl) (by kernel_rfl) (fun _ _ _ h => h) (Or.inl ⟨by rfl, fun wS ⟨hS0, hS1, hS2⟩ => by go_simp; all_goals (rw [IntKind.wrap_i64]; omega)⟩) (by assumption) ?_
        simp only [Act.put, List.setIfInBounds_toArray, List.set_cons_zero, List.set_cons_succ]
        refine takeQ (i := 5) (v := .int .i64 (ps : Int)) (d := some 60) rfl rfl (by kernel_rfl) (by kernel_rfl) (by kernel_rfl) (fun _ _ _ h => h) (Or.inl ⟨by rfl, fun wS ⟨hS0, hS1, hS2⟩ => by go_simp; all_goals (rw [IntKind.wrap_i64]; omega)⟩) (by assumption) ?_
        simp only [Act.put, List.setIfInBounds_toArray, List.set_cons_zero, List.set_cons_succ]
        refine takeQ (i := 6) (v := fp T) (d := some 61) rfl rfl (by kernel_rfl) (by kernel_rfl) (by kernel_rfl) (fun _ _ _ h => h) (Or.inl ⟨by rfl, fun wS ⟨hS0, hS1, hS2⟩ => by go_simp; all_goals (rw [IntKind.wrap_i64]; omega)⟩) (by assumption) ?_
        simp only [Act.put, List.setIfInBounds_toArray, List.set_cons_zero, List.set_cons_succ]
        refine takeQ (i := 7) (v := .pointer (some ⟨T, 0, none⟩)) (d := some 62) rfl rfl (by kernel_rfl) (by kernel_rfl) (by kernel_rfl) (fun _ _ _ h => h) (Or.inl ⟨by rfl, fun wS ⟨hS0, hS1, hS2⟩ => by go_simp; all_goals (rw [IntKind.wrap_i64]; omega)⟩) (by assumption) ?_
        simp only [Act.put, List.setIfInBounds_toArray, List.set_cons_zero, List.set_cons_succ]
        refine takeQ (i := 8) (v := .pointer (some ⟨T, 0, none⟩)) (d := some 63) rfl rfl (by kernel_rfl) (by kernel_rfl) (by kernel_rfl) (fun _ _ _ h => h) (Or.inl ⟨by rfl, fun wS ⟨hS0, hS1, hS2⟩ => by go_simp; all_goals (rw [IntKind.wrap_i64]; omega)⟩) (by assumption) ?_
        simp only [Act.put, List.setIfInBounds_toArray, List.set_cons_zero, List.set_cons_succ]
        refine takeQ (i := 9) (v := fp X) (d := some 64) rfl rfl (by kernel_rfl) (by kernel_rfl) (by kernel_rfl) (fun _ _ _ h => h) (Or.inl ⟨by rfl, fun wS ⟨hS0, hS1, hS2⟩ => by go_simp; all_goals (rw [IntKind.wrap_i64]; omega)⟩) (by assumption) ?_
        simp only [Act.put, List.setIfInBounds_toArray, List.set_cons_zero, List.set_cons_succ]
        refine takeQ (i := 10) (v := .pointer (some ⟨X, 0, none⟩)) (d := some 65) rfl rfl (by kernel_rfl) (by kernel_rfl) (by kernel_rfl) (fun _ _ _ h => h) (Or.inl ⟨by rfl, fun wS ⟨hS0, hS1, hS2⟩ => by go_simp; all_goals (rw [IntKind.wrap_i64]; omega)⟩) (by assumption) ?_
        simp only [Act.put, List.setIfInBounds_toArray, List.set_cons_zero, List.set_cons_succ]
        refine takeQ (i := 11) (v := .pointer (some ⟨X, 0, none⟩)) (d := some 66) rfl rfl (by kernel_rfl) (by kernel_rfl) (by kernel_rfl) (fun _ _ _ h => h) (Or.inl ⟨by rfl, fun wS ⟨hS0, hS1, hS2⟩ => by go_simp; all_goals (rw [IntKind.wrap_i64]; omega)⟩) (by assumption) ?_
        simp only [Act.put, List.setIfInBounds_toArray, List.set_cons_zero, List.set_cons_succ]
        refine takeQ (i := 12) (v := .slice (some ⟨D, 0, none⟩) 8192 cap) (d := some 67) rfl rfl (by kernel_rfl) (by kernel_rfl) (by kernel_rfl) (fun _ _ _ h => h) (Or.inl ⟨by rfl, fun wS ⟨hS0, hS1, hS2⟩ => by go_simp; all_goals (rw [IntKind.wrap_i64]; omega)⟩) (by assumption) ?_
        simp only [Act.put, List.setIfInBounds_toArray, List.set_cons_zero, List.set_cons_succ]
        refine takeQ (i := 13) (v := fp T) (d := some 68) rfl rfl (by kernel_rfl) (by kernel_rfl) (by kernel_rfl) (fun _ _ _ h => h) (Or.inl ⟨by rfl, fun wS ⟨hS0, hS1, hS2⟩ => by go_simp; all_goals (rw [IntKind.wrap_i64]; omega)⟩) (by assumption) ?_
        simp only [Act.put, List.setIfInBounds_toArray, List.set_cons_zero, List.set_cons_succ]
        refine takeQ (i := 14) (v := .pointer (some ⟨T, 0, none⟩)) (d := some 69) rfl rfl (by kernel_rfl) (by kernel_rfl) (by kernel_rfl) (fun _ _ _ h => h) (Or.inl ⟨by rfl, fun wS ⟨hS0, hS1, hS2⟩ => by go_simp; all_goals (rw [IntKind.wrap_i64]; omega)⟩) (by assumption) ?_
        simp only [Act.put, List.setIfInBounds_toArray, List.set_cons_zero, List.set_cons_succ]
        refine takeQ (i := 15) (v := .pointer (some ⟨T, 1, none⟩)) (d := some 70) rfl rfl (by kernel_rfl) (by kernel_rfl) (by kernel_rfl) (fun _ _ _ h => h) (Or.inl ⟨by rfl, fun wS ⟨hS0, hS1, hS2⟩ => by go_simp; all_goals (rw [IntKind.wrap_i64]; omega)⟩) (by assumption) ?_
        simp only [Act.put, List.setIfInBounds_toArray, List.set_cons_zero, List.set_cons_succ]
        refine takeQ (i := 16) (v := .int .i64 (sec : Int)) (d := some 71) rfl rfl (by kernel_rfl) (by kernel_rfl) (by kernel_rfl) (fun _ _ _ h => h) (Or.inl ⟨by rfl, fun wS ⟨hS0, hS1, hS2⟩ => by go_simp; all_goals (rw [IntKind.wrap_i64]; omega)⟩) (by assumption) ?_
        simp only [Act.put, List.setIfInBounds_toArray, List.set_cons_zero, List.set_cons_succ]
        refine takeQ (i := 17) (v := .int .i64 (pc : Int)) (d := some 72) rfl rfl (by kernel_rfl) (by kernel_rfl) (by kernel_rfl) (fun _ _ _ h => h) (Or.inl ⟨by rfl, fun wS ⟨hS0, hS1, hS2⟩ => by go_simp; all_goals (rw [IntKind.wrap_i64]; omega)⟩) (by assumption) ?_
        simp only [Act.put, List.setIfInBounds_toArray, List.set_cons_zero, List.set_cons_succ]
        refine takeQ (i := 18) (v := .pointer (some ⟨D, pc, none⟩)) (d := some 73) rfl rfl (by kernel_rfl) (by kernel_rfl) (by kernel_rfl) (fun _ _ _ h => h) (Or.inl ⟨by rfl, fun wS ⟨hS0, hS1, hS2⟩ => by go_simp; all_goals (rw [IntKind.wrap_i64]; omega)⟩) (by assumption) ?_
        simp only [Act.put, List.setIfInBounds_toArray, List.set_cons_zero, List.set_cons_succ]
        have cDd : wr.drew.cell? ⟨D, pc, none⟩ = some (.int .u8 (cc.toNat : Int)) := cD
        have HRd : Hid (Rf wr.drew X D cap τ) := hide HRT.out.drew
        have HTd : Hid (Bl wr.drew T (skC X (sec : Int) V0 en0 d0 st) 133) := hide HM.out.tb
        have HKd : Hid (Bl wr.drew w.heap.size (kpC V en dd) 131) := hide HM.out.kb
        have H3d : Hid (K3 X D T w wr.drew) := hide ⟨HM.out.k3.os, HM.out.k3.tape, HM.out.k3.output, HM.out.k3.size, HM.out.k3.block⟩
        obtain ⟨wd, hwd⟩ : ∃ wd, wr.drew = wd := ⟨_, rfl⟩
        rw [hwd] at hHeld cDd HRd HTd HKd H3d ⊢
        clear hwd t0 t1 cX cD HRT HM
        refine wpAnyH_ready (rs := [19]) (by kernel_rfl) (by simp) ?_
        refine AllReadyH.cons rfl (fun K hK => ?_) AllReadyH.nil
        go_simp
        refine hK.out _ _ hHeld (fun hHeld => ?_)
        clear hK K
        refine wpAnyH_ready (rs := [20]) (by kernel_rfl) (by simp) ?_
        refine AllReadyH.cons rfl (fun K hK => ?_) AllReadyH.nil
        go_simp
        refine (NX _).mono ?_
        rintro e w2 ⟨rfl, hw2⟩
        obtain rfl := hw2.symm
        refine hK.out _ _ hHeld (fun hHeld => ?_)
        clear hK K
        refine wpAnyH_ready (rs := [21]) (by kernel_rfl) (by simp) ?_
        refine AllReadyH.cons rfl (fun K hK => ?_) AllReadyH.nil
        go_simp
        have hA := below_alloc wd (.cells #[.int .u8 (nx.toNat : Int)] 5)
        have hcw := hcv wd
        have HR4 := hide (HRd.out.below hA)
        have HT4 := hide (HTd.out.below hA)
        have HK4 := hide (HKd.out.below hA)
        have HK34 := hide (H3d.out.trans (K3.below hA X D T))
        have q0 : (wd.alloc (.cells #[.int .u8 (nx.toNat : Int)] 5)).cell? ⟨T, 0, none⟩ = some (fp X) := HT4.out.cell 0 rfl
        have q1 : (wd.alloc (.cells #[.int .u8 (nx.toNat : Int)] 5)).cell? ⟨T, 1, none⟩ = some (.int .i64 (sec : Int)) := HT4.out.cell 1 rfl
        have q2 : (wd.alloc (.cells #[.int .u8 (nx.toNat : Int)] 5)).cell? ⟨X, 0, none⟩ = some (.slice (some ⟨D, 0, none⟩) 8192 cap) := by
          have := HR4.out.blk
          rw [HR4.out.len] at this
          exact Bl.cell (t := 95) this 0 rfl
        obtain ⟨w4, hw4⟩ : ∃ w4, wd.alloc (.cells #[.int .u8 (nx.toNat : Int)] 5) = w4 := ⟨_, rfl⟩
        rw [hw4] at hcw HR4 HT4 HK4 HK34 q0 q1 q2 ⊢
        clear hw4 hA hcv hHeld
        refine hK.out _ _ ⟨q0, q1, q2⟩ (fun hHeld => ?_)
        clear hK K
        refine wpAnyH_ready (rs := [22]) (by kernel_rfl) (by simp) ?_
        refine AllReadyH.cons rfl (fun K hK => ?_) AllReadyH.nil
        go_simp
        refine hK.out _ _ hHeld (fun hHeld => ?_)
        clear hK K
        refine wpAnyH_ready (rs := [23]) (by kernel_rfl) (by simp) ?_
        refine AllReadyH.cons rfl (fun K hK => ?_) AllReadyH.nil
        go_simp
        refine (PG _ HR4.out).mono ?_
        rintro e w5 ⟨rfl, hR5, hk5⟩
        have q0 : w5.cell? ⟨T, 0, none⟩ = some (fp X) := (HT4.out.kept2 hk5 hTX hTD).cell 0 rfl
        have q1 : w5.cell? ⟨T, 1, none⟩ = some (.int .i64 (sec : Int)) := (HT4.out.kept2 hk5 hTX hTD).cell 1 rfl
        have q2 : w5.cell? ⟨X, 0, none⟩ = some (.slice (some ⟨D, 0, none⟩) 8192 cap) := by
          have := hR5.blk
          rw [hR5.len] at this
          exact Bl.cell (t := 95) this 0 rfl
        clear hHeld
        refine hK.out _ _ ⟨q0, q1, q2⟩ (fun hHeld => ?_)
        clear hK K
        refine wpAnyH_ready (rs := [24]) (by kernel_rfl) (by simp) ?_
        refine AllReadyH.cons rfl (fun K hK => ?_) AllReadyH.nil
        go_simp
        refine hK.out _ _ hHeld (fun hHeld => ?_)
        clear hK K hHeld
        refine wpAnyH_done (by kernel_rfl) ?_ _
        have HT5 := hide (HT4.out.kept2 hk5 hTX hTD)
        have HK5 := hide (HK4.out.kept2 hk5 (by omega) (by omega))
        have HK35 := hide (HK34.out.trans (K3.of2 hk5 T))
        have HR5 := hide hR5
        clear hR5 hk5
        by_cases hp : PR.2 = 0
        · have hpb : (PR.2 != 0) = false := by rw [hp]; rfl
          have HP0 := hide hp
          have c0 := HK5.out.cell 0 (v := .bool (V 0).isSome) rfl
          have c1 := HK5.out.cell 1 (v := .bool (V 1).isSome) rfl
          have c2 := HK5.out.cell 2 (v := .bool (V 2).isSome) rfl
          have c3 := HK5.out.cell 3 (v := .string (bs ((V 0).getD []))) rfl
          have c4 := HK5.out.cell 4 (v := .string (bs ((V 1).getD []))) rfl
          have c5 := HK5.out.cell 5 (v := .string (bs ((V 2).getD []))) rfl
          have c6 := HK5.out.cell 6 (v := .int .i64 en) rfl
          have c7 := HK5.out.cell 7 (v := .bool dd) rfl
          have fk := HK5.out.fz
          have ft := HT5.out.fz
          have d1 := HT5.out.cell 1 (v := .int .i64 (sec : Int)) rfl
          have d2 := HT5.out.cell 2 (v := .bool (V0 0).isSome) rfl
          have d3 := HT5.out.cell 3 (v := .bool (V0 1).isSome) rfl
          have d4 := HT5.out.cell 4 (v := .bool (V0 2).isSome) rfl
          have d5 := HT5.out.cell 5 (v := .string (bs ((V0 0).getD []))) rfl
          have d6 := HT5.out.cell 6 (v := .string (bs ((V0 1).getD []))) rfl
          have d7 := HT5.out.cell 7 (v := .string (bs ((V0 2).getD []))) rfl
          have d8 := HT5.out.cell 8 (v := .int .i64 en0) rfl
          have d9 := HT5.out.cell 9 (v := .bool d0) rfl
          have hne : ¬ T = w.heap.size := by omega
          have hne2 : ¬ w.heap.size = T := by omega
          generalize PR.2 = pe at *
          clear hp
          go_wp2_with fail
          go_ret
          obtain ⟨z1, z2, z3⟩ := mv_fin (sp := sp) (V := V) (a := (a : Int)) HR5.out HT5.out HK35.out (B := w.heap.size) (Nat.le_refl _) (by omega) (by omega) (by omega) hTX hTD
          unfold MvEnd
          rw [HMR.out]
          refine ⟨by rw [HP0.out]; rfl, z1, fun _ => ?_, fun h => absurd HP0.out h, z3⟩
          rw [HSP.out]
          exact z2
        · have hpb : (PR.2 != 0) = true := by simpa using hp
          generalize hev : PR.2 = pe at *
          go_wp2_with fail
          go_ret
          unfold MvEnd
          rw [HMR.out]
          exact ⟨rfl, HR5.out, fun h => absurd h hp, fun _ => HT5.out, HK35.out⟩
  · have heb : (E1.2 != 0) = true := by simpa using he
    have HMR := hide (HN1.out he)
    generalize hev : E1.2 = ev at *
    have HEV := hide hev
    clear hev
    go_wp2_with fail
    go_ret
    unfold MvEnd
    rw [HMR.out]
    exact ⟨rfl, HR1.out, fun h => absurd h he, fun _ => HT1.out, HK31.out⟩
end Go.Proofs.Ytcjahdgppnmdkaa
set_option maxRecDepth 100000
namespace Go.Proofs.Ytcjahdgppnmdkaa
open Go.RowKit Go.Great
def form1 (ρ : St) : St × Int := if ρ.C.getD 4096 0 = 255 then (ρ, 0) else eraseRR ρ 1
def formR (ρ : St) : St × Int := if (form1 ρ).2 = 0 then (if (eraseRR (form1 ρ).1 0).2 = 0 then progRR (eraseRR (form1 ρ).1 0).1 0 (bs [15]) else eraseRR (form1 ρ).1 0) else form1 ρ
theorem form1_jk (ρ : St) : (form1 ρ).1.jk = ρ.jk := by
  unfold form1; split
  · rfl
  · exact eraseRR_jk ρ 1
theorem formR_jk (ρ : St) : (formR ρ).1.jk = ρ.jk := by
  unfold formR
  split
  · split
    · rw [progRR_jk, eraseRR_jk, form1_jk]
    · rw [eraseRR_jk, form1_jk]
  · exact form1_jk ρ
theorem Rf.x0 {w : World} {X D cap : Nat} {ρ : St} (h : Rf w X D cap ρ) : w.cell? ⟨X, 0, none⟩ = some (.slice (some ⟨D, 0, none⟩) 8192 cap) := by
  have := h.blk
  rw [h.len] at this
  exact Bl.cell (t := 95) this 0 rfl
theorem Rf.cap {w : World} {X D cap : Nat} {ρ : St} (h : Rf w X D cap ρ) : 8192 ≤ cap := by have := h.cle; rw [h.len] at this; exact this
/-- the second half of format -/
def form2 (ρ : St) : St × Int := if (eraseRR ρ 0).2 = 0 then progRR (eraseRR ρ 0).1 0 (bs [15]) else eraseRR ρ 0
theorem formR_eq (ρ : St) : formR ρ = if (form1 ρ).2 = 0 then form2 (form1 ρ).1 else form1 ρ := rfl
set_option maxRecDepth 100000 in
set_option maxHeartbeats 4000000 in
theorem rformat_any (w : World) (X D cap : Nat) (ρ : St) (hR : Rf w X D cap ρ) (hj : ρ.jk.size ≤ 140737488351232) : Calls Try.prog 66 #[fp X] w fun e w' => e = .returned (.int .i64 (formR ρ).2) ∧ Rf w' X D cap (formR ρ).1 ∧ Kept2 X D w w' := by
  have cX := hR.x0
  have hcap := hR.cap
  have cD := row_cell hR.row 4096 (by rw [hR.len]; omega)
  have E1 := rerase_any w X D cap ρ hR hj 1
  have E0 := fun W τ (h : Rf W X D cap τ) (hjj : τ.jk.size ≤ 140737488351232) => rerase_any W X D cap τ h hjj 0
  have P0 := fun W τ (h : Rf W X D cap τ) (hjj : τ.jk.size ≤ 140737488351232) => rprog_any W X D cap τ h hjj 0 (by unfold I64; omega) (bs [15])
  rw [show bs [15] = ⟨#[15]⟩ from rfl] at P0
  have HR := hide hR
  have HJ := hide hj
  have HF : Hid (formR ρ = if (form1 ρ).2 = 0 then form2 (form1 ρ).1 else form1 ρ) := rfl
  generalize formR ρ = FR at *
  clear hR hj
  by_cases hb : ρ.C.getD 4096 0 = 255
  · have hx : (((ρ.C.getD 4096 0).toNat : Int) != 255) = false := by rw [hb]; rfl
    have HF1 : Hid (FR = form2 ρ) := hide (by rw [HF.out]; unfold form1; rw [if_pos hb]; rfl)
    have EE := E0 w ρ HR.out HJ.out
    have HJE := hide (eraseRR_jk ρ 0)
    unfold form2 at HF1
    generalize eraseRR ρ 0 = X0 at *
    generalize ρ.C.getD 4096 0 = cc at *
    clear hb E1 HF
    by_cases he : X0.2 = 0
    · have heb : (X0.2 != 0) = false := by rw [he]; rfl
      rw [if_pos he] at HF1
      rw [HF1.out]
      have HJ0 : Hid (X0.1.jk.size ≤ 140737488351232) := hide (by rw [HJE.out]; exact HJ.out)
      have PP := fun W h => P0 W X0.1 h HJ0.out
      rw [show bs [15] = ⟨#[15]⟩ from rfl]
      generalize progRR X0.1 0 ⟨#[15]⟩ = Y0 at *
      generalize X0.2 = xe at *
      clear he E0 P0
      go_enter Try.func66, Try.ntmps66
      go_wp2_with fail
      refine EE.mono ?_
      rintro e w1 ⟨rfl, hR1, hk1⟩
      have PP1 := PP _ hR1
      clear EE PP cX cD
      go_wp2_with fail
      refine PP1.mono ?_
      rintro e w2 ⟨rfl, hR2, hk2⟩
      go_wp2_with fail
      go_ret
      exact ⟨rfl, hR2, hk1.trans hk2⟩
    · have heb : (X0.2 != 0) = true := by simpa using he
      rw [if_neg he] at HF1
      rw [HF1.out]
      generalize X0.2 = xe at *
      clear E0 P0
      go_enter Try.func66, Try.ntmps66
      go_wp2_with fail
      refine EE.mono ?_
      rintro e w1 ⟨rfl, hR1, hk1⟩
      go_wp2_with fail
      go_ret
      exact ⟨rfl, hR1, hk1⟩
  · have hx : (((ρ.C.getD 4096 0).toNat : Int) != 255) = true := by
      rw [bne, show ((255 : Int)) = (((255 : UInt8).toNat : Nat) : Int) from rfl, u8_eq]
      have : (ρ.C.getD 4096 0 == 255) = false := by simpa using hb
      rw [this]; rfl
    have HF1 : Hid (FR = if (eraseRR ρ 1).2 = 0 then form2 (eraseRR ρ 1).1 else eraseRR ρ 1) := hide (by rw [HF.out]; unfold form1; rw [if_neg hb])
    have HJ1 := hide (eraseRR_jk ρ 1)
    generalize eraseRR ρ 1 = X1 at *
    generalize ρ.C.getD 4096 0 = cc at *
    clear hb HF
    have HJX : Hid (X1.1.jk.size ≤ 140737488351232) := hide (by rw [HJ1.out]; exact HJ.out)
    by_cases he1 : X1.2 = 0
    · have heb1 : (X1.2 != 0) = false := by rw [he1]; rfl
      rw [if_pos he1] at HF1
      unfold form2 at HF1
      have EE := fun W h => E0 W X1.1 h HJX.out
      have HJE := hide (eraseRR_jk X1.1 0)
      generalize eraseRR X1.1 0 = X0 at *
      by_cases he : X0.2 = 0
      · have heb : (X0.2 != 0) = false := by rw [he]; rfl
        rw [if_pos he] at HF1
        rw [HF1.out]
        have HJ0 : Hid (X0.1.jk.size ≤ 140737488351232) := hide (by rw [HJE.out]; exact HJX.out)
        have PP := fun W h => P0 W X0.1 h HJ0.out
        rw [show bs [15] = ⟨#[15]⟩ from rfl]
        generalize progRR X0.1 0 ⟨#[15]⟩ = Y0 at *
        generalize X0.2 = xe at *
        generalize X1.2 = x1e at *
        clear he he1 E0 P0
        go_enter Try.func66, Try.ntmps66
        go_wp2_with fail
        refine E1.mono ?_
        rintro e w0 ⟨rfl, hR0, hk0⟩
        have EE1 := EE _ hR0
        clear E1 EE cX cD
        go_wp2_with fail
        refine EE1.mono ?_
        rintro e w1 ⟨rfl, hR1, hk1⟩
        have PP1 := PP _ hR1
        clear EE1 PP
        go_wp2_with fail
        refine PP1.mono ?_
        rintro e w2 ⟨rfl, hR2, hk2⟩
        go_wp2_with fail
        go_ret
        exact ⟨rfl, hR2, (hk0.trans hk1).trans hk2⟩
      · have heb : (X0.2 != 0) = true := by simpa using he
        rw [if_neg he] at HF1
        rw [HF1.out]
        generalize X0.2 = xe at *
        generalize X1.2 = x1e at *
        clear he1 E0 P0
        go_enter Try.func66, Try.ntmps66
        go_wp2_with fail
        refine E1.mono ?_
        rintro e w0 ⟨rfl, hR0, hk0⟩
        have EE1 := EE _ hR0
        clear E1 EE cX cD
        go_wp2_with fail
        refine EE1.mono ?_
        rintro e w1 ⟨rfl, hR1, hk1⟩
        go_wp2_with fail
        go_ret
        exact ⟨rfl, hR1, hk0.trans hk1⟩
    · have heb1 : (X1.2 != 0) = true := by simpa using he1
      rw [if_neg he1] at HF1
      rw [HF1.out]
      generalize X1.2 = x1e at *
      clear E0 P0
      go_enter Try.func66, Try.ntmps66
      go_wp2_with fail
      refine E1.mono ?_
      rintro e w0 ⟨rfl, hR0, hk0⟩
      go_wp2_with fail
      go_ret
      exact ⟨rfl, hR0, hk0⟩
theorem drewN_below (w : World) (n : Nat) : Below w.heap.size w (w.drewN n) := by
  induction n with
  | zero => exact Below.refl _ _
  | succ n ih => exact ih.drew
/-- what Get answers -/
def getR (V : Nat → Option (List UInt8)) (st : Bool) (id : Int) : Option (List UInt8) := if st = false ∧ 0 ≤ id ∧ id < 3 then V id.toNat else none
def gV (x : Option (List UInt8)) : Value := .tuple #[.string (bs (x.getD [])), .bool x.isSome]
set_option maxRecDepth 100000 in
set_option maxHeartbeats 4000000 in
theorem rget_any (w : World) (X T : Nat) (sec en : Int) (V : Nat → Option (List UInt8)) (d st : Bool) (hT : Bl w T (skC X sec V en d st) 133) (id : Int) : Calls Try.prog 46 #[fp T, .int .i64 id] w fun e w' => e = .returned (gV (getR V st id)) ∧ Below w.heap.size w w' := by
  have c10 := hT.cell 10 (v := .bool st) rfl
  have c2 := hT.cell 2 (v := .bool (V 0).isSome) rfl
  have c3 := hT.cell 3 (v := .bool (V 1).isSome) rfl
  have c4 := hT.cell 4 (v := .bool (V 2).isSome) rfl
  have c5 := hT.cell 5 (v := .string (bs ((V 0).getD []))) rfl
  have c6 := hT.cell 6 (v := .string (bs ((V 1).getD []))) rfl
  have c7 := hT.cell 7 (v := .string (bs ((V 2).getD []))) rfl
  by_cases h : st = false ∧ 0 ≤ id ∧ id < 3
  · have HG : Hid (getR V st id = V id.toNat) := hide (by unfold getR; rw [if_pos h])
    obtain ⟨rfl, h1, h2⟩ := h
    have h3 : id = 0 ∨ id = 1 ∨ id = 2 := by omega
    rcases h3 with rfl | rfl | rfl
    · rw [HG.out]
      go_enter Try.func46, Try.ntmps46
      go_wp2_with fail
      go_quiet (fail)
      go_wp2_with fail
      go_ret2
      exact ⟨rfl, drewN_below w nq⟩
    · rw [HG.out]
      go_enter Try.func46, Try.ntmps46
      go_wp2_with fail
      go_quiet (fail)
      go_wp2_with fail
      go_ret2
      exact ⟨rfl, drewN_below w nq⟩
    · rw [HG.out]
      go_enter Try.func46, Try.ntmps46
      go_wp2_with fail
      go_quiet (fail)
      go_wp2_with fail
      go_ret2
      exact ⟨rfl, drewN_below w nq⟩
  · have HG : Hid (getR V st id = none) := hide (by unfold getR; rw [if_neg h])
    rw [HG.out]
    cases st with
    | true =>
      go_enter Try.func46, Try.ntmps46
      go_wp2_with fail
      go_ret2
      exact ⟨rfl, Below.refl _ _⟩
    | false =>
      have h2 : id < 0 ∨ (0 ≤ id ∧ 2 < id) := by
        have : ¬ (0 ≤ id ∧ id < 3) := fun hh => h ⟨rfl, hh⟩
        omega
      clear h
      rcases h2 with h2 | ⟨h3, h2⟩
      · go_enter Try.func46, Try.ntmps46
        go_wp2_with fail
        go_ret2
        exact ⟨rfl, Below.refl _ _⟩
      · go_enter Try.func46, Try.ntmps46
        go_wp2_with fail
        go_ret2
        exact ⟨rfl, Below.refl _ _⟩
end Go.Proofs.Ytcjahdgppnmdkaa
set_option maxRecDepth 100000
namespace Go.Proofs.Ytcjahdgppnmdkaa
open Go.RowKit Go.Great
abbrev Kpt := Nat × (Nat → Option (List UInt8)) × Nat
def bootA (ρ : St) (sec : Nat) (R : (Nat → Option (List UInt8)) × Nat × Bool) : St × Option Kpt × Int :=
  if R.2.2 = false then ((moveR ρ sec R.1).1, if (moveR ρ sec R.1).2.2 = 0 then some (1 - sec, R.1, (moveR ρ sec R.1).2.1) else none, (moveR ρ sec R.1).2.2)
  else if ρ.C.getD ((1 - sec) * 4096) 0 ≠ 255 ∧ cdB (ρ.C.getD ((1 - sec) * 4096) 0) = false then ((eraseRR ρ ((1 - sec : Nat) : Int)).1, if (eraseRR ρ ((1 - sec : Nat) : Int)).2 = 0 then some (sec, R.1, R.2.1) else none, (eraseRR ρ ((1 - sec : Nat) : Int)).2)
  else (ρ, some (sec, R.1, R.2.1), 0)
/-- what Boot leaves: the flash, a store (its sector, its values, its end), an error's number -/
def bootR (ρ : St) : St × Option Kpt × Int :=
  if ρ.off then (ρ, none, 60)
  else if acR (ρ.C.getD 0 0) (ρ.C.getD 4096 0) < 0 then ((formR ρ).1, if (formR ρ).2 = 0 then some (0, noneV, 1) else none, (formR ρ).2)
  else bootA ρ (acR (ρ.C.getD 0 0) (ρ.C.getD 4096 0)).toNat (rdV (secL ρ.C (acR (ρ.C.getD 0 0) (ρ.C.getD 4096 0)).toNat) 4096 1 noneV)
def BtEnd (x : St × Option Kpt × Int) (X D cap : Nat) (w : World) (e : Ending) (w' : World) : Prop :=
  ∃ T, e = .returned (.tuple #[if x.2.1.isSome then fp T else .pointer none, .int .i64 x.2.2]) ∧ Rf w' X D cap x.1 ∧ (∀ k, x.2.1 = some k → Bl w' T (skC X (k.1 : Int) k.2.1 (k.2.2 : Int) false false) 133) ∧ w.heap.size ≤ T ∧ Kept2 X D w w'
theorem acR_range (a b : UInt8) : acR a b = -1 ∨ acR a b = 0 ∨ acR a b = 1 := by
  unfold acR
  split
  · split
    · exact .inr (.inr rfl)
    · exact .inr (.inl rfl)
  · split
    · exact .inr (.inl rfl)
    · split
      · exact .inr (.inr rfl)
      · exact .inl rfl
/-- values that were read are not longer than may be -/
theorem rdV_len (l : List UInt8) : ∀ (f a : Nat) (V : Nat → Option (List UInt8)), (∀ i, ((V i).getD []).length ≤ 2000) → ∀ i, (((rdV l f a V).1 i).getD []).length ≤ 2000
  | 0, _, V, h, i => h i
  | f + 1, a, V, h, i => by
    rw [rdV]
    by_cases h1 : blankB l a = true
    · rw [if_pos h1]; exact h i
    · rw [if_neg h1]
      by_cases h2 : wholeB l a = true
      · rw [if_pos h2]
        refine rdV_len l f _ _ (fun j => ?_) i
        unfold upV
        split
        · have := (wholeB_true h2).2.2.1
          show ((l.drop (a + 3)).take (lenAt l a)).length ≤ 2000
          rw [List.length_take]; omega
        · exact h j
      · rw [if_neg h2]; exact h i
theorem noneV_len (i : Nat) : ((noneV i).getD []).length ≤ 2000 := by simp [noneV]
theorem Rf.c1' {w : World} {X D cap : Nat} {ρ : St} (h : Rf w X D cap ρ) : w.cell? ⟨X, 1, none⟩ = some (.bool ρ.off) := Bl.cell (t := 95) h.blk 1 rfl
theorem K3.to2 {X D T : Nat} {w w1 : World} (h : K3 X D T w w1) (hT : w.heap.size ≤ T) : Kept2 X D w w1 := ⟨h.os, h.tape, h.output, h.size, fun k hk h1 h2 => h.block k hk h1 h2 (by omega)⟩
theorem Kept2.of_below {X D : Nat} {w w1 : World} (h : Below w.heap.size w w1) : Kept2 X D w w1 := ⟨h.os, h.tape, h.output, h.size, fun k hk _ _ => h.block k hk⟩
set_option maxRecDepth 100000 in
set_option maxHeartbeats 4000000 in
theorem rboot_any (w : World) (X D cap : Nat) (ρ : St) (hR : Rf w X D cap ρ) (hj : ρ.jk.size ≤ 140737488351232) : Calls Try.prog 41 #[fp X] w fun e w' => BtEnd (bootR ρ) X D cap w e w' := by
  have c1 := hR.c1'
  have HB : Hid (bootR ρ = if ρ.off then (ρ, none, 60) else if acR (ρ.C.getD 0 0) (ρ.C.getD 4096 0) < 0 then ((formR ρ).1, if (formR ρ).2 = 0 then some (0, noneV, 1) else none, (formR ρ).2) else bootA ρ (acR (ρ.C.getD 0 0) (ρ.C.getD 4096 0)).toNat (rdV (secL ρ.C (acR (ρ.C.getD 0 0) (ρ.C.getD 4096 0)).toNat) 4096 1 noneV)) := rfl
  generalize bootR ρ = BR at *
  have HR := hide hR
  have HJ := hide hj
  have hXl := hR.ltX
  have hDl := hR.lt
  cases ho : ρ.off with
  | true =>
    rw [ho] at c1 HB
    rw [HB.out]
    clear HB ho hj hR
    go_enter Try.func41, Try.ntmps41
    go_wp2_with fail
    go_ret2
    exact ⟨w.heap.size, rfl, HR.out, (fun k h => by cases h), Nat.le_refl _, Kept2.refl _ _ _⟩
  | false =>
    rw [ho] at c1 HB
    have IM := rimage_any w X D cap ρ hR
    have AC := fun W => active_any ρ.C hR.len W
    have HLEN := hide hR.len
    have hac := acR_range (ρ.C.getD 0 0) (ρ.C.getD 4096 0)
    have HB2 : Hid (BR = if acR (ρ.C.getD 0 0) (ρ.C.getD 4096 0) < 0 then ((formR ρ).1, if (formR ρ).2 = 0 then some (0, noneV, 1) else none, (formR ρ).2) else bootA ρ (acR (ρ.C.getD 0 0) (ρ.C.getD 4096 0)).toNat (rdV (secL ρ.C (acR (ρ.C.getD 0 0) (ρ.C.getD 4096 0)).toNat) 4096 1 noneV)) := hide (by rw [HB.out]; rfl)
    generalize acR (ρ.C.getD 0 0) (ρ.C.getD 4096 0) = A at *
    obtain ⟨im, HIM⟩ : ∃ im, Hid (bs ρ.C = im) := ⟨_, rfl⟩
    rw [HIM.out] at IM AC
    clear HB ho hj hR
    by_cases hneg : A < 0
    · rw [if_pos hneg] at HB2
      rw [HB2.out]
      have FM := rformat_any w X D cap ρ HR.out HJ.out
      generalize formR ρ = FR at *
      by_cases hf : FR.2 = 0
      · have hfb : (FR.2 != 0) = false := by rw [hf]; rfl
        have HF0 := hide hf
        rw [if_pos hf]
        generalize hfe : FR.2 = fe at *
        clear hf hfe
        go_enter Try.func41, Try.ntmps41
        go_wp2_with fail
        refine IM.mono ?_
        rintro e w1 ⟨rfl, hw1⟩
        obtain rfl := hw1.symm
        go_wp2_with fail
        refine (AC _).mono ?_
        rintro e w1 ⟨rfl, hw1⟩
        obtain rfl := hw1.symm
        go_wp2_with fail
        refine FM.mono ?_
        rintro e w2 ⟨rfl, hR2, hk2⟩
        go_wp2_with fail
        go_ret2
        refine ⟨w2.heap.size, by rw [HF0.out]; rfl, hR2.below (below_alloc _ _), (fun k h => ?_), hk2.size, hk2.trans (Kept2.of_below (below_alloc _ _))⟩
        injection h with h
        subst h
        exact Bl.new _ _ _
      · have hfb : (FR.2 != 0) = true := by simpa using hf
        rw [if_neg hf]
        generalize hfe : FR.2 = fe at *
        clear hfe
        go_enter Try.func41, Try.ntmps41
        go_wp2_with fail
        refine IM.mono ?_
        rintro e w1 ⟨rfl, hw1⟩
        obtain rfl := hw1.symm
        go_wp2_with fail
        refine (AC _).mono ?_
        rintro e w1 ⟨rfl, hw1⟩
        obtain rfl := hw1.symm
        go_wp2_with fail
        refine FM.mono ?_
        rintro e w2 ⟨rfl, hR2, hk2⟩
        go_wp2_with fail
        go_ret2
        exact ⟨w2.heap.size, rfl, hR2, (fun k h => by cases h), hk2.size, hk2⟩
    · rw [if_neg hneg] at HB2
      obtain ⟨sec, hsec, hs2⟩ : ∃ sec : Nat, A = (sec : Int) ∧ sec < 2 := ⟨A.toNat, by omega, by omega⟩
      subst hsec
      rw [show ((sec : Int)).toNat = sec by omega] at HB2
      have hsl8 : (secL ρ.C sec).length = 4096 := by unfold secL; rw [List.length_take, List.length_drop, HLEN.out]; omega
      have RD := fun W => readS_any (secL ρ.C sec) hsl8 W
      have HLV := hide (rdV_len (secL ρ.C sec) 4096 1 noneV noneV_len)
      generalize rdV (secL ρ.C sec) 4096 1 noneV = R at *
      obtain ⟨pa, hpa⟩ : ∃ pa : Nat, (sec : Int) * 4096 = (pa : Int) := ⟨sec * 4096, by omega⟩
      obtain ⟨s1, hs1⟩ : ∃ s1 : Nat, (sec : Int) + 1 = (s1 : Int) := ⟨sec + 1, by omega⟩
      obtain ⟨pb, hpb⟩ : ∃ pb : Nat, (s1 : Int) * 4096 = (pb : Int) := ⟨s1 * 4096, by omega⟩
      obtain ⟨sp, hsp⟩ : ∃ sp : Nat, (1 : Int) - (sec : Int) = (sp : Int) := ⟨1 - sec, by omega⟩
      obtain ⟨pf, hpf⟩ : ∃ pf : Nat, (sp : Int) * 4096 = (pf : Int) := ⟨sp * 4096, by omega⟩
      have hsz : im.size = 8192 := by rw [← HIM.out, bs_size, HLEN.out]
      have hsl : ∀ wx, (Instr.slice 9 (.string im) (some (.int .i64 (pa : Int))) (some (.int .i64 (pb : Int))) none).run Try.prog wx = .ok (.string (bs (secL ρ.C sec))) wx := fun wx => by
        rw [cut_run im pa pb (by omega) (by omega) wx, ← HIM.out, extQ]
        unfold secL
        rw [show pb - pa = 4096 by omega, show pa = sec * 4096 by omega]
      have gpf : pf < im.size := by omega
      have HFF : Hid (im[pf] = ρ.C.getD pf 0) := hide (by
        have := getD_bs ρ.C pf (by rw [HIM.out]; exact gpf)
        simp only [HIM.out] at this
        exact this)
      have hpfi : (pf : Int) < (im.size : Int) := by omega
      have HSP : Hid (1 - sec = sp) := hide (by omega)
      have HPF : Hid (sp * 4096 = pf) := hide (by omega)
      have hsp2 : sp < 2 := by omega
      generalize bs (secL ρ.C sec) = ts at *
      have HBA : Hid (BR = bootA ρ sec R) := HB2
      unfold bootA at HBA
      rw [HSP.out, HPF.out] at HBA
      have RM := fun W T (hr : Rf W X D cap ρ) hT h1 h2 => rmove_any W X D cap T ρ hr HJ.out sec hs2 R.1 R.1 (R.2.1 : Nat) (R.2.1 : Nat) (!R.2.2) (!R.2.2) false hT h1 h2 (fun i _ => HLV.out i)
      have ER := fun W hr => rerase_any W X D cap ρ hr HJ.out (sp : Int)
      unfold kpC at RD RM
      have CO := fun W => code_any (ρ.C.getD pf 0) W
      clear HB2 hac hneg
      cases hcl : R.2.2 with
      | false =>
        rw [if_pos hcl] at HBA
        rw [HBA.out]
        generalize hMM : moveR ρ sec R.1 = MM at *
        have HCL := hide hcl
        rw [show (!R.2.2) = true by rw [hcl]; rfl] at RD RM
        obtain ⟨m1, m2, me⟩ := MM
        by_cases hm : me = 0
        · have hmb : (me != 0) = false := by rw [hm]; rfl
          have HM0 := hide hm
          rw [if_pos (show (m1, m2, me).2.2 = 0 from hm)]
          clear hm
          go_enter Try.func41, Try.ntmps41
          go_wp2_with fail
          refine IM.mono ?_
          rintro e w1 ⟨rfl, hw1⟩
          obtain rfl := hw1.symm
          go_wp2_with fail
          refine (AC _).mono ?_
          rintro e w1 ⟨rfl, hw1⟩
          obtain rfl := hw1.symm
          go_wp2_with fail
          refine (RD _).mono ?_
          rintro e w2 ⟨rfl, hb2⟩
          have hR2 := HR.out.below hb2
          have hA := below_alloc w2 (.cells (skC X (sec : Int) R.1 (R.2.1 : Nat) true false) 133)
          have hT3 := Bl.new w2 (skC X (sec : Int) R.1 (R.2.1 : Nat) true false) 133
          have hz2 := hb2.size
          obtain ⟨w3, hw3⟩ : ∃ w3, w2.alloc (.cells (skC X (sec : Int) R.1 (R.2.1 : Nat) true false) 133) = w3 := ⟨_, rfl⟩
          rw [hw3] at hA hT3
          have hR3 := hR2.below hA
          have HB3 := hide (below_next hb2 (Nat.le_refl _) hA)
          have HT3 := hide hT3
          have HR3 := hide hR3
          unfold skC at hw3
          clear hb2 hR2 hA hR3
          generalize hTT : w2.heap.size = T at *
          have hT1 : T < w3.heap.size := HT3.out.lt
          have q0 := HT3.out.cell 2 (v := .bool (R.1 0).isSome) rfl
          have q1 := HT3.out.cell 3 (v := .bool (R.1 1).isSome) rfl
          have q2 := HT3.out.cell 4 (v := .bool (R.1 2).isSome) rfl
          have q3 := HT3.out.cell 5 (v := .string (bs ((R.1 0).getD []))) rfl
          have q4 := HT3.out.cell 6 (v := .string (bs ((R.1 1).getD []))) rfl
          have q5 := HT3.out.cell 7 (v := .string (bs ((R.1 2).getD []))) rfl
          have q6 := HT3.out.cell 8 (v := .int .i64 (R.2.1 : Nat)) rfl
          have q7 := HT3.out.cell 9 (v := .bool true) rfl
          have RMM := RM w3 T HR3.out HT3.out (by omega) (by omega)
          clear RM
          go_wp2_with fail
          refine RMM.mono ?_
          rintro e w4 ⟨rfl, hR4, hY, hN, hk4⟩
          have HY4 := hide hY
          have HN4 := hide hN
          have HK4 : Hid (Kept2 X D w w4) := hide (((K3.below HB3.out X D T).trans hk4).to2 (by omega))
          have HR4 := hide hR4
          clear hY hN hk4 hR4 RMM
          have HTE := hide (HY4.out HM0.out)
          clear q0 q1 q2 q3 q4 q5 q6 q7
          go_wp2_with fail
          go_ret2
          refine ⟨T, by rw [HM0.out]; rfl, HR4.out, (fun k h => ?_), by omega, HK4.out⟩
          injection h with h
          subst h
          have := HTE.out
          rw [HSP.out] at this
          exact this
        · have hmb : (me != 0) = true := by simpa using hm
          rw [if_neg (show ¬ (m1, m2, me).2.2 = 0 from hm)]
          clear hm
          go_enter Try.func41, Try.ntmps41
          go_wp2_with fail
          refine IM.mono ?_
          rintro e w1 ⟨rfl, hw1⟩
          obtain rfl := hw1.symm
          go_wp2_with fail
          refine (AC _).mono ?_
          rintro e w1 ⟨rfl, hw1⟩
          obtain rfl := hw1.symm
          go_wp2_with fail
          refine (RD _).mono ?_
          rintro e w2 ⟨rfl, hb2⟩
          have hR2 := HR.out.below hb2
          have hA := below_alloc w2 (.cells (skC X (sec : Int) R.1 (R.2.1 : Nat) true false) 133)
          have hT3 := Bl.new w2 (skC X (sec : Int) R.1 (R.2.1 : Nat) true false) 133
          have hz2 := hb2.size
          obtain ⟨w3, hw3⟩ : ∃ w3, w2.alloc (.cells (skC X (sec : Int) R.1 (R.2.1 : Nat) true false) 133) = w3 := ⟨_, rfl⟩
          rw [hw3] at hA hT3
          have hR3 := hR2.below hA
          have HB3 := hide (below_next hb2 (Nat.le_refl _) hA)
          have HT3 := hide hT3
          have HR3 := hide hR3
          unfold skC at hw3
          clear hb2 hR2 hA hR3
          generalize hTT : w2.heap.size = T at *
          have hT1 : T < w3.heap.size := HT3.out.lt
          have q0 := HT3.out.cell 2 (v := .bool (R.1 0).isSome) rfl
          have q1 := HT3.out.cell 3 (v := .bool (R.1 1).isSome) rfl
          have q2 := HT3.out.cell 4 (v := .bool (R.1 2).isSome) rfl
          have q3 := HT3.out.cell 5 (v := .string (bs ((R.1 0).getD []))) rfl
          have q4 := HT3.out.cell 6 (v := .string (bs ((R.1 1).getD []))) rfl
          have q5 := HT3.out.cell 7 (v := .string (bs ((R.1 2).getD []))) rfl
          have q6 := HT3.out.cell 8 (v := .int .i64 (R.2.1 : Nat)) rfl
          have q7 := HT3.out.cell 9 (v := .bool true) rfl
          have RMM := RM w3 T HR3.out HT3.out (by omega) (by omega)
          clear RM
          go_wp2_with fail
          refine RMM.mono ?_
          rintro e w4 ⟨rfl, hR4, hY, hN, hk4⟩
          have HY4 := hide hY
          have HN4 := hide hN
          have HK4 : Hid (Kept2 X D w w4) := hide (((K3.below HB3.out X D T).trans hk4).to2 (by omega))
          have HR4 := hide hR4
          clear hY hN hk4 hR4 RMM
          clear q0 q1 q2 q3 q4 q5 q6 q7
          go_wp2_with fail
          go_ret2
          exact ⟨T, rfl, HR4.out, (fun k h => by cases h), by omega, HK4.out⟩
      | true =>
        rw [if_neg (by rw [hcl]; decide)] at HBA
        have HCL := hide hcl
        rw [show (!R.2.2) = false by rw [hcl]; rfl] at RD
        by_cases hff : ρ.C.getD pf 0 = 255
        · have hfb : ((im[pf].toNat : Int) != 255) = false := by rw [HFF.out, hff]; rfl
          rw [if_neg (fun h => h.1 hff)] at HBA
          rw [HBA.out]
          clear hff RM
          go_enter Try.func41, Try.ntmps41
          go_wp2_with fail
          refine IM.mono ?_
          rintro e w1 ⟨rfl, hw1⟩
          obtain rfl := hw1.symm
          go_wp2_with fail
          refine (AC _).mono ?_
          rintro e w1 ⟨rfl, hw1⟩
          obtain rfl := hw1.symm
          go_wp2_with fail
          refine (RD _).mono ?_
          rintro e w2 ⟨rfl, hb2⟩
          have hR2 := HR.out.below hb2
          have hA := below_alloc w2 (.cells (skC X (sec : Int) R.1 (R.2.1 : Nat) false false) 133)
          have hT3 := Bl.new w2 (skC X (sec : Int) R.1 (R.2.1 : Nat) false false) 133
          have hz2 := hb2.size
          obtain ⟨w3, hw3⟩ : ∃ w3, w2.alloc (.cells (skC X (sec : Int) R.1 (R.2.1 : Nat) false false) 133) = w3 := ⟨_, rfl⟩
          rw [hw3] at hA hT3
          have hR3 := hR2.below hA
          have HB3 := hide (below_next hb2 (Nat.le_refl _) hA)
          have HT3 := hide hT3
          have HR3 := hide hR3
          unfold skC at hw3
          clear hb2 hR2 hA hR3
          generalize hTT : w2.heap.size = T at *
          have hT1 : T < w3.heap.size := HT3.out.lt
          have q7 := HT3.out.cell 9 (v := .bool false) rfl
          go_wp2_with fail
          go_ret2
          refine ⟨T, rfl, HR3.out, (fun k h => ?_), by omega, Kept2.of_below HB3.out⟩
          injection h with h
          subst h
          exact HT3.out
        · have hfb : ((im[pf].toNat : Int) != 255) = true := by
            rw [HFF.out, bne, show ((255 : Int)) = (((255 : UInt8).toNat : Nat) : Int) from rfl, u8_eq]
            have : (ρ.C.getD pf 0 == 255) = false := by simpa using hff
            rw [this]; rfl
          rw [← HFF.out] at CO
          cases hcd : cdB (ρ.C.getD pf 0) with
          | true =>
            rw [if_neg (by rw [hcd]; exact fun h => by cases h.2)] at HBA
            rw [HBA.out]
            rw [HFF.out, hcd] at CO
            rw [← HFF.out] at CO
            clear hff RM hcd
            go_enter Try.func41, Try.ntmps41
            go_wp2_with fail
            refine IM.mono ?_
            rintro e w1 ⟨rfl, hw1⟩
            obtain rfl := hw1.symm
            go_wp2_with fail
            refine (AC _).mono ?_
            rintro e w1 ⟨rfl, hw1⟩
            obtain rfl := hw1.symm
            go_wp2_with fail
            refine (RD _).mono ?_
            rintro e w2 ⟨rfl, hb2⟩
            have hR2 := HR.out.below hb2
            have hA := below_alloc w2 (.cells (skC X (sec : Int) R.1 (R.2.1 : Nat) false false) 133)
            have hT3 := Bl.new w2 (skC X (sec : Int) R.1 (R.2.1 : Nat) false false) 133
            have hz2 := hb2.size
            obtain ⟨w3, hw3⟩ : ∃ w3, w2.alloc (.cells (skC X (sec : Int) R.1 (R.2.1 : Nat) false false) 133) = w3 := ⟨_, rfl⟩
            rw [hw3] at hA hT3
            have hR3 := hR2.below hA
            have HB3 := hide (below_next hb2 (Nat.le_refl _) hA)
            have HT3 := hide hT3
            have HR3 := hide hR3
            unfold skC at hw3
            clear hb2 hR2 hA hR3
            generalize hTT : w2.heap.size = T at *
            have hT1 : T < w3.heap.size := HT3.out.lt
            have q7 := HT3.out.cell 9 (v := .bool false) rfl
            go_wp2_with fail
            refine (CO _).mono ?_
            rintro e w4 ⟨rfl, hw4⟩
            obtain rfl := hw4.symm
            go_wp2_with fail
            go_ret2
            refine ⟨T, rfl, HR3.out, (fun k h => ?_), by omega, Kept2.of_below HB3.out⟩
            injection h with h
            subst h
            exact HT3.out
          | false =>
            rw [if_pos ⟨hff, hcd⟩] at HBA
            rw [HBA.out]
            rw [HFF.out, hcd] at CO
            rw [← HFF.out] at CO
            generalize eraseRR ρ (sp : Int) = EE at *
            clear hff RM hcd
            by_cases he : EE.2 = 0
            · have heb : (EE.2 != 0) = false := by rw [he]; rfl
              have HE0 := hide he
              rw [if_pos he]
              generalize hee : EE.2 = ee at *
              clear he hee
              go_enter Try.func41, Try.ntmps41
              go_wp2_with fail
              refine IM.mono ?_
              rintro e w1 ⟨rfl, hw1⟩
              obtain rfl := hw1.symm
              go_wp2_with fail
              refine (AC _).mono ?_
              rintro e w1 ⟨rfl, hw1⟩
              obtain rfl := hw1.symm
              go_wp2_with fail
              refine (RD _).mono ?_
              rintro e w2 ⟨rfl, hb2⟩
              have hR2 := HR.out.below hb2
              have hA := below_alloc w2 (.cells (skC X (sec : Int) R.1 (R.2.1 : Nat) false false) 133)
              have hT3 := Bl.new w2 (skC X (sec : Int) R.1 (R.2.1 : Nat) false false) 133
              have hz2 := hb2.size
              obtain ⟨w3, hw3⟩ : ∃ w3, w2.alloc (.cells (skC X (sec : Int) R.1 (R.2.1 : Nat) false false) 133) = w3 := ⟨_, rfl⟩
              rw [hw3] at hA hT3
              have hR3 := hR2.below hA
              have HB3 := hide (below_next hb2 (Nat.le_refl _) hA)
              have HT3 := hide hT3
              have HR3 := hide hR3
              unfold skC at hw3
              clear hb2 hR2 hA hR3
              generalize hTT : w2.heap.size = T at *
              have hT1 : T < w3.heap.size := HT3.out.lt
              have q7 := HT3.out.cell 9 (v := .bool false) rfl
              have EEE := ER w3 HR3.out
              clear ER
              go_wp2_with fail
              refine (CO _).mono ?_
              rintro e w4 ⟨rfl, hw4⟩
              obtain rfl := hw4.symm
              go_wp2_with fail
              refine EEE.mono ?_
              rintro e w5 ⟨rfl, hR5, hk5⟩
              go_wp2_with fail
              go_ret2
              refine ⟨T, by rw [HE0.out]; rfl, hR5, (fun k h => ?_), by omega, (Kept2.of_below HB3.out).trans hk5⟩
              injection h with h
              subst h
              exact HT3.out.kept2 hk5 (by omega) (by omega)
            · have heb : (EE.2 != 0) = true := by simpa using he
              rw [if_neg he]
              generalize hee : EE.2 = ee at *
              clear hee
              go_enter Try.func41, Try.ntmps41
              go_wp2_with fail
              refine IM.mono ?_
              rintro e w1 ⟨rfl, hw1⟩
              obtain rfl := hw1.symm
              go_wp2_with fail
              refine (AC _).mono ?_
              rintro e w1 ⟨rfl, hw1⟩
              obtain rfl := hw1.symm
              go_wp2_with fail
              refine (RD _).mono ?_
              rintro e w2 ⟨rfl, hb2⟩
              have hR2 := HR.out.below hb2
              have hA := below_alloc w2 (.cells (skC X (sec : Int) R.1 (R.2.1 : Nat) false false) 133)
              have hT3 := Bl.new w2 (skC X (sec : Int) R.1 (R.2.1 : Nat) false false) 133
              have hz2 := hb2.size
              obtain ⟨w3, hw3⟩ : ∃ w3, w2.alloc (.cells (skC X (sec : Int) R.1 (R.2.1 : Nat) false false) 133) = w3 := ⟨_, rfl⟩
              rw [hw3] at hA hT3
              have hR3 := hR2.below hA
              have HB3 := hide (below_next hb2 (Nat.le_refl _) hA)
              have HT3 := hide hT3
              have HR3 := hide hR3
              unfold skC at hw3
              clear hb2 hR2 hA hR3
              generalize hTT : w2.heap.size = T at *
              have hT1 : T < w3.heap.size := HT3.out.lt
              have q7 := HT3.out.cell 9 (v := .bool false) rfl
              have EEE := ER w3 HR3.out
              clear ER
              go_wp2_with fail
              refine (CO _).mono ?_
              rintro e w4 ⟨rfl, hw4⟩
              obtain rfl := hw4.symm
              go_wp2_with fail
              refine EEE.mono ?_
              rintro e w5 ⟨rfl, hR5, hk5⟩
              go_wp2_with fail
              go_ret2
              exact ⟨T, rfl, hR5, (fun k h => by cases h), by omega, (Kept2.of_below HB3.out).trans hk5⟩
end Go.Proofs.Ytcjahdgppnmdkaa
