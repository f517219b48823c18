/- The document's store: what it keeps in memory; a record; sizes. -/
import Derived.Test.YthccigikelinbaaSq1
namespace Go.Proofs.Ythccigikelinbaa
open Go.RowKit Go.Great

/-- a block of these cells -/
def Bl (W : World) (B : Nat) (cs : Array Value) (t : TypeId) : Prop := W.heap[B]? = some (.cells cs t (0, 0))
theorem Bl.lt {W : World} {B : Nat} {cs : Array Value} {t : TypeId} (h : Bl W B cs t) : B < W.heap.size := lt_of_block h
theorem Bl.cell {W : World} {B : Nat} {cs : Array Value} {t : TypeId} (h : Bl W B cs t) (i : Nat) {v : Value} (hv : cs[i]? = some v) : W.cell? ⟨B, i, none⟩ = some v := by simp [World.cell?, show W.heap[B]? = _ from h, hv]
theorem Bl.new (W : World) (cs : Array Value) (t : TypeId) : Bl (W.alloc (.cells cs t)) W.heap.size cs t := heap_alloc_new W _
theorem Bl.below {W W' : World} {B : Nat} {cs : Array Value} {t : TypeId} (h : Bl W B cs t) (hb : Below W.heap.size W W') : Bl W' B cs t := (hb.block B h.lt).trans h
theorem Bl.fz {W : World} {B : Nat} {cs : Array Value} {t : TypeId} (h : Bl W B cs t) (i : Nat) : W.frozen? ⟨B, i, none⟩ = false := by
  unfold Bl at h; simp [World.frozen?, h]
theorem Bl.set {W : World} {B : Nat} {cs : Array Value} {t : TypeId} (h : Bl W B cs t) (i : Nat) (u : Value) : Bl (W.setCell ⟨B, i, none⟩ u) B (cs.setIfInBounds i u) t := Joins.block_setCell h u
theorem Bl.setOther {W : World} {B C : Nat} {cs : Array Value} {t : TypeId} (h : Bl W B cs t) (hne : B ≠ C) (i : Nat) (u : Value) : Bl (W.setCell ⟨C, i, none⟩ u) B cs t := (Below.heap_setCell _ _ _ _ (fun e => hne e)).trans h
theorem Bl.kept2 {W W' : World} {B X D : Nat} {cs : Array Value} {t : TypeId} (h : Bl W B cs t) (hk : Kept2 X D W W') (h1 : B ≠ X) (h2 : B ≠ D) : Bl W' B cs t := (hk.block B h.lt h1 h2).trans h
/-- what a sector's records say, in memory -/
def kpC (V : Nat → Option (List UInt8)) (en : Int) (d : Bool) : Array Value := #[.bool (V 0).isSome, .bool (V 1).isSome, .bool (V 2).isSome, .string (bs ((V 0).getD [])), .string (bs ((V 1).getD [])), .string (bs ((V 2).getD [])), .int .i64 en, .bool d]
/-- a store in memory -/
def skC (X : Nat) (sec : Int) (V : Nat → Option (List UInt8)) (en : Int) (d st : Bool) : Array Value := #[fp X, .int .i64 sec, .bool (V 0).isSome, .bool (V 1).isSome, .bool (V 2).isSome, .string (bs ((V 0).getD [])), .string (bs ((V 1).getD [])), .string (bs ((V 2).getD [])), .int .i64 en, .bool d, .bool st]
theorem conv_three (w : World) (a b c : UInt8) : (convert 77 9 (.slice (some ⟨w.heap.size, 0, none⟩) 3 3)).run Try.prog (w.alloc (.cells #[.int .u8 (a.toNat : Int), .int .u8 (b.toNat : Int), .int .u8 (c.toNat : Int)] 5)) = .ok (.string (bs [a, b, c])) (w.alloc (.cells #[.int .u8 (a.toNat : Int), .int .u8 (b.toNat : Int), .int .u8 (c.toNat : Int)] 5)) := by
  refine run_convert_bytes_back _ 77 9 5 ⟨w.heap.size, 0, none⟩ 3 [a, b, c] (by kernel_rfl) (by kernel_rfl) (by kernel_rfl) ?_
  intro j hj
  rw [show (Addr.add ⟨w.heap.size, 0, none⟩ j) = ⟨w.heap.size, j, none⟩ by simp [Addr.add]; exact fun h => h.symm, World.cell?_alloc_new]
  have h3 : j = 0 ∨ j = 1 ∨ j = 2 := by simp at hj; omega
  rcases h3 with rfl | rfl | rfl <;> rfl
set_option maxRecDepth 100000 in
theorem record_any (i : Nat) (hi : i < 3) (t : List UInt8) (ht : t.length ≤ 2000) (w : World) : Calls Try.prog 52 #[.int .i64 (i : Int), .string (bs t)] w fun e w' => e = .returned (.string (bs (recB i t))) ∧ Below w.heap.size w w' := by
  have hz : (bs t).size ≤ 2000 := by rw [bs_size]; exact ht
  have HS : Hid (((bs t).size : Int) = (t.length : Int)) := hide (by rw [bs_size])
  have HR : Hid (bs (recB i t) = bs [UInt8.ofNat i, UInt8.ofNat t.length, UInt8.ofNat (t.length / 256)] ++ bs t ++ ⟨#[0]⟩) := hide (by
    rw [show (⟨#[0]⟩ : ByteArray) = bs [0] from rfl, bs_app, bs_app]
    simp [recB])
  have hc := fun W => conv_three W (UInt8.ofNat i) (UInt8.ofNat t.length) (UInt8.ofNat (t.length / 256))
  have n1 : ((UInt8.ofNat i).toNat : Int) = (i : Int) := by rw [UInt8.toNat_ofNat']; omega
  have n2 : ((UInt8.ofNat t.length).toNat : Int) = ((bs t).size : Int) % 256 := by rw [HS.out, UInt8.toNat_ofNat']; omega
  have n3 : ((UInt8.ofNat (t.length / 256)).toNat : Int) = ((bs t).size : Int) / 256 := by rw [HS.out, UInt8.toNat_ofNat']; omega
  rw [n1, n2, n3] at hc
  have h3 : (bs [UInt8.ofNat i, UInt8.ofNat t.length, UInt8.ofNat (t.length / 256)]).size = 3 := rfl
  generalize bs [UInt8.ofNat i, UInt8.ofNat t.length, UInt8.ofNat (t.length / 256)] = hd at *
  generalize bs t = d at *
  clear n1 n2 n3 HS
  have h0 : (⟨#[0]⟩ : ByteArray).size = 1 := rfl
  go_enter Try.func52, Try.ntmps52
  go_wp2_with fail
  go_ret
  exact ⟨by rw [HR.out]; rfl, below_alloc _ _⟩
/-- how many bytes records have -/
def szQ (V : Nat → Option (List UInt8)) (i : Nat) : Nat := match V i with | none => 0 | some t => 4 + t.length
def sumV (V : Nat → Option (List UInt8)) : Nat → Nat
  | 0 => 1
  | k + 1 => sumV V k + szQ V k
theorem szQ_two (V : Nat → Option (List UInt8)) (i : Nat) : ((V i).isSome = true → szQ V i = 4 + ((V i).getD []).length) ∧ ((V i).isSome = false → szQ V i = 0) := by
  unfold szQ
  cases V i with
  | none => simp
  | some t => simp
set_option maxRecDepth 100000 in
set_option maxHeartbeats 2000000 in
theorem size_any (V : Nat → Option (List UInt8)) (hV : ∀ i, i < 3 → ((V i).getD []).length ≤ 8192) (en : Int) (dt : Bool) (w : World) : Calls Try.prog 51 #[.agg (kpC V en dt)] w fun e w' => e = .returned (.int .i64 (sumV V 3 : Nat)) ∧ Below w.heap.size w w' := by
  have HV := hide hV
  have HZ := hide (szQ_two V)
  go_enter Try.func51, Try.ntmps51
  unfold kpC
  go_wp2_with fail
  obtain ⟨W0, hW0⟩ : ∃ W0, w.alloc (.cells (kpC V en dt) 103) = W0 := ⟨_, rfl⟩
  have hb0 : Below w.heap.size w W0 := by rw [← hW0]; exact below_alloc _ _
  have hB : Bl W0 w.heap.size (kpC V en dt) 103 := by rw [← hW0]; exact Bl.new _ _ _
  unfold kpC at hW0
  rw [hW0]
  clear hW0
  go_loopw [3, 4] (fun n i wx => ∃ k : Nat, k ≤ 3 ∧ i = .int .i64 k ∧ n = .int .i64 (sumV V k : Nat) ∧ wx = W0 ∧ Hid (sumV V k ≤ 1 + k * 9000)) (fun _ i _ => 3 - (intOf i).toNat)
  case atStart => exact ⟨0, by omega, rfl, rfl, rfl, hide (by show 1 ≤ 1 + 0; omega)⟩
  case round =>
    obtain ⟨k, hk, rfl, rfl, hwx, HB⟩ := hrel
    obtain rfl := hwx.symm
    by_cases hlt : k < 3
    · have hb := HB.out
      have HN : Hid (sumV V (k + 1) = sumV V k + szQ V k) := rfl
      have hz := HZ.out k
      have hv := HV.out k hlt
      have hs : (bs ((V k).getD [])).size = ((V k).getD []).length := bs_size _
      have h3 : k = 0 ∨ k = 1 ∨ k = 2 := by omega
      generalize sumV V k = a at *
      cases his : (V k).isSome with
      | false =>
        rw [hz.2 his] at HN
        have HN2 : Hid (sumV V (k + 1) ≤ 1 + (k + 1) * 9000) := hide (by rw [HN.out]; omega)
        rcases h3 with rfl | rfl | rfl
        · have c : W0.cell? ⟨w.heap.size, 0, none⟩ = some (.bool (V 0).isSome) := hB.cell 0 rfl
          rw [his] at c
          clear hz hs his
          go_wp2_with fail
          go_roundw
          case rel => exact ⟨1, by omega, by go_num, by rw [HN.out, Nat.add_zero], trivial, HN2⟩
          case measure => simp [intOf]
        · have c : W0.cell? ⟨w.heap.size, 1, none⟩ = some (.bool (V 1).isSome) := hB.cell 1 rfl
          rw [his] at c
          clear hz hs his
          go_wp2_with fail
          go_roundw
          case rel => exact ⟨2, by omega, by go_num, by rw [HN.out, Nat.add_zero], trivial, HN2⟩
          case measure => simp [intOf]
        · have c : W0.cell? ⟨w.heap.size, 2, none⟩ = some (.bool (V 2).isSome) := hB.cell 2 rfl
          rw [his] at c
          clear hz hs his
          go_wp2_with fail
          go_roundw
          case rel => exact ⟨3, by omega, by go_num, by rw [HN.out, Nat.add_zero], trivial, HN2⟩
          case measure => simp [intOf]
      | true =>
        rw [hz.1 his] at HN
        have HN2 : Hid (sumV V (k + 1) ≤ 1 + (k + 1) * 9000) := hide (by rw [HN.out]; omega)
        rw [← hs] at hv HN
        rcases h3 with rfl | rfl | rfl
        · have c : W0.cell? ⟨w.heap.size, 0, none⟩ = some (.bool (V 0).isSome) := hB.cell 0 rfl
          rw [his] at c
          have c2 : W0.cell? ⟨w.heap.size, 3, none⟩ = some (.string (bs ((V 0).getD []))) := hB.cell 3 rfl
          generalize bs ((V 0).getD []) = tx at *
          clear hz hs his
          go_wp2_with fail
          go_roundw
          case rel => exact ⟨1, by omega, by go_num, by rw [HN.out]; go_num, trivial, HN2⟩
          case measure => simp [intOf]
        · have c : W0.cell? ⟨w.heap.size, 1, none⟩ = some (.bool (V 1).isSome) := hB.cell 1 rfl
          rw [his] at c
          have c2 : W0.cell? ⟨w.heap.size, 4, none⟩ = some (.string (bs ((V 1).getD []))) := hB.cell 4 rfl
          generalize bs ((V 1).getD []) = tx at *
          clear hz hs his
          go_wp2_with fail
          go_roundw
          case rel => exact ⟨2, by omega, by go_num, by rw [HN.out]; go_num, trivial, HN2⟩
          case measure => simp [intOf]
        · have c : W0.cell? ⟨w.heap.size, 2, none⟩ = some (.bool (V 2).isSome) := hB.cell 2 rfl
          rw [his] at c
          have c2 : W0.cell? ⟨w.heap.size, 5, none⟩ = some (.string (bs ((V 2).getD []))) := hB.cell 5 rfl
          generalize bs ((V 2).getD []) = tx at *
          clear hz hs his
          go_wp2_with fail
          go_roundw
          case rel => exact ⟨3, by omega, by go_num, by rw [HN.out]; go_num, trivial, HN2⟩
          case measure => simp [intOf]
    · have e : k = 3 := by omega
      have HE : Hid (sumV V k = sumV V 3) := hide (by rw [e])
      have hk3 : decide ((k : Int) < 3) = false := decide_eq_false (by omega)
      have hb := HB.out
      generalize sumV V k = a at *
      clear e
      go_wp2_with fail
      go_ret
      exact ⟨ret_int (by rw [HE.out]), hb0⟩
end Go.Proofs.Ythccigikelinbaa
