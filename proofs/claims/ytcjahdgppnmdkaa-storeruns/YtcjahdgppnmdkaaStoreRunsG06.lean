/- Sq1, Sq2, Sq3. -/
import Derived.Test.YtcjahdgppnmdkaaStoreRunsG05
import Derived.Test.YtcjahdgppnmdkaaStoreRunsG03
import Derived.Lib.SmallJoins
set_option maxRecDepth 100000
namespace Go.Proofs.Ytcjahdgppnmdkaa
open Go.RowKit Go.Great
theorem bs_ext {s t : ByteArray} (h : s.data.toList = t.data.toList) : s = t := by
  rw [← bs_of s, h, bs_of]
theorem bs_app (a b : List UInt8) : bs a ++ bs b = bs (a ++ b) := bs_ext (by simp [bs])
theorem getD_bs (l : List UInt8) (i : Nat) (h : i < (bs l).size) : (bs l)[i] = l.getD i 0 := by
  have h' : i < l.length := by rwa [bs_size] at h
  rw [List.getD, List.getElem?_eq_getElem h']
  simp [bs]
  rfl
def cdB (b : UInt8) : Bool := b == 15 || b == 51 || b == 85
def nxR (b : UInt8) : UInt8 := if b = 15 then 51 else if b = 51 then 85 else 15
theorem u8_eq (b : UInt8) (n : UInt8) : ((b.toNat : Int) == (n.toNat : Int)) = (b == n) := by
  by_cases h : b = n
  · subst h; simp
  · have h2 : b.toNat ≠ n.toNat := fun e => h (UInt8.toNat_inj.1 e)
    have e1 : (b == n) = false := by simpa using h
    rw [e1, beq_eq_false_iff_ne]
    omega
theorem code_any (b : UInt8) (w : World) : Calls Try.prog 69 #[.int .u8 (b.toNat : Int)] w fun e w' => e = .returned (.bool (cdB b)) ∧ w' = w := by
  have e1 : ((b.toNat : Int) == 15) = (b == 15) := u8_eq b 15
  have e2 : ((b.toNat : Int) == 51) = (b == 51) := u8_eq b 51
  have e3 : ((b.toNat : Int) == 85) = (b == 85) := u8_eq b 85
  have HC : Hid (cdB b = (b == 15 || b == 51 || b == 85)) := rfl
  generalize cdB b = c at *
  generalize (b == 15) = x1 at *
  generalize (b == 51) = x2 at *
  generalize (b == 85) = x3 at *
  cases x1 <;> cases x2 <;> cases x3
  all_goals
    go_enter Try.func69, Try.ntmps69
    go_wp2
    go_ret
    exact ⟨ret_bool (by rw [HC.out]; rfl), rfl⟩
theorem next_any (b : UInt8) (w : World) : Calls Try.prog 91 #[.int .u8 (b.toNat : Int)] w fun e w' => e = .returned (.int .u8 ((nxR b).toNat : Int)) ∧ w' = w := by
  have e1 : ((b.toNat : Int) == 15) = (b == 15) := u8_eq b 15
  have e2 : ((b.toNat : Int) == 51) = (b == 51) := u8_eq b 51
  by_cases h1 : b = 15
  · subst h1
    go_enter Try.func91, Try.ntmps91
    go_wp2
    go_ret
    exact ⟨rfl, rfl⟩
  · have x1 : (b == 15) = false := by simpa using h1
    by_cases h2 : b = 51
    · subst h2
      go_enter Try.func91, Try.ntmps91
      go_wp2
      go_ret
      exact ⟨rfl, rfl⟩
    · have x2 : (b == 51) = false := by simpa using h2
      rw [x1] at e1
      rw [x2] at e2
      have HN : Hid (nxR b = 15) := hide (by unfold nxR; rw [if_neg h1, if_neg h2])
      rw [HN.out]
      clear h1 h2 x1 x2
      go_enter Try.func91, Try.ntmps91
      go_wp2
      go_ret
      exact ⟨rfl, rfl⟩
def acR (a b : UInt8) : Int := if cdB a && cdB b then (if b = nxR a then 1 else 0) else if cdB a then 0 else if cdB b then 1 else -1
set_option maxRecDepth 100000 in
set_option maxHeartbeats 1000000 in
theorem active_any (l : List UInt8) (hl : l.length = 8192) (w : World) : Calls Try.prog 65 #[.string (bs l)] w fun e w' => e = .returned (.int .i64 (acR (l.getD 0 0) (l.getD 4096 0))) ∧ w' = w := by
  have hz : (bs l).size = 8192 := by rw [bs_size, hl]
  have h0 : 0 < (bs l).size := by omega
  have h4 : 4096 < (bs l).size := by omega
  have g0 := getD_bs l 0 h0
  have g4 := getD_bs l 4096 h4
  generalize l.getD 0 0 = a at *
  generalize l.getD 4096 0 = b at *
  generalize bs l = d at *
  have C1 := fun W => code_any a W
  have C2 := fun W => code_any b W
  have N1 := fun W => next_any a W
  have HA : Hid (acR a b = if cdB a && cdB b then (if b = nxR a then 1 else 0) else if cdB a then 0 else if cdB b then 1 else -1) := rfl
  have e1 := u8_eq b (nxR a)
  have HE : Hid ((b == nxR a) = decide (b = nxR a)) := hide (by rw [Bool.eq_iff_iff]; simp)
  generalize acR a b = r at *
  generalize cdB a = x at *
  generalize cdB b = y at *
  generalize nxR a = n at *
  cases x <;> cases y
  · go_enter Try.func65, Try.ntmps65
    go_wp2_with fail
    refine (C1 _).mono ?_
    rintro e w1 ⟨rfl, hw1⟩
    obtain rfl := hw1.symm
    go_wp2_with fail
    refine (C1 _).mono ?_
    rintro e w1 ⟨rfl, hw1⟩
    obtain rfl := hw1.symm
    go_wp2_with fail
    refine (C2 _).mono ?_
    rintro e w1 ⟨rfl, hw1⟩
    obtain rfl := hw1.symm
    go_wp2_with fail
    go_ret
    exact ⟨ret_int (by rw [HA.out]; rfl), rfl⟩
  · go_enter Try.func65, Try.ntmps65
    go_wp2_with fail
    refine (C1 _).mono ?_
    rintro e w1 ⟨rfl, hw1⟩
    obtain rfl := hw1.symm
    go_wp2_with fail
    refine (C1 _).mono ?_
    rintro e w1 ⟨rfl, hw1⟩
    obtain rfl := hw1.symm
    go_wp2_with fail
    refine (C2 _).mono ?_
    rintro e w1 ⟨rfl, hw1⟩
    obtain rfl := hw1.symm
    go_wp2_with fail
    go_ret
    exact ⟨ret_int (by rw [HA.out]; rfl), rfl⟩
  · go_enter Try.func65, Try.ntmps65
    go_wp2_with fail
    refine (C1 _).mono ?_
    rintro e w1 ⟨rfl, hw1⟩
    obtain rfl := hw1.symm
    go_wp2_with fail
    refine (C2 _).mono ?_
    rintro e w1 ⟨rfl, hw1⟩
    obtain rfl := hw1.symm
    go_wp2_with fail
    refine (C1 _).mono ?_
    rintro e w1 ⟨rfl, hw1⟩
    obtain rfl := hw1.symm
    go_wp2_with fail
    go_ret
    exact ⟨ret_int (by rw [HA.out]; rfl), rfl⟩
  · by_cases hn : b = n
    · rw [HE.out, decide_eq_true hn] at e1
      have HR : Hid (r = 1) := hide (by rw [HA.out, if_pos hn]; rfl)
      clear hn HE
      go_enter Try.func65, Try.ntmps65
      go_wp2_with fail
      refine (C1 _).mono ?_
      rintro e w1 ⟨rfl, hw1⟩
      obtain rfl := hw1.symm
      go_wp2_with fail
      refine (C2 _).mono ?_
      rintro e w1 ⟨rfl, hw1⟩
      obtain rfl := hw1.symm
      go_wp2_with fail
      refine (N1 _).mono ?_
      rintro e w1 ⟨rfl, hw1⟩
      obtain rfl := hw1.symm
      go_wp2_with fail
      go_ret
      exact ⟨ret_int HR.out.symm, rfl⟩
    · rw [HE.out, decide_eq_false hn] at e1
      have HR : Hid (r = 0) := hide (by rw [HA.out, if_neg hn]; rfl)
      clear hn HE
      go_enter Try.func65, Try.ntmps65
      go_wp2_with fail
      refine (C1 _).mono ?_
      rintro e w1 ⟨rfl, hw1⟩
      obtain rfl := hw1.symm
      go_wp2_with fail
      refine (C2 _).mono ?_
      rintro e w1 ⟨rfl, hw1⟩
      obtain rfl := hw1.symm
      go_wp2_with fail
      refine (N1 _).mono ?_
      rintro e w1 ⟨rfl, hw1⟩
      obtain rfl := hw1.symm
      go_wp2_with fail
      go_ret
      exact ⟨ret_int HR.out.symm, rfl⟩
theorem blank_any (l : List UInt8) (a : Nat) (ha : a ≤ l.length) (hl : l.length ≤ 4096) (w : World) : Calls Try.prog 92 #[.string (bs l), .int .i64 (a : Int)] w fun e w' => e = .returned (.bool (blankB l a)) ∧ w' = w := by
  obtain ⟨r, HR⟩ : ∃ r, Hid (blankB l a = r) := ⟨_, rfl⟩
  rw [HR.out]
  have HI := hide (blankB_iff l a)
  obtain ⟨d, HD⟩ : ∃ d, Hid (bs l = d) := ⟨_, rfl⟩
  have HGA : Hid (∀ k, k < l.length → ∃ h : k < d.size, d[k] = l.getD k 0) := hide (by
    rw [← HD.out]
    exact fun k hk => ⟨by rw [bs_size]; exact hk, getD_bs l k (by rw [bs_size]; exact hk)⟩)
  have HSZ : Hid (d.size = l.length) := hide (by rw [← HD.out]; exact bs_size l)
  have hds : d.size ≤ 4096 := by rw [HSZ.out]; exact hl
  rw [HD.out]
  go_enter Try.func92, Try.ntmps92
  go_wp2_with fail
  go_loopw [5] (fun i wx => ∃ k : Nat, a ≤ k ∧ k ≤ l.length ∧ i = .int .i64 k ∧ wx = w ∧ Hid (∀ j, a ≤ j → j < k → l.getD j 0 = 255)) (fun i _ => l.length - (intOf i).toNat)
  case atStart => exact ⟨a, Nat.le_refl _, ha, rfl, rfl, hide (fun j h1 h2 => by omega)⟩
  case round =>
    obtain ⟨k, hak, hk, rfl, hwx, HF⟩ := hrel
    obtain rfl := hwx.symm
    by_cases hlt : k < l.length
    · obtain ⟨hkb, he⟩ := HGA.out k hlt
      have HE := hide he
      have hkd : (k : Int) < (d.size : Int) := by rw [HSZ.out]; omega
      clear he
      have hx : ((d[k].toNat : Int) != 255) = !(l.getD k 0 == 255) := by
        rw [bne, HE.out]
        exact congrArg _ (u8_eq _ 255)
      by_cases hb : l.getD k 0 = 255
      · have hy : (l.getD k 0 == 255) = true := by simpa using hb
        rw [hy] at hx
        have HF2 : Hid (∀ j, a ≤ j → j < k + 1 → l.getD j 0 = 255) := hide (fun j h1 h2 => by
          by_cases e : j = k
          · rw [e]; exact hb
          · exact HF.out j h1 (by omega))
        clear hb hy
        go_wp2_with fail
        go_roundw
        case rel => exact ⟨k + 1, by omega, by omega, by go_num, trivial, HF2⟩
        case measure => simp [intOf]; omega
      · have hy : (l.getD k 0 == 255) = false := by simpa using hb
        rw [hy] at hx
        have HRF : Hid (r = false) := hide (by
          rw [← HR.out, Bool.eq_false_iff]
          intro h
          exact hb (HI.out.1 h k hak hlt))
        clear hb hy
        go_wp2_with fail
        go_ret
        exact ⟨ret_bool HRF.out.symm, rfl⟩
    · have hkd : ¬ (k : Int) < (d.size : Int) := by rw [HSZ.out]; omega
      have HRT : Hid (r = true) := hide (by
        rw [← HR.out]
        exact HI.out.2 (fun j h1 h2 => HF.out j h1 (by omega)))
      go_wp2_with fail
      go_ret
      exact ⟨ret_bool HRT.out.symm, rfl⟩
end Go.Proofs.Ytcjahdgppnmdkaa
set_option maxRecDepth 100000
namespace Go.Proofs.Ytcjahdgppnmdkaa
open Go.RowKit Go.Great
/-- a block of these cells -/
def Bl (W : World) (B : Nat) (cs : Array Value) (t : TypeId) : Prop := W.heap[B]? = some (.cells cs t (0, 0))
theorem Bl.lt {W : World} {B : Nat} {cs : Array Value} {t : TypeId} (h : Bl W B cs t) : B < W.heap.size := lt_of_block h
theorem Bl.cell {W : World} {B : Nat} {cs : Array Value} {t : TypeId} (h : Bl W B cs t) (i : Nat) {v : Value} (hv : cs[i]? = some v) : W.cell? ⟨B, i, none⟩ = some v := by simp [World.cell?, show W.heap[B]? = _ from h, hv]
theorem Bl.new (W : World) (cs : Array Value) (t : TypeId) : Bl (W.alloc (.cells cs t)) W.heap.size cs t := heap_alloc_new W _
theorem Bl.below {W W' : World} {B : Nat} {cs : Array Value} {t : TypeId} (h : Bl W B cs t) (hb : Below W.heap.size W W') : Bl W' B cs t := (hb.block B h.lt).trans h
theorem Bl.fz {W : World} {B : Nat} {cs : Array Value} {t : TypeId} (h : Bl W B cs t) (i : Nat) : W.frozen? ⟨B, i, none⟩ = false := by
  unfold Bl at h; simp [World.frozen?, h]
theorem Bl.set {W : World} {B : Nat} {cs : Array Value} {t : TypeId} (h : Bl W B cs t) (i : Nat) (u : Value) : Bl (W.setCell ⟨B, i, none⟩ u) B (cs.setIfInBounds i u) t := Joins.block_setCell h u
theorem Bl.setOther {W : World} {B C : Nat} {cs : Array Value} {t : TypeId} (h : Bl W B cs t) (hne : B ≠ C) (i : Nat) (u : Value) : Bl (W.setCell ⟨C, i, none⟩ u) B cs t := (Below.heap_setCell _ _ _ _ (fun e => hne e)).trans h
theorem Bl.kept2 {W W' : World} {B X D : Nat} {cs : Array Value} {t : TypeId} (h : Bl W B cs t) (hk : Kept2 X D W W') (h1 : B ≠ X) (h2 : B ≠ D) : Bl W' B cs t := (hk.block B h.lt h1 h2).trans h
/-- what a sector's records say, in memory -/
def kpC (V : Nat → Option (List UInt8)) (en : Int) (d : Bool) : Array Value := #[.bool (V 0).isSome, .bool (V 1).isSome, .bool (V 2).isSome, .string (bs ((V 0).getD [])), .string (bs ((V 1).getD [])), .string (bs ((V 2).getD [])), .int .i64 en, .bool d]
/-- a store in memory -/
def skC (X : Nat) (sec : Int) (V : Nat → Option (List UInt8)) (en : Int) (d st : Bool) : Array Value := #[fp X, .int .i64 sec, .bool (V 0).isSome, .bool (V 1).isSome, .bool (V 2).isSome, .string (bs ((V 0).getD [])), .string (bs ((V 1).getD [])), .string (bs ((V 2).getD [])), .int .i64 en, .bool d, .bool st]
theorem conv_three (w : World) (a b c : UInt8) : (convert 93 9 (.slice (some ⟨w.heap.size, 0, none⟩) 3 3)).run Try.prog (w.alloc (.cells #[.int .u8 (a.toNat : Int), .int .u8 (b.toNat : Int), .int .u8 (c.toNat : Int)] 5)) = .ok (.string (bs [a, b, c])) (w.alloc (.cells #[.int .u8 (a.toNat : Int), .int .u8 (b.toNat : Int), .int .u8 (c.toNat : Int)] 5)) := by
  refine run_convert_bytes_back _ 93 9 5 ⟨w.heap.size, 0, none⟩ 3 [a, b, c] (by kernel_rfl) (by kernel_rfl) (by kernel_rfl) ?_
  intro j hj
  rw [show (Addr.add ⟨w.heap.size, 0, none⟩ j) = ⟨w.heap.size, j, none⟩ by simp [Addr.add]; exact fun h => h.symm, World.cell?_alloc_new]
  have h3 : j = 0 ∨ j = 1 ∨ j = 2 := by simp at hj; omega
  rcases h3 with rfl | rfl | rfl <;> rfl
set_option maxRecDepth 100000 in
theorem record_any (i : Nat) (hi : i < 3) (t : List UInt8) (ht : t.length ≤ 2000) (w : World) : Calls Try.prog 72 #[.int .i64 (i : Int), .string (bs t)] w fun e w' => e = .returned (.string (bs (recB i t))) ∧ Below w.heap.size w w' := by
  have hz : (bs t).size ≤ 2000 := by rw [bs_size]; exact ht
  have HS : Hid (((bs t).size : Int) = (t.length : Int)) := hide (by rw [bs_size])
  have HR : Hid (bs (recB i t) = bs [UInt8.ofNat i, UInt8.ofNat t.length, UInt8.ofNat (t.length / 256)] ++ bs t ++ ⟨#[0]⟩) := hide (by
    rw [show (⟨#[0]⟩ : ByteArray) = bs [0] from rfl, bs_app, bs_app]
    simp [recB])
  have hc := fun W => conv_three W (UInt8.ofNat i) (UInt8.ofNat t.length) (UInt8.ofNat (t.length / 256))
  have n1 : ((UInt8.ofNat i).toNat : Int) = (i : Int) := by rw [UInt8.toNat_ofNat']; omega
  have n2 : ((UInt8.ofNat t.length).toNat : Int) = ((bs t).size : Int) % 256 := by rw [HS.out, UInt8.toNat_ofNat']; omega
  have n3 : ((UInt8.ofNat (t.length / 256)).toNat : Int) = ((bs t).size : Int) / 256 := by rw [HS.out, UInt8.toNat_ofNat']; omega
  rw [n1, n2, n3] at hc
  have h3 : (bs [UInt8.ofNat i, UInt8.ofNat t.length, UInt8.ofNat (t.length / 256)]).size = 3 := rfl
  generalize bs [UInt8.ofNat i, UInt8.ofNat t.length, UInt8.ofNat (t.length / 256)] = hd at *
  generalize bs t = d at *
  clear n1 n2 n3 HS
  have h0 : (⟨#[0]⟩ : ByteArray).size = 1 := rfl
  go_enter Try.func72, Try.ntmps72
  go_wp2_with fail
  go_ret
  exact ⟨by rw [HR.out]; rfl, below_alloc _ _⟩
/-- how many bytes records have -/
def szQ (V : Nat → Option (List UInt8)) (i : Nat) : Nat := match V i with | none => 0 | some t => 4 + t.length
def sumV (V : Nat → Option (List UInt8)) : Nat → Nat
  | 0 => 1
  | k + 1 => sumV V k + szQ V k
theorem szQ_two (V : Nat → Option (List UInt8)) (i : Nat) : ((V i).isSome = true → szQ V i = 4 + ((V i).getD []).length) ∧ ((V i).isSome = false → szQ V i = 0) := by
  unfold szQ
  cases V i with
  | none => simp
  | some t => simp
set_option maxRecDepth 100000 in
set_option maxHeartbeats 2000000 in
theorem size_any (V : Nat → Option (List UInt8)) (hV : ∀ i, i < 3 → ((V i).getD []).length ≤ 8192) (en : Int) (dt : Bool) (w : World) : Calls Try.prog 71 #[.agg (kpC V en dt)] w fun e w' => e = .returned (.int .i64 (sumV V 3 : Nat)) ∧ Below w.heap.size w w' := by
  have HV := hide hV
  have HZ := hide (szQ_two V)
  go_enter Try.func71, Try.ntmps71
  unfold kpC
  go_wp2_with fail
  obtain ⟨W0, hW0⟩ : ∃ W0, w.alloc (.cells (kpC V en dt) 131) = W0 := ⟨_, rfl⟩
  have hb0 : Below w.heap.size w W0 := by rw [← hW0]; exact below_alloc _ _
  have hB : Bl W0 w.heap.size (kpC V en dt) 131 := by rw [← hW0]; exact Bl.new _ _ _
  unfold kpC at hW0
  rw [hW0]
  clear hW0
  go_loopw [3, 4] (fun n i wx => ∃ k : Nat, k ≤ 3 ∧ i = .int .i64 k ∧ n = .int .i64 (sumV V k : Nat) ∧ wx = W0 ∧ Hid (sumV V k ≤ 1 + k * 9000)) (fun _ i _ => 3 - (intOf i).toNat)
  case atStart => exact ⟨0, by omega, rfl, rfl, rfl, hide (by show 1 ≤ 1 + 0; omega)⟩
  case round =>
    obtain ⟨k, hk, rfl, rfl, hwx, HB⟩ := hrel
    obtain rfl := hwx.symm
    by_cases hlt : k < 3
    · have hb := HB.out
      have HN : Hid (sumV V (k + 1) = sumV V k + szQ V k) := rfl
      have hz := HZ.out k
      have hv := HV.out k hlt
      have hs : (bs ((V k).getD [])).size = ((V k).getD []).length := bs_size _
      have h3 : k = 0 ∨ k = 1 ∨ k = 2 := by omega
      generalize sumV V k = a at *
      cases his : (V k).isSome with
      | false =>
        rw [hz.2 his] at HN
        have HN2 : Hid (sumV V (k + 1) ≤ 1 + (k + 1) * 9000) := hide (by rw [HN.out]; omega)
        rcases h3 with rfl | rfl | rfl
        · have c : W0.cell? ⟨w.heap.size, 0, none⟩ = some (.bool (V 0).isSome) := hB.cell 0 rfl
          rw [his] at c
          clear hz hs his
          go_wp2_with fail
          go_roundw
          case rel => exact ⟨1, by omega, by go_num, by rw [HN.out, Nat.add_zero], trivial, HN2⟩
          case measure => simp [intOf]
        · have c : W0.cell? ⟨w.heap.size, 1, none⟩ = some (.bool (V 1).isSome) := hB.cell 1 rfl
          rw [his] at c
          clear hz hs his
          go_wp2_with fail
          go_roundw
          case rel => exact ⟨2, by omega, by go_num, by rw [HN.out, Nat.add_zero], trivial, HN2⟩
          case measure => simp [intOf]
        · have c : W0.cell? ⟨w.heap.size, 2, none⟩ = some (.bool (V 2).isSome) := hB.cell 2 rfl
          rw [his] at c
          clear hz hs his
          go_wp2_with fail
          go_roundw
          case rel => exact ⟨3, by omega, by go_num, by rw [HN.out, Nat.add_zero], trivial, HN2⟩
          case measure => simp [intOf]
      | true =>
        rw [hz.1 his] at HN
        have HN2 : Hid (sumV V (k + 1) ≤ 1 + (k + 1) * 9000) := hide (by rw [HN.out]; omega)
        rw [← hs] at hv HN
        rcases h3 with rfl | rfl | rfl
        · have c : W0.cell? ⟨w.heap.size, 0, none⟩ = some (.bool (V 0).isSome) := hB.cell 0 rfl
          rw [his] at c
          have c2 : W0.cell? ⟨w.heap.size, 3, none⟩ = some (.string (bs ((V 0).getD []))) := hB.cell 3 rfl
          generalize bs ((V 0).getD []) = tx at *
          clear hz hs his
          go_wp2_with fail
          go_roundw
          case rel => exact ⟨1, by omega, by go_num, by rw [HN.out]; go_num, trivial, HN2⟩
          case measure => simp [intOf]
        · have c : W0.cell? ⟨w.heap.size, 1, none⟩ = some (.bool (V 1).isSome) := hB.cell 1 rfl
          rw [his] at c
          have c2 : W0.cell? ⟨w.heap.size, 4, none⟩ = some (.string (bs ((V 1).getD []))) := hB.cell 4 rfl
          generalize bs ((V 1).getD []) = tx at *
          clear hz hs his
          go_wp2_with fail
          go_roundw
          case rel => exact ⟨2, by omega, by go_num, by rw [HN.out]; go_num, trivial, HN2⟩
          case measure => simp [intOf]
        · have c : W0.cell? ⟨w.heap.size, 2, none⟩ = some (.bool (V 2).isSome) := hB.cell 2 rfl
          rw [his] at c
          have c2 : W0.cell? ⟨w.heap.size, 5, none⟩ = some (.string (bs ((V 2).getD []))) := hB.cell 5 rfl
          generalize bs ((V 2).getD []) = tx at *
          clear hz hs his
          go_wp2_with fail
          go_roundw
          case rel => exact ⟨3, by omega, by go_num, by rw [HN.out]; go_num, trivial, HN2⟩
          case measure => simp [intOf]
    · have e : k = 3 := by omega
      have HE : Hid (sumV V k = sumV V 3) := hide (by rw [e])
      have hk3 : decide ((k : Int) < 3) = false := decide_eq_false (by omega)
      have hb := HB.out
      generalize sumV V k = a at *
      clear e
      go_wp2_with fail
      go_ret
      exact ⟨ret_int (by rw [HE.out]), hb0⟩
end Go.Proofs.Ytcjahdgppnmdkaa
set_option maxRecDepth 100000
namespace Go.Proofs.Ytcjahdgppnmdkaa
open Go.RowKit Go.Great
def upV (V : Nat → Option (List UInt8)) (i : Nat) (v : List UInt8) : Nat → Option (List UInt8) := fun j => if j = i then some v else V j
def noneV : Nat → Option (List UInt8) := fun _ => none
/-- a sector that is read: which values, where it ends, and whether cleanly -/
def rdV (l : List UInt8) : Nat → Nat → (Nat → Option (List UInt8)) → (Nat → Option (List UInt8)) × Nat × Bool
  | 0, a, V => (V, a, true)
  | f + 1, a, V => if blankB l a then (V, a, true) else if wholeB l a then rdV l f (a + 4 + lenAt l a) (upV V (idAt l a) ((l.drop (a + 3)).take (lenAt l a))) else (V, a, false)
def endOf (w : World) (B : Nat) : Nat := match w.cell? ⟨B, 6, none⟩ with | some (.int _ n) => n.toNat | _ => 0
theorem endOf_is {w : World} {B a : Nat} {V : Nat → Option (List UInt8)} {d : Bool} (h : Bl w B (kpC V (a : Int) d) 131) : endOf w B = a := by
  have c : w.cell? ⟨B, 6, none⟩ = some (.int .i64 (a : Int)) := h.cell 6 rfl
  unfold endOf
  rw [c]
  simp
theorem Bl.set8 {W : World} {B : Nat} {c0 c1 c2 c3 c4 c5 c6 c7 : Value} {t : TypeId} (h : Bl W B #[c0, c1, c2, c3, c4, c5, c6, c7] t) (x0 x1 x2 x3 x4 x5 x6 x7 : Value) : Bl ((((((((W.setCell ⟨B, 0, none⟩ x0).setCell ⟨B, 1, none⟩ x1).setCell ⟨B, 2, none⟩ x2).setCell ⟨B, 3, none⟩ x3).setCell ⟨B, 4, none⟩ x4).setCell ⟨B, 5, none⟩ x5).setCell ⟨B, 6, none⟩ x6).setCell ⟨B, 7, none⟩ x7) B #[x0, x1, x2, x3, x4, x5, x6, x7] t := by
  have h0 : Bl _ B #[x0, c1, c2, c3, c4, c5, c6, c7] t := h.set 0 x0
  have h1 : Bl _ B #[x0, x1, c2, c3, c4, c5, c6, c7] t := h0.set 1 x1
  have h2 : Bl _ B #[x0, x1, x2, c3, c4, c5, c6, c7] t := h1.set 2 x2
  have h3 : Bl _ B #[x0, x1, x2, x3, c4, c5, c6, c7] t := h2.set 3 x3
  have h4 : Bl _ B #[x0, x1, x2, x3, x4, c5, c6, c7] t := h3.set 4 x4
  have h5 : Bl _ B #[x0, x1, x2, x3, x4, x5, c6, c7] t := h4.set 5 x5
  have h6 : Bl _ B #[x0, x1, x2, x3, x4, x5, x6, c7] t := h5.set 6 x6
  exact h6.set 7 x7
theorem set_below {n : Nat} {w w1 : World} (h : Below n w w1) (g k : Nat) (x : Value) (hg : n ≤ g) (hn : n ≤ w1.heap.size) : Below n w (w1.setCell ⟨g, k, none⟩ x) := by
  refine h.grown (row := some g) ⟨rfl, rfl, rfl, by rw [size_set]; exact Nat.le_refl _, fun j hj hne => set_other _ _ (fun e => hne (by rw [e]))⟩ hn (fun j e => by injection e with e; omega)
theorem set8_below {n : Nat} {w W : World} (h : Below n w W) (B : Nat) (hB : n ≤ B) (hn : n ≤ W.heap.size) (x0 x1 x2 x3 x4 x5 x6 x7 : Value) : Below n w ((((((((W.setCell ⟨B, 0, none⟩ x0).setCell ⟨B, 1, none⟩ x1).setCell ⟨B, 2, none⟩ x2).setCell ⟨B, 3, none⟩ x3).setCell ⟨B, 4, none⟩ x4).setCell ⟨B, 5, none⟩ x5).setCell ⟨B, 6, none⟩ x6).setCell ⟨B, 7, none⟩ x7) := by
  refine set_below (set_below (set_below (set_below (set_below (set_below (set_below (set_below h B 0 x0 hB hn) B 1 x1 hB ?_) B 2 x2 hB ?_) B 3 x3 hB ?_) B 4 x4 hB ?_) B 5 x5 hB ?_) B 6 x6 hB ?_) B 7 x7 hB ?_
  all_goals simp only [size_set]; exact hn
/-- while a sector is read -/
structure RdM (w : World) (l : List UInt8) (R : (Nat → Option (List UInt8)) × Nat × Bool) (a : Nat) (V : Nat → Option (List UInt8)) (wx : World) : Prop where
  kb : Bl wx (w.heap.size + 1) (kpC V (a : Int) false) 131
  rb : Bl wx w.heap.size (kpC noneV 0 false) 131
  bel : Below w.heap.size w wx
  al : 1 ≤ a ∧ a ≤ 4096
  fu : ∃ f, rdV l f a V = R ∧ 4096 ≤ f + a
theorem RdM.end1 {w : World} {l : List UInt8} {R : (Nat → Option (List UInt8)) × Nat × Bool} {a : Nat} {V : Nat → Option (List UInt8)} {wx : World} (h : RdM w l R a V wx) (hb : blankB l a = true) : R = (V, a, true) := by
  obtain ⟨f, h1, h2⟩ := h.fu
  cases f with
  | zero => exact h1.symm
  | succ f => rw [← h1, rdV, if_pos hb]
theorem RdM.blank {w : World} {l : List UInt8} {R : (Nat → Option (List UInt8)) × Nat × Bool} {a : Nat} {V : Nat → Option (List UInt8)} {wx : World} (h : RdM w l R a V wx) (hl : l.length = 4096) (hb : blankB l a = false) : ∃ f, rdV l (f + 1) a V = R ∧ 4096 ≤ f + 1 + a := by
  obtain ⟨f, h1, h2⟩ := h.fu
  cases f with
  | zero =>
    have : blankB l a = true := by
      rw [blankB_iff]
      intro j h3 h4
      omega
    rw [this] at hb; cases hb
  | succ f => exact ⟨f, h1, h2⟩
theorem RdM.end2 {w : World} {l : List UInt8} {R : (Nat → Option (List UInt8)) × Nat × Bool} {a : Nat} {V : Nat → Option (List UInt8)} {wx : World} (h : RdM w l R a V wx) (hl : l.length = 4096) (hb : blankB l a = false) (hw : wholeB l a = false) : R = (V, a, false) := by
  obtain ⟨f, h1, _⟩ := h.blank hl hb
  rw [← h1, rdV, if_neg (by rw [hb]; decide), if_neg (by rw [hw]; decide)]
theorem RdM.next {w : World} {l : List UInt8} {R : (Nat → Option (List UInt8)) × Nat × Bool} {a : Nat} {V : Nat → Option (List UInt8)} {wx : World} (h : RdM w l R a V wx) (hl : l.length = 4096) (hb : blankB l a = false) (hw : wholeB l a = true) : ∃ f, rdV l f (a + 4 + lenAt l a) (upV V (idAt l a) ((l.drop (a + 3)).take (lenAt l a))) = R ∧ 4096 ≤ f + (a + 4 + lenAt l a) := by
  obtain ⟨f, h1, h2⟩ := h.blank hl hb
  refine ⟨f, ?_, by omega⟩
  rw [← h1, rdV, if_neg (by rw [hb]; decide), if_pos hw]
theorem RdM.drew {w : World} {l : List UInt8} {R : (Nat → Option (List UInt8)) × Nat × Bool} {a : Nat} {V : Nat → Option (List UInt8)} {wx : World} (h : RdM w l R a V wx) : RdM w l R a V wx.drew := ⟨h.kb, h.rb, h.bel.drew, h.al, h.fu⟩
theorem RdM.drewN {w : World} {l : List UInt8} {R : (Nat → Option (List UInt8)) × Nat × Bool} {a : Nat} {V : Nat → Option (List UInt8)} {wx : World} (h : RdM w l R a V wx) (n : Nat) : RdM w l R a V (wx.drewN n) := by
  induction n with
  | zero => exact h
  | succ n ih => exact ih.drew
theorem RdM.dirty {w : World} {l : List UInt8} {R : (Nat → Option (List UInt8)) × Nat × Bool} {a : Nat} {V : Nat → Option (List UInt8)} {wx : World} (h : RdM w l R a V wx) : Bl (wx.setCell ⟨w.heap.size + 1, 7, none⟩ (.bool true)) w.heap.size (kpC noneV 0 false) 131 ∧ Below w.heap.size w (wx.setCell ⟨w.heap.size + 1, 7, none⟩ (.bool true)) ∧ w.heap.size ≤ (wx.setCell ⟨w.heap.size + 1, 7, none⟩ (.bool true)).heap.size :=
  ⟨h.rb.setOther (by omega) _ _, set_below h.bel (w.heap.size + 1) 7 (.bool true) (by omega) h.bel.size, by rw [size_set]; exact h.bel.size⟩
theorem RdM.put {w : World} {l : List UInt8} {R : (Nat → Option (List UInt8)) × Nat × Bool} {a : Nat} {V : Nat → Option (List UInt8)} {wx : World} (h : RdM w l R a V wx) (i : Nat) (hi : i < 3) (tv : List UInt8) (q : Nat) (h1 : 1 ≤ q) (h4 : q ≤ 4096) (hf : ∃ f, rdV l f q (upV V i tv) = R ∧ 4096 ≤ f + q) : RdM w l R q (upV V i tv) (((wx.setCell ⟨w.heap.size + 1, i, none⟩ (.bool true)).setCell ⟨w.heap.size + 1, i + 3, none⟩ (.string (bs tv))).setCell ⟨w.heap.size + 1, 6, none⟩ (.int .i64 (q : Int))) := by
  refine ⟨?_, ((h.rb.setOther (by omega) _ _).setOther (by omega) _ _).setOther (by omega) _ _, set_below (set_below (set_below h.bel _ _ _ (by omega) h.bel.size) _ _ _ (by omega) (by rw [size_set]; exact h.bel.size)) _ _ _ (by omega) (by rw [size_set, size_set]; exact h.bel.size), ⟨h1, h4⟩, hf⟩
  have h3 : i = 0 ∨ i = 1 ∨ i = 2 := by omega
  rcases h3 with rfl | rfl | rfl
  all_goals exact ((h.kb.set _ (.bool true)).set _ (.string (bs tv))).set 6 (.int .i64 (q : Int))
theorem wholeB_no {l : List UInt8} {a : Nat} (h : ¬ (a + 4 ≤ l.length) ∨ ¬ ((l.getD a 0).toNat < 3) ∨ ¬ (lenAt l a ≤ 2000) ∨ ¬ (a + 4 + lenAt l a ≤ l.length) ∨ l.getD (a + 3 + lenAt l a) 0 ≠ 0) : wholeB l a = false := by
  cases hw : wholeB l a with
  | false => rfl
  | true =>
    obtain ⟨c1, c2, c3, c4, c5⟩ := wholeB_true hw
    unfold idAt at c2
    rcases h with h | h | h | h | h
    · omega
    · omega
    · omega
    · omega
    · exact absurd c5 h
theorem wholeB_yes {l : List UInt8} {a : Nat} (h1 : a + 4 ≤ l.length) (h2 : (l.getD a 0).toNat < 3) (h3 : lenAt l a ≤ 2000) (h4 : a + 4 + lenAt l a ≤ l.length) (h5 : l.getD (a + 3 + lenAt l a) 0 = 0) : wholeB l a = true := by
  unfold wholeB
  rw [decide_eq_true h1, decide_eq_true h2, decide_eq_true h3, decide_eq_true h4, h5]
  rfl
theorem cut_run (s : ByteArray) (a b : Nat) (h1 : a ≤ b) (h2 : b ≤ s.size) (wx : World) : (Instr.slice 9 (.string s) (some (.int .i64 a)) (some (.int .i64 b)) none).run Try.prog wx = .ok (.string (s.extract a b)) wx := by
  rw [run_slice_string wx 9 s .i64 .i64 a b Try.underlying9 (by omega) (by omega) (by omega)]
  simp
theorem extQ (l : List UInt8) (a b : Nat) : (bs l).extract a b = bs ((l.drop a).take (b - a)) := bs_ext (by rw [ByteArray.data_extract, Array.toList_extract, bs_list, bs_list])
set_option maxRecDepth 100000 in
set_option maxHeartbeats 8000000 in
theorem readS_any (l : List UInt8) (hl : l.length = 4096) (w : World) : Calls Try.prog 67 #[.string (bs l)] w fun e w' => e = .returned (.agg (kpC (rdV l 4096 1 noneV).1 ((rdV l 4096 1 noneV).2.1 : Nat) (!(rdV l 4096 1 noneV).2.2))) ∧ Below w.heap.size w w' := by
  obtain ⟨R, hR⟩ : ∃ R, rdV l 4096 1 noneV = R := ⟨_, rfl⟩
  have HR := hide hR
  rw [hR]
  clear hR
  have BK := fun a ha W => blank_any l a ha (by omega) W
  obtain ⟨d, HD⟩ : ∃ d, Hid (bs l = d) := ⟨_, rfl⟩
  rw [HD.out] at BK ⊢
  have HLL := hide hl
  have HGA : Hid (∀ k, k < 4096 → ∃ h : k < d.size, d[k] = l.getD k 0) := hide (by
    rw [← HD.out, ← hl]
    exact fun k hk => ⟨by rw [bs_size]; exact hk, getD_bs l k (by rw [bs_size]; exact hk)⟩)
  have HSZ : Hid (d.size = 4096) := hide (by rw [← HD.out, bs_size, hl])
  rw [hl] at BK
  clear hl
  go_enter Try.func67, Try.ntmps67
  go_wp2_with fail
  obtain ⟨W0, hW0⟩ : ∃ W0, (w.alloc (.cells (kpC noneV 0 false) 131)).alloc (.cells (kpC noneV 1 false) 131) = W0 := ⟨_, rfl⟩
  have HST : Hid (RdM w l R 1 noneV W0) := hide ⟨by rw [← hW0]; have := Bl.new (w.alloc (.cells (kpC noneV 0 false) 131)) (kpC noneV 1 false) 131; simpa using this, by rw [← hW0]; exact (Bl.new w _ _).below (below_alloc _ _), by rw [← hW0]; exact below_next (below_alloc _ _) (Nat.le_refl _) (below_alloc _ _), by omega, 4096, HR.out, by omega⟩
  have hW1 : (w.alloc (.cells #[.bool false, .bool false, .bool false, .string ⟨#[]⟩, .string ⟨#[]⟩, .string ⟨#[]⟩, .int .i64 0, .bool false] 131)).alloc (.cells #[.bool false, .bool false, .bool false, .string ⟨#[]⟩, .string ⟨#[]⟩, .string ⟨#[]⟩, .int .i64 1, .bool false] 131) = W0 := hW0
  rw [hW1]
  clear hW0 hW1 HR
  go_loopw [4] (fun _ wx => ∃ (a : Nat) (V : Nat → Option (List UInt8)), Hid (RdM w l R a V wx)) (fun _ wx => 4096 - endOf wx (w.heap.size + 1))
  case atStart => exact ⟨1, noneV, HST⟩
  case round =>
    obtain ⟨a, V, HM⟩ := hrel
    clear HST
    obtain ⟨ha1, ha2⟩ := HM.out.al
    have BKA := fun W => BK a ha2 W
    have cE : wr.cell? ⟨w.heap.size + 1, 6, none⟩ = some (.int .i64 (a : Int)) := HM.out.kb.cell 6 rfl
    have HEO := hide (endOf_is HM.out.kb)
    cases hb : blankB l a with
    | true =>
      have HE := hide (HM.out.end1 hb)
      rw [hb] at BKA
      have k0 : wr.cell? ⟨w.heap.size + 1, 0, none⟩ = some (.bool (V 0).isSome) := HM.out.kb.cell 0 rfl
      have k1 : wr.cell? ⟨w.heap.size + 1, 1, none⟩ = some (.bool (V 1).isSome) := HM.out.kb.cell 1 rfl
      have k2 : wr.cell? ⟨w.heap.size + 1, 2, none⟩ = some (.bool (V 2).isSome) := HM.out.kb.cell 2 rfl
      have k3 : wr.cell? ⟨w.heap.size + 1, 3, none⟩ = some (.string (bs ((V 0).getD []))) := HM.out.kb.cell 3 rfl
      have k4 : wr.cell? ⟨w.heap.size + 1, 4, none⟩ = some (.string (bs ((V 1).getD []))) := HM.out.kb.cell 4 rfl
      have k5 : wr.cell? ⟨w.heap.size + 1, 5, none⟩ = some (.string (bs ((V 2).getD []))) := HM.out.kb.cell 5 rfl
      have k7 : wr.cell? ⟨w.heap.size + 1, 7, none⟩ = some (.bool false) := HM.out.kb.cell 7 rfl
      have r0 : wr.cell? ⟨w.heap.size, 0, none⟩ = some (.bool false) := HM.out.rb.cell 0 rfl
      have r1 : wr.cell? ⟨w.heap.size, 1, none⟩ = some (.bool false) := HM.out.rb.cell 1 rfl
      have r2 : wr.cell? ⟨w.heap.size, 2, none⟩ = some (.bool false) := HM.out.rb.cell 2 rfl
      have r3 : wr.cell? ⟨w.heap.size, 3, none⟩ = some (.string ⟨#[]⟩) := HM.out.rb.cell 3 rfl
      have r4 : wr.cell? ⟨w.heap.size, 4, none⟩ = some (.string ⟨#[]⟩) := HM.out.rb.cell 4 rfl
      have r5 : wr.cell? ⟨w.heap.size, 5, none⟩ = some (.string ⟨#[]⟩) := HM.out.rb.cell 5 rfl
      have r6 : wr.cell? ⟨w.heap.size, 6, none⟩ = some (.int .i64 0) := HM.out.rb.cell 6 rfl
      have r7 : wr.cell? ⟨w.heap.size, 7, none⟩ = some (.bool false) := HM.out.rb.cell 7 rfl
      have fr := HM.out.rb.fz
      go_wp2_with fail
      refine (BKA _).mono ?_
      rintro e w1 ⟨rfl, hw1⟩
      obtain rfl := hw1.symm
      go_wp2_with fail
      refine bodyPost_ret (results_cell_row Try.results67 _ _ w.heap.size 131 _ (0, 0) _ rfl (Bl.set8 HM.out.rb _ _ _ _ _ _ _ _) Try.underlying131 rfl (by kernel_rfl)) rfl ?_
      exact ⟨by rw [HE.out]; rfl, set8_below HM.out.bel _ (Nat.le_refl _) HM.out.bel.size _ _ _ _ _ _ _ _⟩
    | false =>
      rw [hb] at BKA
      by_cases h1 : a + 4 ≤ 4096
      · obtain ⟨ga, fa⟩ := HGA.out a (by omega)
        have HFA := hide fa
        have hds : d.size = 4096 := HSZ.out
        have hle : (a : Int) + 4 ≤ (d.size : Int) := by omega
        clear fa
        by_cases h2 : (l.getD a 0).toNat < 3
        · have h2d : ¬ (2 : Int) < (d[a].toNat : Int) := by rw [HFA.out]; omega
          obtain ⟨a1, ha1e⟩ : ∃ a1 : Nat, (a : Int) + 1 = (a1 : Int) := ⟨a + 1, by omega⟩
          obtain ⟨a2', ha2e⟩ : ∃ a2' : Nat, (a : Int) + 2 = (a2' : Int) := ⟨a + 2, by omega⟩
          have q1 : a + 1 = a1 := by omega
          have q2 : a + 2 = a2' := by omega
          obtain ⟨g1, f1⟩ := HGA.out a1 (by omega)
          obtain ⟨g2, f2⟩ := HGA.out a2' (by omega)
          have hnn : (d[a1].toNat : Int) + 256 * (d[a2'].toNat : Int) = ((lenAt l a : Nat) : Int) := by
            rw [f1, f2, ← q1, ← q2]; unfold lenAt; omega
          have hl1 := d[a1].toNat_lt
          have hl2 := d[a2'].toNat_lt
          have h1i : (a1 : Int) < (d.size : Int) := by omega
          have h2i : (a2' : Int) < (d.size : Int) := by omega
          clear f1 f2
          obtain ⟨n, HN⟩ : ∃ n, Hid (lenAt l a = n) := ⟨_, rfl⟩
          rw [HN.out] at hnn
          by_cases h3 : n ≤ 2000
          · obtain ⟨a4, h4e⟩ : ∃ a4 : Nat, (a : Int) + 4 = (a4 : Int) := ⟨a + 4, by omega⟩
            obtain ⟨q, hqe⟩ : ∃ q : Nat, (a4 : Int) + (n : Int) = (q : Int) := ⟨a4 + n, by omega⟩
            by_cases h4 : q ≤ 4096
            · obtain ⟨a3, h3e⟩ : ∃ a3 : Nat, (a : Int) + 3 = (a3 : Int) := ⟨a + 3, by omega⟩
              obtain ⟨p, hpe⟩ : ∃ p : Nat, (a3 : Int) + (n : Int) = (p : Int) := ⟨a3 + n, by omega⟩
              have hqd : ¬ (d.size : Int) < (q : Int) := by omega
              obtain ⟨gp, fp'⟩ := HGA.out p (by omega)
              have hpi : (p : Int) < (d.size : Int) := by omega
              have HPE : Hid (a + 3 + n = p) := hide (by omega)
              have HFP := hide fp'
              clear fp'
              by_cases h5 : l.getD p 0 = 0
              · have h5d : ((d[p].toNat : Int) != 0) = false := by rw [HFP.out, h5]; rfl
                have hw := wholeB_yes (l := l) (a := a) (by rw [HLL.out]; omega) h2 (by rw [HN.out]; omega) (by rw [HN.out, HLL.out]; omega) (by rw [HN.out, HPE.out]; exact h5)
                have HNX := hide (HM.out.next HLL.out hb hw)
                rw [HN.out] at HNX
                have HSL : Hid (d.extract a3 p = bs ((l.drop (a + 3)).take n)) := hide (by
                  rw [← HD.out, extQ, show p - a3 = n by omega, show a3 = a + 3 by omega])
                have hsl : ∀ wx, (Instr.slice 9 (.string d) (some (.int .i64 (a3 : Int))) (some (.int .i64 (p : Int))) none).run Try.prog wx = .ok (.string (d.extract a3 p)) wx := fun wx => cut_run d a3 p (by omega) (by omega) wx
                rw [HSL.out] at hsl
                have HQE : Hid (a + 4 + n = q) := hide (by omega)
                rw [HQE.out] at HNX
                generalize (l.drop (a + 3)).take n = tv at *
                have hid : idAt l a = 0 ∨ idAt l a = 1 ∨ idAt l a = 2 := by unfold idAt; omega
                have HID : Hid ((d[a].toNat : Int) = (idAt l a : Int)) := hide (by rw [HFA.out]; rfl)
                have fk := HM.out.kb.fz
                have hq4 : a < q := by omega
                clear h5 hw hb hds
                rcases hid with hid | hid | hid
                · have hda : (d[a].toNat : Int) = 0 := by rw [HID.out, hid]; rfl
                  rw [hid] at HNX
                  have kh : wr.cell? ⟨w.heap.size + 1, 0, none⟩ = some (.bool (V 0).isSome) := HM.out.kb.cell 0 rfl
                  have kv : wr.cell? ⟨w.heap.size + 1, 3, none⟩ = some (.string (bs ((V 0).getD []))) := HM.out.kb.cell 3 rfl
                  clear hid HID
                  go_wp2_with fail
                  refine (BKA _).mono ?_
                  rintro e w1 ⟨rfl, hw1⟩
                  obtain rfl := hw1.symm
                  go_wp2_with fail
                  go_quiet (fail)
                  go_wp2_with fail
                  go_region
                  go_wp2_with fail
                  go_roundw
                  case rel => exact ⟨q, upV V 0 tv, hide ((((HM.out.drewN nq).put 0 (by decide) tv q (by omega) h4 HNX.out)).drew)⟩
                  case measure =>
                    have e1 := endOf_is (((HM.out.drewN nq).put 0 (by decide) tv q (by omega) h4 HNX.out)).drew.kb
                    have e2 := HEO.out
                    rw [e2]
                    refine Nat.lt_of_le_of_lt (Nat.le_of_eq (congrArg (fun z => 4096 - z) e1)) ?_
                    show 4096 - q < 4096 - a
                    omega
                · have hda : (d[a].toNat : Int) = 1 := by rw [HID.out, hid]; rfl
                  rw [hid] at HNX
                  have kh : wr.cell? ⟨w.heap.size + 1, 1, none⟩ = some (.bool (V 1).isSome) := HM.out.kb.cell 1 rfl
                  have kv : wr.cell? ⟨w.heap.size + 1, 4, none⟩ = some (.string (bs ((V 1).getD []))) := HM.out.kb.cell 4 rfl
                  clear hid HID
                  go_wp2_with fail
                  refine (BKA _).mono ?_
                  rintro e w1 ⟨rfl, hw1⟩
                  obtain rfl := hw1.symm
                  go_wp2_with fail
                  go_quiet (fail)
                  go_wp2_with fail
                  go_region
                  go_wp2_with fail
                  go_roundw
                  case rel => exact ⟨q, upV V 1 tv, hide ((((HM.out.drewN nq).put 1 (by decide) tv q (by omega) h4 HNX.out)).drew)⟩
                  case measure =>
                    have e1 := endOf_is (((HM.out.drewN nq).put 1 (by decide) tv q (by omega) h4 HNX.out)).drew.kb
                    have e2 := HEO.out
                    rw [e2]
                    refine Nat.lt_of_le_of_lt (Nat.le_of_eq (congrArg (fun z => 4096 - z) e1)) ?_
                    show 4096 - q < 4096 - a
                    omega
                · have hda : (d[a].toNat : Int) = 2 := by rw [HID.out, hid]; rfl
                  rw [hid] at HNX
                  have kh : wr.cell? ⟨w.heap.size + 1, 2, none⟩ = some (.bool (V 2).isSome) := HM.out.kb.cell 2 rfl
                  have kv : wr.cell? ⟨w.heap.size + 1, 5, none⟩ = some (.string (bs ((V 2).getD []))) := HM.out.kb.cell 5 rfl
                  clear hid HID
                  go_wp2_with fail
                  refine (BKA _).mono ?_
                  rintro e w1 ⟨rfl, hw1⟩
                  obtain rfl := hw1.symm
                  go_wp2_with fail
                  go_quiet (fail)
                  go_wp2_with fail
                  go_region
                  go_wp2_with fail
                  go_roundw
                  case rel => exact ⟨q, upV V 2 tv, hide ((((HM.out.drewN nq).put 2 (by decide) tv q (by omega) h4 HNX.out)).drew)⟩
                  case measure =>
                    have e1 := endOf_is (((HM.out.drewN nq).put 2 (by decide) tv q (by omega) h4 HNX.out)).drew.kb
                    have e2 := HEO.out
                    rw [e2]
                    refine Nat.lt_of_le_of_lt (Nat.le_of_eq (congrArg (fun z => 4096 - z) e1)) ?_
                    show 4096 - q < 4096 - a
                    omega
              · have h5d : ((d[p].toNat : Int) != 0) = true := by
                  rw [HFP.out, bne, show ((l.getD p 0).toNat : Int) = ((l.getD p 0).toNat : Int) from rfl]
                  have := u8_eq (l.getD p 0) 0
                  have e0 : ((0 : UInt8).toNat : Int) = 0 := rfl
                  rw [e0] at this
                  rw [this]
                  have hh : (l.getD p 0 == 0) = false := by simpa using h5
                  rw [hh]
                  rfl
                have HE := hide (HM.out.end2 HLL.out hb (wholeB_no (by rw [HN.out, HPE.out]; exact .inr (.inr (.inr (.inr h5))))))
                clear hds
                have k0 : wr.cell? ⟨w.heap.size + 1, 0, none⟩ = some (.bool (V 0).isSome) := HM.out.kb.cell 0 rfl
                have k1 : wr.cell? ⟨w.heap.size + 1, 1, none⟩ = some (.bool (V 1).isSome) := HM.out.kb.cell 1 rfl
                have k2 : wr.cell? ⟨w.heap.size + 1, 2, none⟩ = some (.bool (V 2).isSome) := HM.out.kb.cell 2 rfl
                have k3 : wr.cell? ⟨w.heap.size + 1, 3, none⟩ = some (.string (bs ((V 0).getD []))) := HM.out.kb.cell 3 rfl
                have k4 : wr.cell? ⟨w.heap.size + 1, 4, none⟩ = some (.string (bs ((V 1).getD []))) := HM.out.kb.cell 4 rfl
                have k5 : wr.cell? ⟨w.heap.size + 1, 5, none⟩ = some (.string (bs ((V 2).getD []))) := HM.out.kb.cell 5 rfl
                have k7 : wr.cell? ⟨w.heap.size + 1, 7, none⟩ = some (.bool false) := HM.out.kb.cell 7 rfl
                have r0 : wr.cell? ⟨w.heap.size, 0, none⟩ = some (.bool false) := HM.out.rb.cell 0 rfl
                have r1 : wr.cell? ⟨w.heap.size, 1, none⟩ = some (.bool false) := HM.out.rb.cell 1 rfl
                have r2 : wr.cell? ⟨w.heap.size, 2, none⟩ = some (.bool false) := HM.out.rb.cell 2 rfl
                have r3 : wr.cell? ⟨w.heap.size, 3, none⟩ = some (.string ⟨#[]⟩) := HM.out.rb.cell 3 rfl
                have r4 : wr.cell? ⟨w.heap.size, 4, none⟩ = some (.string ⟨#[]⟩) := HM.out.rb.cell 4 rfl
                have r5 : wr.cell? ⟨w.heap.size, 5, none⟩ = some (.string ⟨#[]⟩) := HM.out.rb.cell 5 rfl
                have r6 : wr.cell? ⟨w.heap.size, 6, none⟩ = some (.int .i64 0) := HM.out.rb.cell 6 rfl
                have r7 : wr.cell? ⟨w.heap.size, 7, none⟩ = some (.bool false) := HM.out.rb.cell 7 rfl
                have fr := HM.out.rb.fz
                have fk := HM.out.kb.fz 7
                clear hb
                go_wp2_with fail
                refine (BKA _).mono ?_
                rintro e w1 ⟨rfl, hw1⟩
                obtain rfl := hw1.symm
                go_wp2_with fail
                go_quiet (fail)
                go_wp2_with fail
                refine bodyPost_ret (results_cell_row Try.results67 _ _ w.heap.size 131 _ (0, 0) _ rfl (Bl.set8 (HM.out.drewN nq).dirty.1 _ _ _ _ _ _ _ _) Try.underlying131 rfl (by kernel_rfl)) rfl ?_
                exact ⟨by rw [HE.out]; rfl, set8_below (HM.out.drewN nq).dirty.2.1 _ (Nat.le_refl _) (HM.out.drewN nq).dirty.2.2 _ _ _ _ _ _ _ _⟩
            · have hqd : (d.size : Int) < (q : Int) := by omega
              have HE := hide (HM.out.end2 HLL.out hb (wholeB_no (by rw [HN.out, HLL.out]; exact .inr (.inr (.inr (.inl (by omega)))))))
              clear hds
              have k0 : wr.cell? ⟨w.heap.size + 1, 0, none⟩ = some (.bool (V 0).isSome) := HM.out.kb.cell 0 rfl
              have k1 : wr.cell? ⟨w.heap.size + 1, 1, none⟩ = some (.bool (V 1).isSome) := HM.out.kb.cell 1 rfl
              have k2 : wr.cell? ⟨w.heap.size + 1, 2, none⟩ = some (.bool (V 2).isSome) := HM.out.kb.cell 2 rfl
              have k3 : wr.cell? ⟨w.heap.size + 1, 3, none⟩ = some (.string (bs ((V 0).getD []))) := HM.out.kb.cell 3 rfl
              have k4 : wr.cell? ⟨w.heap.size + 1, 4, none⟩ = some (.string (bs ((V 1).getD []))) := HM.out.kb.cell 4 rfl
              have k5 : wr.cell? ⟨w.heap.size + 1, 5, none⟩ = some (.string (bs ((V 2).getD []))) := HM.out.kb.cell 5 rfl
              have k7 : wr.cell? ⟨w.heap.size + 1, 7, none⟩ = some (.bool false) := HM.out.kb.cell 7 rfl
              have r0 : wr.cell? ⟨w.heap.size, 0, none⟩ = some (.bool false) := HM.out.rb.cell 0 rfl
              have r1 : wr.cell? ⟨w.heap.size, 1, none⟩ = some (.bool false) := HM.out.rb.cell 1 rfl
              have r2 : wr.cell? ⟨w.heap.size, 2, none⟩ = some (.bool false) := HM.out.rb.cell 2 rfl
              have r3 : wr.cell? ⟨w.heap.size, 3, none⟩ = some (.string ⟨#[]⟩) := HM.out.rb.cell 3 rfl
              have r4 : wr.cell? ⟨w.heap.size, 4, none⟩ = some (.string ⟨#[]⟩) := HM.out.rb.cell 4 rfl
              have r5 : wr.cell? ⟨w.heap.size, 5, none⟩ = some (.string ⟨#[]⟩) := HM.out.rb.cell 5 rfl
              have r6 : wr.cell? ⟨w.heap.size, 6, none⟩ = some (.int .i64 0) := HM.out.rb.cell 6 rfl
              have r7 : wr.cell? ⟨w.heap.size, 7, none⟩ = some (.bool false) := HM.out.rb.cell 7 rfl
              have fr := HM.out.rb.fz
              have fk := HM.out.kb.fz 7
              clear hb
              go_wp2_with fail
              refine (BKA _).mono ?_
              rintro e w1 ⟨rfl, hw1⟩
              obtain rfl := hw1.symm
              go_wp2_with fail
              go_quiet (fail)
              go_wp2_with fail
              refine bodyPost_ret (results_cell_row Try.results67 _ _ w.heap.size 131 _ (0, 0) _ rfl (Bl.set8 (HM.out.drewN nq).dirty.1 _ _ _ _ _ _ _ _) Try.underlying131 rfl (by kernel_rfl)) rfl ?_
              exact ⟨by rw [HE.out]; rfl, set8_below (HM.out.drewN nq).dirty.2.1 _ (Nat.le_refl _) (HM.out.drewN nq).dirty.2.2 _ _ _ _ _ _ _ _⟩
          · have hn2 : (2000 : Int) < (n : Int) := by omega
            have HE := hide (HM.out.end2 HLL.out hb (wholeB_no (by rw [HN.out]; exact .inr (.inr (.inl (by omega))))))
            clear hds
            have k0 : wr.cell? ⟨w.heap.size + 1, 0, none⟩ = some (.bool (V 0).isSome) := HM.out.kb.cell 0 rfl
            have k1 : wr.cell? ⟨w.heap.size + 1, 1, none⟩ = some (.bool (V 1).isSome) := HM.out.kb.cell 1 rfl
            have k2 : wr.cell? ⟨w.heap.size + 1, 2, none⟩ = some (.bool (V 2).isSome) := HM.out.kb.cell 2 rfl
            have k3 : wr.cell? ⟨w.heap.size + 1, 3, none⟩ = some (.string (bs ((V 0).getD []))) := HM.out.kb.cell 3 rfl
            have k4 : wr.cell? ⟨w.heap.size + 1, 4, none⟩ = some (.string (bs ((V 1).getD []))) := HM.out.kb.cell 4 rfl
            have k5 : wr.cell? ⟨w.heap.size + 1, 5, none⟩ = some (.string (bs ((V 2).getD []))) := HM.out.kb.cell 5 rfl
            have k7 : wr.cell? ⟨w.heap.size + 1, 7, none⟩ = some (.bool false) := HM.out.kb.cell 7 rfl
            have r0 : wr.cell? ⟨w.heap.size, 0, none⟩ = some (.bool false) := HM.out.rb.cell 0 rfl
            have r1 : wr.cell? ⟨w.heap.size, 1, none⟩ = some (.bool false) := HM.out.rb.cell 1 rfl
            have r2 : wr.cell? ⟨w.heap.size, 2, none⟩ = some (.bool false) := HM.out.rb.cell 2 rfl
            have r3 : wr.cell? ⟨w.heap.size, 3, none⟩ = some (.string ⟨#[]⟩) := HM.out.rb.cell 3 rfl
            have r4 : wr.cell? ⟨w.heap.size, 4, none⟩ = some (.string ⟨#[]⟩) := HM.out.rb.cell 4 rfl
            have r5 : wr.cell? ⟨w.heap.size, 5, none⟩ = some (.string ⟨#[]⟩) := HM.out.rb.cell 5 rfl
            have r6 : wr.cell? ⟨w.heap.size, 6, none⟩ = some (.int .i64 0) := HM.out.rb.cell 6 rfl
            have r7 : wr.cell? ⟨w.heap.size, 7, none⟩ = some (.bool false) := HM.out.rb.cell 7 rfl
            have fr := HM.out.rb.fz
            have fk := HM.out.kb.fz 7
            clear hb
            go_wp2_with fail
            refine (BKA _).mono ?_
            rintro e w1 ⟨rfl, hw1⟩
            obtain rfl := hw1.symm
            go_wp2_with fail
            go_quiet (fail)
            go_wp2_with fail
            refine bodyPost_ret (results_cell_row Try.results67 _ _ w.heap.size 131 _ (0, 0) _ rfl (Bl.set8 (HM.out.drewN nq).dirty.1 _ _ _ _ _ _ _ _) Try.underlying131 rfl (by kernel_rfl)) rfl ?_
            exact ⟨by rw [HE.out]; rfl, set8_below (HM.out.drewN nq).dirty.2.1 _ (Nat.le_refl _) (HM.out.drewN nq).dirty.2.2 _ _ _ _ _ _ _ _⟩
        · have h2d : (2 : Int) < (d[a].toNat : Int) := by rw [HFA.out]; omega
          have HE := hide (HM.out.end2 HLL.out hb (wholeB_no (.inr (.inl h2))))
          clear hds
          have k0 : wr.cell? ⟨w.heap.size + 1, 0, none⟩ = some (.bool (V 0).isSome) := HM.out.kb.cell 0 rfl
          have k1 : wr.cell? ⟨w.heap.size + 1, 1, none⟩ = some (.bool (V 1).isSome) := HM.out.kb.cell 1 rfl
          have k2 : wr.cell? ⟨w.heap.size + 1, 2, none⟩ = some (.bool (V 2).isSome) := HM.out.kb.cell 2 rfl
          have k3 : wr.cell? ⟨w.heap.size + 1, 3, none⟩ = some (.string (bs ((V 0).getD []))) := HM.out.kb.cell 3 rfl
          have k4 : wr.cell? ⟨w.heap.size + 1, 4, none⟩ = some (.string (bs ((V 1).getD []))) := HM.out.kb.cell 4 rfl
          have k5 : wr.cell? ⟨w.heap.size + 1, 5, none⟩ = some (.string (bs ((V 2).getD []))) := HM.out.kb.cell 5 rfl
          have k7 : wr.cell? ⟨w.heap.size + 1, 7, none⟩ = some (.bool false) := HM.out.kb.cell 7 rfl
          have r0 : wr.cell? ⟨w.heap.size, 0, none⟩ = some (.bool false) := HM.out.rb.cell 0 rfl
          have r1 : wr.cell? ⟨w.heap.size, 1, none⟩ = some (.bool false) := HM.out.rb.cell 1 rfl
          have r2 : wr.cell? ⟨w.heap.size, 2, none⟩ = some (.bool false) := HM.out.rb.cell 2 rfl
          have r3 : wr.cell? ⟨w.heap.size, 3, none⟩ = some (.string ⟨#[]⟩) := HM.out.rb.cell 3 rfl
          have r4 : wr.cell? ⟨w.heap.size, 4, none⟩ = some (.string ⟨#[]⟩) := HM.out.rb.cell 4 rfl
          have r5 : wr.cell? ⟨w.heap.size, 5, none⟩ = some (.string ⟨#[]⟩) := HM.out.rb.cell 5 rfl
          have r6 : wr.cell? ⟨w.heap.size, 6, none⟩ = some (.int .i64 0) := HM.out.rb.cell 6 rfl
          have r7 : wr.cell? ⟨w.heap.size, 7, none⟩ = some (.bool false) := HM.out.rb.cell 7 rfl
          have fr := HM.out.rb.fz
          have fk := HM.out.kb.fz 7
          clear hb
          go_wp2_with fail
          refine (BKA _).mono ?_
          rintro e w1 ⟨rfl, hw1⟩
          obtain rfl := hw1.symm
          go_wp2_with fail
          refine bodyPost_ret (results_cell_row Try.results67 _ _ w.heap.size 131 _ (0, 0) _ rfl (Bl.set8 HM.out.dirty.1 _ _ _ _ _ _ _ _) Try.underlying131 rfl (by kernel_rfl)) rfl ?_
          exact ⟨by rw [HE.out]; rfl, set8_below HM.out.dirty.2.1 _ (Nat.le_refl _) HM.out.dirty.2.2 _ _ _ _ _ _ _ _⟩
      · have hds : d.size = 4096 := HSZ.out
        have hgt : (d.size : Int) < (a : Int) + 4 := by omega
        have HE := hide (HM.out.end2 HLL.out hb (wholeB_no (by rw [HLL.out]; exact .inl (by omega))))
        clear hds
        have k0 : wr.cell? ⟨w.heap.size + 1, 0, none⟩ = some (.bool (V 0).isSome) := HM.out.kb.cell 0 rfl
        have k1 : wr.cell? ⟨w.heap.size + 1, 1, none⟩ = some (.bool (V 1).isSome) := HM.out.kb.cell 1 rfl
        have k2 : wr.cell? ⟨w.heap.size + 1, 2, none⟩ = some (.bool (V 2).isSome) := HM.out.kb.cell 2 rfl
        have k3 : wr.cell? ⟨w.heap.size + 1, 3, none⟩ = some (.string (bs ((V 0).getD []))) := HM.out.kb.cell 3 rfl
        have k4 : wr.cell? ⟨w.heap.size + 1, 4, none⟩ = some (.string (bs ((V 1).getD []))) := HM.out.kb.cell 4 rfl
        have k5 : wr.cell? ⟨w.heap.size + 1, 5, none⟩ = some (.string (bs ((V 2).getD []))) := HM.out.kb.cell 5 rfl
        have k7 : wr.cell? ⟨w.heap.size + 1, 7, none⟩ = some (.bool false) := HM.out.kb.cell 7 rfl
        have r0 : wr.cell? ⟨w.heap.size, 0, none⟩ = some (.bool false) := HM.out.rb.cell 0 rfl
        have r1 : wr.cell? ⟨w.heap.size, 1, none⟩ = some (.bool false) := HM.out.rb.cell 1 rfl
        have r2 : wr.cell? ⟨w.heap.size, 2, none⟩ = some (.bool false) := HM.out.rb.cell 2 rfl
        have r3 : wr.cell? ⟨w.heap.size, 3, none⟩ = some (.string ⟨#[]⟩) := HM.out.rb.cell 3 rfl
        have r4 : wr.cell? ⟨w.heap.size, 4, none⟩ = some (.string ⟨#[]⟩) := HM.out.rb.cell 4 rfl
        have r5 : wr.cell? ⟨w.heap.size, 5, none⟩ = some (.string ⟨#[]⟩) := HM.out.rb.cell 5 rfl
        have r6 : wr.cell? ⟨w.heap.size, 6, none⟩ = some (.int .i64 0) := HM.out.rb.cell 6 rfl
        have r7 : wr.cell? ⟨w.heap.size, 7, none⟩ = some (.bool false) := HM.out.rb.cell 7 rfl
        have fr := HM.out.rb.fz
        have fk := HM.out.kb.fz 7
        clear hb
        go_wp2_with fail
        refine (BKA _).mono ?_
        rintro e w1 ⟨rfl, hw1⟩
        obtain rfl := hw1.symm
        go_wp2_with fail
        refine bodyPost_ret (results_cell_row Try.results67 _ _ w.heap.size 131 _ (0, 0) _ rfl (Bl.set8 HM.out.dirty.1 _ _ _ _ _ _ _ _) Try.underlying131 rfl (by kernel_rfl)) rfl ?_
        exact ⟨by rw [HE.out]; rfl, set8_below HM.out.dirty.2.1 _ (Nat.le_refl _) HM.out.dirty.2.2 _ _ _ _ _ _ _ _⟩
end Go.Proofs.Ytcjahdgppnmdkaa
