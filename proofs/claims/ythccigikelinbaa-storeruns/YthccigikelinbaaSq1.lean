/- The document's store: codes, which sector is active, blank bytes, a record, sizes. -/
import Derived.Test.YthccigikelinbaaNoR
import Derived.Test.YthccigikelinbaaSoM
import Derived.Lib.SmallJoins
namespace Go.Proofs.Ythccigikelinbaa
open Go.RowKit Go.Great

theorem bs_ext {s t : ByteArray} (h : s.data.toList = t.data.toList) : s = t := by
  rw [← bs_of s, h, bs_of]
theorem bs_app (a b : List UInt8) : bs a ++ bs b = bs (a ++ b) := bs_ext (by simp [bs])
theorem getD_bs (l : List UInt8) (i : Nat) (h : i < (bs l).size) : (bs l)[i] = l.getD i 0 := by
  have h' : i < l.length := by rwa [bs_size] at h
  rw [List.getD, List.getElem?_eq_getElem h']
  simp [bs]
  rfl
def cdB (b : UInt8) : Bool := b == 15 || b == 51 || b == 85
def nxR (b : UInt8) : UInt8 := if b = 15 then 51 else if b = 51 then 85 else 15
theorem u8_eq (b : UInt8) (n : UInt8) : ((b.toNat : Int) == (n.toNat : Int)) = (b == n) := by
  by_cases h : b = n
  · subst h; simp
  · have h2 : b.toNat ≠ n.toNat := fun e => h (UInt8.toNat_inj.1 e)
    have e1 : (b == n) = false := by simpa using h
    rw [e1, beq_eq_false_iff_ne]
    omega
theorem code_any (b : UInt8) (w : World) : Calls Try.prog 49 #[.int .u8 (b.toNat : Int)] w fun e w' => e = .returned (.bool (cdB b)) ∧ w' = w := by
  have e1 : ((b.toNat : Int) == 15) = (b == 15) := u8_eq b 15
  have e2 : ((b.toNat : Int) == 51) = (b == 51) := u8_eq b 51
  have e3 : ((b.toNat : Int) == 85) = (b == 85) := u8_eq b 85
  have HC : Hid (cdB b = (b == 15 || b == 51 || b == 85)) := rfl
  generalize cdB b = c at *
  generalize (b == 15) = x1 at *
  generalize (b == 51) = x2 at *
  generalize (b == 85) = x3 at *
  cases x1 <;> cases x2 <;> cases x3
  all_goals
    go_enter Try.func49, Try.ntmps49
    go_wp2
    go_ret
    exact ⟨ret_bool (by rw [HC.out]; rfl), rfl⟩
theorem next_any (b : UInt8) (w : World) : Calls Try.prog 64 #[.int .u8 (b.toNat : Int)] w fun e w' => e = .returned (.int .u8 ((nxR b).toNat : Int)) ∧ w' = w := by
  have e1 : ((b.toNat : Int) == 15) = (b == 15) := u8_eq b 15
  have e2 : ((b.toNat : Int) == 51) = (b == 51) := u8_eq b 51
  by_cases h1 : b = 15
  · subst h1
    go_enter Try.func64, Try.ntmps64
    go_wp2
    go_ret
    exact ⟨rfl, rfl⟩
  · have x1 : (b == 15) = false := by simpa using h1
    by_cases h2 : b = 51
    · subst h2
      go_enter Try.func64, Try.ntmps64
      go_wp2
      go_ret
      exact ⟨rfl, rfl⟩
    · have x2 : (b == 51) = false := by simpa using h2
      rw [x1] at e1
      rw [x2] at e2
      have HN : Hid (nxR b = 15) := hide (by unfold nxR; rw [if_neg h1, if_neg h2])
      rw [HN.out]
      clear h1 h2 x1 x2
      go_enter Try.func64, Try.ntmps64
      go_wp2
      go_ret
      exact ⟨rfl, rfl⟩
def acR (a b : UInt8) : Int := if cdB a && cdB b then (if b = nxR a then 1 else 0) else if cdB a then 0 else if cdB b then 1 else -1
set_option maxRecDepth 100000 in
set_option maxHeartbeats 1000000 in
theorem active_any (l : List UInt8) (hl : l.length = 8192) (w : World) : Calls Try.prog 45 #[.string (bs l)] w fun e w' => e = .returned (.int .i64 (acR (l.getD 0 0) (l.getD 4096 0))) ∧ w' = w := by
  have hz : (bs l).size = 8192 := by rw [bs_size, hl]
  have h0 : 0 < (bs l).size := by omega
  have h4 : 4096 < (bs l).size := by omega
  have g0 := getD_bs l 0 h0
  have g4 := getD_bs l 4096 h4
  generalize l.getD 0 0 = a at *
  generalize l.getD 4096 0 = b at *
  generalize bs l = d at *
  have C1 := fun W => code_any a W
  have C2 := fun W => code_any b W
  have N1 := fun W => next_any a W
  have HA : Hid (acR a b = if cdB a && cdB b then (if b = nxR a then 1 else 0) else if cdB a then 0 else if cdB b then 1 else -1) := rfl
  have e1 := u8_eq b (nxR a)
  have HE : Hid ((b == nxR a) = decide (b = nxR a)) := hide (by rw [Bool.eq_iff_iff]; simp)
  generalize acR a b = r at *
  generalize cdB a = x at *
  generalize cdB b = y at *
  generalize nxR a = n at *
  cases x <;> cases y
  · go_enter Try.func45, Try.ntmps45
    go_wp2_with fail
    refine (C1 _).mono ?_
    rintro e w1 ⟨rfl, hw1⟩
    obtain rfl := hw1.symm
    go_wp2_with fail
    refine (C1 _).mono ?_
    rintro e w1 ⟨rfl, hw1⟩
    obtain rfl := hw1.symm
    go_wp2_with fail
    refine (C2 _).mono ?_
    rintro e w1 ⟨rfl, hw1⟩
    obtain rfl := hw1.symm
    go_wp2_with fail
    go_ret
    exact ⟨ret_int (by rw [HA.out]; rfl), rfl⟩
  · go_enter Try.func45, Try.ntmps45
    go_wp2_with fail
    refine (C1 _).mono ?_
    rintro e w1 ⟨rfl, hw1⟩
    obtain rfl := hw1.symm
    go_wp2_with fail
    refine (C1 _).mono ?_
    rintro e w1 ⟨rfl, hw1⟩
    obtain rfl := hw1.symm
    go_wp2_with fail
    refine (C2 _).mono ?_
    rintro e w1 ⟨rfl, hw1⟩
    obtain rfl := hw1.symm
    go_wp2_with fail
    go_ret
    exact ⟨ret_int (by rw [HA.out]; rfl), rfl⟩
  · go_enter Try.func45, Try.ntmps45
    go_wp2_with fail
    refine (C1 _).mono ?_
    rintro e w1 ⟨rfl, hw1⟩
    obtain rfl := hw1.symm
    go_wp2_with fail
    refine (C2 _).mono ?_
    rintro e w1 ⟨rfl, hw1⟩
    obtain rfl := hw1.symm
    go_wp2_with fail
    refine (C1 _).mono ?_
    rintro e w1 ⟨rfl, hw1⟩
    obtain rfl := hw1.symm
    go_wp2_with fail
    go_ret
    exact ⟨ret_int (by rw [HA.out]; rfl), rfl⟩
  · by_cases hn : b = n
    · rw [HE.out, decide_eq_true hn] at e1
      have HR : Hid (r = 1) := hide (by rw [HA.out, if_pos hn]; rfl)
      clear hn HE
      go_enter Try.func45, Try.ntmps45
      go_wp2_with fail
      refine (C1 _).mono ?_
      rintro e w1 ⟨rfl, hw1⟩
      obtain rfl := hw1.symm
      go_wp2_with fail
      refine (C2 _).mono ?_
      rintro e w1 ⟨rfl, hw1⟩
      obtain rfl := hw1.symm
      go_wp2_with fail
      refine (N1 _).mono ?_
      rintro e w1 ⟨rfl, hw1⟩
      obtain rfl := hw1.symm
      go_wp2_with fail
      go_ret
      exact ⟨ret_int HR.out.symm, rfl⟩
    · rw [HE.out, decide_eq_false hn] at e1
      have HR : Hid (r = 0) := hide (by rw [HA.out, if_neg hn]; rfl)
      clear hn HE
      go_enter Try.func45, Try.ntmps45
      go_wp2_with fail
      refine (C1 _).mono ?_
      rintro e w1 ⟨rfl, hw1⟩
      obtain rfl := hw1.symm
      go_wp2_with fail
      refine (C2 _).mono ?_
      rintro e w1 ⟨rfl, hw1⟩
      obtain rfl := hw1.symm
      go_wp2_with fail
      refine (N1 _).mono ?_
      rintro e w1 ⟨rfl, hw1⟩
      obtain rfl := hw1.symm
      go_wp2_with fail
      go_ret
      exact ⟨ret_int HR.out.symm, rfl⟩
theorem blank_any (l : List UInt8) (a : Nat) (ha : a ≤ l.length) (hl : l.length ≤ 4096) (w : World) : Calls Try.prog 65 #[.string (bs l), .int .i64 (a : Int)] w fun e w' => e = .returned (.bool (blankB l a)) ∧ w' = w := by
  obtain ⟨r, HR⟩ : ∃ r, Hid (blankB l a = r) := ⟨_, rfl⟩
  rw [HR.out]
  have HI := hide (blankB_iff l a)
  obtain ⟨d, HD⟩ : ∃ d, Hid (bs l = d) := ⟨_, rfl⟩
  have HGA : Hid (∀ k, k < l.length → ∃ h : k < d.size, d[k] = l.getD k 0) := hide (by
    rw [← HD.out]
    exact fun k hk => ⟨by rw [bs_size]; exact hk, getD_bs l k (by rw [bs_size]; exact hk)⟩)
  have HSZ : Hid (d.size = l.length) := hide (by rw [← HD.out]; exact bs_size l)
  have hds : d.size ≤ 4096 := by rw [HSZ.out]; exact hl
  rw [HD.out]
  go_enter Try.func65, Try.ntmps65
  go_wp2_with fail
  go_loopw [5] (fun i wx => ∃ k : Nat, a ≤ k ∧ k ≤ l.length ∧ i = .int .i64 k ∧ wx = w ∧ Hid (∀ j, a ≤ j → j < k → l.getD j 0 = 255)) (fun i _ => l.length - (intOf i).toNat)
  case atStart => exact ⟨a, Nat.le_refl _, ha, rfl, rfl, hide (fun j h1 h2 => by omega)⟩
  case round =>
    obtain ⟨k, hak, hk, rfl, hwx, HF⟩ := hrel
    obtain rfl := hwx.symm
    by_cases hlt : k < l.length
    · obtain ⟨hkb, he⟩ := HGA.out k hlt
      have HE := hide he
      have hkd : (k : Int) < (d.size : Int) := by rw [HSZ.out]; omega
      clear he
      have hx : ((d[k].toNat : Int) != 255) = !(l.getD k 0 == 255) := by
        rw [bne, HE.out]
        exact congrArg _ (u8_eq _ 255)
      by_cases hb : l.getD k 0 = 255
      · have hy : (l.getD k 0 == 255) = true := by simpa using hb
        rw [hy] at hx
        have HF2 : Hid (∀ j, a ≤ j → j < k + 1 → l.getD j 0 = 255) := hide (fun j h1 h2 => by
          by_cases e : j = k
          · rw [e]; exact hb
          · exact HF.out j h1 (by omega))
        clear hb hy
        go_wp2_with fail
        go_roundw
        case rel => exact ⟨k + 1, by omega, by omega, by go_num, trivial, HF2⟩
        case measure => simp [intOf]; omega
      · have hy : (l.getD k 0 == 255) = false := by simpa using hb
        rw [hy] at hx
        have HRF : Hid (r = false) := hide (by
          rw [← HR.out, Bool.eq_false_iff]
          intro h
          exact hb (HI.out.1 h k hak hlt))
        clear hb hy
        go_wp2_with fail
        go_ret
        exact ⟨ret_bool HRF.out.symm, rfl⟩
    · have hkd : ¬ (k : Int) < (d.size : Int) := by rw [HSZ.out]; omega
      have HRT : Hid (r = true) := hide (by
        rw [← HR.out]
        exact HI.out.2 (fun j h1 h2 => HF.out j h1 (by omega)))
      go_wp2_with fail
      go_ret
      exact ⟨ret_bool HRT.out.symm, rfl⟩
end Go.Proofs.Ythccigikelinbaa
