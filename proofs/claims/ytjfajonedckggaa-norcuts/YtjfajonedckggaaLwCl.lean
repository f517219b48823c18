/- NorClears. -/
import Derived.Test.YtjfajonedckggaaRf1
import Derived.Test.YtjfajonedckggaaNoP
namespace Go.Proofs.Ytjfajonedckggaa
open Go.RowKit Go.Great

theorem bs_at (l : List UInt8) (i : Nat) (h : i < (bs l).size) : (bs l)[i] = l.getD i 0 := by
  have h2 : i < l.length := by rw [← bs_size]; exact h
  rw [getD_at l 0 h2]
  rfl
theorem clears_bad (s : ByteArray) (h0 : s.size ≠ 0) (hs : s.size ≠ 8192) (a : Int) (d : ByteArray) (w : World) : Calls Try.prog 4 #[.string s, .int .i64 a, .string d] w fun e w' => e = .returned (.bool true) ∧ Below w.heap.size w w' := by
  have M := made_bad s h0 hs w
  clear hs h0
  go_enter Try.func4, Try.ntmps4
  go_wp2_with fail
  refine M.mono ?_
  rintro e w1 ⟨rfl, hw⟩
  obtain rfl := hw.symm
  clear hw M
  go_wp2_with fail
  refine (awake_true w).mono ?_
  rintro e w1 ⟨rfl, b1⟩
  go_wp2_with fail
  go_ret
  exact ⟨rfl, b1⟩
theorem clears_out (s : ByteArray) (hs : okI s) (a : Int) (ha : I64 a) (d : ByteArray) (hd : insideB a d.size = false) (w : World) : Calls Try.prog 4 #[.string s, .int .i64 a, .string d] w fun e w' => e = .returned (.bool true) ∧ Below w.heap.size w w' := by
  have M := made_good s hs w
  clear hs
  have HA := hide ha
  clear ha
  go_enter Try.func4, Try.ntmps4
  go_wp2_with fail
  refine M.mono ?_
  rintro e w1 ⟨R, X, D, cap, rfl, hM⟩
  clear M
  obtain ⟨hR, hX, hD, hRX, hRD, hF, hQ, b1⟩ := hM
  obtain ⟨σ, hσ⟩ : ∃ σ, Hid (st0 (cellsI s) = σ) := ⟨_, hide rfl⟩
  rw [hσ.out] at hF hQ
  have HF := hide hF
  obtain ⟨t, ht⟩ : ∃ t, Hid (bs σ.C = t) := ⟨_, hide rfl⟩
  have I := image_any w1 R σ hF
  rw [ht.out] at I
  have P := prog_out w1 R σ hF (by rw [← hσ.out]; rfl) a HA.out d hd
  have S := steps_any w1 R σ hF
  rw [show σ.st = 0 by rw [← hσ.out]; rfl] at S
  have H1 := hide (And.intro hR b1)
  clear hF hQ hd hR hX hD hRX hRD b1
  go_wp2_with fail
  refine I.mono ?_
  rintro e w2 ⟨rfl, hw⟩
  obtain rfl := hw.symm
  clear hw
  go_wp2_with fail
  refine P.mono ?_
  rintro e w2 ⟨rfl, hw⟩
  obtain rfl := hw.symm
  clear hw
  go_wp2_with fail
  refine I.mono ?_
  rintro e w2 ⟨rfl, hw⟩
  obtain rfl := hw.symm
  clear hw
  go_wp2_with fail
  refine (awake_true w1).mono ?_
  rintro e w2 ⟨rfl, b2⟩
  have S2 := steps_any w2 R σ (HF.out.below b2)
  rw [show σ.st = 0 by rw [← hσ.out]; rfl] at S2
  go_wp2_with fail
  refine S2.mono ?_
  rintro e w3 ⟨rfl, hw⟩
  obtain rfl := hw.symm
  clear hw
  go_wp2_with fail
  go_ret
  exact ⟨rfl, below_next H1.out.2 (Nat.le_refl _) b2⟩
theorem andL_twice (C : List UInt8) (a : Nat) (d : List UInt8) : onL (onL C a d.length (andL d)) a d.length (andL d) = onL C a d.length (andL d) := by
  apply List.ext_getElem
  · simp [onL]
  · intro k h1 h2
    rw [onL_at, onL_at]
    by_cases c : a ≤ k ∧ k < a + d.length
    · rw [if_pos c, if_pos c]
      unfold andL
      rw [UInt8.and_assoc, UInt8.and_self]
    · rw [if_neg c, if_neg c]
theorem prog_free (w : World) (R : Nat) (σ : St) (h : Fl w R σ) (hj : σ.jk.size ≤ 4096) (ho : σ.off = false) (har : σ.ar = false) (h0 : 0 ≤ σ.st) (h1 : σ.st ≤ 100000) (a : Nat) (d : ByteArray) (hd : a + d.size ≤ 8192) :
    Calls Try.prog 13 #[fp R, .int .i64 a, .string d] w fun e w' => e = .returned (.int .i64 0) ∧ Fl w' R { σ with C := onL σ.C a d.size (andL d.data.toList), st := σ.st + d.size } ∧ Kept R w w' := by
  have P := prog_in w R σ h hj ho a d hd
  have hl := list_size d
  have e := progS_pre d.data.toList σ a (by intro hr; rw [har] at hr; cases hr) (by rw [hl, h.len]; exact hd) h0 (by rw [hl]; omega)
  rw [hl, har] at e
  rw [e] at P
  simp only [if_true, Bool.false_eq_true, if_false] at P
  obtain ⟨C, off, st, ar, lf, jk⟩ := σ
  simp only at har
  subst har
  exact P
set_option maxHeartbeats 1000000 in
set_option maxRecDepth 100000 in
theorem clears_in (s : ByteArray) (hs : okI s) (a : Nat) (d : ByteArray) (hd : a + d.size ≤ 8192) (w : World) : Calls Try.prog 4 #[.string s, .int .i64 a, .string d] w fun e w' => e = .returned (.bool true) ∧ Below w.heap.size w w' := by
  have M := made_good s hs w
  clear hs
  obtain ⟨n, hn⟩ : ∃ n, Hid (n = 8192) := ⟨_, hide rfl⟩
  go_enter Try.func4, Try.ntmps4
  go_wp2_with fail
  refine M.mono ?_
  rintro e w1 ⟨R, X, D, cap, rfl, hM⟩
  clear M
  obtain ⟨hR, hX, hD, hRX, hRD, hF, hQ, b1⟩ := hM
  obtain ⟨C, hC⟩ : ∃ C, Hid (cellsI s = C) := ⟨_, hide rfl⟩
  rw [hC.out] at hF
  have hlC : C.length = n := by rw [hn.out]; exact hF.len
  obtain ⟨t0, ht0⟩ : ∃ t, Hid (bs C = t) := ⟨_, hide rfl⟩
  obtain ⟨C1, hC1⟩ : ∃ C1, Hid (onL C a d.size (andL d.data.toList) = C1) := ⟨_, hide rfl⟩
  obtain ⟨t1, ht1⟩ : ∃ t, Hid (bs C1 = t) := ⟨_, hide rfl⟩
  have hl1 : C1.length = n := by rw [← hC1.out, onL_length]; exact hlC
  have I := image_any w1 R _ hF
  have P := prog_free w1 R (st0 C) hF (by show (0 : Nat) ≤ _; omega) rfl rfl (by show (0 : Int) ≤ 0; omega) (by show (0 : Int) ≤ _; omega) a d hd
  rw [show bs (st0 C).C = t0 from ht0.out] at I
  rw [show onL (st0 C).C a d.size (andL d.data.toList) = C1 from hC1.out] at P
  obtain ⟨σ, hσ⟩ : ∃ σ, Hid (σ = { C := C1, off := false, st := (d.size : Int), ar := false, lf := 0, jk := ⟨#[]⟩ : St }) := ⟨_, hide rfl⟩
  rw [show ({ C := C1, off := (st0 C).off, st := (st0 C).st + (d.size : Int), ar := (st0 C).ar, lf := (st0 C).lf, jk := (st0 C).jk } : St) = σ by rw [hσ.out]; show (⟨C1, false, 0 + (d.size : Int), false, 0, ⟨#[]⟩⟩ : St) = _; rw [Int.zero_add]] at P
  have z0 : t0.size = n := by rw [← ht0.out, bs_size, hlC]
  have z1 : t1.size = n := by rw [← ht1.out, bs_size, hl1]
  have E : Hid (∀ i (h0 : i < t0.size) (h1 : i < t1.size), t1[i]'h1 = if a ≤ i ∧ i < a + d.size then t0[i]'h0 &&& d.data.toList.getD (i - a) 0 else t0[i]'h0) := by
    intro i h0 h1
    have g0 := ht0.out
    have g1 := ht1.out
    subst g0 g1
    rw [bs_at, bs_at, ← hC1.out, onL_getD _ _ _ _ _ (by rw [bs_size] at h0; exact h0)]
    rfl
  have HT : Hid (onL C1 a d.size (andL d.data.toList) = C1) := by
    show _ = _
    rw [← hC1.out]
    have := andL_twice C a d.data.toList
    rw [list_size] at this
    exact this
  have H1 := hide (And.intro hR b1)
  have q0 : ((n : Int) != 8192) = false := by rw [hn.out]; rfl
  have HD := hide hd
  clear hF hQ hR hX hD hRX hRD b1 hC1 hl1 hlC ht0 hC
  go_wp2_with fail
  refine I.mono ?_
  rintro e w2 ⟨rfl, hw⟩
  obtain rfl := hw.symm
  clear hw I
  go_wp2_with fail
  refine P.mono ?_
  rintro e w2 ⟨rfl, h2, k2⟩
  have H2 := hide h2
  have K2 := hide k2
  have I2 := image_any w2 R _ h2
  have S2 := steps_any w2 R _ h2
  rw [show σ.st = (d.size : Int) by rw [hσ.out]] at S2
  rw [show bs σ.C = t1 by rw [hσ.out]; exact ht1.out] at I2
  clear P h2 k2
  go_wp2_with fail
  refine I2.mono ?_
  rintro e w3 ⟨rfl, hw⟩
  obtain rfl := hw.symm
  clear hw I2
  have g1 : decide ((a : Int) < 0) = false := decide_eq_false (by omega)
  have g2 : decide ((8192 : Int) - (a : Int) < (d.size : Int)) = false := decide_eq_false (by omega)
  go_wp2_with fail
  refine S2.mono ?_
  rintro e w3 ⟨rfl, hw⟩
  obtain rfl := hw.symm
  clear hw S2
  go_wp2_with fail
  have hp : (d.size : Int) ≤ 8192 := by omega
  go_loopw [13] (fun v wr => ∃ i : Nat, v = .int .i64 (i : Int) ∧ i ≤ n ∧ wr = w2) (fun v _ => n - (intOf v).toNat)
  case atStart => exact ⟨0, rfl, Nat.zero_le _, rfl⟩
  case round =>
    obtain ⟨i, rfl, hi, rfl⟩ := hrel
    by_cases hlt : i < n
    · have hdd : decide ((i : Int) < 8192) = true := decide_eq_true (by have := hn.out; omega)
      have hi0 : i < t0.size := by omega
      have hi1 : i < t1.size := by omega
      have Ei := E.out i hi0 hi1
      obtain ⟨x, hx⟩ : ∃ x, t0[i] = x := ⟨_, rfl⟩
      obtain ⟨y, hy⟩ : ∃ y, t1[i] = y := ⟨_, rfl⟩
      rw [hx, hy] at Ei
      have hn9 : n ≤ 8192 := by have := hn.out; omega
      by_cases hc : a ≤ i ∧ i < a + d.size
      · rw [if_pos hc] at Ei
        obtain ⟨hc1, hc2⟩ := hc
        obtain ⟨k, rfl⟩ : ∃ k, i = a + k := ⟨i - a, by omega⟩
        have hk : k < d.size := by omega
        rw [Nat.add_sub_cancel_left, getD_at _ _ (by rw [list_size]; exact hk)] at Ei
        obtain ⟨z, hz⟩ : ∃ z, d[k] = z := ⟨_, rfl⟩
        have hz2 : d.data.toList[k]'(by rw [list_size]; exact hk) = z := hz
        rw [hz2] at Ei
        have a1 : bits .and .u8 (x.toNat : Int) (z.toNat : Int) = (y.toNat : Int) := by rw [and8, Ei]
        have HE := hide Ei
        clear Ei hz2
        go_wp2_with fail
        go_roundw
        case rel => exact ⟨a + k + 1, by go_num, by omega, trivial⟩
        case measure => simp [intOf]; omega
      · rw [if_neg hc] at Ei
        subst Ei
        by_cases hc1 : a ≤ i
        · have hc2 : ¬ i < a + d.size := fun h => hc ⟨hc1, h⟩
          clear hc
          go_wp2_with fail
          go_roundw
          case rel => exact ⟨i + 1, by go_num, by omega, trivial⟩
          case measure => simp [intOf]; omega
        · clear hc
          go_wp2_with fail
          go_roundw
          case rel => exact ⟨i + 1, by go_num, by omega, trivial⟩
          case measure => simp [intOf]; omega
    · obtain rfl : i = n := by omega
      have hdd : decide ((i : Int) < 8192) = false := decide_eq_false (by have := hn.out; omega)
      go_wp2_with fail
      refine (awake_true wr).mono ?_
      rintro e w3 ⟨rfl, b3⟩
      have P := prog_free w3 R σ (H2.out.below b3) (by rw [hσ.out]; show (0 : Nat) ≤ _; omega) (by rw [hσ.out]) (by rw [hσ.out]) (by rw [hσ.out]; show (0 : Int) ≤ (d.size : Int); omega) (by rw [hσ.out]; show (d.size : Int) ≤ _; omega) a d HD.out
      rw [show onL σ.C a d.size (andL d.data.toList) = C1 by rw [hσ.out]; exact HT.out] at P
      go_wp2_with fail
      refine P.mono ?_
      rintro e w4 ⟨rfl, h4, k4⟩
      have I4 := image_any w4 R _ h4
      rw [show bs C1 = t1 from ht1.out] at I4
      have H4 := hide h4
      clear h4
      go_wp2_with fail
      refine I4.mono ?_
      rintro e w5 ⟨rfl, hw⟩
      obtain rfl := hw.symm
      clear hw
      go_wp2_with fail
      go_ret
      refine ⟨rfl, ?_⟩
      obtain ⟨hR, b1⟩ := H1.out
      have z2 := b1.size
      have z3 := K2.out.size
      have z4 := b3.size
      exact k4.toBelow (below_next (K2.out.toBelow b1 (by omega) hR) (Nat.le_refl _) b3) (by omega) hR
/-- NorClears -/
theorem NorClears_walk (s : ByteArray) (a : Int) (d : ByteArray) (_hs : s.size ≤ 140737488351232) (ha : I64 a) (_hd : d.size ≤ 140737488351232) (w : World) : Calls Try.prog 4 #[.string s, .int .i64 a, .string d] w fun e w' => e = .returned (.bool true) ∧ Below w.heap.size w w' := by
  by_cases h0 : s.size = 0 ∨ s.size = 8192
  · cases hi : insideB a d.size
    · exact clears_out s h0 a ha d hi w
    · obtain ⟨h1, h2, h3⟩ := insideB_true hi
      obtain ⟨k, rfl⟩ := Int.eq_ofNat_of_zero_le h1
      exact clears_in s h0 k d (by omega) w
  · exact clears_bad s (fun h => h0 (.inl h)) (fun h => h0 (.inr h)) a d w
end Go.Proofs.Ytjfajonedckggaa
