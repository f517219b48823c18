/- Dividing two words by one: the walk of math/bits.Div64. -/
import Derived.Test.YtjinfjibodoflaaDivM
namespace Go.Proofs.Ytjinfjibodoflaa
open Go.RowKit

theorem halves_of {Y y1 y0 : Int} (h1 : 9223372036854775808 ≤ Y) (h2 : Y ≤ 18446744073709551615) (e1 : Y / 4294967296 = y1) (e0 : Y % 4294967296 = y0) : H y1 y0 Y := ⟨by omega, by omega, by omega, by omega, by omega⟩

set_option maxHeartbeats 8000000 in
theorem div64_wide (hi lo y : Int) (h1 : 1 ≤ hi) (h2 : hi < y) (h3 : y ≤ 18446744073709551615) (h4 : 0 ≤ lo) (h5 : lo ≤ 18446744073709551615) (w : World) :
    Calls Try.prog 38 #[.int .u64 hi, .int .u64 lo, .int .u64 y] w fun e w' => e = .returned (.tuple #[.int .u64 ((hi * 18446744073709551616 + lo) / y), .int .u64 ((hi * 18446744073709551616 + lo) % y)]) ∧ w' = w := by
  have L := hide (lead_any y (by omega) h3)
  have g1 : (y == 0) = false := by rw [beq_eq_false_iff_ne]; omega
  have g2 : (hi == 0) = false := by rw [beq_eq_false_iff_ne]; omega
  go_enter Try.func38, Try.ntmps38
  go_wp2_with fail
  refine (L.out _).mono ?_
  rintro e w1 ⟨s, rfl, hs, hs1, hs2, rfl⟩
  obtain ⟨u, v, eU, eV, u0, uY, v0, v1, eX⟩ := div_up (lo := lo) h1 h2 h4 h5 hs hs2
  have hS : (1 : Int) ≤ 2 ^ s := by have := Int.pow_pos (n := (2 : Int)) (m := s) (by omega); omega
  obtain ⟨Y, eY⟩ : ∃ Y, y * 2 ^ s = Y := ⟨_, rfl⟩
  rw [eY] at uY hs1 hs2
  obtain ⟨y1, eY1⟩ : ∃ z, Y / 4294967296 = z := ⟨_, rfl⟩
  obtain ⟨y0, eY0⟩ : ∃ z, Y % 4294967296 = z := ⟨_, rfl⟩
  obtain ⟨a1, eA1⟩ : ∃ z, v / 4294967296 = z := ⟨_, rfl⟩
  obtain ⟨a0, eA0⟩ : ∃ z, v % 4294967296 = z := ⟨_, rfl⟩
  have eYm : bits .and .u64 Y 4294967295 = y0 := (mask_in Y (by omega) hs2).trans eY0
  have eVm : bits .and .u64 v 4294967295 = a0 := (mask_in v v0 v1).trans eA0
  have hH := halves_of hs1 hs2 eY1 eY0
  have hv : v = a1 * 4294967296 + a0 := by omega
  have b1 : 0 ≤ a1 ∧ a1 ≤ 4294967295 := by omega
  have b0 : 0 ≤ a0 ∧ a0 ≤ 4294967295 := by omega
  have c1 : 2147483648 ≤ y1 ∧ y1 ≤ 4294967295 := ⟨hH.a, hH.b⟩
  have c0 : 0 ≤ y0 ∧ y0 ≤ 4294967295 := ⟨hH.c, hH.d⟩
  have hq := quot_le hH u0 (by omega)
  have hj := j_start hH u0 b1.1 b1.2
  obtain ⟨q, eQ⟩ : ∃ q, u / y1 = q := ⟨_, rfl⟩
  rw [eQ] at hq hj
  have eQ2 : u.tdiv y1 = q := by rw [Int.tdiv_eq_ediv_of_nonneg u0]; exact eQ
  obtain ⟨r, eR⟩ : ∃ r, u - q * y1 = r := ⟨_, rfl⟩
  rw [eR] at hj hq
  have HH := hide hH
  have HJ := hide hj
  have HV := hide hv
  have HX := hide eX
  have EY := hide eY
  have hu64 : u ≤ 18446744073709551615 := by omega
  clear hj hH hv eX eY0 eA0 L
  go_wp2_with fail
  clear eU eV eY eY1 eA1 eYm eVm eQ eQ2 eR
  go_loop [15, 16] (fun a b => ∃ x z : Int, a = .int .u64 x ∧ b = .int .u64 z ∧ 0 ≤ x ∧ x ≤ 8589934591 ∧ 0 ≤ z ∧ z ≤ 4294967295 ∧ Hid (J u a1 y1 Y x z)) (fun a _ => (intOf a).toNat)
  case atStart => exact ⟨q, r, rfl, rfl, hq.1, hq.2.1, HJ.out.2.1, by omega, HJ⟩
  case round =>
    clear HJ hq
    obtain ⟨q, z1, rfl, rfl, m0, m1, m2, m3, HK⟩ := hrel
    by_cases c2 : 4294967296 ≤ q
    · have js := j_step HH.out uY b1.2 HK.out (.inl c2) b1.1
      have HJ3 := hide js.2
      clear js
      by_cases c3 : 4294967296 ≤ z1 + y1
      · have HE := hide (e_break HH.out uY b1.1 HJ3.out c3)
        clear HK HJ3
        have e3 := e_rest HE.out hs2
        obtain ⟨t, eT2⟩ : ∃ z, u * 4294967296 + a1 - (q - 1) * Y = z := ⟨_, rfl⟩
        rw [eT2] at e3
        have ht : 0 ≤ t ∧ t < Y := by have := HE.out; unfold E at this; omega
        have hq2 := quot_le HH.out ht.1 (show t ≤ 18446744073709551615 by omega)
        have hj2 := j_start HH.out ht.1 b0.1 b0.2
        obtain ⟨p, eP⟩ : ∃ z, t / y1 = z := ⟨_, rfl⟩
        rw [eP] at hq2 hj2
        have eP2 : t.tdiv y1 = p := by rw [Int.tdiv_eq_ediv_of_nonneg ht.1]; exact eP
        obtain ⟨r2, eR2⟩ : ∃ z, t - p * y1 = z := ⟨_, rfl⟩
        rw [eR2] at hj2 hq2
        have HJ2 := hide hj2
        have ET := hide eT2
        clear hj2 eT2
        go_wp2_with fail
        clear e3 eP eP2 eR2
        go_loop [18, 16] (fun a b => ∃ x z : Int, a = .int .u64 x ∧ b = .int .u64 z ∧ 0 ≤ x ∧ x ≤ 8589934591 ∧ 0 ≤ z ∧ z ≤ 4294967295 ∧ Hid (J t a0 y1 Y x z)) (fun a _ => (intOf a).toNat)
        case atStart => exact ⟨p, r2, rfl, rfl, hq2.1, hq2.2.1, HJ2.out.2.1, by omega, HJ2⟩
        case round =>
          clear HJ2 hq2
          obtain ⟨q2, z, rfl, rfl, k0, k1, k2, k3, HK⟩ := hrel
          by_cases c2 : 4294967296 ≤ q2
          · have js := j_step HH.out ht.2 b0.2 HK.out (.inl c2) b0.1
            have HJ3 := hide js.2
            clear js
            by_cases c3 : 4294967296 ≤ z + y1
            · have HE2 := hide (e_break HH.out ht.2 b0.1 HJ3.out c3)
              clear HK HJ3
              have e4 := e_rest HE2.out hs2
              obtain ⟨t2, eT3⟩ : ∃ z, t * 4294967296 + a0 - (q2 - 1) * Y = z := ⟨_, rfl⟩
              rw [eT3] at e4
              have ht2 : 0 ≤ t2 ∧ t2 < Y := by have := HE2.out; unfold E at this; omega
              have hq3 : 0 ≤ q - 1 ∧ q - 1 ≤ 4294967295 := ⟨HE.out.1, HE.out.2.1⟩
              have hq4 : 0 ≤ (q2 - 1) ∧ (q2 - 1) ≤ 4294967295 := ⟨HE2.out.1, HE2.out.2.1⟩
              have EE := hide eT3
              clear eT3
              go_wp2_with fail
              go_ret2
              have hend := div_end (X := hi * 18446744073709551616 + lo) (y := y) (S := 2 ^ s) (u := u) (v := v) (u1 := a1) (u0 := a0) (q1 := q - 1) (q0 := (q2 - 1)) hS HX.out HV.out (by rw [EY.out]; exact HE.out) (by rw [EY.out, ET.out]; exact HE2.out)
              rw [EY.out, ET.out, EE.out] at hend
              exact ⟨ret_two hend.1.symm hend.2.symm, rfl⟩
            · go_wp2_with fail
              go_round
              case rel => exact ⟨q2 - 1, z + y1, rfl, rfl, by omega, by omega, by omega, by omega, HJ3⟩
              case measure => simp [intOf]; omega
          · have hp := part_in q2 y0 k0 (by omega) c0.1 c0.2
            by_cases c4 : 4294967296 * z + a0 < q2 * y0
            · have js := j_step HH.out ht.2 b0.2 HK.out (.inr c4) b0.1
              have hq1 := js.1
              have HJ3 := hide js.2
              clear js
              by_cases c3 : 4294967296 ≤ z + y1
              · have HE2 := hide (e_break HH.out ht.2 b0.1 HJ3.out c3)
                clear HK HJ3
                have e4 := e_rest HE2.out hs2
                obtain ⟨t2, eT3⟩ : ∃ z, t * 4294967296 + a0 - (q2 - 1) * Y = z := ⟨_, rfl⟩
                rw [eT3] at e4
                have ht2 : 0 ≤ t2 ∧ t2 < Y := by have := HE2.out; unfold E at this; omega
                have hq3 : 0 ≤ q - 1 ∧ q - 1 ≤ 4294967295 := ⟨HE.out.1, HE.out.2.1⟩
                have hq4 : 0 ≤ (q2 - 1) ∧ (q2 - 1) ≤ 4294967295 := ⟨HE2.out.1, HE2.out.2.1⟩
                have EE := hide eT3
                clear eT3
                go_wp2_with fail
                go_ret2
                have hend := div_end (X := hi * 18446744073709551616 + lo) (y := y) (S := 2 ^ s) (u := u) (v := v) (u1 := a1) (u0 := a0) (q1 := q - 1) (q0 := (q2 - 1)) hS HX.out HV.out (by rw [EY.out]; exact HE.out) (by rw [EY.out, ET.out]; exact HE2.out)
                rw [EY.out, ET.out, EE.out] at hend
                exact ⟨ret_two hend.1.symm hend.2.symm, rfl⟩
              · go_wp2_with fail
                go_round
                case rel => exact ⟨q2 - 1, z + y1, rfl, rfl, by omega, by omega, by omega, by omega, HJ3⟩
                case measure => simp [intOf]; omega
            · have HE2 := hide (e_done HH.out HK.out (by omega) (by omega))
              clear HK
              have e4 := e_rest HE2.out hs2
              obtain ⟨t2, eT3⟩ : ∃ z, t * 4294967296 + a0 - q2 * Y = z := ⟨_, rfl⟩
              rw [eT3] at e4
              have ht2 : 0 ≤ t2 ∧ t2 < Y := by have := HE2.out; unfold E at this; omega
              have hq3 : 0 ≤ q - 1 ∧ q - 1 ≤ 4294967295 := ⟨HE.out.1, HE.out.2.1⟩
              have hq4 : 0 ≤ q2 ∧ q2 ≤ 4294967295 := ⟨HE2.out.1, HE2.out.2.1⟩
              have EE := hide eT3
              clear eT3
              go_wp2_with fail
              go_ret2
              have hend := div_end (X := hi * 18446744073709551616 + lo) (y := y) (S := 2 ^ s) (u := u) (v := v) (u1 := a1) (u0 := a0) (q1 := q - 1) (q0 := q2) hS HX.out HV.out (by rw [EY.out]; exact HE.out) (by rw [EY.out, ET.out]; exact HE2.out)
              rw [EY.out, ET.out, EE.out] at hend
              exact ⟨ret_two hend.1.symm hend.2.symm, rfl⟩
      · go_wp2_with fail
        go_round
        case rel => exact ⟨q - 1, z1 + y1, rfl, rfl, by omega, by omega, by omega, by omega, HJ3⟩
        case measure => simp [intOf]; omega
    · have hp := part_in q y0 m0 (by omega) c0.1 c0.2
      by_cases c4 : 4294967296 * z1 + a1 < q * y0
      · have js := j_step HH.out uY b1.2 HK.out (.inr c4) b1.1
        have hq1 := js.1
        have HJ3 := hide js.2
        clear js
        by_cases c3 : 4294967296 ≤ z1 + y1
        · have HE := hide (e_break HH.out uY b1.1 HJ3.out c3)
          clear HK HJ3
          have e3 := e_rest HE.out hs2
          obtain ⟨t, eT2⟩ : ∃ z, u * 4294967296 + a1 - (q - 1) * Y = z := ⟨_, rfl⟩
          rw [eT2] at e3
          have ht : 0 ≤ t ∧ t < Y := by have := HE.out; unfold E at this; omega
          have hq2 := quot_le HH.out ht.1 (show t ≤ 18446744073709551615 by omega)
          have hj2 := j_start HH.out ht.1 b0.1 b0.2
          obtain ⟨p, eP⟩ : ∃ z, t / y1 = z := ⟨_, rfl⟩
          rw [eP] at hq2 hj2
          have eP2 : t.tdiv y1 = p := by rw [Int.tdiv_eq_ediv_of_nonneg ht.1]; exact eP
          obtain ⟨r2, eR2⟩ : ∃ z, t - p * y1 = z := ⟨_, rfl⟩
          rw [eR2] at hj2 hq2
          have HJ2 := hide hj2
          have ET := hide eT2
          clear hj2 eT2
          go_wp2_with fail
          clear e3 eP eP2 eR2
          go_loop [18, 16] (fun a b => ∃ x z : Int, a = .int .u64 x ∧ b = .int .u64 z ∧ 0 ≤ x ∧ x ≤ 8589934591 ∧ 0 ≤ z ∧ z ≤ 4294967295 ∧ Hid (J t a0 y1 Y x z)) (fun a _ => (intOf a).toNat)
          case atStart => exact ⟨p, r2, rfl, rfl, hq2.1, hq2.2.1, HJ2.out.2.1, by omega, HJ2⟩
          case round =>
            clear HJ2 hq2
            obtain ⟨q2, z, rfl, rfl, k0, k1, k2, k3, HK⟩ := hrel
            by_cases c2 : 4294967296 ≤ q2
            · have js := j_step HH.out ht.2 b0.2 HK.out (.inl c2) b0.1
              have HJ3 := hide js.2
              clear js
              by_cases c3 : 4294967296 ≤ z + y1
              · have HE2 := hide (e_break HH.out ht.2 b0.1 HJ3.out c3)
                clear HK HJ3
                have e4 := e_rest HE2.out hs2
                obtain ⟨t2, eT3⟩ : ∃ z, t * 4294967296 + a0 - (q2 - 1) * Y = z := ⟨_, rfl⟩
                rw [eT3] at e4
                have ht2 : 0 ≤ t2 ∧ t2 < Y := by have := HE2.out; unfold E at this; omega
                have hq3 : 0 ≤ q - 1 ∧ q - 1 ≤ 4294967295 := ⟨HE.out.1, HE.out.2.1⟩
                have hq4 : 0 ≤ (q2 - 1) ∧ (q2 - 1) ≤ 4294967295 := ⟨HE2.out.1, HE2.out.2.1⟩
                have EE := hide eT3
                clear eT3
                go_wp2_with fail
                go_ret2
                have hend := div_end (X := hi * 18446744073709551616 + lo) (y := y) (S := 2 ^ s) (u := u) (v := v) (u1 := a1) (u0 := a0) (q1 := q - 1) (q0 := (q2 - 1)) hS HX.out HV.out (by rw [EY.out]; exact HE.out) (by rw [EY.out, ET.out]; exact HE2.out)
                rw [EY.out, ET.out, EE.out] at hend
                exact ⟨ret_two hend.1.symm hend.2.symm, rfl⟩
              · go_wp2_with fail
                go_round
                case rel => exact ⟨q2 - 1, z + y1, rfl, rfl, by omega, by omega, by omega, by omega, HJ3⟩
                case measure => simp [intOf]; omega
            · have hp := part_in q2 y0 k0 (by omega) c0.1 c0.2
              by_cases c4 : 4294967296 * z + a0 < q2 * y0
              · have js := j_step HH.out ht.2 b0.2 HK.out (.inr c4) b0.1
                have hq1 := js.1
                have HJ3 := hide js.2
                clear js
                by_cases c3 : 4294967296 ≤ z + y1
                · have HE2 := hide (e_break HH.out ht.2 b0.1 HJ3.out c3)
                  clear HK HJ3
                  have e4 := e_rest HE2.out hs2
                  obtain ⟨t2, eT3⟩ : ∃ z, t * 4294967296 + a0 - (q2 - 1) * Y = z := ⟨_, rfl⟩
                  rw [eT3] at e4
                  have ht2 : 0 ≤ t2 ∧ t2 < Y := by have := HE2.out; unfold E at this; omega
                  have hq3 : 0 ≤ q - 1 ∧ q - 1 ≤ 4294967295 := ⟨HE.out.1, HE.out.2.1⟩
                  have hq4 : 0 ≤ (q2 - 1) ∧ (q2 - 1) ≤ 4294967295 := ⟨HE2.out.1, HE2.out.2.1⟩
                  have EE := hide eT3
                  clear eT3
                  go_wp2_with fail
                  go_ret2
                  have hend := div_end (X := hi * 18446744073709551616 + lo) (y := y) (S := 2 ^ s) (u := u) (v := v) (u1 := a1) (u0 := a0) (q1 := q - 1) (q0 := (q2 - 1)) hS HX.out HV.out (by rw [EY.out]; exact HE.out) (by rw [EY.out, ET.out]; exact HE2.out)
                  rw [EY.out, ET.out, EE.out] at hend
                  exact ⟨ret_two hend.1.symm hend.2.symm, rfl⟩
                · go_wp2_with fail
                  go_round
                  case rel => exact ⟨q2 - 1, z + y1, rfl, rfl, by omega, by omega, by omega, by omega, HJ3⟩
                  case measure => simp [intOf]; omega
              · have HE2 := hide (e_done HH.out HK.out (by omega) (by omega))
                clear HK
                have e4 := e_rest HE2.out hs2
                obtain ⟨t2, eT3⟩ : ∃ z, t * 4294967296 + a0 - q2 * Y = z := ⟨_, rfl⟩
                rw [eT3] at e4
                have ht2 : 0 ≤ t2 ∧ t2 < Y := by have := HE2.out; unfold E at this; omega
                have hq3 : 0 ≤ q - 1 ∧ q - 1 ≤ 4294967295 := ⟨HE.out.1, HE.out.2.1⟩
                have hq4 : 0 ≤ q2 ∧ q2 ≤ 4294967295 := ⟨HE2.out.1, HE2.out.2.1⟩
                have EE := hide eT3
                clear eT3
                go_wp2_with fail
                go_ret2
                have hend := div_end (X := hi * 18446744073709551616 + lo) (y := y) (S := 2 ^ s) (u := u) (v := v) (u1 := a1) (u0 := a0) (q1 := q - 1) (q0 := q2) hS HX.out HV.out (by rw [EY.out]; exact HE.out) (by rw [EY.out, ET.out]; exact HE2.out)
                rw [EY.out, ET.out, EE.out] at hend
                exact ⟨ret_two hend.1.symm hend.2.symm, rfl⟩
        · go_wp2_with fail
          go_round
          case rel => exact ⟨q - 1, z1 + y1, rfl, rfl, by omega, by omega, by omega, by omega, HJ3⟩
          case measure => simp [intOf]; omega
      · have HE := hide (e_done HH.out HK.out (by omega) (by omega))
        clear HK
        have e3 := e_rest HE.out hs2
        obtain ⟨t, eT2⟩ : ∃ z, u * 4294967296 + a1 - q * Y = z := ⟨_, rfl⟩
        rw [eT2] at e3
        have ht : 0 ≤ t ∧ t < Y := by have := HE.out; unfold E at this; omega
        have hq2 := quot_le HH.out ht.1 (show t ≤ 18446744073709551615 by omega)
        have hj2 := j_start HH.out ht.1 b0.1 b0.2
        obtain ⟨p, eP⟩ : ∃ z, t / y1 = z := ⟨_, rfl⟩
        rw [eP] at hq2 hj2
        have eP2 : t.tdiv y1 = p := by rw [Int.tdiv_eq_ediv_of_nonneg ht.1]; exact eP
        obtain ⟨r2, eR2⟩ : ∃ z, t - p * y1 = z := ⟨_, rfl⟩
        rw [eR2] at hj2 hq2
        have HJ2 := hide hj2
        have ET := hide eT2
        clear hj2 eT2
        go_wp2_with fail
        clear e3 eP eP2 eR2
        go_loop [18, 16] (fun a b => ∃ x z : Int, a = .int .u64 x ∧ b = .int .u64 z ∧ 0 ≤ x ∧ x ≤ 8589934591 ∧ 0 ≤ z ∧ z ≤ 4294967295 ∧ Hid (J t a0 y1 Y x z)) (fun a _ => (intOf a).toNat)
        case atStart => exact ⟨p, r2, rfl, rfl, hq2.1, hq2.2.1, HJ2.out.2.1, by omega, HJ2⟩
        case round =>
          clear HJ2 hq2
          obtain ⟨q2, z, rfl, rfl, k0, k1, k2, k3, HK⟩ := hrel
          by_cases c2 : 4294967296 ≤ q2
          · have js := j_step HH.out ht.2 b0.2 HK.out (.inl c2) b0.1
            have HJ3 := hide js.2
            clear js
            by_cases c3 : 4294967296 ≤ z + y1
            · have HE2 := hide (e_break HH.out ht.2 b0.1 HJ3.out c3)
              clear HK HJ3
              have e4 := e_rest HE2.out hs2
              obtain ⟨t2, eT3⟩ : ∃ z, t * 4294967296 + a0 - (q2 - 1) * Y = z := ⟨_, rfl⟩
              rw [eT3] at e4
              have ht2 : 0 ≤ t2 ∧ t2 < Y := by have := HE2.out; unfold E at this; omega
              have hq3 : 0 ≤ q ∧ q ≤ 4294967295 := ⟨HE.out.1, HE.out.2.1⟩
              have hq4 : 0 ≤ (q2 - 1) ∧ (q2 - 1) ≤ 4294967295 := ⟨HE2.out.1, HE2.out.2.1⟩
              have EE := hide eT3
              clear eT3
              go_wp2_with fail
              go_ret2
              have hend := div_end (X := hi * 18446744073709551616 + lo) (y := y) (S := 2 ^ s) (u := u) (v := v) (u1 := a1) (u0 := a0) (q1 := q) (q0 := (q2 - 1)) hS HX.out HV.out (by rw [EY.out]; exact HE.out) (by rw [EY.out, ET.out]; exact HE2.out)
              rw [EY.out, ET.out, EE.out] at hend
              exact ⟨ret_two hend.1.symm hend.2.symm, rfl⟩
            · go_wp2_with fail
              go_round
              case rel => exact ⟨q2 - 1, z + y1, rfl, rfl, by omega, by omega, by omega, by omega, HJ3⟩
              case measure => simp [intOf]; omega
          · have hp := part_in q2 y0 k0 (by omega) c0.1 c0.2
            by_cases c4 : 4294967296 * z + a0 < q2 * y0
            · have js := j_step HH.out ht.2 b0.2 HK.out (.inr c4) b0.1
              have hq1 := js.1
              have HJ3 := hide js.2
              clear js
              by_cases c3 : 4294967296 ≤ z + y1
              · have HE2 := hide (e_break HH.out ht.2 b0.1 HJ3.out c3)
                clear HK HJ3
                have e4 := e_rest HE2.out hs2
                obtain ⟨t2, eT3⟩ : ∃ z, t * 4294967296 + a0 - (q2 - 1) * Y = z := ⟨_, rfl⟩
                rw [eT3] at e4
                have ht2 : 0 ≤ t2 ∧ t2 < Y := by have := HE2.out; unfold E at this; omega
                have hq3 : 0 ≤ q ∧ q ≤ 4294967295 := ⟨HE.out.1, HE.out.2.1⟩
                have hq4 : 0 ≤ (q2 - 1) ∧ (q2 - 1) ≤ 4294967295 := ⟨HE2.out.1, HE2.out.2.1⟩
                have EE := hide eT3
                clear eT3
                go_wp2_with fail
                go_ret2
                have hend := div_end (X := hi * 18446744073709551616 + lo) (y := y) (S := 2 ^ s) (u := u) (v := v) (u1 := a1) (u0 := a0) (q1 := q) (q0 := (q2 - 1)) hS HX.out HV.out (by rw [EY.out]; exact HE.out) (by rw [EY.out, ET.out]; exact HE2.out)
                rw [EY.out, ET.out, EE.out] at hend
                exact ⟨ret_two hend.1.symm hend.2.symm, rfl⟩
              · go_wp2_with fail
                go_round
                case rel => exact ⟨q2 - 1, z + y1, rfl, rfl, by omega, by omega, by omega, by omega, HJ3⟩
                case measure => simp [intOf]; omega
            · have HE2 := hide (e_done HH.out HK.out (by omega) (by omega))
              clear HK
              have e4 := e_rest HE2.out hs2
              obtain ⟨t2, eT3⟩ : ∃ z, t * 4294967296 + a0 - q2 * Y = z := ⟨_, rfl⟩
              rw [eT3] at e4
              have ht2 : 0 ≤ t2 ∧ t2 < Y := by have := HE2.out; unfold E at this; omega
              have hq3 : 0 ≤ q ∧ q ≤ 4294967295 := ⟨HE.out.1, HE.out.2.1⟩
              have hq4 : 0 ≤ q2 ∧ q2 ≤ 4294967295 := ⟨HE2.out.1, HE2.out.2.1⟩
              have EE := hide eT3
              clear eT3
              go_wp2_with fail
              go_ret2
              have hend := div_end (X := hi * 18446744073709551616 + lo) (y := y) (S := 2 ^ s) (u := u) (v := v) (u1 := a1) (u0 := a0) (q1 := q) (q0 := q2) hS HX.out HV.out (by rw [EY.out]; exact HE.out) (by rw [EY.out, ET.out]; exact HE2.out)
              rw [EY.out, ET.out, EE.out] at hend
              exact ⟨ret_two hend.1.symm hend.2.symm, rfl⟩
end Go.Proofs.Ytjinfjibodoflaa
