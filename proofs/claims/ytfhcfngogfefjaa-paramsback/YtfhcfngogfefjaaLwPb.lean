/- ParamsBack. -/
import Derived.Test.YtfhcfngogfefjaaPaH
namespace Go.Proofs.Ytfhcfngogfefjaa
open Go.RowKit Go.Great

theorem encE_ok (l : List Int) (hs : Sound l) : (encE l).size = 96 ∧ decE (encE l) = (l, 0) := by
  have hz : (encE l).size = 96 := by
    unfold encE; rw [if_pos hs.chk, bs_size, encK_len]
  refine ⟨hz, ?_⟩
  unfold decE
  rw [if_pos hz]
  have hd : decK (encE l).data.toList 24 = l := by
    unfold encE; rw [if_pos hs.chk, bs_list]; exact dec_enc l hs.len (fun i hi => hs.inr.small i hi)
  rw [hd]
  unfold souE
  rw [if_pos hs.chk, hs.chk]
set_option maxHeartbeats 2000000 in
theorem back_walk (l : List Int) (v : Value) (w : World) (hv : Ints w v l) (hlen : l.length ≤ 4611686018427387904) : Calls Try.prog 9 #[v] w fun e w' => e = .returned (.bool true) ∧ Below w.heap.size w w' := by
  have HEn := hide (encode_any l v w hv)
  have HA := hide awake_any
  have HCk := hide (check_any l v)
  have HV := hide hv
  by_cases hc : chk l = 0
  · have hs := sound_of hc
    rw [hc] at HEn HCk
    obtain ⟨hz, hD⟩ := encE_ok l hs
    have HD := hide (fun W => decode_any (encE l) W)
    rw [hD] at HD
    have HSm := hide (fun u W hu hv => sameInts_true l u v W hu hv hlen)
    have hz2 : (((encE l).size : Int) == 96) = true := by rw [hz]; rfl
    generalize encE l = E at HEn HD hz2
    obtain ⟨a, cap, rfl, _⟩ := hv
    obtain ⟨n, HN⟩ : ∃ n, Hid (l.length = n) := ⟨_, rfl⟩
    rw [HN.out] at HEn HCk HV HSm ⊢
    clear hc hs hz hD hlen
    go_enter Try.func9, Try.ntmps9
    go_wp2_with fail
    refine HEn.out.mono ?_
    rintro e w1 ⟨rfl, hB1⟩
    have HB1 := hide hB1
    clear hB1
    go_wp2_with fail
    refine (HD.out _).mono ?_
    rintro e w2 ⟨u, rfl, hR2, hB2⟩
    have HB2 : Hid (Below w.heap.size w w2) := below_next HB1.out (Nat.le_refl _) hB2
    have HI2 := hide hR2.ints
    have HV2 := hide (HV.out.below HB2.out)
    clear hB2 hR2
    go_wp2_with fail
    refine (HSm.out _ _ HI2.out HV2.out).mono ?_
    rintro e w3 ⟨rfl, q, hw3⟩
    have HB3 : Hid (Below w.heap.size w w3) := by rw [hw3]; exact below_drewN HB2.out q
    have HV3 := hide (HV.out.below HB3.out)
    clear hw3
    go_wp2_with fail
    refine (HCk.out _ HV3.out).mono ?_
    rintro e w4 ⟨rfl, hB4⟩
    have HB4 : Hid (Below w.heap.size w w4) := below_next HB3.out (Nat.le_refl _) hB4
    clear hB4
    go_wp2_with fail
    refine (HA.out _).mono ?_
    rintro e w5 ⟨rfl, hB5⟩
    have HB5 : Hid (Below w.heap.size w w5) := below_next HB4.out (Nat.le_refl _) hB5
    clear hB5
    go_wp2_with fail
    go_ret
    exact ⟨rfl, HB5.out⟩
  · unfold encE at HEn
    rw [if_neg hc] at HEn
    obtain ⟨a, cap, rfl, _⟩ := hv
    generalize chk l = c at HEn HCk hc
    generalize l.length = n at HEn HCk HV ⊢
    have hne : (c != 0) = true := by simp [hc]
    have hcc : (c == c) = true := by simp
    clear hc
    go_enter Try.func9, Try.ntmps9
    go_wp2_with fail
    refine HEn.out.mono ?_
    rintro e w1 ⟨rfl, hB1⟩
    have HB1 := hide hB1
    have HV1 := hide (HV.out.below hB1)
    clear hB1
    go_wp2_with fail
    refine (HCk.out _ HV1.out).mono ?_
    rintro e w4 ⟨rfl, hB4⟩
    have HB4 : Hid (Below w.heap.size w w4) := below_next HB1.out (Nat.le_refl _) hB4
    clear hB4
    go_wp2_with fail
    refine (HA.out _).mono ?_
    rintro e w5 ⟨rfl, hB5⟩
    have HB5 : Hid (Below w.heap.size w w5) := below_next HB4.out (Nat.le_refl _) hB5
    clear hB5
    go_wp2_with fail
    go_ret
    exact ⟨rfl, HB5.out⟩
theorem ParamsBack_walk (v : Value) (w : World) (h : ∃ l, IntsIn w v l) : Calls Try.prog 9 #[v] w fun e w' => e = .returned (.bool true) ∧ Below w.heap.size w w' := by
  obtain ⟨l, hl⟩ := h
  exact back_walk l v w hl.1 (by have := hl.2.2; omega)
end Go.Proofs.Ytfhcfngogfefjaa
