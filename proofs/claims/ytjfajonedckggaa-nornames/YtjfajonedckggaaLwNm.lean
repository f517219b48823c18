/- NorNames. -/
import Derived.Test.YtjfajonedckggaaNo8
namespace Go.Proofs.Ytjfajonedckggaa
open Go.RowKit Go.Great

theorem extract_bs (l : List UInt8) (a b : Nat) : (bs l).extract a b = bs ((l.drop a).take (b - a)) := by
  apply ByteArray.ext
  apply Array.ext'
  simp [bs, ByteArray.data_extract, List.extract_eq_take_drop]
def m1 : St := (cutR s0 0 ⟨#[]⟩).1
def m2 : St := (progR m1 0 ⟨#[0]⟩).1
theorem q1 : progR s0 8191 ⟨#[97, 98]⟩ = (s0, 1) := by kernel_rfl
theorem q2 : progR s0 8192 ⟨#[]⟩ = (s0, 0) := by kernel_rfl
theorem q3 : eraseR s0 2 = (s0, 1) := by kernel_rfl
theorem q4 : (cutR s0 0 ⟨#[]⟩).2 = 0 := by kernel_rfl
theorem q5 : progR m1 9223372036854775807 ⟨#[97]⟩ = (m1, 1) := by kernel_rfl
theorem q6 : (progR m1 0 ⟨#[0]⟩).2 = 60 := by kernel_rfl
theorem q7 : progR m2 9999 ⟨#[97]⟩ = (m2, 60) := by kernel_rfl
theorem q8 : m1.jk.size = 0 := by kernel_rfl
theorem q9 : (m2.C.drop 0).take (1 - 0) = [0] := by kernel_rfl
theorem q10 : m2.jk.size = 0 := by kernel_rfl
theorem aw9 (w : World) (R : Nat) (h : Fl w R m2) : ∃ t : ByteArray, ((t.size : Int) == 8192) = true ∧ t.extract 0 1 = ⟨#[0]⟩ ∧ 1 ≤ t.size ∧ Calls Try.prog 12 #[fp R] w fun e w' => e = .returned (.string t) ∧ w' = w := by
  obtain ⟨t, h1, h2, h3⟩ := aw8 w R m2 h
  refine ⟨t, h1, ?_, ?_, h3⟩
  · rw [← h2, extract_bs, q9]; rfl
  · rw [← h2, bs_size, h.len]; omega
set_option maxHeartbeats 1000000 in
theorem NorNames_walk (w : World) : Calls Try.prog 8 #[] w fun e w' => e = .returned (.bool true) ∧ Below w.heap.size w w' := by
  go_enter Try.func8, Try.ntmps8
  go_wp2_with fail
  refine (new_any w).mono ?_
  rintro e w1 ⟨rfl, h1, b1⟩
  obtain ⟨R, hR⟩ : ∃ R, Hid (w.heap.size = R) := ⟨_, hide rfl⟩
  rw [hR.out] at h1
  rw [show fp w.heap.size = fp R by rw [hR.out]]
  have H1 : Hid (Fl w1 R s0) := hide h1
  clear h1
  have P1 := prog_any w1 R s0 H1.out (by rw [k8]; omega) 8191 (i64_small _ (by omega)) ⟨#[97, 98]⟩
  rw [q1] at P1
  go_wp2_with fail
  refine P1.mono ?_
  clear P1
  rintro e w2 ⟨rfl, h2, k2⟩
  have H2 : Hid (Fl w2 R s0) := hide h2
  clear h2
  have P1 := prog_any w2 R s0 H2.out (by rw [k8]; omega) 8192 (i64_small _ (by omega)) ⟨#[]⟩
  rw [q2] at P1
  go_wp2_with fail
  refine P1.mono ?_
  clear P1
  rintro e w3 ⟨rfl, h3, k3⟩
  have H3 : Hid (Fl w3 R s0) := hide h3
  clear h3
  have P1 := erase_any w3 R s0 H3.out (by rw [k8]; omega) 2
  rw [q3] at P1
  go_wp2_with fail
  refine P1.mono ?_
  clear P1
  rintro e w4 ⟨rfl, h4, k4⟩
  have H4 : Hid (Fl w4 R s0) := hide h4
  clear h4
  go_wp2_with fail
  refine (of_out w4 ⟨#[120]⟩ (by show (1 : Nat) ≠ _; omega)).mono ?_
  rintro e w5 ⟨rfl, hw⟩
  obtain rfl := hw.symm
  clear hw
  have P1 := cut_any w4 R s0 H4.out 0 ⟨#[]⟩ (by show (0 : Nat) ≤ _; omega)
  rw [q4] at P1
  go_wp2_with fail
  refine P1.mono ?_
  clear P1
  rintro e w5 ⟨rfl, h5, k5⟩
  have H5 : Hid (Fl w5 R m1) := hide h5
  clear h5
  have P1 := prog_any w5 R m1 H5.out (by rw [q8]; omega) 9223372036854775807 (by unfold I64; omega) ⟨#[97]⟩
  rw [q5] at P1
  go_wp2_with fail
  refine P1.mono ?_
  clear P1
  rintro e w6 ⟨rfl, h6, k6⟩
  have H6 : Hid (Fl w6 R m1) := hide h6
  clear h6
  have P1 := prog_any w6 R m1 H6.out (by rw [q8]; omega) 0 (i64_small _ (by omega)) ⟨#[0]⟩
  rw [q6] at P1
  go_wp2_with fail
  refine P1.mono ?_
  clear P1
  rintro e w7 ⟨rfl, h7, k7⟩
  have H7 : Hid (Fl w7 R m2) := hide h7
  clear h7
  have P1 := prog_any w7 R m2 H7.out (by rw [q10]; omega) 9999 (i64_small _ (by omega)) ⟨#[97]⟩
  rw [q7] at P1
  go_wp2_with fail
  refine P1.mono ?_
  clear P1
  rintro e w8 ⟨rfl, h8, k8⟩
  have H8 : Hid (Fl w8 R m2) := hide h8
  clear h8
  go_wp2_with fail
  refine (awake_true w8).mono ?_
  rintro e w9 ⟨rfl, b9⟩
  obtain ⟨t, ht, hx, h1t, T⟩ := aw9 w9 R (H8.out.below b9)
  go_wp2_with fail
  refine T.mono ?_
  rintro e wa ⟨rfl, hw⟩
  obtain rfl := hw.symm
  clear hw
  go_wp2_with fail
  refine T.mono ?_
  rintro e wa ⟨rfl, hw⟩
  obtain rfl := hw.symm
  clear hw
  go_wp2_with fail
  go_ret
  refine ⟨rfl, ?_⟩
  have hR2 := hR.out
  have z1 := b1.size
  have z2 := k2.size
  have z3 := k3.size
  have z4 := k4.size
  have z5 := k5.size
  have z6 := k6.size
  have z7 := k7.size
  have z8 := k8.size
  have z : ∀ {a b : World}, Below R w a → Kept R a b → Below R w b := fun h k => k.toBelow h (by have := h.size; omega) (Nat.le_refl _)
  rw [hR2] at b1 ⊢
  exact (z (z (z (z (z (z (z b1 k2) k3) k4) k5) k6) k7) k8).trans (b9.mono (by omega))
end Go.Proofs.Ytjfajonedckggaa
