/- The closed examples. -/
import Derived.Test.YtjfajonedckggaaNo7
namespace Go.Proofs.Ytjfajonedckggaa
open Go.RowKit Go.Great

def s0 : St := st0 (List.replicate 8192 255)
def s1 : St := (progR s0 0 ⟨#[15, 240]⟩).1
def s2 : St := (cutR s1 1 ⟨#[60]⟩).1
def s3 : St := (progR s2 4096 ⟨#[0, 0, 0]⟩).1
def s4 : St := onS s3
theorem k1 : (progR s0 0 ⟨#[15, 240]⟩).2 = 0 := by kernel_rfl
theorem k2 : (cutR s1 1 ⟨#[60]⟩).2 = 0 := by kernel_rfl
theorem k3 : (progR s2 4096 ⟨#[0, 0, 0]⟩).2 = 60 := by kernel_rfl
theorem k4 : readR s3 0 1 = (⟨#[]⟩, 60) := by kernel_rfl
theorem k5 : readR s4 4096 3 = (⟨#[0, 60, 255]⟩, 0) := by kernel_rfl
theorem k6 : readR s4 0 3 = (⟨#[15, 240, 255]⟩, 0) := by kernel_rfl
theorem k7 : s4.st = 3 := by kernel_rfl
theorem k8 : s0.jk.size = 0 := by kernel_rfl
theorem k9 : s2.jk.size = 1 := by kernel_rfl
theorem i64_small (a : Int) (h : 0 ≤ a ∧ a ≤ 1000000) : I64 a := by unfold I64; omega
theorem aw1 (w : World) (R : Nat) (h : Fl w R s0) : Calls Try.prog 13 #[fp R, .int .i64 0, .string ⟨#[15, 240]⟩] w fun e w' => e = .returned (.int .i64 0) ∧ Fl w' R s1 ∧ Kept R w w' := by
  have := prog_any w R s0 h (by rw [k8]; omega) 0 (i64_small 0 (by omega)) ⟨#[15, 240]⟩
  rw [k1] at this
  exact this
theorem aw2 (w : World) (R : Nat) (h : Fl w R s1) : Calls Try.prog 15 #[fp R, .int .i64 1, .string ⟨#[60]⟩] w fun e w' => e = .returned (.int .i64 0) ∧ Fl w' R s2 ∧ Kept R w w' := by
  have := cut_any w R s1 h 1 ⟨#[60]⟩ (by show (1 : Nat) ≤ _; omega)
  rw [k2] at this
  exact this
theorem aw3 (w : World) (R : Nat) (h : Fl w R s2) : Calls Try.prog 13 #[fp R, .int .i64 4096, .string ⟨#[0, 0, 0]⟩] w fun e w' => e = .returned (.int .i64 60) ∧ Fl w' R s3 ∧ Kept R w w' := by
  have := prog_any w R s2 h (by rw [k9]; omega) 4096 (i64_small _ (by omega)) ⟨#[0, 0, 0]⟩
  rw [k3] at this
  exact this
theorem aw4 (w : World) (R : Nat) (h : Fl w R s3) : Calls Try.prog 20 #[fp R, .int .i64 0, .int .i64 1] w fun e w' => e = .returned (.tuple #[.string ⟨#[]⟩, .int .i64 60]) ∧ w' = w := by
  have := read_any w R s3 h 0 1 (i64_small _ (by omega))
  rw [k4] at this
  exact this
theorem aw5 (w : World) (R : Nat) (h : Fl w R s4) : Calls Try.prog 20 #[fp R, .int .i64 4096, .int .i64 3] w fun e w' => e = .returned (.tuple #[.string ⟨#[0, 60, 255]⟩, .int .i64 0]) ∧ w' = w := by
  have := read_any w R s4 h 4096 3 (i64_small _ (by omega))
  rw [k5] at this
  exact this
theorem aw6 (w : World) (R : Nat) (h : Fl w R s4) : Calls Try.prog 20 #[fp R, .int .i64 0, .int .i64 3] w fun e w' => e = .returned (.tuple #[.string ⟨#[15, 240, 255]⟩, .int .i64 0]) ∧ w' = w := by
  have := read_any w R s4 h 0 3 (i64_small _ (by omega))
  rw [k6] at this
  exact this
theorem aw7 (w : World) (R : Nat) (h : Fl w R s4) : Calls Try.prog 14 #[fp R] w fun e w' => e = .returned (.int .i64 3) ∧ w' = w := by
  have := steps_any w R s4 h
  rw [k7] at this
  exact this
theorem aw8 (w : World) (R : Nat) (σ : St) (h : Fl w R σ) : ∃ t : ByteArray, ((t.size : Int) == 8192) = true ∧ bs σ.C = t ∧ Calls Try.prog 12 #[fp R] w fun e w' => e = .returned (.string t) ∧ w' = w := by
  refine ⟨bs σ.C, ?_, rfl, image_any w R σ h⟩
  rw [bs_size, h.len]
  rfl
set_option maxHeartbeats 1000000 in
theorem awake_true (w : World) : Calls Try.prog 10 #[] w fun e w' => e = .returned (.bool true) ∧ Below w.heap.size w w' := by
  go_enter Try.func10, Try.ntmps10
  go_wp2_with fail
  refine (new_any w).mono ?_
  rintro e w1 ⟨rfl, h1, b1⟩
  obtain ⟨R, hR⟩ : ∃ R, Hid (w.heap.size = R) := ⟨_, hide rfl⟩
  rw [hR.out] at h1
  rw [show fp w.heap.size = fp R by rw [hR.out]]
  have H1 : Hid (Fl w1 R s0) := hide h1
  clear h1
  go_wp2_with fail
  refine (aw1 w1 R H1.out).mono ?_
  rintro e w2 ⟨rfl, h2, k2⟩
  have H2 := hide h2
  clear h2
  go_wp2_with fail
  refine (aw2 w2 R H2.out).mono ?_
  rintro e w3 ⟨rfl, h3, k3⟩
  have H3 := hide h3
  clear h3
  go_wp2_with fail
  refine (aw3 w3 R H3.out).mono ?_
  rintro e w4 ⟨rfl, h4, k4⟩
  have H4 := hide h4
  clear h4
  go_wp2_with fail
  refine (aw4 w4 R H4.out).mono ?_
  rintro e w5 ⟨rfl, hw⟩
  obtain rfl := hw.symm
  clear hw
  go_wp2_with fail
  refine (on_any w4 R s3 H4.out).mono ?_
  rintro e w5 ⟨rfl, h5, k5⟩
  have H5 : Hid (Fl w5 R s4) := hide h5
  clear h5
  go_wp2_with fail
  refine (aw5 w5 R H5.out).mono ?_
  rintro e w6 ⟨rfl, hw⟩
  obtain rfl := hw.symm
  clear hw
  go_wp2_with fail
  refine (aw6 w5 R H5.out).mono ?_
  rintro e w6 ⟨rfl, hw⟩
  obtain rfl := hw.symm
  clear hw
  obtain ⟨t, ht, _, T⟩ := aw8 w5 R s4 H5.out
  go_wp2_with fail
  refine (aw7 w5 R H5.out).mono ?_
  rintro e w6 ⟨rfl, hw⟩
  obtain rfl := hw.symm
  clear hw
  go_wp2_with fail
  refine T.mono ?_
  rintro e w6 ⟨rfl, hw⟩
  obtain rfl := hw.symm
  clear hw
  go_wp2_with fail
  go_ret
  refine ⟨rfl, ?_⟩
  have hR2 := hR.out
  have z2 := k2.size
  have z3 := k3.size
  have z4 := k4.size
  have z1 := b1.size
  exact k5.toBelow (k4.toBelow (k3.toBelow (k2.toBelow b1 (by omega) (by omega)) (by omega) (by omega)) (by omega) (by omega)) (by omega) (by omega)
/-- NorNil -/
theorem NorNil_walk (a : Int) (d : ByteArray) (_hs : d.size ≤ 140737488351232) (w : World) : Calls Try.prog 7 #[.int .i64 a, .string d] w fun e w' => e = .returned (.bool true) ∧ Below w.heap.size w w' := by
  go_enter Try.func7, Try.ntmps7
  go_wp2_with fail
  refine (read_nil w a a).mono ?_
  rintro e w1 ⟨rfl, hw⟩
  obtain rfl := hw.symm
  clear hw
  go_wp2_with fail
  refine (prog_nil w a d).mono ?_
  rintro e w1 ⟨rfl, hw⟩
  obtain rfl := hw.symm
  clear hw
  go_wp2_with fail
  refine (erase_nil w a).mono ?_
  rintro e w1 ⟨rfl, hw⟩
  obtain rfl := hw.symm
  clear hw
  go_wp2_with fail
  refine (cut_nil w a d).mono ?_
  rintro e w1 ⟨rfl, hw⟩
  obtain rfl := hw.symm
  clear hw
  go_wp2_with fail
  refine (on_nil w).mono ?_
  rintro e w1 ⟨rfl, hw⟩
  obtain rfl := hw.symm
  clear hw
  go_wp2_with fail
  refine (image_nil w).mono ?_
  rintro e w1 ⟨rfl, hw⟩
  obtain rfl := hw.symm
  clear hw
  go_wp2_with fail
  refine (steps_nil w).mono ?_
  rintro e w1 ⟨rfl, hw⟩
  obtain rfl := hw.symm
  clear hw
  go_wp2_with fail
  refine (awake_true w).mono ?_
  rintro e w1 ⟨rfl, hb⟩
  go_wp2_with fail
  go_ret
  exact ⟨rfl, hb⟩
end Go.Proofs.Ytjfajonedckggaa
