/- The chapter's examples: awake. -/
import Derived.Test.YtgdjphiicgiegaaMs10
import Derived.Test.YtgdjphiicgiegaaKp2
namespace Go.Proofs.Ytgdjphiicgiegaa
open Go.RowKit Go.Great

theorem aw5_e : encM 0 1 [2, 1, 65536, -2, 9] = ((0, 1, ⟨#[2, 1, 0, 0, 1, 0, 254, 255, 9, 0]⟩), 0) := by kernel_rfl
theorem aw5_d : decM 8 ⟨#[1, 255, 255]⟩ = ((8, [1, 65535]), 0) := by kernel_rfl
theorem aw5_n : decM 12 ⟨#[]⟩ = ((0, []), 6) := by kernel_rfl
set_option maxHeartbeats 2000000 in
theorem awake5_any (w : World) : Calls Try.prog 12 #[] w fun e w' => e = .returned (.bool true) ∧ Below w.heap.size w w' := by
  have hen := fun v w hv => mencode_any 0 1 (by decide) (by decide) [2, 1, 65536, -2, 9] v w hv (by decide)
  have hd1 := fun w => mdecode_any 0 8 ⟨#[1, 255, 255]⟩ w
  have hd2 := fun w => mdecode_any 0 12 ⟨#[]⟩ w
  simp only [aw5_e] at hen
  simp only [aw5_d] at hd1
  simp only [aw5_n] at hd2
  have heq := fun wx => frame_eq 0 1 0 1 ⟨#[2, 1, 0, 0, 1, 0, 254, 255, 9, 0]⟩ ⟨#[2, 1, 0, 0, 1, 0, 254, 255, 9, 0]⟩ wx
  simp only [decide_true] at heq
  go_enter Try.func12, Try.ntmps12
  go_wp2_with fail
  refine (hen _ _ (ints_row (l := [2, 1, 65536, -2, 9]) (heap_alloc_new _ _) _ _ rfl)).mono ?_
  rintro e w1 ⟨rfl, hB1⟩
  have HB1 : Hid (Below w.heap.size w w1) := below_over hB1
  clear hB1 hen
  go_wp2_with fail
  refine (hd1 _).mono ?_
  rintro e w2 ⟨u, rfl, hR2, hB2⟩
  have hF2 := (frm_new w1 (.int .i64 0) (.int .i64 1) (.string ⟨#[2, 1, 0, 0, 1, 0, 254, 255, 9, 0]⟩)).below hB2
  have HB2 : Hid (Below w.heap.size w w2) := below_next HB1.out (Nat.le_refl _) (below_over hB2)
  have HI2 := hide hR2.ints
  obtain ⟨ua, uc, rfl⟩ := hR2.shape
  clear hB2 hR2 hd1 HB1
  go_wp2_with fail
  refine (hd2 _).mono ?_
  rintro e w3 ⟨u3, rfl, hR3, hB3⟩
  have hF3 := (hF2.below (below_alloc _ _)).below hB3
  have hM3 := (msg_new w2 (.int .u8 8) (.slice ua 2 uc)).below hB3
  have HB3 : Hid (Below w.heap.size w w3) := below_next HB2.out (Nat.le_refl _) (below_over hB3)
  have HI3 := hide ((HI2.out.below (below_alloc _ _)).below hB3)
  obtain ⟨ua3, uc3, rfl⟩ := hR3.shape
  have hF4 := hF3.below (below_alloc _ (.cells #[.int .u8 0, .slice ua3 0 uc3] 25))
  have hM4 := hM3.below (below_alloc _ (.cells #[.int .u8 0, .slice ua3 0 uc3] 25))
  have HI4 := hide (HI3.out.below (below_alloc _ (.cells #[.int .u8 0, .slice ua3 0 uc3] 25)))
  have k0 := hF4.c0
  have k1 := hF4.c1
  have k2 := hF4.c2
  have n0 := hM4.c0
  have n1 := hM4.c1
  clear hB3 hR3 hd2 HB2 hF2 hF3 hM3 HI2 HI3 hF4 hM4
  go_wp2_with fail
  refine (same_true5 8 [1, 65535] _ _ _ (HI4.out.below (below_alloc _ _)) (ints_row (l := [1, 65535]) (heap_alloc_at _ _ _ (by rw [size_alloc])) _ _ rfl) (by decide)).mono ?_
  rintro e w5 ⟨rfl, hB5⟩
  have HB5 : Hid (Below w.heap.size w w5) := below_next HB3.out (Nat.le_refl _) (below_over (below_over hB5))
  clear hB5
  go_wp2_with fail
  go_ret
  exact ⟨rfl, HB5.out⟩
end Go.Proofs.Ytgdjphiicgiegaa
