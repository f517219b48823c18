/- MsgsEncodes. -/
import Derived.Test.YtgdjphiicgiegaaOp1
namespace Go.Proofs.Ytgdjphiicgiegaa
open Go.RowKit Go.Great

set_option maxHeartbeats 2000000 in
theorem encodes_walk (seq k : Int) (u : Value) (ns : List Int) (w : World) (hm : MsgIn w (.agg #[.int .u8 k, u]) k u ns) : Calls Try.prog 3 #[.int .i64 seq, .agg #[.int .u8 k, u]] w fun e w' => e = .returned (.bool true) ∧ Below w.heap.size w w' := by
  obtain ⟨_, hk0, hk1, hu, hnil, hlen⟩ := hm
  have hen := fun v w hv => mencode_any seq k hk0 hk1 ns v w hv (by omega)
  have hre := fun v w hv => rencode_any seq k hk0 hk1 ns v w hv (by omega)
  have hlt := fun w hv => lent_any ns u w hv hnil hlen
  have HKP := fun v w base g hR hv => hide (kept_true ns v w base g hR hv (by omega))
  obtain ⟨E, HE⟩ : ∃ E, Hid (encM seq k ns = E) := ⟨_, rfl⟩
  simp only [HE.out] at hen hre
  obtain ⟨⟨fa, fb, fp⟩, fe⟩ := E
  simp only [] at hen hre
  have heq := fun wx => frame_eq fa fb fa fb fp fp wx
  simp only [decide_true] at heq
  have hee : (fe == fe) = true := by simp
  have HU := hide hu
  obtain ⟨ua, uc, rfl, _⟩ := hu
  have HN := hide hlen
  clear hnil hlen HE
  go_enter Try.func3, Try.ntmps3
  go_wp2_with fail
  refine (hlt _ (HU.out.below (below_alloc _ _))).mono ?_
  rintro e w1 ⟨rfl, hR1, hB1⟩
  have HM1 := hide ((msg_new w (.int .u8 k) (.slice ua ns.length uc)).below hB1)
  have HU1 := hide ((HU.out.below (below_alloc _ _)).below hB1)
  have HB1 : Hid (Below w.heap.size w w1) := below_over hB1
  rw [size_alloc] at hR1
  have HR1 := hide hR1
  have m0 := HM1.out.c0
  clear hB1 hR1 hlt HU
  go_wp2_with fail
  refine (hen _ _ (lent_ints HR1.out)).mono ?_
  rintro e w2 ⟨rfl, hB2⟩
  have HM2 := hide (HM1.out.below hB2)
  have HU2 := hide (HU1.out.below hB2)
  have HR2 := hide (HR1.out.below hB2)
  have HB2 := hide (below_next HB1.out (Nat.le_refl _) hB2)
  clear hB2 HM1 HU1 HR1 HB1 m0 hen
  have HF3 := hide (frm_new w2 (.int .i64 fa) (.int .i64 fb) (.string fp))
  have HM3 := hide (HM2.out.below (below_alloc w2 (.cells #[.int .i64 fa, .int .i64 fb, .string fp] 28)))
  have HU3 := hide (HU2.out.below (below_alloc w2 (.cells #[.int .i64 fa, .int .i64 fb, .string fp] 28)))
  have HR3 := hide (HR2.out.below (below_alloc w2 (.cells #[.int .i64 fa, .int .i64 fb, .string fp] 28)))
  have HB3 := hide (below_next HB2.out (Nat.le_refl _) (below_alloc w2 (.cells #[.int .i64 fa, .int .i64 fb, .string fp] 28)))
  have m0 := HM3.out.c0
  have m1 := HM3.out.c1
  clear HM2 HU2 HR2 HB2
  go_wp2_with fail
  refine (hre _ _ HU3.out).mono ?_
  rintro e w4 ⟨rfl, hB4⟩
  have HF4 := hide (HF3.out.below hB4)
  have HM4 := hide (HM3.out.below hB4)
  have HU4 := hide (HU3.out.below hB4)
  have HR4 := hide (HR3.out.below hB4)
  have HB4 := hide (below_next HB3.out (Nat.le_refl _) hB4)
  clear hB4 HF3 HM3 HU3 HR3 HB3 m0 m1 hre
  have HG5 := hide (frm_new w4 (.int .i64 fa) (.int .i64 fb) (.string fp))
  have hba := below_alloc w4 (.cells #[.int .i64 fa, .int .i64 fb, .string fp] 28)
  have HF5 := hide (HF4.out.below hba)
  have HM5 := hide (HM4.out.below hba)
  have HU5 := hide (HU4.out.below hba)
  have HR5 := hide (HR4.out.below hba)
  have HB5 := hide (below_next HB4.out (Nat.le_refl _) hba)
  clear hba HF4 HM4 HU4 HR4 HB4
  go_wp2_with fail
  refine (awake5_any _).mono ?_
  rintro e w6 ⟨rfl, hB6⟩
  have hF6 := HF5.out.below hB6
  have hG6 := HG5.out.below hB6
  have hM6 := HM5.out.below hB6
  have HU6 := hide (HU5.out.below hB6)
  have HR6 := hide (HR5.out.below hB6)
  have HB6 := hide (below_next HB5.out (Nat.le_refl _) hB6)
  have a0 := hF6.c0
  have a1 := hF6.c1
  have a2 := hF6.c2
  have b0 := hG6.c0
  have b1 := hG6.c1
  have b2 := hG6.c2
  have m1 := hM6.c1
  clear hB6 hF6 hG6 hM6 HF5 HG5 HM5 HU5 HR5 HB5
  go_wp2_with fail
  refine (HKP _ _ _ _ HR6.out HU6.out).out.mono ?_
  rintro e w7 ⟨rfl, q, rfl⟩
  go_wp2_with fail
  go_ret
  exact ⟨rfl, below_drewN HB6.out q⟩
theorem MsgsEncodes_walk (seq : Int) (v : Value) (w : World) (hm : ∃ k u ns, MsgIn w v k u ns) : Calls Try.prog 3 #[.int .i64 seq, v] w fun e w' => e = .returned (.bool true) ∧ Below w.heap.size w w' := by
  obtain ⟨k, u, ns, h⟩ := hm
  have h2 := h
  obtain ⟨rfl, _⟩ := h
  exact encodes_walk seq k u ns w h2
end Go.Proofs.Ytgdjphiicgiegaa
