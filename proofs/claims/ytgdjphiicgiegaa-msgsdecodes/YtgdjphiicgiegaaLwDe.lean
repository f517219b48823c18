/- MsgsDecodes. -/
import Derived.Test.YtgdjphiicgiegaaMs11
import Derived.Test.YtgdjphiicgiegaaKp5
namespace Go.Proofs.Ytgdjphiicgiegaa
open Go.RowKit Go.Great

theorem decM_len (id : Int) (p : ByteArray) : (decM id p).1.2.length ≤ 7 := by
  unfold decM
  split
  · simp
  · split
    · simp
    · show (fieK _ _ _).length ≤ 7
      rw [fieK_len]; exact wsK_len id
set_option maxHeartbeats 4000000 in
theorem decodes_walk (s id : Int) (p : ByteArray) (hp : p.size ≤ 9223372036854775807) (w : World) : Calls Try.prog 4 #[.agg #[.int .i64 s, .int .i64 id, .string p]] w fun e w' => e = .returned (.bool true) ∧ Below w.heap.size w w' := by
  have hd := fun w => mdecode_any s id p w
  have hr := fun w => rdecode_any s id p hp w
  have hl7 := decM_len id p
  generalize decM id p = D at hd hr hl7
  obtain ⟨⟨dk, dl⟩, de⟩ := D
  simp only [] at hd hr hl7
  have HSM := fun v u w hv hu => hide (same_true5 dk dl v u w hv hu (by omega))
  have hne : (de != de) = false := by simp
  obtain ⟨n, hn⟩ : ∃ n, dl.length = n := ⟨_, rfl⟩
  have HN := hide hn
  rw [hn] at hl7
  clear hn hp
  go_enter Try.func4, Try.ntmps4
  go_wp2_with fail
  refine (hd _).mono ?_
  rintro e w1 ⟨u1, rfl, hR1, hB1⟩
  have HF1 := hide ((frm_new w (.int .i64 s) (.int .i64 id) (.string p)).below hB1)
  have HB1 : Hid (Below w.heap.size w w1) := below_over hB1
  have HR1 := hide (hR1.lower (show w.heap.size ≤ _ by rw [size_alloc]; omega))
  obtain ⟨a1, c1, hu1⟩ := hR1.shape
  rw [HN.out] at hu1
  subst hu1
  clear hB1 hR1
  have ha := below_alloc w1 (.cells #[.int .u8 dk, .slice a1 n c1] 25)
  have HA2 := hide (msg_new w1 (.int .u8 dk) (.slice a1 n c1))
  have HF2 := hide (HF1.out.below ha)
  have HR2 := hide (HR1.out.below ha)
  have HB2 := hide (below_next HB1.out (Nat.le_refl _) ha)
  have HLT : Hid (∀ g, (Value.slice a1 n c1).ownBlock = some g → g < w1.heap.size) := fun g e => (World.ownsRow.lt HR1.out g e).2
  have f0 := HF2.out.c0
  have f1 := HF2.out.c1
  have f2 := HF2.out.c2
  clear ha HF1 HR1 HB1
  go_wp2_with fail
  refine (hd _).mono ?_
  rintro e w3 ⟨u3, rfl, hR3, hB3⟩
  have HF3 := hide (HF2.out.below hB3)
  have HA3 := hide (HA2.out.below hB3)
  have HR3 := hide (HR2.out.below hB3)
  have HB3 := hide (below_next HB2.out (Nat.le_refl _) hB3)
  have HAP : Hid (∀ g, (Value.slice a1 n c1).ownBlock = some g → u3.ownBlock ≠ some g) := by
    intro g e1 e2
    have h1 := HLT.out g e1
    have h2 := (World.ownsRow.lt hR3 g e2).1
    rw [size_alloc] at h2
    omega
  have HS3 := hide (hR3.lower (HB2.out.size))
  obtain ⟨a3, c3, hu3⟩ := hR3.shape
  rw [HN.out] at hu3
  subst hu3
  clear hB3 hR3 HF2 HA2 HR2 HB2 HLT f0 f1 f2 hd
  have ha := below_alloc w3 (.cells #[.int .u8 dk, .slice a3 n c3] 25)
  have HC4 := hide (msg_new w3 (.int .u8 dk) (.slice a3 n c3))
  have HF4 := hide (HF3.out.below ha)
  have HA4 := hide (HA3.out.below ha)
  have HR4 := hide (HR3.out.below ha)
  have HS4 := hide (HS3.out.below ha)
  have HB4 := hide (below_next HB3.out (Nat.le_refl _) ha)
  have f0 := HF4.out.c0
  have f1 := HF4.out.c1
  have f2 := HF4.out.c2
  clear ha HF3 HA3 HR3 HS3 HB3
  go_wp2_with fail
  refine (hr _).mono ?_
  rintro e w5 ⟨u5, rfl, hR5, hB5⟩
  have HA5 := hide (HA4.out.below hB5)
  have HC5 := hide (HC4.out.below hB5)
  have HR5 := hide (HR4.out.below hB5)
  have HS5 := hide (HS4.out.below hB5)
  have HB5 := hide (below_next HB4.out (Nat.le_refl _) hB5)
  have HI5 := hide hR5.ints
  obtain ⟨a5, c5, hu5⟩ := hR5.shape
  rw [HN.out] at hu5
  subst hu5
  clear hB5 hR5 HF4 HA4 HC4 HR4 HS4 HB4 f0 f1 f2 hr
  have ha := below_alloc w5 (.cells #[.int .u8 dk, .slice a5 n c5] 25)
  have hD6 := msg_new w5 (.int .u8 dk) (.slice a5 n c5)
  have hA6 := HA5.out.below ha
  have hC6 := HC5.out.below ha
  have HR6 := hide (HR5.out.below ha)
  have HS6 := hide (HS5.out.below ha)
  have HI6 := hide (HI5.out.below ha)
  have HB6 := hide (below_next HB5.out (Nat.le_refl _) ha)
  have p0 := hA6.c0
  have p1 := hA6.c1
  have q0 := hD6.c0
  have q1 := hD6.c1
  have HA6 := hide hA6
  have HC6 := hide hC6
  have HD6 := hide hD6
  clear ha hA6 hC6 hD6 HA5 HC5 HR5 HS5 HI5 HB5
  go_wp2_with fail
  refine (HSM _ _ _ HR6.out.ints HI6.out).out.mono ?_
  rintro e w7 ⟨rfl, hB7⟩
  have hC7 := HC6.out.below hB7
  have hD7 := HD6.out.below hB7
  have HA7 := hide (HA6.out.below hB7)
  have HR7 := hide (HR6.out.below hB7)
  have HS7 := hide (HS6.out.below hB7)
  have HI7 := hide (HI6.out.below hB7)
  have HB7 := hide (below_next HB6.out (Nat.le_refl _) hB7)
  clear p0 p1 q0 q1
  have p0 := hC7.c0
  have p1 := hC7.c1
  have q0 := hD7.c0
  have q1 := hD7.c1
  have HC7 := hide hC7
  clear hB7 hC7 hD7 HA6 HC6 HD6 HR6 HS6 HI6 HB6
  go_wp2_with fail
  refine (HSM _ _ _ HS7.out.ints HI7.out).out.mono ?_
  rintro e w8 ⟨rfl, hB8⟩
  have HA8 := hide (HA7.out.below hB8)
  have HC8 := hide (HC7.out.below hB8)
  have HR8 := hide (HR7.out.below hB8)
  have HS8 := hide (HS7.out.below hB8)
  have HB8 := hide (below_next HB7.out (Nat.le_refl _) hB8)
  clear hB8 p0 p1 q0 q1 HA7 HC7 HR7 HS7 HI7 HB7 HSM
  go_wp2_with fail
  refine (awake5_any _).mono ?_
  rintro e w9 ⟨rfl, hB9⟩
  have p1 := (HA8.out.below hB9).c1
  have q1 := (HC8.out.below hB9).c1
  have HR9 := hide (HR8.out.below hB9)
  have HS9 := hide (HS8.out.below hB9)
  have HB9 := hide (below_next HB8.out (Nat.le_refl _) hB9)
  clear hB9 HA8 HC8 HR8 HS8 HB8
  go_wp2_with fail
  have ha := below_alloc w9 (.cells #[.slice a1 n c1, .slice a3 n c3] 23)
  refine (apart_true n hl7 (.slice a1 n c1) (.slice a3 n c3) dl dl HN.out HN.out _ w.heap.size (HR9.out.below ha) (HS9.out.below ha) HAP.out w9.heap.size (heap_alloc_new _ _) HB9.out.size).mono ?_
  rintro e w10 ⟨rfl, hB10⟩
  have HB10 : Hid (Below w.heap.size w w10) := (HB9.out.alloc HB9.out.size _).trans hB10
  clear hB10
  go_wp2_with fail
  go_ret
  exact ⟨rfl, HB10.out⟩
theorem MsgsDecodes_walk (s id : Int) (p : ByteArray) (hp : p.size ≤ 140737488351232) (w : World) : Calls Try.prog 4 #[.agg #[.int .i64 s, .int .i64 id, .string p]] w fun e w' => e = .returned (.bool true) ∧ Below w.heap.size w w' := decodes_walk s id p (by omega) w
end Go.Proofs.Ytgdjphiicgiegaa
