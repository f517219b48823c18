/- ParamsRanges. -/
import Derived.Test.YtfhcfngogfefjaaPa8
namespace Go.Proofs.Ytfhcfngogfefjaa
open Go.RowKit Go.Great

theorem IRow.lower {w : World} {base b2 : Nat} {v : Value} {l : List Int} (h : IRow w base v l) (hb : b2 ≤ base) : IRow w b2 v l := by
  refine ⟨h.1, ?_⟩
  rcases h.2 with h1 | ⟨g, cap, cur, h1, h2, h3⟩
  · exact .inl h1
  · exact .inr ⟨g, cap, cur, h1, Nat.le_trans hb h2, h3⟩
theorem rdefaults_any (w : World) : Calls Try.prog 20 #[] w fun e w' => ∃ v, e = .returned v ∧ Ints w' v deL ∧ Below w.heap.size w w' := by
  have h := starts_any w
  go_enter Try.func20, Try.ntmps20
  go_wp2_with fail
  refine h.mono ?_
  rintro e w1 ⟨rfl, hw1⟩
  have HI : Hid (Ints w1 (.slice (some ⟨w.heap.size, 0, none⟩) 24 24) deL) := by
    show Ints _ _ _
    rw [hw1]; exact ints_row (l := deL) (heap_alloc_new _ _) _ _ rfl
  have HB : Hid (Below w.heap.size w w1) := by rw [hw1]; exact below_alloc _ _
  clear hw1 h
  go_wp2_with fail
  go_ret
  exact ⟨_, rfl, HI.out, HB.out⟩
set_option maxRecDepth 100000 in
set_option maxHeartbeats 400000 in
theorem ranges_ok (k : Nat) (hk : k < 24) (w : World) : Calls Try.prog 4 #[.int .i64 k] w fun e w' => e = .returned (.bool true) ∧ Below w.heap.size w w' := by
  have H1 := hide (range_ok k hk)
  have H2 := hide (rrange_ok k hk)
  have HD := hide defaults_any
  have HRD := hide rdefaults_any
  have HA := hide awake_any
  have HSm := hide (fun u v W hu hv => sameInts_true deL u v W hu hv (by decide))
  have HDV : Hid (loL.getD k 0 ≤ deL.getD k 0 ∧ deL.getD k 0 ≤ hiL.getD k 0) := deL_sound.inr k hk
  obtain ⟨x, HX⟩ : ∃ x, Hid (loL.getD k 0 = x) := ⟨_, rfl⟩
  obtain ⟨y, HY⟩ : ∃ y, Hid (hiL.getD k 0 = y) := ⟨_, rfl⟩
  obtain ⟨z, HZ⟩ : ∃ z, Hid (deL.getD k 0 = z) := ⟨_, rfl⟩
  rw [HX.out] at H1 H2 HDV
  rw [HY.out] at H1 H2 HDV
  rw [HZ.out] at HDV
  have hxx : (x == x) = true := by simp
  have hyy : (y == y) = true := by simp
  obtain ⟨n, HN⟩ : ∃ n, Hid (deL.length = n) := ⟨_, rfl⟩
  have HN24 : Hid (n = 24) := HN.out.symm
  go_enter Try.func4, Try.ntmps4
  go_wp2_with fail
  refine (H1.out _).mono ?_
  rintro e w1 ⟨rfl, hB1⟩
  have ha1 := below_alloc w1 (.cells #[.int .i64 x, .int .i64 y] 30)
  have HB1 : Hid (Below w.heap.size w (w1.alloc (.cells #[.int .i64 x, .int .i64 y] 30))) := below_next hB1 (Nat.le_refl _) ha1
  have HS1 : Hid (Sp (w1.alloc (.cells #[.int .i64 x, .int .i64 y] 30)) w1.heap.size x y) := heap_alloc_new _ _
  have hN1 := hB1.size
  clear hB1 ha1
  go_upto_region 2 with fail
  generalize w1.alloc (.cells #[.int .i64 x, .int .i64 y] 30) = w2 at HB1 HS1 ⊢
  generalize w1.heap.size = N at HS1 hN1 ⊢
  go_wp2_with fail
  refine (H2.out _).mono ?_
  rintro e w3 ⟨rfl, hB3⟩
  have ha3 := below_alloc w3 (.cells #[.int .i64 x, .int .i64 y] 30)
  have HB3 : Hid (Below w.heap.size w (w3.alloc (.cells #[.int .i64 x, .int .i64 y] 30))) := below_next (below_next HB1.out (Nat.le_refl _) hB3) (Nat.le_refl _) ha3
  have HS3 := hide ((HS1.out.below hB3).below ha3)
  have HT3 : Hid (Sp (w3.alloc (.cells #[.int .i64 x, .int .i64 y] 30)) w3.heap.size x y) := heap_alloc_new _ _
  clear hB3 ha3 HB1 HS1
  go_upto_region 3 with fail
  generalize w3.alloc (.cells #[.int .i64 x, .int .i64 y] 30) = w4 at HB3 HS3 HT3 ⊢
  generalize w3.heap.size = M at HT3 ⊢
  go_wp2_with fail
  refine (HD.out _).mono ?_
  rintro e w5 ⟨u5, rfl, hR5, hB5⟩
  have HB5 : Hid (Below w.heap.size w w5) := below_next HB3.out (Nat.le_refl _) hB5
  have HS5 := hide (HS3.out.below hB5)
  have HT5 := hide (HT3.out.below hB5)
  have HR5 := hide (hR5.lower HB3.out.size)
  have HL5 : Hid (∀ g, u5.ownBlock = some g → g < w5.heap.size) := fun g e => (World.ownsRow.lt hR5 g e).2
  obtain ⟨a5, c5, hu5⟩ := hR5.shape
  rw [HN.out] at hu5
  subst hu5
  clear hR5 hB5 HB3 HS3 HT3
  go_wp2_with fail
  refine (HD.out _).mono ?_
  rintro e w6 ⟨u6, rfl, hR6, hB6⟩
  have HB6 : Hid (Below w.heap.size w w6) := below_next HB5.out (Nat.le_refl _) hB6
  have HR6 := hide (HR5.out.below hB6)
  have HQ6 := hide (hR6.lower HB5.out.size)
  have HAP : Hid (∀ g, (Value.slice a5 n c5).ownBlock = some g → u6.ownBlock ≠ some g) := by
    intro g e1 e2
    have h1 := HL5.out g e1
    have h2 := (World.ownsRow.lt hR6 g e2).1
    omega
  have s0 := (HS5.out.below hB6).c0
  have s1 := (HS5.out.below hB6).c1
  have t0 := (HT5.out.below hB6).c0
  have t1 := (HT5.out.below hB6).c1
  have HS6 := hide (HS5.out.below hB6)
  obtain ⟨a6, c6, hu6⟩ := hR6.shape
  rw [HN.out] at hu6
  subst hu6
  clear hR6 hB6 HB5 HS5 HT5 HR5 HL5
  go_wp2_with fail
  refine (HRD.out _).mono ?_
  rintro e w7 ⟨u7, rfl, hI7, hB7⟩
  have HB7 : Hid (Below w.heap.size w w7) := below_next HB6.out (Nat.le_refl _) hB7
  have HR7 := hide (HR6.out.below hB7)
  have HQ7 := hide (HQ6.out.below hB7)
  have HS7 := hide (HS6.out.below hB7)
  have HI7 := hide hI7
  clear hI7 hB7 HB6 HR6 HQ6 HS6 s0 s1 t0 t1
  go_wp2_with fail
  refine (HSm.out _ _ _ HR7.out.ints HI7.out).mono ?_
  rintro e w8 ⟨rfl, q, hw8⟩
  have HB8 : Hid (Below w.heap.size w w8) := by rw [hw8]; exact below_drewN HB7.out q
  have HR8 : Hid (IRow w8 w.heap.size (.slice a5 n c5) deL) := by rw [hw8]; exact HR7.out.drewN q
  have HQ8 : Hid (IRow w8 w.heap.size (.slice a6 n c6) deL) := by rw [hw8]; exact HQ7.out.drewN q
  have s0 : w8.cell? ⟨N, 0, none⟩ = some (.int .i64 x) := by rw [hw8, drewN_cell]; exact HS7.out.c0
  have s1 : w8.cell? ⟨N, 1, none⟩ = some (.int .i64 y) := by rw [hw8, drewN_cell]; exact HS7.out.c1
  clear hw8 HB7 HR7 HQ7 HI7 HS7
  obtain ⟨g5, o5, ha5, hc5⟩ : ∃ g5 o5, a5 = some ⟨g5, o5, none⟩ ∧ w8.cell? ⟨g5, o5 + k, none⟩ = some (.int .i64 z) := by
    obtain ⟨a, cp, e, hh⟩ := HR8.out.ints
    rw [HN.out] at e hh
    injection e with e1 _ _
    obtain ⟨g, o, e2, _, hc⟩ := hh (by have := HN24.out; omega)
    exact ⟨g, o, by rw [e1, e2], by rw [hc k (by have := HN24.out; omega), HZ.out]⟩
  subst ha5
  have hkn : (k : Int) < (n : Int) := by have := HN24.out; omega
  have dz1 : decide (z < x) = false := decide_eq_false (by have := HDV.out; omega)
  have dz2 : decide (y < z) = false := decide_eq_false (by have := HDV.out; omega)
  go_wp2_with fail
  go_quiet (fail)
  have HB9 := hide (below_drewN HB8.out nq)
  have HR9 := hide (HR8.out.drewN nq)
  have HQ9 := hide (HQ8.out.drewN nq)
  generalize w8.drewN nq = w9 at HB9 HR9 HQ9 ⊢
  clear s0 s1 HB8 HR8 HQ8 hc5 dz1 dz2 hkn
  go_wp2_with fail
  have ha := below_alloc w9 (.cells #[.slice (some ⟨g5, o5, none⟩) n c5, .slice a6 n c6] 22)
  refine (apart_true n (by have := HN24.out; omega) (.slice (some ⟨g5, o5, none⟩) n c5) (.slice a6 n c6) deL deL HN.out HN.out _ w.heap.size (HR9.out.below ha) (HQ9.out.below ha) HAP.out w9.heap.size (heap_alloc_new _ _) HB9.out.size).mono ?_
  rintro e w10 ⟨rfl, hB10⟩
  have HB10 : Hid (Below w.heap.size w w10) := (HB9.out.alloc HB9.out.size _).trans hB10
  clear hB10 ha
  go_wp2_with fail
  refine (HA.out _).mono ?_
  rintro e w11 ⟨rfl, hB11⟩
  have HB11 : Hid (Below w.heap.size w w11) := below_next HB10.out (Nat.le_refl _) hB11
  clear hB11
  go_wp2_with fail
  go_ret
  exact ⟨rfl, HB11.out⟩
set_option maxRecDepth 100000 in
set_option maxHeartbeats 400000 in
theorem ranges_no (i : Int) (hi : ¬ (0 ≤ i ∧ i ≤ 23)) (w : World) : Calls Try.prog 4 #[.int .i64 i] w fun e w' => e = .returned (.bool true) ∧ Below w.heap.size w w' := by
  have H1 := hide (range_no i hi)
  have H2 := hide (rrange_no i hi)
  have HD := hide defaults_any
  have HRD := hide rdefaults_any
  have HA := hide awake_any
  have HSm := hide (fun u v W hu hv => sameInts_true deL u v W hu hv (by decide))
  obtain ⟨n, HN⟩ : ∃ n, Hid (deL.length = n) := ⟨_, rfl⟩
  have HN24 : Hid (n = 24) := HN.out.symm
  go_enter Try.func4, Try.ntmps4
  go_wp2_with fail
  refine (H1.out _).mono ?_
  rintro e w1 ⟨rfl, hB1⟩
  have ha1 := below_alloc w1 (.cells #[.int .i64 0, .int .i64 0] 30)
  have HB1 : Hid (Below w.heap.size w (w1.alloc (.cells #[.int .i64 0, .int .i64 0] 30))) := below_next hB1 (Nat.le_refl _) ha1
  have HS1 : Hid (Sp (w1.alloc (.cells #[.int .i64 0, .int .i64 0] 30)) w1.heap.size 0 0) := heap_alloc_new _ _
  have hN1 := hB1.size
  clear hB1 ha1
  go_upto_region 2 with fail
  generalize w1.alloc (.cells #[.int .i64 0, .int .i64 0] 30) = w2 at HB1 HS1 ⊢
  generalize w1.heap.size = N at HS1 hN1 ⊢
  go_wp2_with fail
  refine (H2.out _).mono ?_
  rintro e w3 ⟨rfl, hB3⟩
  have ha3 := below_alloc w3 (.cells #[.int .i64 0, .int .i64 0] 30)
  have HB3 : Hid (Below w.heap.size w (w3.alloc (.cells #[.int .i64 0, .int .i64 0] 30))) := below_next (below_next HB1.out (Nat.le_refl _) hB3) (Nat.le_refl _) ha3
  have HS3 := hide ((HS1.out.below hB3).below ha3)
  have HT3 : Hid (Sp (w3.alloc (.cells #[.int .i64 0, .int .i64 0] 30)) w3.heap.size 0 0) := heap_alloc_new _ _
  clear hB3 ha3 HB1 HS1
  go_upto_region 3 with fail
  generalize w3.alloc (.cells #[.int .i64 0, .int .i64 0] 30) = w4 at HB3 HS3 HT3 ⊢
  generalize w3.heap.size = M at HT3 ⊢
  go_wp2_with fail
  refine (HD.out _).mono ?_
  rintro e w5 ⟨u5, rfl, hR5, hB5⟩
  have HB5 : Hid (Below w.heap.size w w5) := below_next HB3.out (Nat.le_refl _) hB5
  have HS5 := hide (HS3.out.below hB5)
  have HT5 := hide (HT3.out.below hB5)
  have HR5 := hide (hR5.lower HB3.out.size)
  have HL5 : Hid (∀ g, u5.ownBlock = some g → g < w5.heap.size) := fun g e => (World.ownsRow.lt hR5 g e).2
  obtain ⟨a5, c5, hu5⟩ := hR5.shape
  rw [HN.out] at hu5
  subst hu5
  clear hR5 hB5 HB3 HS3 HT3
  go_wp2_with fail
  refine (HD.out _).mono ?_
  rintro e w6 ⟨u6, rfl, hR6, hB6⟩
  have HB6 : Hid (Below w.heap.size w w6) := below_next HB5.out (Nat.le_refl _) hB6
  have HR6 := hide (HR5.out.below hB6)
  have HQ6 := hide (hR6.lower HB5.out.size)
  have HAP : Hid (∀ g, (Value.slice a5 n c5).ownBlock = some g → u6.ownBlock ≠ some g) := by
    intro g e1 e2
    have h1 := HL5.out g e1
    have h2 := (World.ownsRow.lt hR6 g e2).1
    omega
  have s0 := (HS5.out.below hB6).c0
  have s1 := (HS5.out.below hB6).c1
  have t0 := (HT5.out.below hB6).c0
  have t1 := (HT5.out.below hB6).c1
  have HS6 := hide (HS5.out.below hB6)
  obtain ⟨a6, c6, hu6⟩ := hR6.shape
  rw [HN.out] at hu6
  subst hu6
  clear hR6 hB6 HB5 HS5 HT5 HR5 HL5
  go_wp2_with fail
  refine (HRD.out _).mono ?_
  rintro e w7 ⟨u7, rfl, hI7, hB7⟩
  have HB7 : Hid (Below w.heap.size w w7) := below_next HB6.out (Nat.le_refl _) hB7
  have HR7 := hide (HR6.out.below hB7)
  have HQ7 := hide (HQ6.out.below hB7)
  have HS7 := hide (HS6.out.below hB7)
  have HI7 := hide hI7
  clear hI7 hB7 HB6 HR6 HQ6 HS6 s0 s1 t0 t1
  go_wp2_with fail
  refine (HSm.out _ _ _ HR7.out.ints HI7.out).mono ?_
  rintro e w8 ⟨rfl, q, hw8⟩
  have HB8 : Hid (Below w.heap.size w w8) := by rw [hw8]; exact below_drewN HB7.out q
  have HR8 : Hid (IRow w8 w.heap.size (.slice a5 n c5) deL) := by rw [hw8]; exact HR7.out.drewN q
  have HQ8 : Hid (IRow w8 w.heap.size (.slice a6 n c6) deL) := by rw [hw8]; exact HQ7.out.drewN q
  have s0 : w8.cell? ⟨N, 0, none⟩ = some (.int .i64 0) := by rw [hw8, drewN_cell]; exact HS7.out.c0
  have s1 : w8.cell? ⟨N, 1, none⟩ = some (.int .i64 0) := by rw [hw8, drewN_cell]; exact HS7.out.c1
  clear hw8 HB7 HR7 HQ7 HI7 HS7
  go_wp2_with fail
  go_quiet (fail)
  have HB9 := hide (below_drewN HB8.out nq)
  have HR9 := hide (HR8.out.drewN nq)
  have HQ9 := hide (HQ8.out.drewN nq)
  generalize w8.drewN nq = w9 at HB9 HR9 HQ9 ⊢
  clear s0 s1 HB8 HR8 HQ8
  go_wp2_with fail
  have ha := below_alloc w9 (.cells #[.slice a5 n c5, .slice a6 n c6] 22)
  refine (apart_true n (by have := HN24.out; omega) (.slice a5 n c5) (.slice a6 n c6) deL deL HN.out HN.out _ w.heap.size (HR9.out.below ha) (HQ9.out.below ha) HAP.out w9.heap.size (heap_alloc_new _ _) HB9.out.size).mono ?_
  rintro e w10 ⟨rfl, hB10⟩
  have HB10 : Hid (Below w.heap.size w w10) := (HB9.out.alloc HB9.out.size _).trans hB10
  clear hB10 ha
  go_wp2_with fail
  refine (HA.out _).mono ?_
  rintro e w11 ⟨rfl, hB11⟩
  have HB11 : Hid (Below w.heap.size w w11) := below_next HB10.out (Nat.le_refl _) hB11
  clear hB11
  go_wp2_with fail
  go_ret
  exact ⟨rfl, HB11.out⟩
theorem ParamsRanges_walk (i : Int) (w : World) : Calls Try.prog 4 #[.int .i64 i] w fun e w' => e = .returned (.bool true) ∧ Below w.heap.size w w' := by
  by_cases h : 0 ≤ i ∧ i ≤ 23
  · obtain ⟨k, rfl⟩ : ∃ k : Nat, i = (k : Int) := ⟨i.toNat, by omega⟩
    exact ranges_ok k (by omega) w
  · exact ranges_no i h w
end Go.Proofs.Ytfhcfngogfefjaa
