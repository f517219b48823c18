/- WorldMoves. -/
import Derived.Test.YtpoodmfhcoaleaaWr1
import Derived.Test.YtpoodmfhcoaleaaWdO
namespace Go.Proofs.Ytpoodmfhcoaleaa
open Go.RowKit Go.Great

theorem wkV_some (c0 c1 c2 c3 c4 c5 c6 c7 : Int) : ∃ a b c d : Int, wkV c0 c1 c2 c3 c4 c5 c6 c7 = wV a b c d := ⟨_, _, _, _, rfl⟩
/-- both worlds take the same step -/
theorem step_both (o : Wo) (ho : WOk o) (k : Tk) (hk : TOk k) : ∃ (o' : Wo) (er : Int), WOk o' ∧ (er = 0 ∨ er = 1) ∧ (∀ w, Calls Try.prog 7 #[woV o, eV k.m0 k.m1 k.m2 k.m3 k.m4 k.m5 k.m6 k.m7, .int .i64 k.d, tV k.a k.b k.c, .int .i64 k.dr] w fun e w' => e = .returned (.tuple #[woV o', .int .i64 er]) ∧ Below w.heap.size w w') ∧ (∀ w, Calls Try.prog 8 #[woV o, eV k.m0 k.m1 k.m2 k.m3 k.m4 k.m5 k.m6 k.m7, .int .i64 k.d, tV k.a k.b k.c, .int .i64 k.dr] w fun e w' => e = .returned (.tuple #[woV o', .int .i64 er]) ∧ Below w.heap.size w w') := by
  by_cases hd : k.d < 0 ∨ 8 < k.d
  · exact ⟨⟨0, 0, 0, 0, 0, 0, 0, 0, 0⟩, 1, ⟨i64_0, i64_0, i64_0, i64_0, i64_0, i64_0, i64_0, i64_0, i64_0⟩, .inr rfl, fun w => step_bad o k.d k.a k.b k.c k.dr _ _ _ _ _ _ _ _ w hd, fun w => rstep_bad o k.d k.a k.b k.c k.dr _ _ _ _ _ _ _ _ w hd⟩
  · obtain ⟨l, x, y, t, hW⟩ := wkV_some (clamp (kil k.d 1 k.m0) 0 600) (clamp (kil k.d 2 k.m1) 0 600) (clamp (kil k.d 3 k.m2) 0 600) (clamp (kil k.d 4 k.m3) 0 600) (clamp (kil k.d 5 k.m4) 0 600) (clamp (kil k.d 6 k.m5) 0 600) (clamp (kil k.d 7 k.m6) 0 600) (clamp (kil k.d 8 k.m7) 0 600)
    exact ⟨stepS o l x y t k.a k.b k.c k.dr, 0, stepS_ok ho, .inl rfl, fun w => step_any o k.d k.a k.b k.c k.dr l x y t _ _ _ _ _ _ _ _ w ho (by omega) hk.a hk.b hk.c hk.dr hW, fun w => rstep_any o k.d k.a k.b k.c k.dr l x y t _ _ _ _ _ _ _ _ w ho (by omega) hk.a hk.b hk.c hk.dr hW⟩
theorem thirteen_cells {W : World} {B : Nat} {a0 a1 a2 a3 a4 a5 a6 a7 a8 a9 a10 a11 a12 : Value} {t : TypeId} (H : Blk W B #[a0, a1, a2, a3, a4, a5, a6, a7, a8, a9, a10, a11, a12] t) : W.cell? ⟨B, 0, none⟩ = some a0 ∧ W.cell? ⟨B, 1, none⟩ = some a1 ∧ W.cell? ⟨B, 2, none⟩ = some a2 ∧ W.cell? ⟨B, 3, none⟩ = some a3 ∧ W.cell? ⟨B, 4, none⟩ = some a4 ∧ W.cell? ⟨B, 5, none⟩ = some a5 ∧ W.cell? ⟨B, 6, none⟩ = some a6 ∧ W.cell? ⟨B, 7, none⟩ = some a7 ∧ W.cell? ⟨B, 8, none⟩ = some a8 ∧ W.cell? ⟨B, 9, none⟩ = some a9 ∧ W.cell? ⟨B, 10, none⟩ = some a10 ∧ W.cell? ⟨B, 11, none⟩ = some a11 ∧ W.cell? ⟨B, 12, none⟩ = some a12 := ⟨H.cell 0 rfl, H.cell 1 rfl, H.cell 2 rfl, H.cell 3 rfl, H.cell 4 rfl, H.cell 5 rfl, H.cell 6 rfl, H.cell 7 rfl, H.cell 8 rfl, H.cell 9 rfl, H.cell 10 rfl, H.cell 11 rfl, H.cell 12 rfl⟩
set_option maxHeartbeats 8000000 in
set_option maxRecDepth 100000 in
theorem moves_walk (o0 : Wo) (ho0 : WOk o0) (CL : List Tk) (v : Value) (w : World) (hC : ∀ x ∈ CL, TOk x) (hv : Rws w v 13 tkL CL) : Calls Try.prog 3 #[woV o0, v] w fun e w' => e = .returned (.bool true) ∧ Below w.heap.size w w' := by
  have AW := hide awakeW
  have HV := hide hv
  obtain ⟨hmx, va, vcp, rfl, _⟩ := hv
  have HC := hide hC
  obtain ⟨m, hm⟩ : ∃ m, Hid (CL.length = m) := ⟨_, hide rfl⟩
  rw [hm.out] at hmx ⊢
  clear hC
  have hmb : m ≤ 9223372036854775807 := hmx
  clear hmx
  have HO0 := hide ho0
  clear ho0
  obtain ⟨W0, hW0, b0, A0, z0⟩ := one_box w (woA o0) 24
  have HA := hide A0
  have Hb := hide b0
  obtain ⟨a0, a1, a2, a3, a4, a5, a6, a7, a8⟩ := nine_cells A0
  clear A0 b0
  go_enter Try.func3, Try.ntmps3
  go_upto_region 2 with fail
  have HB := hide (Blk.new W0 (woA o0) 24)
  rw [z0] at HB
  replace HA := hide (HA.out.alloc (.cells (woA o0) 24))
  replace Hb := hide (below_next Hb.out (Nat.le_refl _) (below_alloc W0 (.cells (woA o0) 24)))
  clear a0 a1 a2 a3 a4 a5 a6 a7 a8 hW0
  try rw [z0]
  generalize W0.alloc (.cells (woA o0) 24) = W1 at *
  clear z0
  go_wp2_with fail
  go_loopw [6] (fun v6 wr => ∃ (i : Nat) (o : Wo), v6 = .int .i64 (i : Int) ∧ i ≤ m ∧ Hid (WOk o) ∧ Hid (Blk wr w.heap.size (woA o) 24) ∧ Hid (Blk wr (w.heap.size + 1) (woA o) 24) ∧ Hid (Below w.heap.size w wr)) (fun v _ => m - (intOf v).toNat)
  case atStart => exact ⟨0, o0, rfl, by omega, HO0, HA, HB, Hb⟩
  case round =>
    clear HA HB Hb HO0
    obtain ⟨i, o, rfl, hi, HO, HA, HB, Hb⟩ := hrel
    by_cases hlm : i < m
    · obtain ⟨g, of, cp, x, e2, hg2, hx, hcx⟩ := HV.out.get i (by rw [hm.out]; exact hlm)
      rw [hm.out] at e2
      injection e2 with e2 _ e3
      subst e2 e3
      have hCa := HC.out x (List.mem_of_getElem? hx)
      obtain ⟨o', er, ho', her, st1, st2⟩ := step_both o HO.out x hCa
      obtain ⟨m0, m1, m2, m3, m4, m5, m6, m7, d, a, b, c, dr⟩ := x
      simp only [] at st1 st2
      have S1 := hide st1
      have S2 := hide st2
      have HO' := hide ho'
      have HER := hide her
      have HOo := HO
      clear st1 st2 ho' her hx hCa HO
      have d0 : wr.cell? ⟨g, of + i * 13, none⟩ = some (.int .i64 m0) := hcx wr Hb.out 0 _ rfl
      have d1 : wr.cell? ⟨g, of + i * 13 + 1, none⟩ = some (.int .i64 m1) := hcx wr Hb.out 1 _ rfl
      have d2 : wr.cell? ⟨g, of + i * 13 + 2, none⟩ = some (.int .i64 m2) := hcx wr Hb.out 2 _ rfl
      have d3 : wr.cell? ⟨g, of + i * 13 + 3, none⟩ = some (.int .i64 m3) := hcx wr Hb.out 3 _ rfl
      have d4 : wr.cell? ⟨g, of + i * 13 + 4, none⟩ = some (.int .i64 m4) := hcx wr Hb.out 4 _ rfl
      have d5 : wr.cell? ⟨g, of + i * 13 + 5, none⟩ = some (.int .i64 m5) := hcx wr Hb.out 5 _ rfl
      have d6 : wr.cell? ⟨g, of + i * 13 + 6, none⟩ = some (.int .i64 m6) := hcx wr Hb.out 6 _ rfl
      have d7 : wr.cell? ⟨g, of + i * 13 + 7, none⟩ = some (.int .i64 m7) := hcx wr Hb.out 7 _ rfl
      have d8 : wr.cell? ⟨g, of + i * 13 + 8, none⟩ = some (.int .i64 d) := hcx wr Hb.out 8 _ rfl
      have d9 : wr.cell? ⟨g, of + i * 13 + 9, none⟩ = some (.int .i64 a) := hcx wr Hb.out 9 _ rfl
      have d10 : wr.cell? ⟨g, of + i * 13 + 10, none⟩ = some (.int .i64 b) := hcx wr Hb.out 10 _ rfl
      have d11 : wr.cell? ⟨g, of + i * 13 + 11, none⟩ = some (.int .i64 c) := hcx wr Hb.out 11 _ rfl
      have d12 : wr.cell? ⟨g, of + i * 13 + 12, none⟩ = some (.int .i64 dr) := hcx wr Hb.out 12 _ rfl
      have hd : decide ((i : Int) < (m : Int)) = true := decide_eq_true (by omega)
      have NQ := neqWo o'
      have HAlt : Hid (w.heap.size + 1 < wr.heap.size) := hide HB.out.lt
      clear hcx
      go_upto_region 6 with fail
      have HK := hide (Blk.new wr (tkC ⟨m0, m1, m2, m3, m4, m5, m6, m7, d, a, b, c, dr⟩) 28)
      replace HA := hide (HA.out.alloc (.cells (tkC ⟨m0, m1, m2, m3, m4, m5, m6, m7, d, a, b, c, dr⟩) 28))
      replace HB := hide (HB.out.alloc (.cells (tkC ⟨m0, m1, m2, m3, m4, m5, m6, m7, d, a, b, c, dr⟩) 28))
      replace Hb := hide (below_next Hb.out (Nat.le_refl _) (below_alloc wr (.cells (tkC ⟨m0, m1, m2, m3, m4, m5, m6, m7, d, a, b, c, dr⟩) 28)))
      clear d0 d1 d2 d3 d4 d5 d6 d7 d8 d9 d10 d11 d12
      generalize wr.alloc (.cells (tkC ⟨m0, m1, m2, m3, m4, m5, m6, m7, d, a, b, c, dr⟩) 28) = W2 at *
      generalize wr.heap.size = gk at *
      obtain ⟨k0, k1, k2, k3, k4, k5, k6, k7, k8, k9, k10, k11, k12⟩ := thirteen_cells HK.out
      obtain ⟨a0, a1, a2, a3, a4, a5, a6, a7, a8⟩ := nine_cells HA.out
      go_upto_region 7 with (go_at_call 7; refine (S1.out _).mono ?_; rintro e w3 ⟨rfl, hb3⟩; have Hb3 := hide hb3; clear hb3)
      have HX := hide (Blk.new w3 (woA o') 24)
      have HXlt : Hid (gk < w3.heap.size) := hide (Nat.lt_of_lt_of_le HK.out.lt Hb3.out.size)
      replace HA := hide ((HA.out.after Hb3.out).alloc (.cells (woA o') 24))
      replace HB := hide ((HB.out.after Hb3.out).alloc (.cells (woA o') 24))
      replace HK := hide ((HK.out.after Hb3.out).alloc (.cells (woA o') 24))
      replace Hb := hide (below_next (below_next Hb.out (Nat.le_refl _) Hb3.out) (Nat.le_refl _) (below_alloc w3 (.cells (woA o') 24)))
      clear k0 k1 k2 k3 k4 k5 k6 k7 k8 k9 k10 k11 k12 a0 a1 a2 a3 a4 a5 a6 a7 a8 Hb3 S1
      generalize w3.alloc (.cells (woA o') 24) = W4 at *
      generalize w3.heap.size = gx at *
      obtain ⟨k0, k1, k2, k3, k4, k5, k6, k7, k8, k9, k10, k11, k12⟩ := thirteen_cells HK.out
      obtain ⟨a0, a1, a2, a3, a4, a5, a6, a7, a8⟩ := nine_cells HB.out
      go_upto_region 8 with (go_at_call 8; refine (S2.out _).mono ?_; rintro e w5 ⟨rfl, hb5⟩; have Hb5 := hide hb5; clear hb5)
      have HY := hide (Blk.new w5 (woA o') 24)
      have HYlt : Hid (gx < w5.heap.size) := hide (Nat.lt_of_lt_of_le HX.out.lt Hb5.out.size)
      replace HA := hide ((HA.out.after Hb5.out).alloc (.cells (woA o') 24))
      replace HB := hide ((HB.out.after Hb5.out).alloc (.cells (woA o') 24))
      replace HX := hide ((HX.out.after Hb5.out).alloc (.cells (woA o') 24))
      replace Hb := hide (below_next (below_next Hb.out (Nat.le_refl _) Hb5.out) (Nat.le_refl _) (below_alloc w5 (.cells (woA o') 24)))
      clear k0 k1 k2 k3 k4 k5 k6 k7 k8 k9 k10 k11 k12 a0 a1 a2 a3 a4 a5 a6 a7 a8 Hb5 S2 HK
      generalize w5.alloc (.cells (woA o') 24) = W6 at *
      generalize w5.heap.size = gy at *
      obtain ⟨x0, x1, x2, x3, x4, x5, x6, x7, x8⟩ := nine_cells HX.out
      obtain ⟨y0, y1, y2, y3, y4, y5, y6, y7, y8⟩ := nine_cells HY.out
      have hl1 := HAlt.out
      have hl2 := HXlt.out
      have hl3 := HYlt.out
      rcases HER.out with rfl | rfl
      · obtain ⟨a0, a1, a2, a3, a4, a5, a6, a7, a8⟩ := nine_cells HA.out
        obtain ⟨f0, f1, f2, f3, f4, f5, f6, f7, f8⟩ := nine_froz HA.out
        go_upto_region 12 with fail
        replace HA := hide (HA.out.set9 (.int .i64 o'.p0) (.int .i64 o'.p1) (.int .i64 o'.p2) (.int .i64 o'.v0) (.int .i64 o'.v1) (.int .i64 o'.v2) (.int .i64 o'.h) (.int .i64 o'.r) (.int .i64 o'.c))
        replace HB := hide (HB.out.set9o (C := w.heap.size) (by omega) (.int .i64 o'.p0) (.int .i64 o'.p1) (.int .i64 o'.p2) (.int .i64 o'.v0) (.int .i64 o'.v1) (.int .i64 o'.v2) (.int .i64 o'.h) (.int .i64 o'.r) (.int .i64 o'.c))
        replace HY := hide (HY.out.set9o (C := w.heap.size) (by omega) (.int .i64 o'.p0) (.int .i64 o'.p1) (.int .i64 o'.p2) (.int .i64 o'.v0) (.int .i64 o'.v1) (.int .i64 o'.v2) (.int .i64 o'.h) (.int .i64 o'.r) (.int .i64 o'.c))
        replace Hb := hide (below_set9 Hb.out w.heap.size (.int .i64 o'.p0) (.int .i64 o'.p1) (.int .i64 o'.p2) (.int .i64 o'.v0) (.int .i64 o'.v1) (.int .i64 o'.v2) (.int .i64 o'.h) (.int .i64 o'.r) (.int .i64 o'.c) (Nat.le_refl _) Hb.out.size)
        clear x0 x1 x2 x3 x4 x5 x6 x7 x8 y0 y1 y2 y3 y4 y5 y6 y7 y8 a0 a1 a2 a3 a4 a5 a6 a7 a8 f0 f1 f2 f3 f4 f5 f6 f7 f8 HX
        generalize ((((((((W6.setCell ⟨w.heap.size, 0, none⟩ (.int .i64 o'.p0)).setCell ⟨w.heap.size, 1, none⟩ (.int .i64 o'.p1)).setCell ⟨w.heap.size, 2, none⟩ (.int .i64 o'.p2)).setCell ⟨w.heap.size, 3, none⟩ (.int .i64 o'.v0)).setCell ⟨w.heap.size, 4, none⟩ (.int .i64 o'.v1)).setCell ⟨w.heap.size, 5, none⟩ (.int .i64 o'.v2)).setCell ⟨w.heap.size, 6, none⟩ (.int .i64 o'.h)).setCell ⟨w.heap.size, 7, none⟩ (.int .i64 o'.r)).setCell ⟨w.heap.size, 8, none⟩ (.int .i64 o'.c) = W7 at *
        obtain ⟨y0, y1, y2, y3, y4, y5, y6, y7, y8⟩ := nine_cells HY.out
        obtain ⟨a0, a1, a2, a3, a4, a5, a6, a7, a8⟩ := nine_cells HB.out
        obtain ⟨f0, f1, f2, f3, f4, f5, f6, f7, f8⟩ := nine_froz HB.out
        go_wp2_with fail
        go_roundw
        case rel => exact ⟨i + 1, o', by go_num, by omega, HO', hide (HA.out.set9o (by omega) _ _ _ _ _ _ _ _ _), hide (HB.out.set9 _ _ _ _ _ _ _ _ _), hide (below_set9 Hb.out _ _ _ _ _ _ _ _ _ _ (by omega) Hb.out.size)⟩
        case measure => simp [intOf]; omega
      · go_wp2_with fail
        go_roundw
        case rel => exact ⟨i + 1, o, by go_num, by omega, HOo, HA, HB, Hb⟩
        case measure => simp [intOf]; omega
    · have hd : decide ((i : Int) < (m : Int)) = false := decide_eq_false (by omega)
      go_wp2_with (go_at_call 9; refine (AW.out _).mono ?_; rintro e w5 ⟨rfl, hb5⟩; have Hb5 := hide hb5; clear hb5)
      go_ret
      exact ⟨rfl, below_next Hb.out (Nat.le_refl _) Hb5.out⟩
theorem WorldMoves_walk (v : Value) (u : Value) (w : World) (hv : ∃ o : Wo, WOk o ∧ v = woV o) (hu : ∃ L, (∀ x ∈ L, TOk x) ∧ Rws w u 13 tkL L) : Calls Try.prog 3 #[v, u] w fun e w' => e = .returned (.bool true) ∧ Below w.heap.size w w' := by
  obtain ⟨o, ho, rfl⟩ := hv
  obtain ⟨L, h1, h2⟩ := hu
  exact moves_walk o ho L u w h1 h2
end Go.Proofs.Ytpoodmfhcoaleaa
