/- MixerMixes. -/
import Derived.Test.YtjnpcbgfgplohaaMr2
import Derived.Test.YtjnpcbgfgplohaaMr3
import Derived.Test.YtjnpcbgfgplohaaGnO
namespace Go.Proofs.Ytjnpcbgfgplohaa
open Go.RowKit Go.Great

theorem mix_same (l x y t d : Int) : ∃ a0 a1 a2 a3 a4 a5 a6 a7 e : Int, (∀ w, Calls Try.prog 7 #[wV l x y t, .int .i64 d] w fun r w' => r = .returned (.tuple #[eV a0 a1 a2 a3 a4 a5 a6 a7, .int .i64 e]) ∧ Below w.heap.size w w') ∧ (∀ w, Calls Try.prog 8 #[wV l x y t, .int .i64 d] w fun r w' => r = .returned (.tuple #[eV a0 a1 a2 a3 a4 a5 a6 a7, .int .i64 e]) ∧ Below w.heap.size w w') := by
  by_cases hd : d < 0 ∨ 8 < d
  · exact ⟨0, 0, 0, 0, 0, 0, 0, 0, 1, fun w => mix_bad l x y t d w hd, fun w => rmix_bad l x y t d w hd⟩
  · have hd2 : 0 ≤ d ∧ d ≤ 8 := by omega
    obtain ⟨a0, a1, a2, a3, a4, a5, a6, a7, he⟩ := mxV_is d (clamp l 328 456) (clamp x (-64) 64) (clamp y (-64) 64) (clamp t (-100) 100)
    refine ⟨a0, a1, a2, a3, a4, a5, a6, a7, 0, fun w => ?_, fun w => ?_⟩
    · have h := mix_any l x y t d w hd2
      rw [he] at h
      exact h
    · have h := rmix_any l x y t d w hd2
      rw [he] at h
      exact h
theorem wkV_is (c0 c1 c2 c3 c4 c5 c6 c7 : Int) : ∃ a b c d : Int, wkV c0 c1 c2 c3 c4 c5 c6 c7 = wV a b c d := ⟨_, _, _, _, rfl⟩
set_option maxHeartbeats 4000000 in
theorem mixes_any (l x y t d n0 n1 n2 n3 n4 n5 n6 n7 : Int) (w : World) : Calls Try.prog 3 #[wV l x y t, .int .i64 d, eV n0 n1 n2 n3 n4 n5 n6 n7] w fun e w' => e = .returned (.bool true) ∧ Below w.heap.size w w' := by
  obtain ⟨a0, a1, a2, a3, a4, a5, a6, a7, er, M1, M2⟩ := mix_same l x y t d
  have MX := hide M1
  have MY := hide M2
  have L1 := hide (lim_any l x y t)
  have L2 := hide (rlim_any l x y t)
  generalize clamp l 328 456 = L at *
  generalize clamp x (-64) 64 = X at *
  generalize clamp y (-64) 64 = Y at *
  generalize clamp t (-100) 100 = T at *
  have K1 := hide (work_any n0 n1 n2 n3 n4 n5 n6 n7)
  have K2 := hide (rwork_any n0 n1 n2 n3 n4 n5 n6 n7)
  obtain ⟨k0, k1, k2, k3, hk⟩ := wkV_is (clamp n0 0 600) (clamp n1 0 600) (clamp n2 0 600) (clamp n3 0 600) (clamp n4 0 600) (clamp n5 0 600) (clamp n6 0 600) (clamp n7 0 600)
  rw [hk] at K1 K2
  clear M1 M2 hk
  have E8 := eql8
  have EW := eqlW
  obtain ⟨W0, hW0, b0, M0, N0, hz0⟩ := two_boxes w (wC l x y t) (eC n0 n1 n2 n3 n4 n5 n6 n7) 23 24
  have Hb := hide b0
  have HM := hide M0
  have HN := hide N0
  clear b0 M0 N0
  obtain ⟨m0, m1, m2, m3⟩ := four_cells HM.out
  go_enter Try.func3, Try.ntmps3
  go_upto_region 2 with (first | (go_at_call 7; refine (MX.out _).mono ?_; rintro e w1 ⟨rfl, hb1⟩))
  have HA := hide (Blk.new w1 (eC a0 a1 a2 a3 a4 a5 a6 a7) 24)
  replace HM := hide ((HM.out.after hb1).alloc (.cells (eC a0 a1 a2 a3 a4 a5 a6 a7) 24))
  replace HN := hide ((HN.out.after hb1).alloc (.cells (eC a0 a1 a2 a3 a4 a5 a6 a7) 24))
  replace Hb := hide (below_next Hb.out (Nat.le_refl _) hb1)
  replace Hb := hide (Hb.out.alloc Hb.out.size (.cells (eC a0 a1 a2 a3 a4 a5 a6 a7) 24))
  clear hb1 m0 m1 m2 m3 hW0 hz0
  generalize w1.alloc (.cells (eC a0 a1 a2 a3 a4 a5 a6 a7) 24) = W1 at *
  generalize w1.heap.size = g at *
  obtain ⟨m0, m1, m2, m3⟩ := four_cells HM.out
  go_upto_region 3 with (first | (go_at_call 8; refine (MY.out _).mono ?_; rintro e w2 ⟨rfl, hb2⟩))
  have HB := hide (Blk.new w2 (eC a0 a1 a2 a3 a4 a5 a6 a7) 24)
  replace HM := hide ((HM.out.after hb2).alloc (.cells (eC a0 a1 a2 a3 a4 a5 a6 a7) 24))
  replace HN := hide ((HN.out.after hb2).alloc (.cells (eC a0 a1 a2 a3 a4 a5 a6 a7) 24))
  replace HA := hide ((HA.out.after hb2).alloc (.cells (eC a0 a1 a2 a3 a4 a5 a6 a7) 24))
  replace Hb := hide (below_next Hb.out (Nat.le_refl _) hb2)
  replace Hb := hide (Hb.out.alloc Hb.out.size (.cells (eC a0 a1 a2 a3 a4 a5 a6 a7) 24))
  clear hb2 m0 m1 m2 m3 MX MY
  generalize w2.alloc (.cells (eC a0 a1 a2 a3 a4 a5 a6 a7) 24) = W3 at *
  generalize w2.heap.size = g3 at *
  have v0 : ∀ z : BelowW W3, z.q.cell? ⟨w.heap.size, 0, none⟩ = some (.int .i64 l) := HM.out.at 0 rfl
  have v1 : ∀ z : BelowW W3, z.q.cell? ⟨w.heap.size, 1, none⟩ = some (.int .i64 x) := HM.out.at 1 rfl
  have v2 : ∀ z : BelowW W3, z.q.cell? ⟨w.heap.size, 2, none⟩ = some (.int .i64 y) := HM.out.at 2 rfl
  have v3 : ∀ z : BelowW W3, z.q.cell? ⟨w.heap.size, 3, none⟩ = some (.int .i64 t) := HM.out.at 3 rfl
  have q0 : ∀ z : BelowW W3, z.q.cell? ⟨w.heap.size + 1, 0, none⟩ = some (.int .i64 n0) := HN.out.at 0 rfl
  have q1 : ∀ z : BelowW W3, z.q.cell? ⟨w.heap.size + 1, 1, none⟩ = some (.int .i64 n1) := HN.out.at 1 rfl
  have q2 : ∀ z : BelowW W3, z.q.cell? ⟨w.heap.size + 1, 2, none⟩ = some (.int .i64 n2) := HN.out.at 2 rfl
  have q3 : ∀ z : BelowW W3, z.q.cell? ⟨w.heap.size + 1, 3, none⟩ = some (.int .i64 n3) := HN.out.at 3 rfl
  have q4 : ∀ z : BelowW W3, z.q.cell? ⟨w.heap.size + 1, 4, none⟩ = some (.int .i64 n4) := HN.out.at 4 rfl
  have q5 : ∀ z : BelowW W3, z.q.cell? ⟨w.heap.size + 1, 5, none⟩ = some (.int .i64 n5) := HN.out.at 5 rfl
  have q6 : ∀ z : BelowW W3, z.q.cell? ⟨w.heap.size + 1, 6, none⟩ = some (.int .i64 n6) := HN.out.at 6 rfl
  have q7 : ∀ z : BelowW W3, z.q.cell? ⟨w.heap.size + 1, 7, none⟩ = some (.int .i64 n7) := HN.out.at 7 rfl
  have b0 : ∀ z : BelowW W3, z.q.cell? ⟨g, 0, none⟩ = some (.int .i64 a0) := HA.out.at 0 rfl
  have b1 : ∀ z : BelowW W3, z.q.cell? ⟨g, 1, none⟩ = some (.int .i64 a1) := HA.out.at 1 rfl
  have b2 : ∀ z : BelowW W3, z.q.cell? ⟨g, 2, none⟩ = some (.int .i64 a2) := HA.out.at 2 rfl
  have b3 : ∀ z : BelowW W3, z.q.cell? ⟨g, 3, none⟩ = some (.int .i64 a3) := HA.out.at 3 rfl
  have b4 : ∀ z : BelowW W3, z.q.cell? ⟨g, 4, none⟩ = some (.int .i64 a4) := HA.out.at 4 rfl
  have b5 : ∀ z : BelowW W3, z.q.cell? ⟨g, 5, none⟩ = some (.int .i64 a5) := HA.out.at 5 rfl
  have b6 : ∀ z : BelowW W3, z.q.cell? ⟨g, 6, none⟩ = some (.int .i64 a6) := HA.out.at 6 rfl
  have b7 : ∀ z : BelowW W3, z.q.cell? ⟨g, 7, none⟩ = some (.int .i64 a7) := HA.out.at 7 rfl
  have c0 : ∀ z : BelowW W3, z.q.cell? ⟨g3, 0, none⟩ = some (.int .i64 a0) := HB.out.at 0 rfl
  have c1 : ∀ z : BelowW W3, z.q.cell? ⟨g3, 1, none⟩ = some (.int .i64 a1) := HB.out.at 1 rfl
  have c2 : ∀ z : BelowW W3, z.q.cell? ⟨g3, 2, none⟩ = some (.int .i64 a2) := HB.out.at 2 rfl
  have c3 : ∀ z : BelowW W3, z.q.cell? ⟨g3, 3, none⟩ = some (.int .i64 a3) := HB.out.at 3 rfl
  have c4 : ∀ z : BelowW W3, z.q.cell? ⟨g3, 4, none⟩ = some (.int .i64 a4) := HB.out.at 4 rfl
  have c5 : ∀ z : BelowW W3, z.q.cell? ⟨g3, 5, none⟩ = some (.int .i64 a5) := HB.out.at 5 rfl
  have c6 : ∀ z : BelowW W3, z.q.cell? ⟨g3, 6, none⟩ = some (.int .i64 a6) := HB.out.at 6 rfl
  have c7 : ∀ z : BelowW W3, z.q.cell? ⟨g3, 7, none⟩ = some (.int .i64 a7) := HB.out.at 7 rfl
  have hne : Nonempty (BelowW W3) := ⟨⟨W3, Below.refl _ _⟩⟩
  refine wp_region_calm (by kernel_rfl) (by kernel_rfl) ?_
  repeat (go_big_quiet_step (first
    | (go_at_call 9; exact calm_of (L1.out _))
    | (go_at_call 10; exact calm_of (L2.out _))
    | (go_at_call 11; exact calm_of (K1.out _))
    | (go_at_call 12; exact calm_of (K2.out _))
    | (go_at_call 13; exact calm_of (awakeX _))))
  refine wpQuiet_nil ?_
  rintro _ ⟨z, rfl⟩
  go_wp2_with fail
  go_ret
  exact ⟨rfl, below_next Hb.out (Nat.le_refl _) z.h⟩
theorem list8 {l : List Value} (h : l.length = 8) : ∃ a b c d e f g i, l = [a, b, c, d, e, f, g, i] := by
  match l, h with
  | [a, b, c, d, e, f, g, i], _ => exact ⟨a, b, c, d, e, f, g, i, rfl⟩
theorem cells_eight : Try.prog.cellsOf 24 = 8 := by kernel_rfl
/-- eight motors that came in -/
theorem open_motors {H : Type} {enc : TypeId × Value → H} {W : World} {v : Value} {d : DataW H} {p : List MemPlace} {r : Reach} {b0 : Nat} (hok : Value.okWide Try.prog W r b0 24 v) (h : DataW.Trod enc Try.prog W 0 (fun _ => true) true 24 v d p) (_ : ∀ q ∈ DataW.weights Try.prog 24 d, q ≤ reachBytes) : ∃ n0 n1 n2 n3 n4 n5 n6 n7 : Int, v = eV n0 n1 n2 n3 n4 n5 n6 n7 := by
  simp only [Value.okWide, Try.underlying24] at hok
  obtain ⟨cs, rfl, hsz, _⟩ := hok
  obtain ⟨fuel, hf⟩ := h
  have hl : cs.toList.length = 8 := by rw [Array.length_toList, hsz]; exact cells_eight
  obtain ⟨a0, a1, a2, a3, a4, a5, a6, a7, hq⟩ := list8 hl
  have hf' : DataW.trod enc Try.prog W 0 (fun _ => true) true fuel 24 cs.toList = _ := hf
  rw [hq] at hf'
  obtain ⟨xs, m, _, _, _, hl, hel⟩ := DataW.trod_array Try.underlying24 hf'
  have each : ∀ i, i < 8 → ∃ c : Int, ([a0, a1, a2, a3, a4, a5, a6, a7].drop i).take 1 = [.int .i64 c] := by
    intro i hi
    have h0 := hel i hi
    rw [show xs[i]? = some (xs[i]'(by omega)) by simp [hl, hi]] at h0
    simp only [cells_int, Nat.mul_one] at h0
    obtain ⟨c, e0, _⟩ := DataW.trod_int Try.underlying3 h0
    exact ⟨c, e0⟩
  obtain ⟨n0, e0⟩ := each 0 (by omega)
  obtain ⟨n1, e1⟩ := each 1 (by omega)
  obtain ⟨n2, e2⟩ := each 2 (by omega)
  obtain ⟨n3, e3⟩ := each 3 (by omega)
  obtain ⟨n4, e4⟩ := each 4 (by omega)
  obtain ⟨n5, e5⟩ := each 5 (by omega)
  obtain ⟨n6, e6⟩ := each 6 (by omega)
  obtain ⟨n7, e7⟩ := each 7 (by omega)
  simp only [List.drop_zero, List.take_succ_cons, List.take_zero, List.drop_succ_cons, List.cons.injEq, and_true] at e0 e1 e2 e3 e4 e5 e6 e7
  subst e0 e1 e2 e3 e4 e5 e6 e7
  refine ⟨n0, n1, n2, n3, n4, n5, n6, n7, ?_⟩
  have : cs = eC n0 n1 n2 n3 n4 n5 n6 n7 := by
    apply Array.ext'
    exact hq
  rw [this]
theorem MixerMixes_walk (l x y t d : Int) (v : Value) (w : World) (hv : ∃ n0 n1 n2 n3 n4 n5 n6 n7 : Int, v = eV n0 n1 n2 n3 n4 n5 n6 n7) : Calls Try.prog 3 #[wV l x y t, .int .i64 d, v] w fun e w' => e = .returned (.bool true) ∧ Below w.heap.size w w' := by
  obtain ⟨n0, n1, n2, n3, n4, n5, n6, n7, rfl⟩ := hv
  exact mixes_any l x y t d n0 n1 n2 n3 n4 n5 n6 n7 w
end Go.Proofs.Ytjnpcbgfgplohaa
