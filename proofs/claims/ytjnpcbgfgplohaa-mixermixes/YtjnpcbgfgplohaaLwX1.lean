/- MixerLimits. -/
import Derived.Test.YtjnpcbgfgplohaaMxE
namespace Go.Proofs.Ytjnpcbgfgplohaa
open Go.RowKit Go.Great

theorem clamp_same {x lo hi : Int} (h : lo ≤ x ∧ x ≤ hi) : clamp x lo hi = x := by
  unfold clamp
  rw [if_neg (by omega), if_neg (by omega)]
theorem mxV_is (d l x y t : Int) : ∃ a b c e f g h k : Int, mxV d l x y t = eV a b c e f g h k := by
  unfold mxV
  split
  · exact ⟨_, _, _, _, _, _, _, _, rfl⟩
  · exact ⟨_, _, _, _, _, _, _, _, rfl⟩
set_option maxHeartbeats 2000000 in
theorem MixerLimits_walk (l x y t : Int) (w : World) : Calls Try.prog 6 #[wV l x y t] w fun e w' => e = .returned (.bool true) ∧ Below w.heap.size w w' := by
  have LM := hide (lim_any l x y t)
  have MX := hide (fun W => mix_any l x y t 0 W (by decide))
  have hL : 328 ≤ clamp l 328 456 ∧ clamp l 328 456 ≤ 456 := clamp_in (by decide)
  have hX : -64 ≤ clamp x (-64) 64 ∧ clamp x (-64) 64 ≤ 64 := clamp_in (by decide)
  have hY : -64 ≤ clamp y (-64) 64 ∧ clamp y (-64) 64 ≤ 64 := clamp_in (by decide)
  have hT : -100 ≤ clamp t (-100) 100 ∧ clamp t (-100) 100 ≤ 100 := clamp_in (by decide)
  generalize clamp l 328 456 = L at *
  generalize clamp x (-64) 64 = X at *
  generalize clamp y (-64) 64 = Y at *
  generalize clamp t (-100) 100 = T at *
  have LM2 := hide (lim_any L X Y T)
  have MX2 := hide (fun W => mix_any L X Y T 0 W (by decide))
  rw [clamp_same hL, clamp_same hX, clamp_same hY, clamp_same hT] at LM2 MX2
  obtain ⟨a0, a1, a2, a3, a4, a5, a6, a7, he⟩ := mxV_is 0 L X Y T
  rw [he] at MX MX2
  clear he
  have hL1 := hL.1
  have hL2 := hL.2
  have hX1 := hX.1
  have hX2 := hX.2
  have hY1 := hY.1
  have hY2 := hY.2
  have hT1 := hT.1
  have hT2 := hT.2
  clear hL hX hY hT
  have E8 := eql8
  have EW := eqlW
  have HM := hide (Blk.new w (wC l x y t) 23)
  have Hb := hide (below_alloc w (.cells (wC l x y t) 23))
  go_enter Try.func6, Try.ntmps6
  go_upto_region 1 with fail
  generalize w.alloc (.cells (wC l x y t) 23) = W0 at *
  obtain ⟨m0, m1, m2, m3⟩ := four_cells HM.out
  go_upto_region 2 with (first | (go_at_call 9; refine (LM.out _).mono ?_; rintro e w1 ⟨rfl, hb1⟩))
  have HV := hide (Blk.new w1 (wC L X Y T) 23)
  replace HM := hide ((HM.out.after hb1).alloc (.cells (wC L X Y T) 23))
  replace Hb := hide (below_next Hb.out (Nat.le_refl _) hb1)
  replace Hb := hide (Hb.out.alloc Hb.out.size (.cells (wC L X Y T) 23))
  clear hb1 m0 m1 m2 m3
  generalize w1.alloc (.cells (wC L X Y T) 23) = W1 at *
  generalize w1.heap.size = g at *
  obtain ⟨v0, v1, v2, v3⟩ := four_cells HV.out
  go_upto_region 3 with fail
  obtain ⟨m0, m1, m2, m3⟩ := four_cells HM.out
  go_upto_region 4 with (first | (go_at_call 7; refine (MX.out _).mono ?_; rintro e w2 ⟨rfl, hb2⟩))
  have HA := hide (Blk.new w2 (eC a0 a1 a2 a3 a4 a5 a6 a7) 24)
  replace HV := hide ((HV.out.after hb2).alloc (.cells (eC a0 a1 a2 a3 a4 a5 a6 a7) 24))
  replace Hb := hide (below_next Hb.out (Nat.le_refl _) hb2)
  replace Hb := hide (Hb.out.alloc Hb.out.size (.cells (eC a0 a1 a2 a3 a4 a5 a6 a7) 24))
  clear hb2 m0 m1 m2 m3 v0 v1 v2 v3 HM
  generalize w2.alloc (.cells (eC a0 a1 a2 a3 a4 a5 a6 a7) 24) = W2 at *
  generalize w2.heap.size = g2 at *
  obtain ⟨v0, v1, v2, v3⟩ := four_cells HV.out
  go_upto_region 5 with (first | (go_at_call 7; refine (MX2.out _).mono ?_; rintro e w3 ⟨rfl, hb3⟩))
  have HB := hide (Blk.new w3 (eC a0 a1 a2 a3 a4 a5 a6 a7) 24)
  replace HV := hide ((HV.out.after hb3).alloc (.cells (eC a0 a1 a2 a3 a4 a5 a6 a7) 24))
  replace HA := hide ((HA.out.after hb3).alloc (.cells (eC a0 a1 a2 a3 a4 a5 a6 a7) 24))
  replace Hb := hide (below_next Hb.out (Nat.le_refl _) hb3)
  replace Hb := hide (Hb.out.alloc Hb.out.size (.cells (eC a0 a1 a2 a3 a4 a5 a6 a7) 24))
  clear hb3 v0 v1 v2 v3
  generalize w3.alloc (.cells (eC a0 a1 a2 a3 a4 a5 a6 a7) 24) = W3 at *
  generalize w3.heap.size = g3 at *
  have v0 : ∀ z : BelowW W3, z.q.cell? ⟨g, 0, none⟩ = some (.int .i64 L) := HV.out.at 0 rfl
  have v1 : ∀ z : BelowW W3, z.q.cell? ⟨g, 1, none⟩ = some (.int .i64 X) := HV.out.at 1 rfl
  have v2 : ∀ z : BelowW W3, z.q.cell? ⟨g, 2, none⟩ = some (.int .i64 Y) := HV.out.at 2 rfl
  have v3 : ∀ z : BelowW W3, z.q.cell? ⟨g, 3, none⟩ = some (.int .i64 T) := HV.out.at 3 rfl
  have b0 : ∀ z : BelowW W3, z.q.cell? ⟨g2, 0, none⟩ = some (.int .i64 a0) := HA.out.at 0 rfl
  have b1 : ∀ z : BelowW W3, z.q.cell? ⟨g2, 1, none⟩ = some (.int .i64 a1) := HA.out.at 1 rfl
  have b2 : ∀ z : BelowW W3, z.q.cell? ⟨g2, 2, none⟩ = some (.int .i64 a2) := HA.out.at 2 rfl
  have b3 : ∀ z : BelowW W3, z.q.cell? ⟨g2, 3, none⟩ = some (.int .i64 a3) := HA.out.at 3 rfl
  have b4 : ∀ z : BelowW W3, z.q.cell? ⟨g2, 4, none⟩ = some (.int .i64 a4) := HA.out.at 4 rfl
  have b5 : ∀ z : BelowW W3, z.q.cell? ⟨g2, 5, none⟩ = some (.int .i64 a5) := HA.out.at 5 rfl
  have b6 : ∀ z : BelowW W3, z.q.cell? ⟨g2, 6, none⟩ = some (.int .i64 a6) := HA.out.at 6 rfl
  have b7 : ∀ z : BelowW W3, z.q.cell? ⟨g2, 7, none⟩ = some (.int .i64 a7) := HA.out.at 7 rfl
  have c0 : ∀ z : BelowW W3, z.q.cell? ⟨g3, 0, none⟩ = some (.int .i64 a0) := HB.out.at 0 rfl
  have c1 : ∀ z : BelowW W3, z.q.cell? ⟨g3, 1, none⟩ = some (.int .i64 a1) := HB.out.at 1 rfl
  have c2 : ∀ z : BelowW W3, z.q.cell? ⟨g3, 2, none⟩ = some (.int .i64 a2) := HB.out.at 2 rfl
  have c3 : ∀ z : BelowW W3, z.q.cell? ⟨g3, 3, none⟩ = some (.int .i64 a3) := HB.out.at 3 rfl
  have c4 : ∀ z : BelowW W3, z.q.cell? ⟨g3, 4, none⟩ = some (.int .i64 a4) := HB.out.at 4 rfl
  have c5 : ∀ z : BelowW W3, z.q.cell? ⟨g3, 5, none⟩ = some (.int .i64 a5) := HB.out.at 5 rfl
  have c6 : ∀ z : BelowW W3, z.q.cell? ⟨g3, 6, none⟩ = some (.int .i64 a6) := HB.out.at 6 rfl
  have c7 : ∀ z : BelowW W3, z.q.cell? ⟨g3, 7, none⟩ = some (.int .i64 a7) := HB.out.at 7 rfl
  have hne : Nonempty (BelowW W3) := ⟨⟨W3, Below.refl _ _⟩⟩
  refine wp_region_calm (by kernel_rfl) (by kernel_rfl) ?_
  repeat (go_big_quiet_step (first
    | (go_at_call 9; exact calm_of (LM2.out _))
    | (go_at_call 13; exact calm_of (awakeX _))))
  refine wpQuiet_nil ?_
  rintro _ ⟨z, rfl⟩
  go_wp2_with fail
  go_ret
  exact ⟨rfl, below_next Hb.out (Nat.le_refl _) z.h⟩
end Go.Proofs.Ytjnpcbgfgplohaa
