/- Pure: a vehicle whose turning is changed by what Twist says comes to the north, and stays near it. -/
import Derived.Test.YthldohfjkjhdcaaFix
namespace Go.Proofs.Ythldohfjkjhdcaa
open Go.RowKit

/-- a quotient that is cut off -/
theorem td_is (a n : Int) (hn : 0 < n) : (0 ≤ a ∧ n * a.tdiv n ≤ a ∧ a < n * a.tdiv n + n ∧ 0 ≤ a.tdiv n) ∨ (a < 0 ∧ a ≤ n * a.tdiv n ∧ n * a.tdiv n - n < a ∧ a.tdiv n ≤ 0) := by
  have e := Int.mul_tdiv_add_tmod a n
  have l1 := Int.tmod_lt_of_pos a hn
  have l2 := Int.lt_tmod_of_pos a hn
  by_cases h : 0 ≤ a
  · have h2 := Int.tmod_nonneg n h
    have h3 := Int.tdiv_nonneg h (show 0 ≤ n by omega)
    exact .inl ⟨h, by omega, by omega, h3⟩
  · have h2 : a.tmod n ≤ 0 := by
      have := Int.tmod_nonneg n (show 0 ≤ -a by omega)
      rw [Int.neg_tmod] at this
      omega
    have h3 : a.tdiv n ≤ 0 := by
      have := Int.tdiv_nonneg (show 0 ≤ -a by omega) (show 0 ≤ n by omega)
      rw [Int.neg_tdiv] at this
      omega
    exact .inr ⟨by omega, by omega, by omega, h3⟩
/-- the shorter way from 0 to a heading -/
def eff (h : Int) : Int := (h + 524288) % 1048576 - 524288
/-- the rate that is wanted -/
def wnt (H : Int) : Int := clamp (-(H.tdiv 64)) (-800) 800
/-- what Twist says -/
def twa (H r : Int) : Int := clamp ((wnt H - r).tdiv 4) (-100) 100
theorem wn (H : Int) : (H ≤ -51200 ∧ wnt H = 800) ∨ (51200 ≤ H ∧ wnt H = -800) ∨ (0 ≤ H ∧ H < 51200 ∧ -(64 * wnt H) ≤ H ∧ H ≤ -(64 * wnt H) + 63 ∧ wnt H ≤ 0) ∨ (-51200 < H ∧ H < 0 ∧ H ≤ -(64 * wnt H) ∧ -(64 * wnt H) - 63 ≤ H ∧ 0 ≤ wnt H) := by
  have h := td_is H 64 (by decide)
  unfold wnt clamp
  generalize H.tdiv 64 = t at *
  split
  · omega
  · split <;> omega
theorem tq (H r : Int) : (400 ≤ wnt H - r ∧ twa H r = 100) ∨ (wnt H - r ≤ -400 ∧ twa H r = -100) ∨ (0 ≤ wnt H - r ∧ wnt H - r < 400 ∧ 4 * twa H r ≤ wnt H - r ∧ wnt H - r ≤ 4 * twa H r + 3) ∨ (wnt H - r < 0 ∧ -400 < wnt H - r ∧ wnt H - r ≤ 4 * twa H r ∧ 4 * twa H r - 3 ≤ wnt H - r) := by
  have h := td_is (wnt H - r) 4 (by decide)
  unfold twa clamp
  generalize (wnt H - r).tdiv 4 = t at *
  split
  · omega
  · split <;> omega
/-- what is known of a heading and a turning -/
structure Kn (P D : Nat) (H r : Int) : Prop where
  H0 : -524288 ≤ H
  H1 : H < 524288
  r0 : -800 ≤ r
  r1 : r ≤ 800
  d0 : -(D : Int) ≤ wnt H - r
  d1 : wnt H - r ≤ D
  p0 : -(P : Int) ≤ H + 3 * r
  p1 : H + 3 * r ≤ P
def fP (P D : Nat) : Nat := if D ≤ 403 then max (3 * D + 3) (P - min 800 ((P - 3 * D) / 64) + 3) else 526688
def fD (P D : Nat) : Nat := if D ≤ 403 then D - D / 4 + min 13 (((P + 3 * D) / 61 + D + 63) / 64) else D - 87
theorem eff_in (h : Int) : -524288 ≤ eff h ∧ eff h < 524288 := by unfold eff; omega
theorem eff_same {h : Int} (h0 : -524288 ≤ h) (h1 : h < 524288) : eff h = h := by unfold eff; omega
theorem r_next {H r : Int} (r0 : -800 ≤ r) (r1 : r ≤ 800) : -800 ≤ r + twa H r ∧ r + twa H r ≤ 800 := by
  have h1 := wn H
  have h2 := tq H r
  omega
/-- far from what is wanted -/
theorem d_far {D : Nat} {H r : Int} (h0 : -524288 ≤ H) (h1 : H < 524288) (r0 : -800 ≤ r) (r1 : r ≤ 800) (d0 : -(D : Int) ≤ wnt H - r) (d1 : wnt H - r ≤ D) (hD : 403 < D) : -((D - 87 : Nat) : Int) ≤ wnt (eff (H + (r + twa H r))) - (r + twa H r) ∧ wnt (eff (H + (r + twa H r))) - (r + twa H r) ≤ ((D - 87 : Nat) : Int) := by
  have e : ((D - 87 : Nat) : Int) = D - 87 := by omega
  rw [e]
  have hr := r_next (H := H) r0 r1
  have h2 := tq H r
  have h3 := wn H
  by_cases hu : 524288 ≤ H + (r + twa H r)
  · have e2 : eff (H + (r + twa H r)) = H + (r + twa H r) - 1048576 := by unfold eff; omega
    rw [e2]
    have h4 := wn (H + (r + twa H r) - 1048576)
    omega
  · by_cases hl : H + (r + twa H r) < -524288
    · have e2 : eff (H + (r + twa H r)) = H + (r + twa H r) + 1048576 := by unfold eff; omega
      rw [e2]
      have h4 := wn (H + (r + twa H r) + 1048576)
      omega
    · rw [eff_same (by omega) (by omega)]
      have h4 := wn (H + (r + twa H r))
      omega
/-- near to it: no way leads over half a turn -/
theorem no_turn {H r : Int} (h0 : -524288 ≤ H) (h1 : H < 524288) (r0 : -800 ≤ r) (r1 : r ≤ 800) (d0 : -403 ≤ wnt H - r) (d1 : wnt H - r ≤ 403) : eff (H + (r + twa H r)) = H + (r + twa H r) := by
  have hr := r_next (H := H) r0 r1
  have h2 := tq H r
  have h3 := wn H
  exact eff_same (by omega) (by omega)
theorem p_up {P D : Nat} {H r : Int} (d0 : -(D : Int) ≤ wnt H - r) (d1 : wnt H - r ≤ D) (hD : D ≤ 403) (p1 : H + 3 * r ≤ P) : H + (r + twa H r) + 3 * (r + twa H r) ≤ ((max (3 * D + 3) (P - min 800 ((P - 3 * D) / 64) + 3) : Nat) : Int) := by
  have h2 := tq H r
  have h3 := wn H
  generalize wnt H = w at *
  generalize twa H r = a at *
  omega
theorem wnt_neg (H : Int) : wnt (-H) = -wnt H := by
  unfold wnt
  rw [Int.neg_tdiv]
  unfold clamp
  generalize H.tdiv 64 = t
  split <;> (try split) <;> (try split) <;> (try split) <;> omega
theorem twa_neg (H r : Int) : twa (-H) (-r) = -twa H r := by
  unfold twa
  rw [wnt_neg, show -wnt H - -r = -(wnt H - r) by omega, Int.neg_tdiv]
  unfold clamp
  generalize (wnt H - r).tdiv 4 = t
  split <;> (try split) <;> (try split) <;> (try split) <;> omega
theorem d_near {P D : Nat} {H r : Int} (d0 : -(D : Int) ≤ wnt H - r) (d1 : wnt H - r ≤ D) (hD : D ≤ 403) (r0 : -800 ≤ r) (r1 : r ≤ 800) (p0 : -(P : Int) ≤ H + 3 * r) (p1 : H + 3 * r ≤ P) : -((D - D / 4 + min 13 (((P + 3 * D) / 61 + D + 63) / 64) : Nat) : Int) ≤ wnt (H + (r + twa H r)) - (r + twa H r) ∧ wnt (H + (r + twa H r)) - (r + twa H r) ≤ ((D - D / 4 + min 13 (((P + 3 * D) / 61 + D + 63) / 64) : Nat) : Int) := by
  have hr := r_next (H := H) r0 r1
  have h2 := tq H r
  have h3 := wn H
  have h4 := wn (H + (r + twa H r))
  -- what the turning is at most
  have hw : -(((P + 3 * D) / 61 : Nat) : Int) ≤ wnt H ∧ wnt H ≤ (((P + 3 * D) / 61 : Nat) : Int) := by omega
  obtain ⟨R, hR⟩ : ∃ R : Nat, (P + 3 * D) / 61 + D = R := ⟨_, rfl⟩
  have hr2 : -(R : Int) ≤ r + twa H r ∧ r + twa H r ≤ R := by omega
  obtain ⟨c, hc⟩ : ∃ c : Nat, min 13 ((R + 63) / 64) = c := ⟨_, rfl⟩
  have hc2 : min 13 (((P + 3 * D) / 61 + D + 63) / 64) = c := by rw [hR]; exact hc
  rw [hc2]
  have hq : -(c : Int) ≤ wnt (H + (r + twa H r)) - wnt H ∧ wnt (H + (r + twa H r)) - wnt H ≤ c := by
    generalize wnt H = w at *
    generalize twa H r = a at *
    generalize wnt (H + (r + a)) = w' at *
    clear d0 d1 p0 p1 hw hc2 h2
    omega
  clear h3 h4 hw hr2 hc hc2 hr p0 p1
  generalize wnt (H + (r + twa H r)) = w' at *
  generalize wnt H = w at *
  generalize twa H r = a at *
  omega
theorem Kn.next {P D : Nat} {H r : Int} (k : Kn P D H r) : Kn (fP P D) (fD P D) (eff (H + (r + twa H r))) (r + twa H r) := by
  have hr := r_next (H := H) k.r0 k.r1
  have he := eff_in (H + (r + twa H r))
  by_cases hD : D ≤ 403
  · have hn := no_turn k.H0 k.H1 k.r0 k.r1 (by have := k.d0; omega) (by have := k.d1; omega)
    have hd := d_near k.d0 k.d1 hD k.r0 k.r1 k.p0 k.p1
    have hp := p_up k.d0 k.d1 hD k.p1
    have hq := p_up (P := P) (D := D) (H := -H) (r := -r) (by rw [wnt_neg]; have := k.d1; omega) (by rw [wnt_neg]; have := k.d0; omega) hD (by have := k.p0; omega)
    rw [twa_neg] at hq
    rw [hn] at he ⊢
    have e1 : fP P D = max (3 * D + 3) (P - min 800 ((P - 3 * D) / 64) + 3) := if_pos hD
    have e2 : fD P D = D - D / 4 + min 13 (((P + 3 * D) / 61 + D + 63) / 64) := if_pos hD
    rw [e1, e2]
    exact ⟨he.1, he.2, hr.1, hr.2, hd.1, hd.2, by omega, hp⟩
  · have hd := d_far k.H0 k.H1 k.r0 k.r1 k.d0 k.d1 (by omega)
    have e1 : fP P D = 526688 := if_neg hD
    have e2 : fD P D = D - 87 := if_neg hD
    rw [e1, e2]
    exact ⟨he.1, he.2, hr.1, hr.2, hd.1, hd.2, by omega, by omega⟩
/-- the heading (as the shorter way) and the turning behind n ticks -/
def rn (H r : Int) : Nat → Int × Int
  | 0 => (H, r)
  | n + 1 => (eff ((rn H r n).1 + ((rn H r n).2 + twa (rn H r n).1 (rn H r n).2)), (rn H r n).2 + twa (rn H r n).1 (rn H r n).2)
/-- the bounds behind n ticks -/
def bn : Nat → Nat × Nat
  | 0 => (526688, 1600)
  | n + 1 => (fP (bn n).1 (bn n).2, fD (bn n).1 (bn n).2)
theorem rn_kn {H r : Int} (h0 : -524288 ≤ H) (h1 : H < 524288) (r0 : -800 ≤ r) (r1 : r ≤ 800) : ∀ n, Kn (bn n).1 (bn n).2 (rn H r n).1 (rn H r n).2
  | 0 => by
    have := wn H
    exact ⟨h0, h1, r0, r1, by show -(1600 : Int) ≤ wnt H - r; omega, by show wnt H - r ≤ (1600 : Int); omega, by show -(526688 : Int) ≤ H + 3 * r; omega, by show H + 3 * r ≤ (526688 : Int); omega⟩
  | n + 1 => (rn_kn h0 h1 r0 r1 n).next
/-- n more ticks' bounds -/
def bm : Nat → Nat → Nat → Nat × Nat
  | 0, P, D => (P, D)
  | n + 1, P, D => bm n (fP P D) (fD P D)
theorem bm_bn (n m : Nat) : bm n (bn m).1 (bn m).2 = bn (m + n) := by
  induction n generalizing m with
  | zero => rfl
  | succ n ih =>
    show bm n (fP (bn m).1 (bn m).2) (fD (bn m).1 (bn m).2) = _
    have := ih (m + 1)
    rw [show m + (n + 1) = m + 1 + n by omega]
    exact this
theorem bm_0 : bm 100 526688 1600 = (458146, 55) := by decide +kernel
theorem bn_100 : bn 100 = (458146, 55) := (bm_bn 100 0).symm.trans bm_0
theorem bm_1 : bm 100 458146 55 = (378446, 55) := by decide +kernel
theorem bn_200 : bn 200 = (378446, 55) := by
  have h := bm_bn 100 100
  rw [bn_100] at h
  exact h.symm.trans bm_1
theorem bm_2 : bm 100 378446 55 = (298746, 55) := by decide +kernel
theorem bn_300 : bn 300 = (298746, 55) := by
  have h := bm_bn 100 200
  rw [bn_200] at h
  exact h.symm.trans bm_2
theorem bm_3 : bm 100 298746 55 = (219046, 55) := by decide +kernel
theorem bn_400 : bn 400 = (219046, 55) := by
  have h := bm_bn 100 300
  rw [bn_300] at h
  exact h.symm.trans bm_3
theorem bm_4 : bm 100 219046 55 = (139346, 55) := by decide +kernel
theorem bn_500 : bn 500 = (139346, 55) := by
  have h := bm_bn 100 400
  rw [bn_400] at h
  exact h.symm.trans bm_4
theorem bm_5 : bm 100 139346 55 = (59646, 55) := by decide +kernel
theorem bn_600 : bn 600 = (59646, 55) := by
  have h := bm_bn 100 500
  rw [bn_500] at h
  exact h.symm.trans bm_5
theorem bm_6 : bm 100 59646 55 = (12768, 19) := by decide +kernel
theorem bn_700 : bn 700 = (12768, 19) := by
  have h := bm_bn 100 600
  rw [bn_600] at h
  exact h.symm.trans bm_6
theorem bm_7 : bm 100 12768 19 = (2849, 7) := by decide +kernel
theorem bn_800 : bn 800 = (2849, 7) := by
  have h := bm_bn 100 700
  rw [bn_700] at h
  exact h.symm.trans bm_7
theorem bm_8 : bm 100 2849 7 = (783, 7) := by decide +kernel
theorem bn_900 : bn 900 = (783, 7) := by
  have h := bm_bn 100 800
  rw [bn_800] at h
  exact h.symm.trans bm_8
theorem bm_9 : bm 100 783 7 = (358, 7) := by decide +kernel
theorem bn_1000 : bn 1000 = (358, 7) := by
  have h := bm_bn 100 900
  rw [bn_900] at h
  exact h.symm.trans bm_9
theorem bm_10 : bm 100 358 7 = (276, 7) := by decide +kernel
theorem bn_1100 : bn 1100 = (276, 7) := by
  have h := bm_bn 100 1000
  rw [bn_1000] at h
  exact h.symm.trans bm_10
theorem bm_11 : bm 100 276 7 = (276, 7) := by decide +kernel
theorem bn_1200 : bn 1200 = (276, 7) := by
  have h := bm_bn 100 1100
  rw [bn_1100] at h
  exact h.symm.trans bm_11
theorem bm_12 : bm 100 276 7 = (276, 7) := by decide +kernel
theorem bn_1300 : bn 1300 = (276, 7) := by
  have h := bm_bn 100 1200
  rw [bn_1200] at h
  exact h.symm.trans bm_12
theorem bn_end (n : Nat) : bn (1300 + n) = (276, 7) := by
  induction n with
  | zero => exact bn_1300
  | succ n ih =>
    show (fP (bn (1300 + n)).1 (bn (1300 + n)).2, fD (bn (1300 + n)).1 (bn (1300 + n)).2) = _
    rw [ih]
    rfl
theorem turns_end {H r : Int} (h0 : -524288 ≤ H) (h1 : H < 524288) (r0 : -800 ≤ r) (r1 : r ≤ 800) : (-512 ≤ (rn H r 4000).1 ∧ (rn H r 4000).1 ≤ 512) ∧ -16 ≤ (rn H r 4000).2 ∧ (rn H r 4000).2 ≤ 16 := by
  have k := rn_kn h0 h1 r0 r1 4000
  rw [show (4000 : Nat) = 1300 + 2700 from rfl, bn_end 2700] at k
  rw [show (4000 : Nat) = 1300 + 2700 from rfl]
  have h := wn (rn H r (1300 + 2700)).1
  have a0 : -(7 : Int) ≤ _ := k.d0
  have a1 : _ ≤ (7 : Int) := k.d1
  have a2 : -(276 : Int) ≤ _ := k.p0
  have a3 : _ ≤ (276 : Int) := k.p1
  generalize (rn H r (1300 + 2700)).1 = x at *
  generalize (rn H r (1300 + 2700)).2 = y at *
  omega
end Go.Proofs.Ythldohfjkjhdcaa
