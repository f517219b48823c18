/- GuardBrakes, the pure part: the box of sane brakes, and the vehicle's ticks within it. -/
import Derived.Test.YtjinfjibodoflaaGuB
import Derived.Test.YtjinfjibodoflaaGuO
namespace Go.Proofs.Ytjinfjibodoflaa
open Go.RowKit Go.Great

/-- what is sane of brakes -/
structure San (x : Brk) : Prop where
  pl : -1099511627776 ≤ x.pl
  ph : x.ph ≤ 1099511627776
  vl : -1048576 ≤ x.vl
  vh : x.vh ≤ 1048576
  a0 : x.pl ≤ x.at_
  a1 : x.at_ ≤ x.ph
  s0 : x.vl ≤ x.sp
  s1 : x.sp ≤ x.vh
  w0 : 0 ≤ x.wi
  w1 : x.wi ≤ 16
  c0 : -64 ≤ x.ac
  c1 : x.ac ≤ 64
  e0 : -(86 + x.wi) ≤ x.ex
  e1 : x.ex ≤ 86 + x.wi
  j0 : 0 ≤ x.jo
  j1 : x.jo ≤ 1000
  g0 : 0 ≤ x.gi
  g1 : x.gi ≤ x.jo
theorem sat_id {x : Int} (h0 : -9223372036854775808 ≤ x) (h1 : x ≤ 9223372036854775807) : sat x = x := by
  unfold sat
  rw [if_neg (by omega), if_neg (by omega)]
theorem wy_bound (v b : Int) (hb : 1 ≤ b) (hv : v ≤ 1049742) : 0 ≤ wy v b ∧ wy v b ≤ 1101958266564 := by
  refine ⟨wy_nonneg v b hb, ?_⟩
  by_cases h : v < 1
  · rw [wy_zero v b hb (by omega)]; omega
  · have h1 := wy_le v b hb (by omega)
    have h2 : v * v ≤ 1049742 * 1049742 := Int.mul_le_mul hv hv (by omega) (by omega)
    omega
/-- how far the vehicle may get -/
def far (x : Brk) : Int := x.ph + (x.vh + x.ac + (86 + x.wi)) + wy (x.vh + x.ac + (86 + x.wi) + x.jo) (64 - x.wi)
theorem far_in {x : Brk} (h : San x) : -4398046511104 ≤ far x ∧ far x ≤ 4398046511104 := by
  obtain ⟨h1, h2, h3, h4, h5, h6, h7, h8, h9, h10, h11, h12, h13, h14, h15, h16, h17, h18⟩ := h
  have := wy_bound (x.vh + x.ac + (86 + x.wi) + x.jo) (64 - x.wi) (by omega) (by omega)
  unfold far
  omega
theorem far_hi {x : Brk} (h : San x) : rhi x.ph x.vh x.ac (64 - x.wi) x.jo = far x := by
  have hf := far_in h
  obtain ⟨h1, h2, h3, h4, h5, h6, h7, h8, h9, h10, h11, h12, h13, h14, h15, h16, h17, h18⟩ := h
  have hw := wy_bound (x.vh + x.ac + (86 + x.wi) + x.jo) (64 - x.wi) (by omega) (by omega)
  have eu : uu (64 - x.wi) = 86 + x.wi := by unfold uu; rw [sat_id (x := 64 - (64 - x.wi)) (by omega) (by omega), sat_id (by omega) (by omega)]; omega
  have ev : upv x.vh x.ac (64 - x.wi) = x.vh + x.ac + (86 + x.wi) := by unfold upv; rw [eu, sat_id (x := x.vh + x.ac) (by omega) (by omega), sat_id (by omega) (by omega)]
  unfold rhi
  rw [ev, sat_id (x := x.vh + x.ac + (86 + x.wi) + x.jo) (by omega) (by omega), stp_wy _ _ (by omega), sat_id (x := wy _ _) (by omega) (by omega), sat_id (x := x.ph + _) (by omega) (by omega)]
  unfold far at hf ⊢
  rw [sat_id (by omega) (by omega)]
theorem far_lo {x : Brk} (h : San x) : rlo (-x.ph) (-x.vh) (-x.ac) (64 - x.wi) x.jo = -far x := by
  have hf := far_in h
  obtain ⟨h1, h2, h3, h4, h5, h6, h7, h8, h9, h10, h11, h12, h13, h14, h15, h16, h17, h18⟩ := h
  have hw := wy_bound (x.vh + x.ac + (86 + x.wi) + x.jo) (64 - x.wi) (by omega) (by omega)
  have eu : uu (64 - x.wi) = 86 + x.wi := by unfold uu; rw [sat_id (x := 64 - (64 - x.wi)) (by omega) (by omega), sat_id (by omega) (by omega)]; omega
  have ev : dnv (-x.vh) (-x.ac) (64 - x.wi) = -(x.vh + x.ac + (86 + x.wi)) := by unfold dnv; rw [eu, sat_id (x := -x.vh + -x.ac) (by omega) (by omega), sat_id (by omega) (by omega)]; omega
  unfold rlo
  rw [ev, sat_id (x := 0 - _) (by omega) (by omega), show 0 - -(x.vh + x.ac + (86 + x.wi)) = x.vh + x.ac + (86 + x.wi) by omega, sat_id (x := x.vh + x.ac + (86 + x.wi) + x.jo) (by omega) (by omega), stp_wy _ _ (by omega), sat_id (x := wy _ _) (by omega) (by omega), sat_id (x := -x.ph + _) (by omega) (by omega)]
  unfold far at hf ⊢
  rw [sat_id (by omega) (by omega)]
  omega
/-- the vehicle at a tick: it is not beyond, nor will it be -/
structure Bk (b J F wh : Int) (i : Int) (p v : Int) : Prop where
  now : p + wy v b ≤ F
  yet : i ≤ wh → p + wy (v + J) b ≤ F
theorem Bk.start {x : Brk} (h : San x) (wh : Int) : Bk (64 - x.wi) x.jo (far x) wh 0 (x.at_ + (x.sp + x.ac + x.ex)) (x.sp + x.ac + x.ex) := by
  obtain ⟨h1, h2, h3, h4, h5, h6, h7, h8, h9, h10, h11, h12, h13, h14, h15, h16, h17, h18⟩ := h
  have m1 := wy_up (b := 64 - x.wi) (x := x.sp + x.ac + x.ex) (y := x.vh + x.ac + (86 + x.wi) + x.jo) (by omega) (by omega)
  have m2 := wy_up (b := 64 - x.wi) (x := x.sp + x.ac + x.ex + x.jo) (y := x.vh + x.ac + (86 + x.wi) + x.jo) (by omega) (by omega)
  unfold far
  exact ⟨by omega, fun _ => by omega⟩
theorem Bk.plain {b J F wh i p v v' : Int} (hb : 1 ≤ b) (hJ : 0 ≤ J) (h : Bk b J F wh i p v) (hv : v' ≤ v - b) : Bk b J F wh (i + 1) (p + max v' 0) v' := by
  refine ⟨brk_step hb h.now hv, fun hi => ?_⟩
  have := brk_step (v' := v' + J) hb (h.yet (by omega)) (by omega)
  omega
theorem Bk.jolt {b J F wh i p v v' : Int} (hb : 1 ≤ b) (h : Bk b J F wh i p v) (hi : i = wh) (hv : v' ≤ v - b + J) : Bk b J F wh (i + 1) (p + max v' 0) v' := by
  refine ⟨brk_step hb (h.yet (by omega)) (by omega), fun hi => by omega⟩
theorem Bk.le {b J F wh i p v : Int} (hb : 1 ≤ b) (h : Bk b J F wh i p v) : p ≤ F := by
  have := wy_nonneg v b hb
  have := h.now
  omega
end Go.Proofs.Ytjinfjibodoflaa
