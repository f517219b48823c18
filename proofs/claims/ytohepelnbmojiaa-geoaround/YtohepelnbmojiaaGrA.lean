/- What the document's own functions answer: points, segments. -/
import Derived.Test.YtohepelnbmojiaaGeM
import Derived.Test.YtohepelnbmojiaaGeD
namespace Go.Proofs.Ytohepelnbmojiaa
open Go.RowKit Go.Great

set_option maxHeartbeats 1000000 in
theorem rfits_any (p : Pt) (w : World) : Calls Try.prog 36 #[pV p] w fun e w' => e = .returned (.bool (fitB p)) ∧ Below w.heap.size w w' := by
  obtain ⟨p1, p2⟩ := p
  simp only [pV, fitB, inB]
  go_enter Try.func36, Try.ntmps36
  go_wp2
  all_goals (go_ret; refine ⟨ret_bool ?_, below_alloc _ _⟩)
  all_goals (simp; try omega)
set_option maxHeartbeats 1000000 in
theorem rcross_any (a b p : Pt) (ha : Fit a) (hb : Fit b) (hp : Fit p) (w : World) : Calls Try.prog 38 #[pV a, pV b, pV p] w fun e w' => e = .returned (.int .i64 (cross a b p)) ∧ Below w.heap.size w w' := by
  obtain ⟨ax, ay⟩ := a
  obtain ⟨bx, by'⟩ := b
  obtain ⟨px, py⟩ := p
  obtain ⟨a1, a2, a3, a4⟩ := ha
  obtain ⟨b1, b2, b3', b4⟩ := hb
  obtain ⟨p1, p2, p3, p4⟩ := hp
  simp only at a1 a2 a3 a4 b1 b2 b3' b4 p1 p2 p3 p4
  have m1 := dd_bound b1 b2 a1 a2 p3 p4 a3 a4
  have m2 := dd_bound b3' b4 a3 a4 p1 p2 a1 a2
  simp only [pV, cross]
  go_enter Try.func38, Try.ntmps38
  go_wp2
  go_ret
  exact ⟨rfl, b3 _ _ _ _⟩
theorem rsign_any (n : Int) (w : World) : Calls Try.prog 37 #[.int .i64 n] w fun e w' => e = .returned (.int .i64 (sg n)) ∧ w' = w := by
  go_enter Try.func37, Try.ntmps37
  go_wp2
  all_goals (go_ret; refine ⟨ret_int ?_, rfl⟩)
  all_goals (unfold sg; split <;> first | omega | (split <;> omega))
theorem cross_bound {a b p : Pt} (ha : Fit a) (hb : Fit b) (hp : Fit p) : -2305843009213693952 ≤ cross a b p ∧ cross a b p ≤ 2305843009213693952 := by
  obtain ⟨a1, a2, a3, a4⟩ := ha
  obtain ⟨b1, b2, b3', b4⟩ := hb
  obtain ⟨p1, p2, p3, p4⟩ := hp
  have m1 := dd_bound b1 b2 a1 a2 p3 p4 a3 a4
  have m2 := dd_bound b3' b4 a3 a4 p1 p2 a1 a2
  unfold cross
  omega
set_option maxHeartbeats 2000000 in
theorem ron_any (a b p : Pt) (ha : Fit a) (hb : Fit b) (hp : Fit p) (w : World) : Calls Try.prog 53 #[pV a, pV b, pV p] w fun e w' => e = .returned (.bool (onB a b p)) ∧ Below w.heap.size w w' := by
  have C := rcross_any a b p ha hb hp
  unfold onB
  generalize cross a b p = x at C ⊢
  obtain ⟨ax, ay⟩ := a
  obtain ⟨bx, by'⟩ := b
  obtain ⟨px, py⟩ := p
  clear ha hb hp
  simp only [pV] at *
  go_enter Try.func53, Try.ntmps53
  go_wp2_with fail
  obtain ⟨W0, hW0, hB, B1, B2, B3, hz⟩ := three_boxes w #[.int .i64 ax, .int .i64 ay] #[.int .i64 bx, .int .i64 by'] #[.int .i64 px, .int .i64 py] 23 23 23
  rw [hW0]
  refine (C _).mono ?_
  rintro e w1 ⟨rfl, hb⟩
  have hz1 := hb.size
  have a0 := (B1.after hb).cell 0 rfl
  have a1 := (B1.after hb).cell 1 rfl
  have c0 := (B2.after hb).cell 0 rfl
  have c1 := (B2.after hb).cell 1 rfl
  have d0 := (B3.after hb).cell 0 rfl
  have d1 := (B3.after hb).cell 1 rfl
  have hb1 := below_next hB (Nat.le_refl _) hb
  clear hW0 B1 B2 B3 hB hb C
  go_wp2
  all_goals (go_ret; refine ⟨ret_bool ?_, hb1⟩)
  all_goals (rw [Bool.eq_iff_iff]; simp only [Bool.and_eq_true, decide_eq_true_eq, Bool.false_eq_true, Int.min_def, Int.max_def]; repeat' split) <;> first | omega | (simp; omega)
end Go.Proofs.Ytohepelnbmojiaa
