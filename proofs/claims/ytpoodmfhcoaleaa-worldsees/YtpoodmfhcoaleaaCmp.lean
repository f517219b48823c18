/- Whole numbers as values, and how they are compared and turned. -/
import Derived.Test.YtpoodmfhcoaleaaSize
namespace Go.Proofs.Ytpoodmfhcoaleaa
open Go.RowKit

/-- v is the whole number n, as it lies in w, of L digits at most -/
def Whole (w : World) (v : Value) (n : Int) (L : Nat) : Prop :=
  ∃ sl ds, v = .agg #[.bool (decide (n < 0)), sl] ∧ Row w sl ds ∧ Digs ds (n.natAbs : Int) ∧ ds.length ≤ L

theorem Whole.below {w w' : World} {v : Value} {n : Int} {L : Nat} (h : Whole w v n L) (hb : Below w.heap.size w w') : Whole w' v n L := by
  obtain ⟨sl, ds, hv, hr, hd, hl⟩ := h
  exact ⟨sl, ds, hv, hr.below hb, hd, hl⟩
theorem Whole.mono {w : World} {v : Value} {n : Int} {L M : Nat} (h : Whole w v n L) (hm : L ≤ M) : Whole w v n M := by
  obtain ⟨sl, ds, hv, hr, hd, hl⟩ := h
  exact ⟨sl, ds, hv, hr, hd, by omega⟩
theorem below_allocC (w : World) (o : Obj) : Below w.heap.size w (w.alloc o) := (Below.refl _ _).alloc (Nat.le_refl _) _
theorem below_draw {B : Nat} {a w : World} (h : Below B a w) (n : Nat) : Below B a (w.drewN n) := h.trans ⟨rfl, rfl, rfl, Nat.le_refl _, fun _ _ => rfl⟩

set_option maxHeartbeats 1000000 in
theorem cmp_any (va vb : Value) (a b : Int) (L M : Nat) (w : World) (ha : Whole w va a L) (hb : Whole w vb b M) (hL : L ≤ 1000000) :
    Calls Try.prog 57 #[va, vb] w fun e w' => e = .returned (.int .i64 (cmpI a b)) ∧ Below w.heap.size w w' := by
  obtain ⟨sa, da, rfl, ra, ⟨ga, ta, ea⟩, la⟩ := ha
  obtain ⟨sb, db, rfl, rb, ⟨gb, tb, eb⟩, lb⟩ := hb
  have EA := hide ea
  have EB := hide eb
  have HC (w' : World) (h : Below w.heap.size w w') := size_cmp sa sb da db w' (ra.below h) (rb.below h) ga gb ta tb (by omega)
  have HC := hide HC
  clear ea eb ra rb ga gb ta tb la lb
  cases h1 : decide (a < 0) <;> cases h2 : decide (b < 0)
  all_goals
    have g1 := h1
    have g2 := h2
    simp only [decide_eq_true_eq, decide_eq_false_iff_not] at g1 g2
    have G1 := hide g1
    have G2 := hide g2
    clear g1 g2
  · go_enter Try.func57, Try.ntmps57
    go_wp2_with (go_at_call 53; refine (HC.out _ (((Below.refl _ _).alloc (Nat.le_refl _) _).alloc (by simp) _)).mono ?_; rintro e w' ⟨rfl, q, rfl⟩)
    go_ret
    refine ⟨ret_int ?_, below_draw (((Below.refl _ _).alloc (Nat.le_refl _) _).alloc (by simp) _) _⟩
    have := EA.out; have := EB.out; have := G1.out; have := G2.out
    rw [show val da = a by omega, show val db = b by omega]
  · go_enter Try.func57, Try.ntmps57
    go_wp2
    go_ret
    have := G1.out; have := G2.out
    exact ⟨ret_int (cmpI_gt (by omega)).symm, ((Below.refl _ _).alloc (Nat.le_refl _) _).alloc (by simp) _⟩
  · go_enter Try.func57, Try.ntmps57
    go_wp2
    go_ret
    have := G1.out; have := G2.out
    exact ⟨ret_int (cmpI_lt (by omega)).symm, ((Below.refl _ _).alloc (Nat.le_refl _) _).alloc (by simp) _⟩
  · have hr : -1 ≤ cmpI (val da) (val db) ∧ cmpI (val da) (val db) ≤ 1 := by unfold cmpI; split <;> (try split) <;> omega
    go_enter Try.func57, Try.ntmps57
    go_wp2_with (go_at_call 53; refine (HC.out _ (((Below.refl _ _).alloc (Nat.le_refl _) _).alloc (by simp) _)).mono ?_; rintro e w' ⟨rfl, q, rfl⟩)
    go_ret
    refine ⟨ret_int ?_, below_draw (((Below.refl _ _).alloc (Nat.le_refl _) _).alloc (by simp) _) _⟩
    have := EA.out; have := EB.out; have := G1.out; have := G2.out
    rw [show val da = -a by omega, show val db = -b by omega]
    unfold cmpI
    repeat' split
    all_goals omega

set_option maxHeartbeats 1000000 in
theorem negative_any (va : Value) (a : Int) (L : Nat) (w : World) (ha : Whole w va a L) :
    Calls Try.prog 55 #[va] w fun e w' => ∃ v, e = .returned v ∧ Below w.heap.size w w' ∧ Whole w' v (-a) L := by
  obtain ⟨sa, da, rfl, ra, ⟨ga, ta, ea⟩, la⟩ := ha
  have hl : (0 < (da.length : Int)) ↔ a ≠ 0 := by
    by_cases e : da = []
    · subst e; simp [val] at ea; simp; omega
    · have := val_ge ga ta e
      have h2 : (0 : Int) < 1073741824 ^ (da.length - 1) := Int.pow_pos (by omega)
      have h3 : da.length ≠ 0 := fun h => e (List.eq_nil_of_length_eq_zero h)
      omega
  have hd : (!decide (a < 0) && decide (0 < (da.length : Int))) = decide (-a < 0) := by
    rw [Bool.eq_iff_iff]; simp only [Bool.and_eq_true, Bool.not_eq_true', decide_eq_true_eq, decide_eq_false_iff_not, hl]; omega
  have HD := hide hd
  have HW (w' : World) (h : Below w.heap.size w w') : Whole w' (.agg #[.bool (decide (-a < 0)), sa]) (-a) L := ⟨sa, da, rfl, ra.below h, ⟨ga, ta, by rw [ea]; omega⟩, la⟩
  have HW := hide HW
  obtain ⟨pa, ca, rfl, hca, hma, h3⟩ := ra
  clear h3 hl hd ga ta ea
  cases h1 : decide (a < 0) <;> cases h2 : decide (0 < (da.length : Int))
  all_goals
    have hb := HD.out
    rw [h1, h2] at hb
    have HB2 := hide hb
    clear hb
    go_enter Try.func55, Try.ntmps55
    go_wp2
    refine bodyPost_ret (v := .agg #[.bool (decide (-a < 0)), .slice pa da.length ca]) (by rw [← HB2.out]; simp [results, Try.results55, go_sem] <;> simpa using h2) rfl ⟨_, rfl, ?_, HW.out _ ?_⟩
    all_goals repeat (first | exact Below.refl _ _ | refine Below.setCell ?_ (by simp) _ | refine Below.alloc ?_ (by simp) _)
end Go.Proofs.Ytpoodmfhcoaleaa
