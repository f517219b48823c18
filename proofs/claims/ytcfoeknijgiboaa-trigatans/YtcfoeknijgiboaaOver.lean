/- A whole number over one above 0, rounded down: the walk of over of windhoverref01. -/
import Derived.Test.YtcfoeknijgiboaaRefMid
import Derived.Test.YtcfoeknijgiboaaTimesAny
import Derived.Deep.DeepCutAuto
namespace Go.Proofs.Ytcfoeknijgiboaa
open Go.RowKit

theorem times_from (va vb : Value) (a b : Int) (L M N : Nat) (w W : World) (hb : Whole w vb b M) (h : Below w.heap.size w W) (ha : Whole W va a L) (hL : L ≤ 100000) (hM : M ≤ 100000) (hN : L + M ≤ N) :
    Calls Try.prog 15 #[va, vb] W fun e w' => ∃ v, e = .returned v ∧ Below w.heap.size w w' ∧ Whole w' v (a * b) N := by
  refine (times_any va vb a b L M N W ha (hb.below h) hL hM hN).mono ?_
  rintro e w' ⟨v, rfl, hb, hv⟩
  exact ⟨v, rfl, h.trans (hb.mono h.size), hv⟩
theorem cmp_back (va vb : Value) (a b : Int) (L M : Nat) (w W : World) (hb : Whole w vb b M) (h : Below w.heap.size w W) (ha : Whole W va a L) (hL : L ≤ 1000000) :
    Calls Try.prog 18 #[va, vb] W fun e w' => e = .returned (.int .i64 (cmpI a b)) ∧ Below w.heap.size w w' := by
  refine (cmp_any va vb a b L M W ha (hb.below h) hL).mono ?_
  rintro e w' ⟨rfl, hb⟩
  exact ⟨rfl, h.trans (hb.mono h.size)⟩
theorem cmpI_in (a b : Int) : (b ≤ a → 0 ≤ cmpI a b) ∧ (a < b → cmpI a b < 0) ∧ (a ≤ b → cmpI a b ≤ 0) ∧ (b < a → 0 < cmpI a b) ∧ -1 ≤ cmpI a b ∧ cmpI a b ≤ 1 := by
  unfold cmpI; split <;> (try split) <;> omega

set_option maxHeartbeats 8000000 in
theorem over_high (va vb : Value) (a b : Int) (L M : Nat) (w : World) (ha : Whole w va a L) (hb : Whole w vb b M) (hL : L ≤ 1000) (hM : M ≤ 1000) (h : 9223372036854775807 * b ≤ a) :
    Calls Try.prog 32 #[va, vb] w fun e w' => e = .returned (.int .i64 9223372036854775807) ∧ Below w.heap.size w w' := by
  obtain ⟨s1, p1, l1, c1, rfl⟩ := whole_agg ha
  obtain ⟨s2, p2, l2, c2, rfl⟩ := whole_agg hb
  have hz : Below w.heap.size w ((w.alloc (.cells #[.bool s1, .slice p1 l1 c1] 28)).alloc (.cells #[.bool s2, .slice p2 l2 c2] 28)) := ((Below.refl _ _).alloc (Nat.le_refl _) _).alloc (by simp) _
  have ha2 := ha.below hz
  have hb2 := hb.below hz
  have HZ := hide hz
  have HO := hide (fun (W : World) (n : Int) (hn : I64 n) (h : Below ((w.alloc (.cells #[.bool s1, .slice p1 l1 c1] 28)).alloc (.cells #[.bool s2, .slice p2 l2 c2] 28)).heap.size ((w.alloc (.cells #[.bool s1, .slice p1 l1 c1] 28)).alloc (.cells #[.bool s2, .slice p2 l2 c2] 28)) W) => of_from n _ W hn h)
  have HM := hide (fun (W : World) (v : Value) (n : Int) (h : Below ((w.alloc (.cells #[.bool s1, .slice p1 l1 c1] 28)).alloc (.cells #[.bool s2, .slice p2 l2 c2] 28)).heap.size ((w.alloc (.cells #[.bool s1, .slice p1 l1 c1] 28)).alloc (.cells #[.bool s2, .slice p2 l2 c2] 28)) W) (hv : Whole W v n 3) => times_from v _ n b 3 M (3 + M) _ W hb2 h hv (by omega) (by omega) (by omega))
  have HC := hide (fun (W : World) (v : Value) (n : Int) (h : Below ((w.alloc (.cells #[.bool s1, .slice p1 l1 c1] 28)).alloc (.cells #[.bool s2, .slice p2 l2 c2] 28)).heap.size ((w.alloc (.cells #[.bool s1, .slice p1 l1 c1] 28)).alloc (.cells #[.bool s2, .slice p2 l2 c2] 28)) W) (hv : Whole W v n (3 + M)) => cmp_from _ v a n L (3 + M) _ W ha2 h hv (by omega))
  have HD := hide (fun (W : World) (v : Value) (n : Int) (h : Below ((w.alloc (.cells #[.bool s1, .slice p1 l1 c1] 28)).alloc (.cells #[.bool s2, .slice p2 l2 c2] 28)).heap.size ((w.alloc (.cells #[.bool s1, .slice p1 l1 c1] 28)).alloc (.cells #[.bool s2, .slice p2 l2 c2] 28)) W) (hv : Whole W v n (3 + M)) => cmp_back v _ n a (3 + M) L _ W ha2 h hv (by omega))
  have KA : Hid (((w.alloc (.cells #[.bool s1, .slice p1 l1 c1] 28)).alloc (.cells #[.bool s2, .slice p2 l2 c2] 28)).cell? ⟨w.heap.size, 0, none⟩ = some (.bool s1)) := by show _ = _; go_simp
  have KB : Hid (((w.alloc (.cells #[.bool s1, .slice p1 l1 c1] 28)).alloc (.cells #[.bool s2, .slice p2 l2 c2] 28)).cell? ⟨w.heap.size, 1, none⟩ = some (.slice p1 l1 c1)) := by show _ = _; go_simp
  have KC : Hid (((w.alloc (.cells #[.bool s1, .slice p1 l1 c1] 28)).alloc (.cells #[.bool s2, .slice p2 l2 c2] 28)).cell? ⟨w.heap.size + 1, 0, none⟩ = some (.bool s2)) := by show _ = _; go_simp
  have KD : Hid (((w.alloc (.cells #[.bool s1, .slice p1 l1 c1] 28)).alloc (.cells #[.bool s2, .slice p2 l2 c2] 28)).cell? ⟨w.heap.size + 1, 1, none⟩ = some (.slice p2 l2 c2)) := by show _ = _; go_simp
  have MX : Hid (I64 9223372036854775807) := by show I64 _; unfold I64; omega
  have MN : Hid (I64 (-9223372036854775808)) := by show I64 _; unfold I64; omega
  obtain ⟨x, C1⟩ : ∃ x, Hid (cmpI a (9223372036854775807 * b) = x) := ⟨_, rfl⟩
  have hx := (cmpI_in a (9223372036854775807 * b)).1 h
  rw [C1.out] at hx
  have dx : decide (0 ≤ x) = true := by simpa using hx
  clear ha hb hz ha2 hb2 h MN HD
  go_enter Try.func32, Try.ntmps32
  go_wp2_with fail
  go_region_with (first
    | (go_at_call 16; refine (HO.out _ _ MX.out (by first | exact HT.out | exact HT.out.drew | exact Below.refl _ _ | exact (Below.refl _ _).drew)).mono ?_; rintro e wa ⟨v, rfl, ht, hw⟩; obtain ⟨s3, p3, l3, c3, rfl⟩ := whole_agg hw; have HW := hide hw; have ka : wa.cell? ⟨w.heap.size, 0, none⟩ = some (.bool s1) := (ht.cell (p := ⟨w.heap.size, 0, none⟩) (by simp <;> omega)).trans KA.out; have kb : wa.cell? ⟨w.heap.size, 1, none⟩ = some (.slice p1 l1 c1) := (ht.cell (p := ⟨w.heap.size, 1, none⟩) (by simp <;> omega)).trans KB.out; have kc : wa.cell? ⟨w.heap.size + 1, 0, none⟩ = some (.bool s2) := (ht.cell (p := ⟨w.heap.size + 1, 0, none⟩) (by simp <;> omega)).trans KC.out; have kd : wa.cell? ⟨w.heap.size + 1, 1, none⟩ = some (.slice p2 l2 c2) := (ht.cell (p := ⟨w.heap.size + 1, 1, none⟩) (by simp <;> omega)).trans KD.out; have HT := hide ht; clear hw ht)
    | (go_at_call 15; refine (HM.out _ _ _ (by first | exact HT.out | exact HT.out.drew | exact Below.refl _ _ | exact (Below.refl _ _).drew) HW.out).mono ?_; rintro e wb ⟨v, rfl, ht, hw⟩; obtain ⟨s4, p4, l4, c4, rfl⟩ := whole_agg hw; have HW := hide hw; have ka : wb.cell? ⟨w.heap.size, 0, none⟩ = some (.bool s1) := (ht.cell (p := ⟨w.heap.size, 0, none⟩) (by simp <;> omega)).trans KA.out; have kb : wb.cell? ⟨w.heap.size, 1, none⟩ = some (.slice p1 l1 c1) := (ht.cell (p := ⟨w.heap.size, 1, none⟩) (by simp <;> omega)).trans KB.out; have kc : wb.cell? ⟨w.heap.size + 1, 0, none⟩ = some (.bool s2) := (ht.cell (p := ⟨w.heap.size + 1, 0, none⟩) (by simp <;> omega)).trans KC.out; have kd : wb.cell? ⟨w.heap.size + 1, 1, none⟩ = some (.slice p2 l2 c2) := (ht.cell (p := ⟨w.heap.size + 1, 1, none⟩) (by simp <;> omega)).trans KD.out; have HT := hide ht; clear hw ht)
    | (go_at_call 18; refine (HC.out _ _ _ (by first | exact HT.out | exact HT.out.drew | exact Below.refl _ _ | exact (Below.refl _ _).drew) HW.out).mono ?_; rintro e wd ⟨rfl, ht⟩; rw [C1.out]; have HT := hide ht; clear ht))
  all_goals
    go_wp2_with fail
    go_ret
    exact ⟨rfl, HZ.out.trans (HT.out.mono (by simp <;> omega))⟩
end Go.Proofs.Ytcfoeknijgiboaa
