/- A whole number as an int: the walks of Int and kept. -/
import Derived.Test.YtpoodmfhcoaleaaPlusAny
namespace Go.Proofs.Ytpoodmfhcoaleaa
open Go.RowKit

/-- the digits from k on, as they are gathered from the highest one -/
theorem val_drop (ds : List Int) (k : Nat) (h : k < ds.length) : val (ds.drop k) = ds.getD k 0 + 1073741824 * val (ds.drop (k + 1)) := by
  rw [List.drop_eq_getElem_cons h]
  simp [val, List.getD_eq_getElem?_getD, h]
theorem Dig.drop {ds : List Int} (h : Dig ds) (k : Nat) : Dig (ds.drop k) := by
  intro i hi
  simp at hi
  have := h (k + i) (by omega)
  simpa [List.getD_eq_getElem?_getD, List.getElem?_drop] using this
theorem val_drop_le {ds : List Int} (h : Dig ds) (k : Nat) : 0 ≤ val (ds.drop k) ∧ val (ds.drop k) ≤ val ds := by
  have h1 := (val_nonneg (h.drop k)).1
  refine ⟨h1, ?_⟩
  have e := val_append (ds.take k) (ds.drop k)
  rw [List.take_append_drop] at e
  have h2 := (val_nonneg (h.take k)).1
  have h3 : (1 : Int) ≤ 1073741824 ^ (ds.take k).length := by
    have := pow_mono 1073741824 (by omega) (Nat.zero_le (ds.take k).length)
    simpa using this
  have := Int.mul_le_mul_of_nonneg_right h3 h1
  omega

theorem of_from (n : Int) (w W : World) (hn : I64 n) (h : Below w.heap.size w W) : Calls Try.prog 43 #[.int .i64 n] W fun e w' => ∃ v, e = .returned v ∧ Below w.heap.size w w' ∧ Whole w' v n 3 := by
  refine (of_any n W hn).mono ?_
  rintro e w' ⟨v, rfl, hb, hv⟩
  exact ⟨v, rfl, h.trans (hb.mono h.size), hv⟩
theorem cmp_from (va vb : Value) (a b : Int) (L M : Nat) (w W : World) (ha : Whole w va a L) (h : Below w.heap.size w W) (hb : Whole W vb b M) (hL : L ≤ 1000000) :
    Calls Try.prog 57 #[va, vb] W fun e w' => e = .returned (.int .i64 (cmpI a b)) ∧ Below w.heap.size w w' := by
  refine (cmp_any va vb a b L M W (ha.below h) hb hL).mono ?_
  rintro e w' ⟨rfl, hb⟩
  exact ⟨rfl, h.trans (hb.mono h.size)⟩

set_option maxHeartbeats 4000000 in
theorem int_low (va : Value) (a : Int) (L : Nat) (w : World) (ha : Whole w va a L) (hL : L ≤ 1000000) (h1 : a < -9223372036854775808) :
    Calls Try.prog 51 #[va] w fun e w' => e = .returned (.tuple #[.int .i64 0, .bool false]) ∧ Below w.heap.size w w' := by
  obtain ⟨s1, p1, l1, c1, rfl⟩ := whole_agg ha
  have ha2 := ha.below (below_allocC w (.cells #[.bool s1, .slice p1 l1 c1] 67))
  have HO := hide (fun (W : World) (n : Int) (hn : I64 n) (h : Below (w.alloc (.cells #[.bool s1, .slice p1 l1 c1] 67)).heap.size (w.alloc (.cells #[.bool s1, .slice p1 l1 c1] 67)) W) => of_from n _ W hn h)
  have HC := hide (fun (W : World) (v : Value) (b : Int) (h : Below (w.alloc (.cells #[.bool s1, .slice p1 l1 c1] 67)).heap.size (w.alloc (.cells #[.bool s1, .slice p1 l1 c1] 67)) W) (hv : Whole W v b 3) => cmp_from _ v a b L 3 _ W ha2 h hv hL)
  have Z0 : Hid ((w.alloc (.cells #[.bool s1, .slice p1 l1 c1] 67)).cell? ⟨w.heap.size, 0, none⟩ = some (.bool s1)) := by show _ = _; simp
  have Z1 : Hid ((w.alloc (.cells #[.bool s1, .slice p1 l1 c1] 67)).cell? ⟨w.heap.size, 1, none⟩ = some (.slice p1 l1 c1)) := by show _ = _; simp
  have C1 := hide (cmpI_lt h1)
  clear ha ha2 h1
  go_enter Try.func51, Try.ntmps51
  go_wp2
  go_region_with (first
    | (go_at_call 43; refine (HO.out _ _ (by unfold I64; omega) (by first | exact HT.out | exact HT.out.drew | exact Below.refl _ _ | exact (Below.refl _ _).drew)).mono ?_; rintro e w1 ⟨v, rfl, ht, hw⟩; obtain ⟨s3, p3, l3, c3, rfl⟩ := whole_agg hw; have HW := hide hw; have k0 : w1.cell? ⟨w.heap.size, 0, none⟩ = some (.bool s1) := (ht.cell (p := ⟨w.heap.size, 0, none⟩) (by simp)).trans Z0.out; have k1 : w1.cell? ⟨w.heap.size, 1, none⟩ = some (.slice p1 l1 c1) := (ht.cell (p := ⟨w.heap.size, 1, none⟩) (by simp)).trans Z1.out; have HT := hide ht; clear hw ht)
    | (go_at_call 57; refine (HC.out _ _ _ (by first | exact HT.out | exact HT.out.drew | exact Below.refl _ _ | exact (Below.refl _ _).drew) HW.out).mono ?_; rintro e w2 ⟨rfl, ht⟩; rw [C1.out]; have k0 : w2.cell? ⟨w.heap.size, 0, none⟩ = some (.bool s1) := (ht.cell (p := ⟨w.heap.size, 0, none⟩) (by simp)).trans Z0.out; have k1 : w2.cell? ⟨w.heap.size, 1, none⟩ = some (.slice p1 l1 c1) := (ht.cell (p := ⟨w.heap.size, 1, none⟩) (by simp)).trans Z1.out; have HT := hide ht; clear ht))
  all_goals
    go_wp2
    go_ret2
    exact ⟨rfl, (below_allocC _ _).trans (HT.out.mono (by simp))⟩
set_option maxHeartbeats 4000000 in
theorem int_high (va : Value) (a : Int) (L : Nat) (w : World) (ha : Whole w va a L) (hL : L ≤ 1000000) (h1 : 9223372036854775807 < a) :
    Calls Try.prog 51 #[va] w fun e w' => e = .returned (.tuple #[.int .i64 0, .bool false]) ∧ Below w.heap.size w w' := by
  obtain ⟨s1, p1, l1, c1, rfl⟩ := whole_agg ha
  have ha2 := ha.below (below_allocC w (.cells #[.bool s1, .slice p1 l1 c1] 67))
  have HO := hide (fun (W : World) (n : Int) (hn : I64 n) (h : Below (w.alloc (.cells #[.bool s1, .slice p1 l1 c1] 67)).heap.size (w.alloc (.cells #[.bool s1, .slice p1 l1 c1] 67)) W) => of_from n _ W hn h)
  have HC := hide (fun (W : World) (v : Value) (b : Int) (h : Below (w.alloc (.cells #[.bool s1, .slice p1 l1 c1] 67)).heap.size (w.alloc (.cells #[.bool s1, .slice p1 l1 c1] 67)) W) (hv : Whole W v b 3) => cmp_from _ v a b L 3 _ W ha2 h hv hL)
  have Z0 : Hid ((w.alloc (.cells #[.bool s1, .slice p1 l1 c1] 67)).cell? ⟨w.heap.size, 0, none⟩ = some (.bool s1)) := by show _ = _; simp
  have Z1 : Hid ((w.alloc (.cells #[.bool s1, .slice p1 l1 c1] 67)).cell? ⟨w.heap.size, 1, none⟩ = some (.slice p1 l1 c1)) := by show _ = _; simp
  have C1 : Hid (cmpI a (-9223372036854775808) = 1) := cmpI_gt (by omega)
  have C2 := hide (cmpI_gt h1)
  clear ha ha2 h1
  go_enter Try.func51, Try.ntmps51
  go_wp2
  go_region_with (first
    | (go_at_call 43; refine (HO.out _ _ (by unfold I64; omega) (by first | exact HT.out | exact HT.out.drew | exact Below.refl _ _ | exact (Below.refl _ _).drew)).mono ?_; rintro e w1 ⟨v, rfl, ht, hw⟩; obtain ⟨s3, p3, l3, c3, rfl⟩ := whole_agg hw; have HW := hide hw; have k0 : w1.cell? ⟨w.heap.size, 0, none⟩ = some (.bool s1) := (ht.cell (p := ⟨w.heap.size, 0, none⟩) (by simp)).trans Z0.out; have k1 : w1.cell? ⟨w.heap.size, 1, none⟩ = some (.slice p1 l1 c1) := (ht.cell (p := ⟨w.heap.size, 1, none⟩) (by simp)).trans Z1.out; have HT := hide ht; clear hw ht)
    | (go_at_call 57; refine (HC.out _ _ _ (by first | exact HT.out | exact HT.out.drew | exact Below.refl _ _ | exact (Below.refl _ _).drew) HW.out).mono ?_; rintro e w2 ⟨rfl, ht⟩; (first | rw [C1.out] | rw [C2.out]); have k0 : w2.cell? ⟨w.heap.size, 0, none⟩ = some (.bool s1) := (ht.cell (p := ⟨w.heap.size, 0, none⟩) (by simp)).trans Z0.out; have k1 : w2.cell? ⟨w.heap.size, 1, none⟩ = some (.slice p1 l1 c1) := (ht.cell (p := ⟨w.heap.size, 1, none⟩) (by simp)).trans Z1.out; have HT := hide ht; clear ht))
  all_goals
    go_wp2
    go_ret2
    exact ⟨rfl, (below_allocC _ _).trans (HT.out.mono (by simp))⟩
end Go.Proofs.Ytpoodmfhcoaleaa
