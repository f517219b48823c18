/- Plus and Minus of any two whole numbers. -/
import Derived.Test.YtpoodmfhcoaleaaPlusGt
import Derived.Test.YtpoodmfhcoaleaaPlusLt
namespace Go.Proofs.Ytpoodmfhcoaleaa
open Go.RowKit

theorem Sum.mono {w : World} {v : Value} {m : Int} {L M : Nat} (h : Sum w v m L) (hm : L ≤ M) : Sum w v m M := by
  obtain ⟨ds, hr, hd, hl⟩ := h
  exact ⟨ds, hr, hd, by omega⟩
theorem whole_zero (w : World) (L : Nat) : Whole w (.agg #[.bool false, .slice none 0 0]) 0 L := ⟨_, [], rfl, Row.nil w, ⟨fun i hi => absurd hi (by simp), .inl rfl, rfl⟩, Nat.zero_le _⟩

theorem plus_any (va vb : Value) (a b : Int) (L M N : Nat) (w : World) (ha : Whole w va a L) (hb : Whole w vb b M) (hL : L < N) (hM : M < N) (hN : N ≤ 1000000) :
    Calls Try.prog 42 #[va, vb] w fun e w' => ∃ v, e = .returned v ∧ Below w.heap.size w w' ∧ Whole w' v (a + b) N := by
  obtain ⟨sa, da, rfl, ra, ⟨ga, ta, ea⟩, la⟩ := ha
  obtain ⟨sb, db, rfl, rb, ⟨gb, tb, eb⟩, lb⟩ := hb
  by_cases h : decide (a < 0) = decide (b < 0)
  · rw [← h]
    refine (plus_same sa sb da db (decide (a < 0)) w ra rb ga gb (by omega) (by omega)).mono ?_
    rintro e w' ⟨v, rfl, hb, hs⟩
    have h' : (a < 0) ↔ (b < 0) := by simpa using h
    refine ⟨_, rfl, hb, whole_mk (hs.mono (by omega)) ?_ (by rw [ea, eb]; omega)⟩
    rw [decide_eq_decide]; omega
  · have h' : ¬ ((a < 0) ↔ (b < 0)) := fun g => h (by simpa using g)
    have hn : decide (b < 0) = !decide (a < 0) := by
      cases h1 : decide (a < 0) <;> cases h2 : decide (b < 0) <;> simp_all
    rw [hn]
    by_cases g1 : val db < val da
    · refine (plus_gt sa sb da db (decide (a < 0)) w ra rb ga gb ta tb (by omega) g1).mono ?_
      rintro e w' ⟨v, rfl, hb, hs⟩
      refine ⟨_, rfl, hb, whole_mk (hs.mono (by omega)) ?_ (by rw [ea, eb]; omega)⟩
      rw [decide_eq_decide]; omega
    · by_cases g2 : val da < val db
      · refine (plus_lt sa sb da db (decide (a < 0)) w ra rb ga gb ta tb (by omega) (by omega) g2).mono ?_
        rintro e w' ⟨v, rfl, hb, hs⟩
        refine ⟨_, rfl, hb, whole_mk (hs.mono (by omega)) ?_ (by rw [ea, eb]; omega)⟩
        rw [← hn, decide_eq_decide]; omega
      · refine (plus_eq sa sb da db (decide (a < 0)) w ra rb ga gb ta tb (by omega) (by omega)).mono ?_
        rintro e w' ⟨rfl, hb⟩
        refine ⟨_, rfl, hb, ?_⟩
        rw [show a + b = 0 by omega]
        exact whole_zero _ _

theorem whole_agg {w : World} {v : Value} {n : Int} {L : Nat} (h : Whole w v n L) : ∃ s p l c, v = .agg #[.bool s, .slice p l c] := by
  obtain ⟨sl, ds, rfl, ⟨a, cap, rfl, _⟩, _⟩ := h
  exact ⟨_, _, _, _, rfl⟩
theorem Whole.set {w : World} {v : Value} {n : Int} {L : Nat} (h : Whole w v n L) {p : Addr} {u : Value} (hp : w.cell? p = some u) (hu : ∀ x, u ≠ .int .i64 x) (u' : Value) : Whole (w.setCell p u') v n L := by
  obtain ⟨sl, ds, hv, hr, hd⟩ := h
  exact ⟨sl, ds, hv, hr.set hp hu u', hd⟩
theorem whole_set {w1 : World} {r : Nat} {v : Value} {n : Int} {L : Nat} (h : Whole w1 v n L) (h0 : w1.cell? ⟨r, 0, none⟩ = some (.bool false)) (h1 : w1.cell? ⟨r, 1, none⟩ = some (.slice none 0 0)) (s : Bool) (u : Value) :
    Whole ((w1.setCell ⟨r, 0, none⟩ (.bool s)).setCell ⟨r, 1, none⟩ u) v n L :=
  (h.set h0 (fun x => by simp) _).set ((World.cell?_setCell_other _ _ _ _ (by simp)).trans h1) (fun x => by simp) _

set_option maxHeartbeats 4000000 in
theorem minus_any (va vb : Value) (a b : Int) (L M N : Nat) (w : World) (ha : Whole w va a L) (hb : Whole w vb b M) (hL : L < N) (hM : M < N) (hN : N ≤ 1000000) :
    Calls Try.prog 44 #[va, vb] w fun e w' => ∃ v, e = .returned v ∧ Below w.heap.size w w' ∧ Whole w' v (a - b) N := by
  have HA := hide (fun (W : World) (h : Below w.heap.size w W) => negative_any vb b M W (hb.below h))
  have HP := hide (fun (W : World) (v : Value) (h : Below w.heap.size w W) (hv : Whole W v (-b) M) => plus_any va v a (-b) L M N W (ha.below h) hv hL hM hN)
  obtain ⟨s1, p1, l1, c1, rfl⟩ := whole_agg ha
  obtain ⟨s2, p2, l2, c2, rfl⟩ := whole_agg hb
  clear ha hb
  go_enter Try.func44, Try.ntmps44
  go_wp2
  go_region_with (first
    | (go_at_call 55; refine (HA.out _ (by repeat (first | exact Below.refl _ _ | refine Below.drew ?_ | refine below_draw ?_ _ | refine Below.setCell ?_ (by simp <;> omega) _ | refine Below.alloc ?_ (by simp <;> omega) _))).mono ?_; rintro e w1 ⟨v, rfl, hb, hw⟩; obtain ⟨s3, p3, l3, c3, rfl⟩ := whole_agg hw; have HW := hide hw; have HB := hide hb; obtain ⟨hc, hf⟩ := kept_cells hb; have hz2 : w.heap.size + 1 + 1 < w1.heap.size := (by have := hb.size; simp at this; omega); have hz1 : w.heap.size + 1 < w1.heap.size := (by omega); have hz0 : w.heap.size < w1.heap.size := (by omega); clear hw hb)
    | (go_at_call 42; refine (HP.out _ _ (Below.trans (by repeat (first | exact Below.refl _ _ | refine Below.drew ?_ | refine below_draw ?_ _ | refine Below.setCell ?_ (by simp <;> omega) _ | refine Below.alloc ?_ (by simp <;> omega) _)) (HB.out.mono (by simp <;> omega))) HW.out).mono ?_; rintro e w2 ⟨v, rfl, hb, hw⟩; obtain ⟨s4, p4, l4, c4, rfl⟩ := whole_agg hw; have HW2 := hide hw; have HB2 := hide hb; obtain ⟨hc2, hf2⟩ := kept_cells hb; clear hw hb))
  all_goals
    have k0 : w2.cell? ⟨w.heap.size + 1 + 1, 0, none⟩ = some (.bool false) := by rw [hc2 _ _ hz2, hc _ _ (by simp)]; go_simp
    have k1 : w2.cell? ⟨w.heap.size + 1 + 1, 1, none⟩ = some (.slice none 0 0) := by rw [hc2 _ _ hz2, hc _ _ (by simp)]; go_simp
    clear hc hf hc2 hf2
    go_wp2
    refine bodyPost_ret (v := .agg #[.bool s4, .slice p4 l4 c4]) (by simp [results, Try.results44, go_sem, World.cell?_setCell_other, k0, k1]) rfl ⟨_, rfl, ?_, by rw [Int.sub_eq_add_neg]; exact whole_set HW2.out k0 k1 _ _⟩
    refine Below.setCell (Below.setCell (Below.trans (Below.trans ?_ (HB.out.mono (by simp <;> omega))) (HB2.out.mono (by omega))) (by simp <;> omega) _) (by simp <;> omega) _
    repeat (first | exact Below.refl _ _ | refine Below.drew ?_ | refine Below.setCell ?_ (by simp <;> omega) _ | refine Below.alloc ?_ (by simp <;> omega) _)
end Go.Proofs.Ytpoodmfhcoaleaa
