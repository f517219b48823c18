/- A whole number that is an int comes back as that int; what is kept of any other one. -/
import Derived.Test.YtpoodmfhcoaleaaIntOf
namespace Go.Proofs.Ytpoodmfhcoaleaa
open Go.RowKit

theorem row_at {w : World} {p : Option Addr} {l c : Nat} {ds : List Int} (h : Row w (.slice p l c) ds) (k : Nat) (hk : k < ds.length) : ∃ b o, p = some ⟨b, o, none⟩ ∧ w.cell? ⟨b, o + k, none⟩ = some (.int .i64 (ds.getD k 0)) := by
  obtain ⟨a, cap, hv, h1, h2, h3⟩ := h
  rw [Value.slice.injEq] at hv
  obtain ⟨rfl, rfl, rfl⟩ := hv
  rcases h3 with ⟨_, _, e⟩ | ⟨b, off, ha, hlt, hc⟩
  · rw [e] at hk; exact absurd hk (by simp)
  · exact ⟨b, off, ha, hc k hk⟩
theorem row_len {w : World} {p : Option Addr} {l c : Nat} {ds : List Int} (h : Row w (.slice p l c) ds) : l = ds.length := by
  obtain ⟨a, cap, hv, _⟩ := h
  rw [Value.slice.injEq] at hv
  exact hv.2.1

set_option maxHeartbeats 8000000 in
theorem int_pos (va : Value) (a : Int) (L : Nat) (w : World) (ha : Whole w va a L) (hL : L ≤ 1000000) (h1 : 0 ≤ a ∧ a ≤ 9223372036854775807) :
    Calls Try.prog 51 #[va] w fun e w' => e = .returned (.tuple #[.int .i64 a, .bool true]) ∧ Below w.heap.size w w' := by
  obtain ⟨s1, p1, l1, c1, rfl⟩ := whole_agg ha
  have ha2 := ha.below (below_allocC w (.cells #[.bool s1, .slice p1 l1 c1] 67))
  have HO := hide (fun (W : World) (n : Int) (hn : I64 n) (h : Below (w.alloc (.cells #[.bool s1, .slice p1 l1 c1] 67)).heap.size (w.alloc (.cells #[.bool s1, .slice p1 l1 c1] 67)) W) => of_from n _ W hn h)
  have HC := hide (fun (W : World) (v : Value) (b : Int) (h : Below (w.alloc (.cells #[.bool s1, .slice p1 l1 c1] 67)).heap.size (w.alloc (.cells #[.bool s1, .slice p1 l1 c1] 67)) W) (hv : Whole W v b 3) => cmp_from _ v a b L 3 _ W ha2 h hv hL)
  have Z0 : Hid ((w.alloc (.cells #[.bool s1, .slice p1 l1 c1] 67)).cell? ⟨w.heap.size, 0, none⟩ = some (.bool s1)) := by show _ = _; simp
  have Z1 : Hid ((w.alloc (.cells #[.bool s1, .slice p1 l1 c1] 67)).cell? ⟨w.heap.size, 1, none⟩ = some (.slice p1 l1 c1)) := by show _ = _; simp
  obtain ⟨sl, ds, hv, hr, ⟨hd, _, hval⟩, hl⟩ := ha
  have hv2 : decide (a < 0) = s1 ∧ sl = .slice p1 l1 c1 := by simpa [eq_comm] using hv
  obtain ⟨e1, rfl⟩ := hv2
  obtain rfl : s1 = false := by rw [← e1]; simp; omega
  obtain rfl := row_len hr
  have HR := hide (fun (W : World) (h : Below (w.alloc (.cells #[.bool false, .slice p1 ds.length c1] 67)).heap.size (w.alloc (.cells #[.bool false, .slice p1 ds.length c1] 67)) W) => (hr.below (below_allocC w (.cells #[.bool false, .slice p1 ds.length c1] 67))).below h)
  have HV : Hid (val ds = a) := by show val ds = _; rw [hval]; omega
  have HD := hide hd
  have C0 : Hid (-9223372036854775808 ≤ a ∧ a ≤ 9223372036854775807) := by show _ ∧ _; omega
  have hr1 : -1 ≤ cmpI a 9223372036854775807 ∧ cmpI a 9223372036854775807 ≤ 0 := by unfold cmpI; split <;> (try split) <;> omega
  have hr2 : 0 ≤ cmpI a (-9223372036854775808) ∧ cmpI a (-9223372036854775808) ≤ 1 := by unfold cmpI; split <;> (try split) <;> omega
  generalize hC1 : cmpI a (-9223372036854775808) = x1 at hr2
  generalize hC2 : cmpI a 9223372036854775807 = x2 at hr1
  have hg1 : decide (x1 < 0) = false := by simp; omega
  have hg2 : decide (0 < x2) = false := by simp; omega
  have C1 := hide hC1
  have C2 := hide hC2
  clear ha2 h1 hC1 hC2 hr hd hval e1 hv
  go_enter Try.func51, Try.ntmps51
  go_wp2
  go_region_with (first
    | (go_at_call 43; refine (HO.out _ _ (by unfold I64; omega) (by first | exact HT.out | exact HT.out.drew | exact Below.refl _ _ | exact (Below.refl _ _).drew)).mono ?_; rintro e w1 ⟨v, rfl, ht, hw⟩; obtain ⟨s3, p3, l3, c3, rfl⟩ := whole_agg hw; have HW := hide hw; have k0 : w1.cell? ⟨w.heap.size, 0, none⟩ = some (.bool false) := (ht.cell (p := ⟨w.heap.size, 0, none⟩) (by simp)).trans Z0.out; have k1 : w1.cell? ⟨w.heap.size, 1, none⟩ = some (.slice p1 ds.length c1) := (ht.cell (p := ⟨w.heap.size, 1, none⟩) (by simp)).trans Z1.out; have HT := hide ht; clear hw ht)
    | (go_at_call 57; refine (HC.out _ _ _ (by first | exact HT.out | exact HT.out.drew | exact Below.refl _ _ | exact (Below.refl _ _).drew) HW.out).mono ?_; rintro e w2 ⟨rfl, ht⟩; (first | rw [C1.out] | rw [C2.out]); have k0 : w2.cell? ⟨w.heap.size, 0, none⟩ = some (.bool false) := (ht.cell (p := ⟨w.heap.size, 0, none⟩) (by simp)).trans Z0.out; have k1 : w2.cell? ⟨w.heap.size, 1, none⟩ = some (.slice p1 ds.length c1) := (ht.cell (p := ⟨w.heap.size, 1, none⟩) (by simp)).trans Z1.out; have HT := hide ht; clear ht))
  all_goals
    go_wp2
    go_loop [4, 5] (fun n i => ∃ k : Nat, k ≤ ds.length ∧ i = .int .i64 ((k : Int) - 1) ∧ n = .int .i64 (val (ds.drop k))) (fun _ i => (intOf i + 1).toNat)
    case atStart => exact ⟨ds.length, Nat.le_refl _, rfl, by simp [val]⟩
    case round =>
      obtain ⟨k, hk, rfl, rfl⟩ := hrel
      cases k with
      | zero =>
        have hv := HV.out
        rw [List.drop_zero, hv]
        clear hv
        go_wp2
        go_ret2
        exact ⟨rfl, (below_allocC _ _).trans (HT.out.mono (by simp))⟩
      | succ k =>
        obtain ⟨b, o, rfl, hcl⟩ := row_at (HR.out _ HT.out) k (by omega)
        have hd := HD.out.at k
        have hle := val_drop_le HD.out k
        rw [val_drop ds k (by omega), HV.out] at hle
        have hx0 := (val_drop_le HD.out (k + 1)).1
        have hEq := val_drop ds k (by omega)
        have c0 := C0.out
        obtain ⟨d, HE⟩ : ∃ d, Hid (ds.getD k 0 = d) := ⟨_, rfl⟩
        obtain ⟨x, HX⟩ : ∃ d, Hid (val (ds.drop (k + 1)) = d) := ⟨_, rfl⟩
        rw [HE.out] at hcl hd hle hEq
        rw [HX.out] at hle hx0 hEq
        rw [HX.out]
        have HQ := hide hEq
        clear hEq
        rw [show ((k + 1 : Nat) : Int) - 1 = (k : Int) by omega]
        have hk' : (k : Int) < ds.length := by omega
        go_wp2
        go_round
        case rel => exact ⟨k, by omega, rfl, by rw [HQ.out]; go_num⟩
        case measure => simp [intOf]
end Go.Proofs.Ytpoodmfhcoaleaa
