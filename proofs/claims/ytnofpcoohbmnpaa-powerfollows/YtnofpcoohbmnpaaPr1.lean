/- What the reference's small functions for parameters answer. -/
import Derived.Test.YtnofpcoohbmnpaaPa3
namespace Go.Proofs.Ytnofpcoohbmnpaa
open Go.RowKit Go.Great

set_option maxRecDepth 100000 in
set_option maxHeartbeats 1000000 in
theorem lows_any (w : World) : Calls Try.prog 56 #[] w fun e w' => e = .returned (.slice (some ⟨w.heap.size, 0, none⟩) 24 24) ∧ w' = w.alloc (.cells (rowI loL) 3) := by
  go_enter Try.func56, Try.ntmps56
  go_wp2
  go_ret
  exact ⟨rfl, rfl⟩
set_option maxRecDepth 100000 in
set_option maxHeartbeats 1000000 in
theorem highs_any (w : World) : Calls Try.prog 57 #[] w fun e w' => e = .returned (.slice (some ⟨w.heap.size, 0, none⟩) 24 24) ∧ w' = w.alloc (.cells (rowI hiL) 3) := by
  go_enter Try.func57, Try.ntmps57
  go_wp2
  go_ret
  exact ⟨rfl, rfl⟩
theorem rowI_at {w : World} {l : List Int} {t : TypeId} (i : Nat) (h : i < l.length) : (w.alloc (.cells (rowI l) t)).cell? ⟨w.heap.size, i, none⟩ = some (.int .i64 (l.getD i 0)) := by
  rw [cell_of_row _ _ i (rowI l) t (0, 0) (heap_alloc_new _ _)]
  unfold rowI
  rw [List.getElem?_toArray, List.getElem?_map, List.getElem?_eq_getElem h, List.getD, List.getElem?_eq_getElem h]
  rfl
set_option maxHeartbeats 1000000 in
theorem floor_any (a b : Int) (w : World) (ha : I64 a) (ha2 : -9223372036854775808 < a) (h : 1 ≤ b) : Calls Try.prog 59 #[.int .i64 a, .int .i64 b] w fun e w' => e = .returned (.int .i64 (a / b)) ∧ w' = w := by
  unfold I64 at ha
  have hi := ediv_in a b h
  by_cases g : a.tmod b < 0
  · have f := (fl a b h).1 g
    have hn : a < 0 := by
      by_cases hn : a < 0
      · exact hn
      · have := Int.tmod_nonneg b (show 0 ≤ a by omega); omega
    have hd : -9223372036854775807 ≤ a.tdiv b ∧ a.tdiv b ≤ 9223372036854775807 := by omega
    have F : Hid (a.tdiv b - 1 = a / b) := f
    clear f hi
    go_enter Try.func59, Try.ntmps59
    go_wp2
    go_ret
    exact ⟨ret_int F.out, rfl⟩
  · have f := (fl a b h).2 (by omega)
    have F : Hid (a.tdiv b = a / b) := f
    clear f hi
    go_enter Try.func59, Try.ntmps59
    go_wp2
    go_ret
    exact ⟨ret_int F.out, rfl⟩
set_option maxHeartbeats 1000000 in
theorem rup_any (a b : Int) (w : World) (ha : -9223372036854775807 ≤ a ∧ a ≤ 9223372036854775807) (h : 1 ≤ b) : Calls Try.prog 39 #[.int .i64 a, .int .i64 b] w fun e w' => e = .returned (.int .i64 (upI a b)) ∧ w' = w := by
  have hf := floor_any (-a) b w (by unfold I64; omega) (by omega) h
  have hi := ediv_in (-a) b h
  unfold upI
  have hd : -9223372036854775807 ≤ (-a) / b ∧ (-a) / b ≤ 9223372036854775807 := by omega
  generalize (-a) / b = q at hf hd
  clear hi h
  go_enter Try.func39, Try.ntmps39
  go_wp2_with fail
  refine hf.mono ?_
  rintro e w1 ⟨rfl, hw⟩
  obtain rfl := hw.symm
  go_wp2_with fail
  go_ret
  exact ⟨rfl, rfl⟩
/-- one braking: the loop's sum -/
theorem way_step (v b : Int) (b0 : 1 ≤ b) : wayI v b = wayI (v - b) b + (v - b) := by
  unfold wayI
  have e : (v - b) / b = v / b - 1 := by
    have := Int.add_mul_ediv_right v (-1) (show b ≠ 0 by omega)
    rw [show v + -1 * b = v - b by omega] at this
    rw [this]; rfl
  rw [e]
  generalize v / b = n
  have e2 : b * n * (n + 1) = b * (n - 1) * (n - 1 + 1) + 2 * (b * n) := by
    rw [show n - 1 + 1 = n by omega, Int.mul_add, Int.mul_one, Int.mul_sub, Int.mul_one, Int.sub_mul]; omega
  rw [e2, Int.add_mul_ediv_left _ _ (by omega : (2 : Int) ≠ 0)]
  have e3 : (n - 1) * (v - b) = n * v - n * b - v + b := by rw [Int.sub_mul, Int.mul_sub, Int.one_mul]; omega
  rw [e3, Int.mul_comm b n]
  omega
theorem way_end (v b : Int) (h0 : v ≤ b) (v0 : 0 ≤ v) (b0 : 1 ≤ b) : wayI v b = 0 := by
  unfold wayI
  by_cases e : v = b
  · subst e; rw [Int.ediv_self (by omega)]; omega
  · rw [Int.ediv_eq_zero_of_lt v0 (by omega)]; omega
theorem way_in (v b : Int) (h0 : 0 ≤ v) (h1 : v ≤ 100000) (b0 : 1 ≤ b) (b1 : b ≤ 64) : 0 ≤ wayI v b ∧ wayI v b ≤ 10000000000 := by
  have h := way_bounds v b h0 h1 b0 b1
  have h2 : b * (v / b) * (v / b + 1) ≤ 2 * (v / b * v) := by
    have e1 : b * (v / b) ≤ v := h.2.2.2.2.2.1
    by_cases z : v / b = 0
    · rw [z]; omega
    · have := Int.mul_le_mul (a := b * (v / b)) (b := v / b + 1) (c := v) (d := 2 * (v / b)) e1 (by omega) (by omega) h0
      rw [show v * (2 * (v / b)) = 2 * (v / b * v) by rw [Int.mul_left_comm, Int.mul_comm v]] at this
      exact this
  unfold wayI
  omega
set_option maxHeartbeats 1000000 in
theorem rway_any (v b : Int) (w : World) (h0 : 0 ≤ v) (h1 : v ≤ 100000) (b0 : 1 ≤ b) (b1 : b ≤ 64) : Calls Try.prog 40 #[.int .i64 v, .int .i64 b] w fun e w' => e = .returned (.int .i64 (wayI v b)) ∧ w' = w := by
  have HT := hide (way_in v b h0 h1 b0 b1)
  go_enter Try.func40, Try.ntmps40
  go_wp2_with fail
  go_loopw [0, 5] (fun x s wx => ∃ y z : Int, x = .int .i64 y ∧ s = .int .i64 z ∧ 0 ≤ y ∧ y ≤ v ∧ 0 ≤ z ∧ z + wayI y b = wayI v b ∧ wx = w) (fun x _ _ => (intOf x).toNat)
  case atStart => exact ⟨v, 0, rfl, rfl, h0, Int.le_refl _, Int.le_refl _, by omega, rfl⟩
  case round =>
    obtain ⟨y, z, rfl, rfl, y0, y1, z0, hz, rfl⟩ := hrel
    have hyw := way_in y b y0 (by omega) b0 b1
    have HZ := hide hz
    have HY := hide hyw
    have hT := HT.out
    by_cases hlt : b < y
    · have HS : Hid (z + (y - b) + wayI (y - b) b = wayI v b) := by
        show _ = _
        have := way_step y b b0
        omega
      have hyw2 := way_in (y - b) b (by omega) (by omega) b0 b1
      have hz1 : z + (y - b) ≤ 10000000000 := by have := HS.out; omega
      clear hz hyw hT hyw2 HT HY
      go_wp2_with fail
      go_roundw
      case rel => exact ⟨y - b, z + (y - b), rfl, rfl, by omega, by omega, by omega, HS.out, trivial⟩
      case measure => simp [intOf]; omega
    · have HS : Hid (z = wayI v b) := by
        show _ = _
        have := way_end y b (by omega) y0 b0
        omega
      clear hz hyw hT HT HY
      go_wp2_with fail
      go_ret
      exact ⟨ret_int HS.out, rfl⟩
end Go.Proofs.Ytnofpcoohbmnpaa
