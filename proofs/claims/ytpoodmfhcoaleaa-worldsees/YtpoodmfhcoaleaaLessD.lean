/- Taking one row of digits from another: the mathematics of a step, and the walk of less. -/
import Derived.Test.YtpoodmfhcoaleaaAddD
namespace Go.Proofs.Ytpoodmfhcoaleaa
open Go.RowKit

theorem step_less (a b ds : List Int) (k : Nat) (c d e : Int) (hk : ds.length = k) (h : val ds = val (a.take k) - val (b.take k) + 1073741824 ^ k * c) (hS : d = a.getD k 0 - c - b.getD k 0 + 1073741824 * e) :
    val (ds ++ [d]) = val (a.take (k + 1)) - val (b.take (k + 1)) + 1073741824 ^ (k + 1) * e := by
  rw [val_snoc, hk, val_take_succ, val_take_succ, Int.pow_succ, hS, h]
  have e2 : (1073741824 : Int) ^ k * (a.getD k 0 - c - b.getD k 0 + 1073741824 * e) = 1073741824 ^ k * a.getD k 0 - 1073741824 ^ k * c - 1073741824 ^ k * b.getD k 0 + 1073741824 ^ k * 1073741824 * e := by
    rw [Int.mul_add, Int.mul_sub, Int.mul_sub, Int.mul_assoc]
  omega
theorem less_end {a b ds : List Int} {x : Int} (hl : b.length ≤ a.length) (hd : Dig ds) (hlen : ds.length = a.length) (hx0 : 0 ≤ x) (hx1 : x ≤ 1) (hv : val ds = val (a.take a.length) - val (b.take a.length) + 1073741824 ^ a.length * x) (hab : val b ≤ val a) : val ds = val a - val b := by
  rw [List.take_of_length_le (Nat.le_refl _), List.take_of_length_le hl] at hv
  have h1 := (val_nonneg hd).2
  rw [hlen] at h1
  by_cases e : x = 0
  · subst e; omega
  · rw [show x = 1 by omega] at hv; omega

set_option maxHeartbeats 4000000 in
theorem less_digits (va vb : Value) (a b : List Int) (w : World) (ra : Row w va a) (rb : Row w vb b) (da : Dig a) (db : Dig b) (hA : a.length ≤ 1000000) (hl : b.length ≤ a.length) (hab : val b ≤ val a) :
    Calls Try.prog 54 #[va, vb] w fun e w' => ∃ v, e = .returned v ∧ Below w.heap.size w w' ∧ Sum w' v (val a - val b) a.length := by
  obtain ⟨aa, ca, rfl, hca, hma, h3a⟩ := ra
  obtain ⟨ab, cb, rfl, hcb, hmb, h3b⟩ := rb
  obtain ⟨i0, hi, hz0, hz1, hz2⟩ := info_parts Try.inf3
  have DA := hide da
  have DB := hide db
  have H3a := hide h3a
  have H3b := hide h3b
  have HAB := hide hab
  clear da db h3a h3b hma hmb hca hcb hab
  go_enter Try.func54, Try.ntmps54
  go_wp2
  go_loopw [5, 6, 7] (fun v c i wr => ∃ (k : Nat) (ds : List Int) (x : Int), k ≤ a.length ∧ i = .int .i64 k ∧ c = .int .i64 x ∧ 0 ≤ x ∧ x ≤ 1 ∧ ds.length = k ∧
      wr.ownsRow w.heap.size 3 1 v k (ds.map (Value.int .i64)) ∧ Below w.heap.size w wr ∧ Hid (Dig ds ∧ val ds = val (a.take k) - val (b.take k) + 1073741824 ^ k * x))
    (fun _ _ i _ => a.length - (intOf i).toNat)
  case atStart => exact ⟨0, [], 0, by omega, rfl, rfl, by omega, by omega, rfl, World.ownsRow_nil _ _ _ _, Below.refl _ _, ⟨fun i hi => absurd hi (by simp), by simp [val]⟩⟩
  case round =>
    obtain ⟨k, ds, x, hk, rfl, rfl, hx0, hx1, hlen, hown, hbel, HV⟩ := hrel
    have HLen := hide hlen
    clear hlen
    have xa := DA.out.at k
    have xb := DB.out.at k
    obtain ⟨p, HP⟩ : ∃ d, Hid (a.getD k 0 = d) := ⟨_, rfl⟩
    obtain ⟨q, HQ⟩ : ∃ d, Hid (b.getD k 0 = d) := ⟨_, rfl⟩
    rw [HP.out] at xa
    rw [HQ.out] at xb
    by_cases h1 : k < a.length
    · obtain ⟨b1, o1, rfl, hltb1, g1⟩ : ∃ b1 o1, aa = some ⟨b1, o1, none⟩ ∧ b1 < w.heap.size ∧ w.cell? ⟨b1, o1 + k, none⟩ = some (.int .i64 p) := by
        rcases H3a.out with ⟨_, _, e⟩ | ⟨b1, o1, e1, e2, e3⟩
        · rw [e] at h1; exact absurd h1 (by simp)
        · exact ⟨b1, o1, e1, e2, by rw [e3 k h1, HP.out]⟩
      have g1 := (hbel.cell (p := ⟨b1, o1 + k, none⟩) hltb1).trans g1
      by_cases h2 : k < b.length
      · obtain ⟨b2, o2, rfl, hltb2, g2⟩ : ∃ b1 o1, ab = some ⟨b1, o1, none⟩ ∧ b1 < w.heap.size ∧ w.cell? ⟨b1, o1 + k, none⟩ = some (.int .i64 q) := by
          rcases H3b.out with ⟨_, _, e⟩ | ⟨b1, o1, e1, e2, e3⟩
          · rw [e] at h2; exact absurd h2 (by simp)
          · exact ⟨b1, o1, e1, e2, by rw [e3 k h2, HQ.out]⟩
        have g2 := (hbel.cell (p := ⟨b2, o2 + k, none⟩) hltb2).trans g2
        by_cases h3 : p - x - q < 0
        · go_wp2_with (first
            | (at_builtin; refine wpList_append_own _ rfl _ _ 34 rfl w.heap.size 3 i0 (.int .i64 0) 1 8 Try.underlying34 hi hz0 hz1 hz2 rfl (by decide) _ _ _ rfl (hown.alloc _) ⟨wr.heap.size, 0, none⟩ 1 1 [.int .i64 (p - x - q + 1073741824)] rfl rfl (one_cell _) (one_is _) ?c3 ?c4 ?c5 ?_))
          case c3 => unfold maxLen; omega
          case c4 => omega
          case c5 => have := hbel.size; simp; omega
          · intro v' w1 hown' hgrow _
            have R1 := row_snoc hown'
            have R2 := grown_one hbel (Nat.le_refl _) hown hgrow
            have R3 : Hid (Dig (ds ++ [p - x - q + 1073741824]) ∧ val (ds ++ [p - x - q + 1073741824]) = val (a.take (k + 1)) - val (b.take (k + 1)) + 1073741824 ^ (k + 1) * 1) :=
              ⟨HV.out.1.snoc (by omega) (by omega), step_less a b ds k x (p - x - q + 1073741824) 1 HLen.out HV.out.2 (by have := HP.out; have := HQ.out; omega)⟩
            clear hown' hgrow hown
            go_wp2
            go_roundw
            case rel => exact ⟨k + 1, ds ++ [p - x - q + 1073741824], 1, by omega, by go_num, rfl, by omega, by omega, by simp [HLen.out], R1, R2, R3⟩
            case measure => simp [intOf]; omega
        · go_wp2_with (first
            | (at_builtin; refine wpList_append_own _ rfl _ _ 34 rfl w.heap.size 3 i0 (.int .i64 0) 1 8 Try.underlying34 hi hz0 hz1 hz2 rfl (by decide) _ _ _ rfl (hown.alloc _) ⟨wr.heap.size, 0, none⟩ 1 1 [.int .i64 (p - x - q)] rfl rfl (one_cell _) (one_is _) ?c3 ?c4 ?c5 ?_))
          case c3 => unfold maxLen; omega
          case c4 => omega
          case c5 => have := hbel.size; simp; omega
          · intro v' w1 hown' hgrow _
            have R1 := row_snoc hown'
            have R2 := grown_one hbel (Nat.le_refl _) hown hgrow
            have R3 : Hid (Dig (ds ++ [p - x - q]) ∧ val (ds ++ [p - x - q]) = val (a.take (k + 1)) - val (b.take (k + 1)) + 1073741824 ^ (k + 1) * 0) :=
              ⟨HV.out.1.snoc (by omega) (by omega), step_less a b ds k x (p - x - q) 0 HLen.out HV.out.2 (by have := HP.out; have := HQ.out; omega)⟩
            clear hown' hgrow hown
            go_wp2
            go_roundw
            case rel => exact ⟨k + 1, ds ++ [p - x - q], 0, by omega, by go_num, rfl, by omega, by omega, by simp [HLen.out], R1, R2, R3⟩
            case measure => simp [intOf]; omega
      · have z2 := getD_past h2
        rw [HQ.out] at z2
        have Z2 := hide z2
        clear z2
        by_cases h3 : p - x < 0
        · go_wp2_with (first
            | (at_builtin; refine wpList_append_own _ rfl _ _ 34 rfl w.heap.size 3 i0 (.int .i64 0) 1 8 Try.underlying34 hi hz0 hz1 hz2 rfl (by decide) _ _ _ rfl (hown.alloc _) ⟨wr.heap.size, 0, none⟩ 1 1 [.int .i64 (p - x + 1073741824)] rfl rfl (one_cell _) (one_is _) ?c3 ?c4 ?c5 ?_))
          case c3 => unfold maxLen; omega
          case c4 => omega
          case c5 => have := hbel.size; simp; omega
          · intro v' w1 hown' hgrow _
            have R1 := row_snoc hown'
            have R2 := grown_one hbel (Nat.le_refl _) hown hgrow
            have R3 : Hid (Dig (ds ++ [p - x + 1073741824]) ∧ val (ds ++ [p - x + 1073741824]) = val (a.take (k + 1)) - val (b.take (k + 1)) + 1073741824 ^ (k + 1) * 1) :=
              ⟨HV.out.1.snoc (by omega) (by omega), step_less a b ds k x (p - x + 1073741824) 1 HLen.out HV.out.2 (by have := HP.out; have := HQ.out; have := Z2.out; omega)⟩
            clear hown' hgrow hown
            go_wp2
            go_roundw
            case rel => exact ⟨k + 1, ds ++ [p - x + 1073741824], 1, by omega, by go_num, rfl, by omega, by omega, by simp [HLen.out], R1, R2, R3⟩
            case measure => simp [intOf]; omega
        · go_wp2_with (first
            | (at_builtin; refine wpList_append_own _ rfl _ _ 34 rfl w.heap.size 3 i0 (.int .i64 0) 1 8 Try.underlying34 hi hz0 hz1 hz2 rfl (by decide) _ _ _ rfl (hown.alloc _) ⟨wr.heap.size, 0, none⟩ 1 1 [.int .i64 (p - x)] rfl rfl (one_cell _) (one_is _) ?c3 ?c4 ?c5 ?_))
          case c3 => unfold maxLen; omega
          case c4 => omega
          case c5 => have := hbel.size; simp; omega
          · intro v' w1 hown' hgrow _
            have R1 := row_snoc hown'
            have R2 := grown_one hbel (Nat.le_refl _) hown hgrow
            have R3 : Hid (Dig (ds ++ [p - x]) ∧ val (ds ++ [p - x]) = val (a.take (k + 1)) - val (b.take (k + 1)) + 1073741824 ^ (k + 1) * 0) :=
              ⟨HV.out.1.snoc (by omega) (by omega), step_less a b ds k x (p - x) 0 HLen.out HV.out.2 (by have := HP.out; have := HQ.out; have := Z2.out; omega)⟩
            clear hown' hgrow hown
            go_wp2
            go_roundw
            case rel => exact ⟨k + 1, ds ++ [p - x], 0, by omega, by go_num, rfl, by omega, by omega, by simp [HLen.out], R1, R2, R3⟩
            case measure => simp [intOf]; omega
    · have he : k = a.length := by omega
      have HE := hide he
      clear he
      have RR := Row.of_owns hown HLen.out.symm
      have HT := hide (trim_any _ ds wr RR (by rw [HLen.out]; omega))
      go_wp2_with (go_at_call 56; refine HT.out.mono ?_; rintro e w' ⟨rfl, v', rfl, ht⟩)
      go_ret
      have hv := HV.out.2
      have hlen := HLen.out
      rw [HE.out] at hv hlen
      exact ⟨_, rfl, hbel, sum_mk ht HV.out.1 (less_end hl HV.out.1 hlen hx0 hx1 hv HAB.out) (by omega)⟩
end Go.Proofs.Ytpoodmfhcoaleaa
