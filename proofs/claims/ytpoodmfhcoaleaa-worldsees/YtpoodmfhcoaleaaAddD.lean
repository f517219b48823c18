/- Adding and taking off digits: the mathematics of a step, and the walks of add and less. -/
import Derived.Test.YtpoodmfhcoaleaaSize
namespace Go.Proofs.Ytpoodmfhcoaleaa
open Go.RowKit

theorem val_take_succ (a : List Int) (k : Nat) : val (a.take (k + 1)) = val (a.take k) + 1073741824 ^ k * a.getD k 0 := by
  by_cases h : k < a.length
  · rw [List.take_succ_eq_append_getElem h, val_snoc]
    have l : (a.take k).length = k := by simp; omega
    simp [l, List.getD_eq_getElem?_getD, h]
  · rw [List.take_of_length_le (by omega), List.take_of_length_le (by omega)]
    simp [List.getD_eq_getElem?_getD, List.getElem?_eq_none (show a.length ≤ k by omega)]
theorem step_add (a b ds : List Int) (k : Nat) (c S : Int) (hk : ds.length = k) (h : val ds + 1073741824 ^ k * c = val (a.take k) + val (b.take k)) (hS : S = c + a.getD k 0 + b.getD k 0) :
    val (ds ++ [S % 1073741824]) + 1073741824 ^ (k + 1) * (S / 1073741824) = val (a.take (k + 1)) + val (b.take (k + 1)) := by
  rw [val_snoc, hk, val_take_succ, val_take_succ, Int.pow_succ]
  have e : S = S % 1073741824 + 1073741824 * (S / 1073741824) := by omega
  have e2 : (1073741824 : Int) ^ k * S = 1073741824 ^ k * (S % 1073741824) + 1073741824 ^ k * 1073741824 * (S / 1073741824) := by
    conv => lhs; rw [e, Int.mul_add]
    rw [Int.mul_assoc]
  have e3 : (1073741824 : Int) ^ k * S = 1073741824 ^ k * c + 1073741824 ^ k * a.getD k 0 + 1073741824 ^ k * b.getD k 0 := by rw [hS, Int.mul_add, Int.mul_add]
  omega
theorem row_snoc {w1 : World} {B k : Nat} {v : Value} {ds : List Int} {d : Int} (h : w1.ownsRow B 3 1 v (k + 1) (ds.map (Value.int .i64) ++ [.int .i64 d])) :
    w1.ownsRow B 3 1 v (k + 1) ((ds ++ [d]).map (Value.int .i64)) := by simpa using h
theorem grown_one {B : Nat} {w wr w1 : World} {o : Obj} {v : Value} {n : Nat} {xs : List Value} (hb : Below B w wr) (hB : B ≤ w.heap.size) (hown : wr.ownsRow B 3 1 v n xs) (hg : (wr.alloc o).grownBy w1 v.ownBlock) : Below B w w1 :=
  (hb.alloc (by have := hb.size; omega) o).grown hg (by have := hb.size; simp; omega) (fun j hj => (hown.lt j hj).1)
theorem one_cell {w : World} {o : Value} (t : TypeId) (j : Nat) (u : Value) (hj : [o][j]? = some u) : (w.alloc (.cells #[o] t)).cell? ((⟨w.heap.size, 0, none⟩ : Addr).add j) = some u := by
  match j, hj with
  | 0, hj => simp at hj; subst hj; simp [Addr.add]
theorem one_is (x : Int) : ∀ u ∈ [Value.int .i64 x], u.oneCell' = true := by
  intro u hu; simp at hu; subst hu; rfl
theorem Dig.at {a : List Int} (h : Dig a) (k : Nat) : 0 ≤ a.getD k 0 ∧ a.getD k 0 ≤ 1073741823 := by
  by_cases g : k < a.length
  · exact h k g
  · simp [List.getD_eq_getElem?_getD, List.getElem?_eq_none (show a.length ≤ k by omega)]
theorem getD_past {a : List Int} {k : Nat} (h : ¬ k < a.length) : a.getD k 0 = 0 := by simp [List.getD_eq_getElem?_getD, List.getElem?_eq_none (show a.length ≤ k by omega)]

/-- the sum's or the difference's row -/
def Sum (w : World) (v : Value) (n : Int) (L : Nat) : Prop := ∃ ds, Row w v ds ∧ Digs ds n ∧ ds.length ≤ L
theorem sum_mk {w : World} {v : Value} {ds : List Int} {n : Int} {L : Nat} (ht : Trimmed w v ds) (hd : Dig ds) (hv : val ds = n) (hl : ds.length ≤ L) : Sum w v n L := by
  obtain ⟨m, hm, hr, hp, hz⟩ := ht
  exact ⟨ds.take m, hr, ⟨hd.take m, hp, by rw [val_take m hz, hv]⟩, by simp; omega⟩

set_option maxHeartbeats 4000000 in
theorem add_digits (va vb : Value) (a b : List Int) (w : World) (ra : Row w va a) (rb : Row w vb b) (da : Dig a) (db : Dig b) (hA : a.length ≤ 1000000) (hB : b.length ≤ 1000000) :
    Calls Try.prog 52 #[va, vb] w fun e w' => ∃ v, e = .returned v ∧ Below w.heap.size w w' ∧ Sum w' v (val a + val b) (max a.length b.length + 1) := by
  obtain ⟨aa, ca, rfl, hca, hma, h3a⟩ := ra
  obtain ⟨ab, cb, rfl, hcb, hmb, h3b⟩ := rb
  obtain ⟨i0, hi, hz0, hz1, hz2⟩ := info_parts Try.inf3
  have DA := hide da
  have DB := hide db
  have H3a := hide h3a
  have H3b := hide h3b
  obtain ⟨m, hm⟩ : ∃ m, m = max a.length b.length := ⟨_, rfl⟩
  have hm1 : a.length ≤ m := by omega
  have hm2 : b.length ≤ m := by omega
  have hm3 : m ≤ 1000000 := by omega
  have HM := hide hm
  rw [← hm]
  clear da db h3a h3b hma hmb hca hcb hm
  go_enter Try.func52, Try.ntmps52
  go_wp2
  go_loopw [5, 6, 7] (fun v c i wr => ∃ (k : Nat) (ds : List Int) (x : Int), k ≤ m + 1 ∧ i = .int .i64 k ∧ c = .int .i64 x ∧ 0 ≤ x ∧ x ≤ 1 ∧ (k ≤ m ∨ x ≤ 0) ∧ ds.length = k ∧
      wr.ownsRow w.heap.size 3 1 v k (ds.map (Value.int .i64)) ∧ Below w.heap.size w wr ∧ Hid (Dig ds ∧ val ds + 1073741824 ^ k * x = val (a.take k) + val (b.take k)))
    (fun _ _ i _ => m + 2 - (intOf i).toNat)
  case atStart => exact ⟨0, [], 0, by omega, rfl, rfl, by omega, by omega, by omega, rfl, World.ownsRow_nil _ _ _ _, Below.refl _ _, ⟨fun i hi => absurd hi (by simp), by simp [val]⟩⟩
  case round =>
    obtain ⟨k, ds, x, hk, rfl, rfl, hx0, hx1, hx2, hlen, hown, hbel, HV⟩ := hrel
    have HLen := hide hlen
    clear hlen
    have xa := DA.out.at k
    have xb := DB.out.at k
    obtain ⟨p, HP⟩ : ∃ d, Hid (a.getD k 0 = d) := ⟨_, rfl⟩
    obtain ⟨q, HQ⟩ : ∃ d, Hid (b.getD k 0 = d) := ⟨_, rfl⟩
    rw [HP.out] at xa
    rw [HQ.out] at xb
    by_cases h1 : k < a.length
    · by_cases h2 : k < b.length
      · obtain ⟨b1, o1, rfl, hltb1, g1⟩ : ∃ b1 o1, aa = some ⟨b1, o1, none⟩ ∧ b1 < w.heap.size ∧ w.cell? ⟨b1, o1 + k, none⟩ = some (.int .i64 p) := by
          rcases H3a.out with ⟨_, _, e⟩ | ⟨b1, o1, e1, e2, e3⟩
          · rw [e] at h1; exact absurd h1 (by simp)
          · exact ⟨b1, o1, e1, e2, by rw [e3 k h1, HP.out]⟩
        have g1 := (hbel.cell (p := ⟨b1, o1 + k, none⟩) hltb1).trans g1
        obtain ⟨b2, o2, rfl, hltb2, g2⟩ : ∃ b1 o1, ab = some ⟨b1, o1, none⟩ ∧ b1 < w.heap.size ∧ w.cell? ⟨b1, o1 + k, none⟩ = some (.int .i64 q) := by
          rcases H3b.out with ⟨_, _, e⟩ | ⟨b1, o1, e1, e2, e3⟩
          · rw [e] at h2; exact absurd h2 (by simp)
          · exact ⟨b1, o1, e1, e2, by rw [e3 k h2, HQ.out]⟩
        have g2 := (hbel.cell (p := ⟨b2, o2 + k, none⟩) hltb2).trans g2
        go_wp2_with (first
          | (at_builtin; refine wpList_append_own _ rfl _ _ 34 rfl w.heap.size 3 i0 (.int .i64 0) 1 8 Try.underlying34 hi hz0 hz1 hz2 rfl (by decide) _ _ _ rfl (hown.alloc _) ⟨wr.heap.size, 0, none⟩ 1 1 [.int .i64 ((x + p + q) % 1073741824)] rfl rfl (one_cell _) (one_is _) ?c3 ?c4 ?c5 ?_))
        case c3 => unfold maxLen; omega
        case c4 => omega
        case c5 => have := hbel.size; simp; omega
        · intro v' w1 hown' hgrow _
          have R1 := row_snoc hown'
          have R2 := grown_one hbel (Nat.le_refl _) hown hgrow
          have R3 : Hid (Dig (ds ++ [(x + p + q) % 1073741824]) ∧ val (ds ++ [(x + p + q) % 1073741824]) + 1073741824 ^ (k + 1) * ((x + p + q) / 1073741824) = val (a.take (k + 1)) + val (b.take (k + 1))) :=
            ⟨HV.out.1.snoc (by omega) (by omega), step_add a b ds k x (x + p + q) HLen.out HV.out.2 (by have := HP.out; have := HQ.out; omega)⟩
          clear hown' hgrow hown
          go_wp2
          go_roundw
          case rel => exact ⟨k + 1, ds ++ [(x + p + q) % 1073741824], (x + p + q) / 1073741824, by omega, by go_num, rfl, by omega, by omega, by omega, by simp [HLen.out], R1, R2, R3⟩
          case measure => simp [intOf]; omega
      · obtain ⟨b1, o1, rfl, hltb1, g1⟩ : ∃ b1 o1, aa = some ⟨b1, o1, none⟩ ∧ b1 < w.heap.size ∧ w.cell? ⟨b1, o1 + k, none⟩ = some (.int .i64 p) := by
          rcases H3a.out with ⟨_, _, e⟩ | ⟨b1, o1, e1, e2, e3⟩
          · rw [e] at h1; exact absurd h1 (by simp)
          · exact ⟨b1, o1, e1, e2, by rw [e3 k h1, HP.out]⟩
        have g1 := (hbel.cell (p := ⟨b1, o1 + k, none⟩) hltb1).trans g1
        have z2 := getD_past h2
        rw [HQ.out] at z2
        have Z2 := hide z2
        clear z2
        go_wp2_with (first
          | (at_builtin; refine wpList_append_own _ rfl _ _ 34 rfl w.heap.size 3 i0 (.int .i64 0) 1 8 Try.underlying34 hi hz0 hz1 hz2 rfl (by decide) _ _ _ rfl (hown.alloc _) ⟨wr.heap.size, 0, none⟩ 1 1 [.int .i64 ((x + p) % 1073741824)] rfl rfl (one_cell _) (one_is _) ?c3 ?c4 ?c5 ?_))
        case c3 => unfold maxLen; omega
        case c4 => omega
        case c5 => have := hbel.size; simp; omega
        · intro v' w1 hown' hgrow _
          have R1 := row_snoc hown'
          have R2 := grown_one hbel (Nat.le_refl _) hown hgrow
          have R3 : Hid (Dig (ds ++ [(x + p) % 1073741824]) ∧ val (ds ++ [(x + p) % 1073741824]) + 1073741824 ^ (k + 1) * ((x + p) / 1073741824) = val (a.take (k + 1)) + val (b.take (k + 1))) :=
            ⟨HV.out.1.snoc (by omega) (by omega), step_add a b ds k x (x + p) HLen.out HV.out.2 (by have := HP.out; have := HQ.out; have := Z2.out; omega)⟩
          clear hown' hgrow hown
          go_wp2
          go_roundw
          case rel => exact ⟨k + 1, ds ++ [(x + p) % 1073741824], (x + p) / 1073741824, by omega, by go_num, rfl, by omega, by omega, by omega, by simp [HLen.out], R1, R2, R3⟩
          case measure => simp [intOf]; omega
    · by_cases h2 : k < b.length
      · have z1 := getD_past h1
        rw [HP.out] at z1
        have Z1 := hide z1
        clear z1
        obtain ⟨b2, o2, rfl, hltb2, g2⟩ : ∃ b1 o1, ab = some ⟨b1, o1, none⟩ ∧ b1 < w.heap.size ∧ w.cell? ⟨b1, o1 + k, none⟩ = some (.int .i64 q) := by
          rcases H3b.out with ⟨_, _, e⟩ | ⟨b1, o1, e1, e2, e3⟩
          · rw [e] at h2; exact absurd h2 (by simp)
          · exact ⟨b1, o1, e1, e2, by rw [e3 k h2, HQ.out]⟩
        have g2 := (hbel.cell (p := ⟨b2, o2 + k, none⟩) hltb2).trans g2
        go_wp2_with (first
          | (at_builtin; refine wpList_append_own _ rfl _ _ 34 rfl w.heap.size 3 i0 (.int .i64 0) 1 8 Try.underlying34 hi hz0 hz1 hz2 rfl (by decide) _ _ _ rfl (hown.alloc _) ⟨wr.heap.size, 0, none⟩ 1 1 [.int .i64 ((x + q) % 1073741824)] rfl rfl (one_cell _) (one_is _) ?c3 ?c4 ?c5 ?_))
        case c3 => unfold maxLen; omega
        case c4 => omega
        case c5 => have := hbel.size; simp; omega
        · intro v' w1 hown' hgrow _
          have R1 := row_snoc hown'
          have R2 := grown_one hbel (Nat.le_refl _) hown hgrow
          have R3 : Hid (Dig (ds ++ [(x + q) % 1073741824]) ∧ val (ds ++ [(x + q) % 1073741824]) + 1073741824 ^ (k + 1) * ((x + q) / 1073741824) = val (a.take (k + 1)) + val (b.take (k + 1))) :=
            ⟨HV.out.1.snoc (by omega) (by omega), step_add a b ds k x (x + q) HLen.out HV.out.2 (by have := HP.out; have := HQ.out; have := Z1.out; omega)⟩
          clear hown' hgrow hown
          go_wp2
          go_roundw
          case rel => exact ⟨k + 1, ds ++ [(x + q) % 1073741824], (x + q) / 1073741824, by omega, by go_num, rfl, by omega, by omega, by omega, by simp [HLen.out], R1, R2, R3⟩
          case measure => simp [intOf]; omega
      · by_cases h3 : 0 < x
        · have z1 := getD_past h1
          rw [HP.out] at z1
          have Z1 := hide z1
          clear z1
          have z2 := getD_past h2
          rw [HQ.out] at z2
          have Z2 := hide z2
          clear z2
          go_wp2_with (first
            | (at_builtin; refine wpList_append_own _ rfl _ _ 34 rfl w.heap.size 3 i0 (.int .i64 0) 1 8 Try.underlying34 hi hz0 hz1 hz2 rfl (by decide) _ _ _ rfl (hown.alloc _) ⟨wr.heap.size, 0, none⟩ 1 1 [.int .i64 ((x) % 1073741824)] rfl rfl (one_cell _) (one_is _) ?c3 ?c4 ?c5 ?_))
          case c3 => unfold maxLen; omega
          case c4 => omega
          case c5 => have := hbel.size; simp; omega
          · intro v' w1 hown' hgrow _
            have R1 := row_snoc hown'
            have R2 := grown_one hbel (Nat.le_refl _) hown hgrow
            have R3 : Hid (Dig (ds ++ [(x) % 1073741824]) ∧ val (ds ++ [(x) % 1073741824]) + 1073741824 ^ (k + 1) * ((x) / 1073741824) = val (a.take (k + 1)) + val (b.take (k + 1))) :=
              ⟨HV.out.1.snoc (by omega) (by omega), step_add a b ds k x (x) HLen.out HV.out.2 (by have := HP.out; have := HQ.out; have := Z1.out; have := Z2.out; omega)⟩
            clear hown' hgrow hown
            go_wp2
            go_roundw
            case rel => exact ⟨k + 1, ds ++ [(x) % 1073741824], (x) / 1073741824, by omega, by go_num, rfl, by omega, by omega, by omega, by simp [HLen.out], R1, R2, R3⟩
            case measure => simp [intOf]; omega
        · have hd : Hid (val ds = val a + val b) := by
            show val ds = val a + val b
            have := HV.out.2
            rw [List.take_of_length_le (by omega), List.take_of_length_le (by omega), show x = 0 by omega] at this
            simpa using this
          have RR := Row.of_owns hown HLen.out.symm
          have HT := hide (trim_any _ ds wr RR (by rw [HLen.out]; omega))
          go_wp2_with (go_at_call 56; refine HT.out.mono ?_; rintro e w' ⟨rfl, v', rfl, ht⟩)
          go_ret
          exact ⟨_, rfl, hbel, sum_mk ht HV.out.1 hd.out (by rw [HLen.out]; omega)⟩
end Go.Proofs.Ytpoodmfhcoaleaa
