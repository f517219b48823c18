/- Comparing whole numbers by their digits: the mathematics, and the walk of 'size'. -/
import Derived.Test.YtpoodmfhcoaleaaTrim
namespace Go.Proofs.Ytpoodmfhcoaleaa
open Go.RowKit

/-- -1, 0, 1 -/
def cmpI (x y : Int) : Int := if x < y then -1 else if y < x then 1 else 0
theorem cmpI_lt {x y : Int} (h : x < y) : cmpI x y = -1 := by unfold cmpI; rw [if_pos h]
theorem cmpI_gt {x y : Int} (h : y < x) : cmpI x y = 1 := by unfold cmpI; rw [if_neg (by omega), if_pos h]
theorem cmpI_eq {x y : Int} (h : x = y) : cmpI x y = 0 := by unfold cmpI; rw [if_neg (by omega), if_neg (by omega)]

theorem pow_mono (B : Int) (hB : 1 ≤ B) {m n : Nat} (h : m ≤ n) : B ^ m ≤ B ^ n := by
  obtain ⟨k, rfl⟩ := Nat.exists_eq_add_of_le h
  have h1 : (1 : Int) ≤ B ^ k := by have := Int.pow_pos (n := B) (m := k) (by omega); omega
  have h2 : (0 : Int) ≤ B ^ m := Int.pow_nonneg (by omega)
  rw [Int.pow_add]
  have := Int.mul_le_mul_of_nonneg_left h1 h2
  omega
theorem drawn {w w1 : World} {m : Nat} (h : ∃ n, w1 = w.drewN n) : ∃ n, w1.drewN m = w.drewN n := by
  obtain ⟨n, rfl⟩ := h
  exact ⟨n + m, by rw [World.drewN_drewN]⟩
theorem val_shorter {a b : List Int} (ha : Dig a) (hb : Dig b) (ht : Top b) (h : a.length < b.length) : val a < val b := by
  have h1 := (val_nonneg ha).2
  have h2 := val_ge hb ht (fun e => by simp [e] at h)
  have h3 : (1073741824 : Int) ^ a.length ≤ 1073741824 ^ (b.length - 1) := pow_mono _ (by omega) (by omega)
  omega
theorem list_split (ds : List Int) (i : Nat) (h : i < ds.length) : ds = ds.take i ++ ds.getD i 0 :: ds.drop (i + 1) := by
  have e : ds.getD i 0 = ds[i] := by simp [List.getD_eq_getElem?_getD, h]
  rw [e, ← List.drop_eq_getElem_cons h, List.take_append_drop]
theorem val_split (ds : List Int) (i : Nat) (h : i < ds.length) : val ds = val (ds.take i) + 1073741824 ^ i * (ds.getD i 0 + 1073741824 * val (ds.drop (i + 1))) := by
  have e := list_split ds i h
  have l : (ds.take i).length = i := by simp; omega
  conv => lhs; rw [e, val_append, l]
  rfl
theorem val_digit {a b : List Int} (ha : Dig a) (hb : Dig b) (i : Nat) (hi : i < a.length) (hj : i < b.length) (hd : a.drop (i + 1) = b.drop (i + 1)) (h : a.getD i 0 < b.getD i 0) : val a < val b := by
  rw [val_split a i hi, val_split b i hj, hd]
  have h1 := (val_nonneg (ha.take i)).2
  have h2 := (val_nonneg (hb.take i)).1
  have l : (a.take i).length = i := by simp; omega
  rw [l] at h1
  generalize val (List.drop (i + 1) b) = D at *
  generalize val (List.take i a) = x at *
  generalize val (List.take i b) = y at *
  generalize a.getD i 0 = p at *
  generalize b.getD i 0 = q at *
  have hp : (0 : Int) ≤ 1073741824 ^ i := Int.pow_nonneg (by omega)
  have := Int.mul_le_mul_of_nonneg_left (show (p + 1073741824 * D) + 1 ≤ q + 1073741824 * D by omega) hp
  rw [Int.mul_add (1073741824 ^ i) (p + 1073741824 * D) 1] at this
  omega

set_option maxHeartbeats 1000000 in
theorem size_cmp (va vb : Value) (a b : List Int) (w : World) (ra : Row w va a) (rb : Row w vb b) (da : Dig a) (db : Dig b) (ta : Top a) (tb : Top b) (hA : a.length ≤ 1000000) :
    Calls Try.prog 53 #[va, vb] w fun e w' => e = .returned (.int .i64 (cmpI (val a) (val b))) ∧ ∃ q, w' = w.drewN q := by
  obtain ⟨aa, ca, rfl, hca, hma, h3a⟩ := ra
  obtain ⟨ab, cb, rfl, hcb, hmb, h3b⟩ := rb
  by_cases hlt : a.length < b.length
  · have HR := hide (cmpI_lt (val_shorter da db tb hlt))
    have hne : ((a.length : Int) == b.length) = false := by rw [beq_eq_false_iff_ne]; omega
    clear da db ta tb h3a h3b hma hmb
    go_enter Try.func53, Try.ntmps53
    go_wp2
    go_ret
    exact ⟨ret_int HR.out.symm, 0, rfl⟩
  by_cases hgt : b.length < a.length
  · have HR := hide (cmpI_gt (val_shorter db da ta hgt))
    have hne : ((a.length : Int) == b.length) = false := by rw [beq_eq_false_iff_ne]; omega
    clear da db ta tb h3a h3b hma hmb
    go_enter Try.func53, Try.ntmps53
    go_wp2
    go_ret
    exact ⟨ret_int HR.out.symm, 0, rfl⟩
  have hl : a.length = b.length := by omega
  have DA := hide da
  have DB := hide db
  have HL := hide hl
  have H3a := hide h3a
  have H3b := hide h3b
  rw [hl]
  clear da db ta tb h3a h3b hl hma hmb
  go_enter Try.func53, Try.ntmps53
  go_wp2
  go_loopw [5] (fun x wr => ∃ k : Nat, k ≤ b.length ∧ x = .int .i64 ((k : Int) - 1) ∧ (∃ q, wr = w.drewN q) ∧ Hid (a.drop k = b.drop k)) (fun x _ => (intOf x + 1).toNat)
  case atStart => exact ⟨b.length, Nat.le_refl _, rfl, ⟨0, rfl⟩, by show a.drop b.length = b.drop b.length; rw [← HL.out, List.drop_length, HL.out, List.drop_length]⟩
  case round =>
    obtain ⟨k, hk, rfl, ⟨q, rfl⟩, HE⟩ := hrel
    cases k with
    | zero =>
      go_wp2
      go_ret
      have he : a = b := by simpa using HE.out
      exact ⟨ret_int (cmpI_eq (by rw [he])).symm, q, rfl⟩
    | succ k =>
      have na : ¬ a = [] := fun e => by have := HL.out; rw [e, List.length_nil] at this; omega
      have nb : ¬ b = [] := fun e => by simp [e] at hk
      obtain ⟨b1, o1, rfl, _, hc1⟩ : ∃ b1 o1, aa = some ⟨b1, o1, none⟩ ∧ b1 < w.heap.size ∧ ∀ i, i < a.length → w.cell? ⟨b1, o1 + i, none⟩ = some (.int .i64 (a.getD i 0)) := by
        rcases H3a.out with ⟨_, _, e⟩ | h; exact absurd e na; exact h
      obtain ⟨b2, o2, rfl, _, hc2⟩ : ∃ b1 o1, ab = some ⟨b1, o1, none⟩ ∧ b1 < w.heap.size ∧ ∀ i, i < b.length → w.cell? ⟨b1, o1 + i, none⟩ = some (.int .i64 (b.getD i 0)) := by
        rcases H3b.out with ⟨_, _, e⟩ | h; exact absurd e nb; exact h
      have g1 := hc1 k (by have := HL.out; omega)
      have g2 := hc2 k (by omega)
      clear hc1 hc2 na nb
      obtain ⟨x, HX⟩ : ∃ d, Hid (a.getD k 0 = d) := ⟨_, rfl⟩
      obtain ⟨y, HY⟩ : ∃ d, Hid (b.getD k 0 = d) := ⟨_, rfl⟩
      rw [HX.out] at g1
      rw [HY.out] at g2
      rw [show ((k + 1 : Nat) : Int) - 1 = (k : Int) by omega]
      have hk' : (k : Int) < b.length := by omega
      by_cases hxy : x < y
      · go_wp2
        go_quiet (fail)
        go_wp2
        go_ret
        refine ⟨ret_int (cmpI_lt (val_digit DA.out DB.out k (by have := HL.out; omega) (by omega) HE.out (by rw [HX.out, HY.out]; exact hxy))).symm, drawn ⟨q, rfl⟩⟩
      · by_cases hyx : y < x
        · go_wp2
          go_quiet (fail)
          go_wp2
          go_quiet (fail)
          go_wp2
          go_ret
          refine ⟨ret_int (cmpI_gt (val_digit DB.out DA.out k (by omega) (by have := HL.out; omega) HE.out.symm (by rw [HX.out, HY.out]; exact hyx))).symm, drawn (drawn ⟨q, rfl⟩)⟩
        · go_wp2
          go_quiet (fail)
          go_wp2
          go_quiet (fail)
          go_wp2
          go_roundw
          case rel =>
            refine ⟨k, by omega, rfl, ⟨_, rfl⟩, ?_⟩
            show a.drop k = b.drop k
            have e1 : k < a.length := by have := HL.out; omega
            have e2 : k < b.length := by omega
            have x1 := HX.out
            have y1 := HY.out
            simp only [List.getD_eq_getElem?_getD, List.getElem?_eq_getElem e1, List.getElem?_eq_getElem e2, Option.getD_some] at x1 y1
            rw [List.drop_eq_getElem_cons e1, List.drop_eq_getElem_cons e2, HE.out, x1, y1, show x = y by omega]
          case measure => simp [intOf]
end Go.Proofs.Ytpoodmfhcoaleaa
