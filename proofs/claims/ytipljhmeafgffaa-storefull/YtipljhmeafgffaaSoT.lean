/- A record that is programmed behind a clean end, cut or not: how the sector is read then. -/
import Derived.Test.YtipljhmeafgffaaSoS
namespace Go.Proofs.Ytipljhmeafgffaa
open Go.RowKit Go.Great

theorem recB_0 (i : Nat) (t : List UInt8) : (recB i t).getD 0 0 = UInt8.ofNat i := rfl
theorem recB_1 (i : Nat) (t : List UInt8) : (recB i t).getD 1 0 = UInt8.ofNat t.length := rfl
theorem recB_2 (i : Nat) (t : List UInt8) : (recB i t).getD 2 0 = UInt8.ofNat (t.length / 256) := rfl
theorem recB_3 (i : Nat) (t : List UInt8) (j : Nat) : (recB i t).getD (3 + j) 0 = (t ++ [0]).getD j 0 := by
  rw [show 3 + j = j + 1 + 1 + 1 by omega]
  rfl
theorem recB_v (i : Nat) (t : List UInt8) (j : Nat) (hj : j < t.length) : (recB i t).getD (3 + j) 0 = t.getD j 0 := by
  rw [recB_3, List.getD_eq_getElem?_getD, List.getD_eq_getElem?_getD, List.getElem?_append_left hj]
theorem recB_c (i : Nat) (t : List UInt8) : (recB i t).getD (3 + t.length) 0 = 0 := by
  rw [recB_3, List.getD_eq_getElem?_getD, List.getElem?_append_right (Nat.le_refl _), Nat.sub_self]
  rfl
/-- the sector l, clean up to en, and what stands there then -/
structure Wrote (l m d : List UInt8) (en L : Nat) (x : UInt8) : Prop where
  ll : l.length = 4096
  ml : m.length = 4096
  lo : ∀ j, j < en → l.getD j 0 = m.getD j 0
  mid : ∀ j, j < L → m.getD (en + j) 0 = d.getD j 0
  cut : L < d.length → m.getD (en + L) 0 = d.getD L 0 ||| x
  hi : ∀ j, L ≤ j → (L < d.length → L < j) → en + j < 4096 → m.getD (en + j) 0 = 255
theorem Wrote.of {C D d : List UInt8} {ac en L : Nat} {x : UInt8} (hC : C.length = 8192) (hac : ac < 2) (hd : en + d.length ≤ 4096) (hL : L ≤ d.length) (hb : blankB (secL C ac) en = true) (h : Part C (ac * 4096 + en) d L x D) : Wrote (secL C ac) (secL D ac) d en L x := by
  have hD : D.length = 8192 := by rw [h.1, hC]
  have hbl := (blankB_iff _ _).1 hb
  have hcell : ∀ j, en + j < 4096 → C.getD (ac * 4096 + en + j) 0 = 255 := fun j hj => by
    have := hbl (en + j) (by omega) (by rw [secL_len hC hac]; exact hj)
    rw [sec_at C hC ac hac _ hj] at this
    rw [Nat.add_assoc]
    exact this
  refine ⟨secL_len hC hac, secL_len hD hac, fun j hj => ?_, fun j hj => ?_, fun hlt => ?_, fun j h1 h2 h3 => ?_⟩
  · rw [sec_at C hC ac hac _ (by omega), sec_at D hD ac hac _ (by omega), h.2, if_neg (by omega), if_neg (by omega)]
  · rw [sec_at D hD ac hac _ (by omega), h.2, if_pos (by omega), ← Nat.add_assoc, hcell j (by omega), and255]
    congr 1
    omega
  · rw [sec_at D hD ac hac _ (by omega), h.2, if_neg (by omega), if_pos (by omega), ← Nat.add_assoc, hcell L (by omega), and255]
  · rw [sec_at D hD ac hac _ h3, h.2, if_neg (by omega), if_neg (by omega), ← Nat.add_assoc, hcell j h3]
theorem toNat_of (n : Nat) : (UInt8.ofNat n).toNat = n % 256 := UInt8.toNat_ofNat' ..
/-- wholly -/
theorem Wrote.whole {l m t : List UInt8} {en i L : Nat} {x : UInt8} {k k' : Kp} (h : Wrote l m (recB i t) en L x) (hr : Recs l 1 k en k') (hi : i < 3) (ht : t.length ≤ 2000) (he : en + 4 + t.length ≤ 4096) (hL : L = 4 + t.length ∨ L = 3 + t.length ∧ x = 0) : Ends m 1 k (en + 4 + t.length) (upd k' i ⟨true, en + 3, t.length⟩) true := by
  have hd := recB_length i t
  have b : ∀ j, j < 3 → m.getD (en + j) 0 = (recB i t).getD j 0 := fun j hj => h.mid j (by omega)
  have hid : idAt m en = i := by
    unfold idAt
    have := b 0 (by omega)
    rw [Nat.add_zero] at this
    rw [this, recB_0, toNat_of]
    omega
  have hln : lenAt m en = t.length := by
    unfold lenAt
    rw [b 1 (by omega), b 2 (by omega), recB_1, recB_2, toNat_of, toNat_of]
    omega
  have hc : m.getD (en + (3 + t.length)) 0 = 0 := by
    rcases hL with hL | ⟨hL, hx⟩
    · rw [h.mid _ (by omega), recB_c]
    · have := h.cut (by omega)
      rw [hL, recB_c, hx] at this
      exact this
  refine Ends.add hr (by rw [h.ll, h.ml]) h.lo (wholeB_of (by rw [hid]; exact hi) (by rw [hln]; exact ht) (by rw [hln, h.ml]; omega) (by rw [hln, Nat.add_assoc]; exact hc)) hid hln ?_
  rw [blankB_iff]
  intro j h1 h2
  obtain ⟨q, rfl⟩ : ∃ q, j = en + q := ⟨j - en, by omega⟩
  exact h.hi q (by omega) (by omega) (by rw [h.ml] at h2; exact h2)
/-- in part: nothing of it stands there -/
theorem Wrote.part {l m t : List UInt8} {en i L : Nat} {x : UInt8} (h : Wrote l m (recB i t) en L x) (ht : t.length ≤ 2000) (he : en + 4 + t.length ≤ 4096) (hL : L < 4 + t.length) (hx : ¬ (L = 3 + t.length ∧ x = 0)) : wholeB m en = false := by
  have hd := recB_length i t
  cases hw : wholeB m en
  · rfl
  · exfalso
    obtain ⟨c1, c2, c3, c4, c5⟩ := wholeB_true hw
    rw [h.ml] at c4
    have F : ∀ j, L < j → en + j < 4096 → m.getD (en + j) 0 = 255 := fun j h1 h2 => h.hi j (by omega) (by omega) h2
    by_cases h2 : L < 2
    · have e := F 2 h2 (by omega)
      unfold lenAt at c3
      rw [e, show (255 : UInt8).toNat = 255 from rfl] at c3
      omega
    · by_cases h3 : L < 3 + lenAt m en
      · have e := F (3 + lenAt m en) h3 (by omega)
        rw [Nat.add_assoc, e] at c5
        exact absurd c5 (by decide)
      · by_cases h4 : L = 2
        · omega
        · have hln : lenAt m en = t.length := by
            unfold lenAt
            rw [h.mid 1 (by omega), h.mid 2 (by omega), recB_1, recB_2, toNat_of, toNat_of]
            omega
          have hLe : L = 3 + t.length := by omega
          have := h.cut (by omega)
          rw [hLe, recB_c] at this
          rw [hln, Nat.add_assoc, this] at c5
          exact hx ⟨hLe, by simpa using c5⟩
end Go.Proofs.Ytipljhmeafgffaa
