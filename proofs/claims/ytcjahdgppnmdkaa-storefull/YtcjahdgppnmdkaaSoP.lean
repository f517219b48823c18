/- What is programmed into blank cells is read there: plain lists. -/
import Derived.Test.YtcjahdgppnmdkaaSo14
set_option maxRecDepth 100000
namespace Go.Proofs.Ytcjahdgppnmdkaa
open Go.RowKit Go.Great

/-- n cells from a on are blank -/
def Blank (C : List UInt8) (a n : Nat) : Prop := a + n ≤ C.length ∧ ∀ j, j < n → C.getD (a + j) 0 = 255
theorem onL_blank {C : List UInt8} {a : Nat} {d : List UInt8} (h : Blank C a d.length) (j : Nat) (hj : j < d.length) : (onL C a d.length (andL d)).getD (a + j) 0 = d.getD j 0 := by
  rw [onL_getD _ _ _ _ _ (by have := h.1; omega), if_pos (by omega), show a + j - a = j by omega, h.2 j hj]
  unfold andL
  rw [and255]
theorem onL_else (C : List UInt8) (a n : Nat) (g : Nat → UInt8 → UInt8) (j : Nat) (hj : j < a ∨ a + n ≤ j) : (onL C a n g).getD j 0 = C.getD j 0 := by
  by_cases h : j < C.length
  · rw [onL_getD _ _ _ _ _ h, if_neg (by omega)]
  · rw [List.getD_eq_getElem?_getD, List.getD_eq_getElem?_getD, List.getElem?_eq_none (by rw [onL_length]; omega), List.getElem?_eq_none (by omega)]
theorem txt_ext {C D : List UInt8} {a b n : Nat} (h : ∀ j, j < n → C.getD (a + j) 0 = D.getD (b + j) 0) (hC : a + n ≤ C.length) (hD : b + n ≤ D.length) : (C.drop a).take n = (D.drop b).take n := by
  apply List.ext_getElem
  · rw [List.length_take, List.length_take, List.length_drop, List.length_drop]; omega
  · intro k h1 h2
    rw [List.length_take, List.length_drop] at h1
    rw [List.getElem_take, List.getElem_take, List.getElem_drop, List.getElem_drop]
    have := h k (by omega)
    rw [getD_at _ _ (by omega), getD_at _ _ (by omega)] at this
    exact this
theorem im_at (L : List UInt8) (j : Nat) (h1 : L.length ≤ j) (h2 : j < 8192) : (im L).getD j 0 = 255 := by
  rw [getD_at _ _ (by rw [im_len L (by omega)]; exact h2)]
  simp only [im]
  rw [List.getElem_append_right h1, List.getElem_replicate]
theorem im_set (L : List UInt8) (x : UInt8) (h : L.length < 8192) : (im L).set L.length x = im (L ++ [x]) := by
  unfold im
  rw [List.set_append_right _ _ (Nat.le_refl _), Nat.sub_self, List.append_assoc]
  congr 1
  rw [show 8192 - L.length = (8192 - (L ++ [x]).length) + 1 by simp; omega, List.replicate_succ]
  rfl
/-- StoreNames' states -/
def lo8 : List UInt8 := [15, 0, 3, 0, 111, 108, 100, 0]
def lo12 : List UInt8 := [15, 0, 3, 0, 111, 108, 100, 0, 0, 3, 0, 110]
def u2 : Sv := ⟨0, 0, 8, upd kz 0 ⟨true, 4, 3⟩⟩
def m2 : St := imS lo8 9
theorem zn1 : putS n1 v1 0 [111, 108, 100] = (m2, some u2, 0) := put_im [15] 2 v1 0 [111, 108, 100] (by omega) rfl rfl (nble rfl) (nble rfl) (by omega) (nble rfl)
def m3 : St := ⟨im lo8, false, 9, true, 3, ⟨#[]⟩⟩
theorem jk_nil : jkS ⟨#[]⟩ = ⟨#[]⟩ := by
  apply ByteArray.ext
  apply Array.eq_empty_of_size_eq_zero
  show (jkS ⟨#[]⟩).size = 0
  unfold jkS
  rw [ByteArray.size_extract]
  show min (min 0 4096) 0 - 0 = 0
  omega
theorem zn2 : cutR m2 3 ⟨#[]⟩ = (m3, 0) := by
  unfold cutR
  rw [if_neg (by exact Bool.false_ne_true), if_neg (by omega), jk_nil]
  rfl
def m4 : St := ⟨im lo12, true, 12, false, 0, ⟨#[]⟩⟩
theorem zn3p : progS m3 8 (recB 0 [110, 101, 119]) = (m4, false) := by
  rw [progS_cut (recB 0 [110, 101, 119]) 3 (nble rfl) m3 8 rfl rfl (by show 8 + 7 ≤ (im lo8).length; rw [im_len _ (nble rfl)]; omega) (by show (0 : Int) ≤ 9; omega) (by show (9 : Int) + 7 ≤ _; omega) (by omega)]
  have e1 : onL m3.C 8 3 (andL (recB 0 [110, 101, 119])) = im (lo8 ++ [0, 3, 0]) := by
    rw [← im_prog lo8 [0, 3, 0] (nble rfl)]
    exact onL_congr _ _ _ _ _ (fun i c hi => by
      obtain rfl | rfl | rfl : i = 0 ∨ i = 1 ∨ i = 2 := by omega
      all_goals rfl)
  have e2 : m3.C.getD (8 + 3) 0 = 255 := im_at lo8 11 (nble rfl) (by omega)
  rw [e1, e2, and255]
  have e3 : (im (lo8 ++ [0, 3, 0])).set (8 + 3) 110 = im (lo8 ++ [0, 3, 0] ++ [110]) := im_set (lo8 ++ [0, 3, 0]) 110 (nble rfl)
  have e4 : (recB 0 [110, 101, 119]).getD 3 0 ||| arB m3.jk 0 = 110 := by kernel_rfl
  rw [e4]
  rw [e3]
  rfl
theorem zn3 : putS m3 u2 0 [110, 101, 119] = (m4, none, 60) := by
  unfold putS
  rw [if_neg (by simp), show ((0 : Int)).toNat = 0 from rfl, if_neg (Nat.not_lt.2 (nble rfl)), if_pos (nble rfl)]
  have : addS u2.ac 0 [110, 101, 119] ⟨m3, u2.en, u2.k⟩ = (⟨m4, u2.en, u2.k⟩, false) := by
    unfold addS
    have e : progS m3 (u2.ac * 4096 + u2.en) (recB 0 [110, 101, 119]) = (m4, false) := zn3p
    simp only [e]
    rfl
  rw [this]
  rfl
def m5 : St := imS lo12 12
theorem zn4 : onS m4 = m5 := rfl
theorem im_sec0 (L : List UInt8) (h : L.length ≤ 4096) : secL (im L) 0 = L ++ List.replicate (4096 - L.length) 255 := by
  unfold secL im
  rw [Nat.zero_mul, List.drop_zero, List.take_append, List.take_of_length_le h, List.take_replicate]
  congr 2
  omega
theorem im_sec1 (L : List UInt8) (h : L.length ≤ 4096) : (secL (im L) 1).getD 0 0 = 255 := by
  have hl := im_len L (by omega)
  unfold secL
  rw [getD_at _ _ (by rw [List.length_take, List.length_drop, hl]; omega), List.getElem_take, List.getElem_drop, ← getD_at _ 0, im_at L _ (by omega) (by omega)]
def sl : List UInt8 := lo12 ++ List.replicate (4096 - lo12.length) 255
theorem sl_len : sl.length = 4096 := by unfold sl; rw [List.length_append, List.length_replicate]; rfl
theorem whole1 : wholeB sl 1 = true := by
  unfold wholeB
  rw [sl_len]
  kernel_rfl
theorem whole8 : wholeB sl 8 = false := by
  unfold wholeB
  rw [sl_len]
  kernel_rfl
theorem blank1 : blankB sl 1 = false := by kernel_rfl
theorem blank8 : blankB sl 8 = false := by kernel_rfl
theorem rd_sl : rd sl 4096 1 kz = (upd kz 0 ⟨true, 4, 3⟩, 8, false) := by
  rw [show (4096 : Nat) = 4094 + 1 + 1 from rfl, rd, blank1, whole1]
  have e : (1 + 4 + lenAt sl 1) = 8 := by kernel_rfl
  simp only [Bool.false_eq_true, if_false, if_true]
  rw [e, rd, blank8, whole8]
  simp only [Bool.false_eq_true, if_false]
  rfl
def m5e : St := imS lo12 13
theorem zn5 : eraseS m5 1 = (m5e, true) := by
  have e : stepS m5 = (m5e, ⟨#[]⟩, true) := by
    unfold stepS m5 imS
    simp only [Bool.false_eq_true, false_and, if_false]
    rw [show wrap64 (12 + 1) = 13 by unfold wrap64; omega]
    rfl
  unfold eraseS
  rw [e]
  simp only [if_true]
  have : onL m5e.C (1 * 4096) 4096 (fun _ _ => 255) = im lo12 := by
    apply List.ext_getElem
    · rw [onL_length]; rfl
    · intro k h1 h2
      rw [im_len _ (nble rfl)] at h2
      rw [onL_at]
      split
      · rw [← getD_at _ 0, im_at lo12 k (Nat.le_trans (nble rfl : lo12.length ≤ 1 * 4096) (by omega)) h2]
      · rfl
  rw [this]
  rfl
def rold : List UInt8 := recB 0 [111, 108, 100]
def m5r : St := ⟨onL (im lo12) 4097 7 (andL rold), false, 20, false, 0, ⟨#[]⟩⟩
theorem zn6 : progS m5e 4097 rold = (m5r, true) := by
  rw [progS_pre rold m5e 4097 (fun e => by cases e) (by show 4097 + 7 ≤ (im lo12).length; rw [im_len _ (nble rfl)]; omega) (by show (0 : Int) ≤ 13; omega) (by show (13 : Int) + 7 ≤ _; omega)]
  rfl
def m6 : St := ⟨onL (onL (im lo12) 4097 7 (andL rold)) 4096 1 (andL [51]), false, 21, false, 0, ⟨#[]⟩⟩
theorem m5r_C : m5r.C = onL (im lo12) 4097 7 (andL rold) := by simp only [m5r]
theorem m6_C : m6.C = onL (onL (im lo12) 4097 7 (andL rold)) 4096 1 (andL [51]) := by simp only [m6]
theorem im12 : (im lo12).length = 8192 := im_len _ (nble rfl)
theorem zn7 : progS m5r 4096 [51] = (m6, true) := by
  have h := progS_pre [51] m5r 4096 (fun e => by cases e) (by rw [m5r_C, onL_length, im12]; exact nble rfl) (by unfold m5r; simp only; omega) (by unfold m5r; simp only [List.length_singleton]; omega)
  rw [h, m5r_C]
  unfold m6 m5r
  simp only [List.length_singleton, Bool.false_eq_true, if_false]
  rfl
def u6 : Sv := ⟨1, 1, 8, upd kz 0 ⟨true, 4, 3⟩⟩
theorem each_old : eachS 0 u2.k (-1) [] 0 3 ⟨m5e, 1, kz⟩ = (⟨m5r, 8, upd kz 0 ⟨true, 4, 3⟩⟩, true) := by
  have s0 : step1 0 u2.k (-1) [] 0 ⟨m5e, 1, kz⟩ = (⟨m5r, 8, upd kz 0 ⟨true, 4, 3⟩⟩, true) := by
    unfold step1 mvL
    rw [if_neg (by omega), if_pos (by rfl), show txt m5e.C 0 (u2.k 0) = [111, 108, 100] by kernel_rfl]
    simp only
    unfold addS
    have e : progS m5e ((1 - 0) * 4096 + 1) (recB 0 [111, 108, 100]) = (m5r, true) := zn6
    simp only [e]
    rfl
  have s1 : ∀ m, step1 0 u2.k (-1) [] 1 m = (m, true) := fun m => rfl
  have s2 : ∀ m, step1 0 u2.k (-1) [] 2 m = (m, true) := fun m => rfl
  rw [eachS, s0]
  simp only [if_true]
  rw [eachS, s1]
  simp only [if_true]
  rw [eachS, s2]
  simp only [if_true]
  rfl
theorem move_old : moveS m5 u2 (-1) [] = (m6, some u6) := by
  unfold moveS
  have e1 : eraseS m5 (1 - u2.ac) = (m5e, true) := zn5
  have e2 : eachS u2.ac u2.k (-1) [] 0 3 ⟨m5e, 1, kz⟩ = (⟨m5r, 8, upd kz 0 ⟨true, 4, 3⟩⟩, true) := each_old
  have e3 : progS m5r ((1 - u2.ac) * 4096) [codeN (folN u2.tu)] = (m6, true) := zn7
  simp only [e1, if_true, e2, e3]
  rfl
theorem zn8 : bootS m5 = (m6, some u6) := by
  have e1 : (secL m5.C 0).getD 0 0 = 15 := by
    show (secL (im lo12) 0).getD 0 0 = 15
    rw [im_sec0 lo12 (nble rfl)]; rfl
  have e2 : (secL m5.C 1).getD 0 0 = 255 := im_sec1 lo12 (nble rfl)
  unfold bootS
  rw [if_neg (by exact Bool.false_ne_true), e1, e2, if_neg (by decide), show (actI 15 255).toNat = 0 by decide]
  have e3 : svOf m5.C 0 = (u2, false) := by
    unfold svOf
    rw [e1, show secL m5.C 0 = sl from im_sec0 lo12 (nble rfl), rd_sl]
    rfl
  unfold bootIn
  rw [e3]
  simp only [Bool.false_eq_true, if_false]
  exact move_old
theorem zn9 : getS m6.C u6 0 = some [111, 108, 100] := by
  unfold getS
  rw [if_pos (by exact ⟨by omega, by omega, rfl⟩)]
  apply congrArg some
  have hb : Blank (im lo12) 4097 7 := ⟨by rw [im_len _ (nble rfl)]; omega, fun j hj => im_at lo12 _ (Nat.le_trans (nble rfl : lo12.length ≤ 4097) (by omega)) (by omega)⟩
  have hl : m6.C.length = 8192 := by rw [m6_C, onL_length, onL_length, im12]
  have hg : ∀ j, j < 3 → m6.C.getD (4100 + j) 0 = rold.getD (3 + j) 0 := fun j hj => by
    rw [m6_C, onL_else _ _ _ _ _ (by omega)]
    have := onL_blank (d := rold) (a := 4097) hb (3 + j) (Nat.lt_of_lt_of_le (show 3 + j < 7 by omega) (nble rfl))
    rw [show 4097 + (3 + j) = 4100 + j by omega] at this
    exact this
  have := txt_ext hg (by rw [hl]; omega) (nble rfl)
  exact this
theorem ask_u2 : Ask u2 := ⟨by decide, by decide, nble rfl, (KOk.kz.upd 0 (by omega) 3 (by omega)).mono (by omega)⟩
theorem ask_u6 : Ask u6 := ⟨by decide, by decide, nble rfl, (KOk.kz.upd 0 (by omega) 3 (by omega)).mono (by omega)⟩
end Go.Proofs.Ytcjahdgppnmdkaa
