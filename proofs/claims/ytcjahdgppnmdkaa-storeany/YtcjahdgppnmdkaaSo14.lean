/- The examples of layer 7; StoreNil. -/
import Derived.Test.YtcjahdgppnmdkaaSo13
import Derived.Test.YtcjahdgppnmdkaaNoP
set_option maxRecDepth 100000
namespace Go.Proofs.Ytcjahdgppnmdkaa
open Go.RowKit Go.Great

theorem put_ok {σ : St} {s s' : Sv} {i : Nat} {v : List UInt8} (hi : i < 3) (hv : v.length ≤ 2000) (hn : needN s.k i v.length ≤ 4096) (h : (putS σ s (i : Int) v).2.1 = some s') : (putS σ s (i : Int) v).2.2 = 0 := by
  rw [wri_put σ s i hi v hv hn] at h ⊢
  have h2 : (wriS σ s i v).2 = some s' := h
  show (if (wriS σ s i v).2.isSome = true then (0 : Int) else 60) = 0
  rw [h2]; rfl
/-- an image that begins with L, blank behind it -/
def im (L : List UInt8) : List UInt8 := L ++ List.replicate (8192 - L.length) 255
theorem im_len (L : List UInt8) (h : L.length ≤ 8192) : (im L).length = 8192 := by simp [im]; omega
theorem and255 (x : UInt8) : 255 &&& x = x := by
  apply UInt8.toBitVec_inj.1
  show (255#8 &&& x.toBitVec) = x.toBitVec
  rw [show (255#8) = BitVec.allOnes 8 from rfl, BitVec.allOnes_and]
theorem im_prog (L d : List UInt8) (h : L.length + d.length ≤ 8192) : onL (im L) L.length d.length (andL d) = im (L ++ d) := by
  apply List.ext_getElem
  · rw [onL_length, im_len L (by omega), im_len _ (by simp; omega)]
  · intro k h1 h2
    have hk : k < 8192 := by rw [onL_length, im_len L (by omega)] at h1; exact h1
    rw [onL_at]
    by_cases c1 : k < L.length
    · rw [if_neg (by omega)]
      simp only [im, List.append_assoc]
      rw [List.getElem_append_left c1, List.getElem_append_left c1]
    · by_cases c2 : k < L.length + d.length
      · rw [if_pos (by omega)]
        simp only [im]
        rw [List.getElem_append_right (by omega), List.getElem_replicate, List.getElem_append_left (by simp; omega), List.getElem_append_right (by omega)]
        unfold andL
        rw [getD_at _ _ (by omega), and255]
      · rw [if_neg (by omega)]
        simp only [im]
        rw [List.getElem_append_right (by omega), List.getElem_replicate, List.getElem_append_right (by simp; omega), List.getElem_replicate]
def imS (L : List UInt8) (n : Int) : St := ⟨im L, false, n, false, 0, ⟨#[]⟩⟩
theorem prog_im (L d : List UInt8) (n : Nat) (h : L.length + d.length ≤ 8192) (hn : n ≤ 1000000) : progS (imS L n) L.length d = (imS (L ++ d) ((n + d.length : Nat) : Int), true) := by
  rw [progS_pre d (imS L n) L.length (fun e => by cases e) (by show _ ≤ (im L).length; rw [im_len L (by omega)]; omega) (by show (0 : Int) ≤ (n : Int); omega) (by show (n : Int) + _ ≤ _; omega)]
  unfold imS
  simp only [im_prog L d h, Bool.false_eq_true, if_false]
  rw [Int.natCast_add]
theorem add_im (L : List UInt8) (n en i : Nat) (k : Kp) (t : List UInt8) (he : L.length = en) (h : en + 4 + t.length ≤ 4096) (hn : n ≤ 1000000) : addS 0 i t ⟨imS L n, en, k⟩ = (⟨imS (L ++ recB i t) ((n + (4 + t.length) : Nat) : Int), en + 4 + t.length, upd k i ⟨true, en + 3, t.length⟩⟩, true) := by
  subst he
  unfold addS
  have := prog_im L (recB i t) n (by rw [recB_length]; omega) hn
  rw [recB_length] at this
  simp only [Nat.zero_mul, Nat.zero_add]
  rw [this]
  rfl
theorem put_im (L : List UInt8) (n : Nat) (s : Sv) (i : Nat) (t : List UInt8) (hi : i < 3) (hac : s.ac = 0) (he : L.length = s.en) (h : s.en + 4 + t.length ≤ 4096) (ht : t.length ≤ 2000) (hn : n ≤ 1000000) (hN : needN s.k i t.length ≤ 4096) : putS (imS L n) s (i : Int) t = (imS (L ++ recB i t) ((n + (4 + t.length) : Nat) : Int), some ⟨0, s.tu, s.en + 4 + t.length, upd s.k i ⟨true, s.en + 3, t.length⟩⟩, 0) := by
  unfold putS
  rw [if_neg (by omega), show ((i : Int)).toNat = i by omega, if_neg (by omega), if_pos h, hac, add_im L n s.en i s.k t he h hn]
  rfl
def n0 : St := st0 (List.replicate 8192 255)
def v1 : Sv := ⟨0, 0, 1, kz⟩
theorem im_nil : im [] = List.replicate 8192 255 := rfl
theorem era_im (L : List UInt8) (hL : L = []) (n : Nat) (hn : n ≤ 1000000) (s : Nat) : eraseS (imS L n) s = (imS L ((n + 1 : Nat) : Int), true) := by
  have e : stepS (imS L n) = (imS L ((n + 1 : Nat) : Int), ⟨#[]⟩, true) := by
    unfold stepS imS
    simp only [Bool.false_eq_true, false_and, if_false]
    rw [show wrap64 ((n : Int) + 1) = ((n + 1 : Nat) : Int) by unfold wrap64; omega]
  unfold eraseS
  rw [e]
  simp only [if_true]
  have : onL (imS L ((n + 1 : Nat) : Int)).C (s * 4096) 4096 (fun _ _ => 255) = im L := by
    subst hL
    show onL (im []) _ _ _ = im []
    rw [im_nil]
    apply List.ext_getElem
    · rw [onL_length]
    · intro k h1 h2
      rw [onL_at, List.getElem_replicate]
      split <;> rfl
  rw [this]
  rfl
theorem n0_im : n0 = imS [] 0 := rfl
theorem za1 : bootS n0 = (imS [15] 2, some v1) := by
  unfold bootS
  rw [if_neg (by rw [n0_im]; exact Bool.false_ne_true)]
  have e1 : (secL n0.C 0).getD 0 0 = 255 := by kernel_rfl
  have e2 : (secL n0.C 1).getD 0 0 = 255 := by
    unfold secL
    rw [getD_at _ _ (by show 0 < (List.take 4096 (List.drop (1 * 4096) (List.replicate 8192 255))).length; rw [List.length_take, List.length_drop, List.length_replicate]; omega), List.getElem_take, List.getElem_drop]
    exact List.getElem_replicate _
  rw [e1, e2, if_pos (by decide)]
  unfold fmtS
  rw [if_pos rfl]
  unfold fmt2
  have e3 : eraseS (imS [] 0) 0 = (imS [] 1, true) := era_im [] rfl 0 (by omega) 0
  have : progS (imS [] 1) 0 [15] = (imS [15] 2, true) := prog_im [] [15] 1 (by simp) (by omega)
  rw [n0_im, e3]
  simp only [if_true]
  rw [this]
  rfl
def v2 : Sv := ⟨0, 0, 7, upd kz 0 ⟨true, 4, 2⟩⟩
def v3 : Sv := ⟨0, 0, 11, upd (upd kz 0 ⟨true, 4, 2⟩) 2 ⟨true, 10, 0⟩⟩
def n1 : St := imS [15] 2
def n2 : St := imS [15, 0, 2, 0, 97, 98, 0] 8
def n3 : St := imS [15, 0, 2, 0, 97, 98, 0, 2, 0, 0, 0] 12
theorem nble {a b : Nat} (h : Nat.ble a b = true) : a ≤ b := Nat.le_of_ble_eq_true h
theorem zp1 : putS n1 v1 0 [97, 98] = (n2, some v2, 0) := put_im [15] 2 v1 0 [97, 98] (by omega) rfl rfl (nble rfl) (nble rfl) (by omega) (nble rfl)
theorem zp2 : putS n2 v2 2 [] = (n3, some v3, 0) := put_im [15, 0, 2, 0, 97, 98, 0] 8 v2 2 [] (by omega) rfl rfl (nble rfl) (nble rfl) (by omega) (nble rfl)
theorem zp3 : putS n3 v3 3 [] = (n3, some v3, 1) := by unfold putS; rw [if_pos (by omega)]
theorem za5 : getV (getS n3.C v3 0) = .tuple #[.string ⟨#[97, 98]⟩, .bool true] := by kernel_rfl
theorem za6 : getV (getS n3.C v3 1) = .tuple #[.string ⟨#[]⟩, .bool false] := by kernel_rfl
theorem za7 : getV (getS n3.C v3 2) = .tuple #[.string ⟨#[]⟩, .bool true] := by kernel_rfl
theorem za8 : readR n3 0 12 = (⟨#[15, 0, 2, 0, 97, 98, 0, 2, 0, 0, 0, 255]⟩, 0) := by kernel_rfl
theorem ask1 : Ask v1 := ⟨by decide, by decide, nble rfl, KOk.kz.mono (by omega)⟩
theorem kok2 : KOk v2.k 7 := KOk.kz.upd 0 (by omega) 2 (by omega)
theorem ask2 : Ask v2 := ⟨by decide, by decide, nble rfl, kok2.mono (by omega)⟩
theorem ask3 : Ask v3 := ⟨by decide, by decide, nble rfl, (kok2.upd 2 (by omega) 0 (by omega)).mono (by omega)⟩
end Go.Proofs.Ytcjahdgppnmdkaa
