/- The examples of layer 7; StoreNil. -/
import Derived.Test.YtcjahdgppnmdkaaSo13
import Derived.Test.YtcjahdgppnmdkaaNoP
set_option maxRecDepth 100000
namespace Go.Proofs.Ytcjahdgppnmdkaa
open Go.RowKit Go.Great

theorem put_ok {σ : St} {s s' : Sv} {i : Nat} {v : List UInt8} (hi : i < 3) (hv : v.length ≤ 2000) (hn : needN s.k i v.length ≤ 4096) (h : (putS σ s (i : Int) v).2.1 = some s') : (putS σ s (i : Int) v).2.2 = 0 := by
  rw [wri_put σ s i hi v hv hn] at h ⊢
  have h2 : (wriS σ s i v).2 = some s' := h
  show (if (wriS σ s i v).2.isSome = true then (0 : Int) else 60) = 0
  rw [h2]; rfl
/-- an image that begins with L, blank behind it -/
def im (L : List UInt8) : List UInt8 := L ++ List.replicate (8192 - L.length) 255
theorem im_len (L : List UInt8) (h : L.length ≤ 8192) : (im L).length = 8192 := by simp [im]; omega
theorem and255 (x : UInt8) : 255 &&& x = x := by
  apply UInt8.toBitVec_inj.1
  show (255#8 &&& x.toBitVec) = x.toBitVec
  rw [show (255#8) = BitVec.allOnes 8 from rfl, BitVec.allOnes_and]
theorem im_prog (L d : List UInt8) (h : L.length + d.length ≤ 8192) : onL (im L) L.length d.length (andL d) = im (L ++ d) := by
  apply List.ext_getElem
  · rw [onL_length, im_len L (by omega), im_len _ (by simp; omega)]
  · intro k h1 h2
    have hk : k < 8192 := by rw [onL_length, im_len L (by omega)] at h1; exact h1
    rw [onL_at]
    by_cases c1 : k < L.length
    · rw [if_neg (by omega)]
      simp only [im, List.append_assoc]
      rw [List.getElem_append_left c1, List.getElem_append_left c1]
    · by_cases c2 : k < L.length + d.length
      · rw [if_pos (by omega)]
        simp only [im]
        rw [List.getElem_append_right (by omega), List.getElem_replicate, List.getElem_append_left (by simp; omega), List.getElem_append_right (by omega)]
        unfold andL
        rw [getD_at _ _ (by omega), and255]
      · rw [if_neg (by omega)]
        simp only [im]
        rw [List.getElem_append_right (by omega), List.getElem_replicate, List.getElem_append_right (by simp; omega), List.getElem_replicate]
def imS (L : List UInt8) (n : Int) : St := ⟨im L, false, n, false, 0, ⟨#[]⟩⟩
theorem prog_im (L d : List UInt8) (n : Nat) (h : L.length + d.length ≤ 8192) (hn : n ≤ 1000000) : progS (imS L n) L.length d = (imS (L ++ d) ((n + d.length : Nat) : Int), true) := by
  rw [progS_pre d (imS L n) L.length (fun e => by cases e) (by show _ ≤ (im L).length; rw [im_len L (by omega)]; omega) (by show (0 : Int) ≤ (n : Int); omega) (by show (n : Int) + _ ≤ _; omega)]
  unfold imS
  simp only [im_prog L d h, Bool.false_eq_true, if_false]
  rw [Int.natCast_add]
theorem add_im (L : List UInt8) (n en i : Nat) (k : Kp) (t : List UInt8) (he : L.length = en) (h : en + 4 + t.length ≤ 4096) (hn : n ≤ 1000000) : addS 0 i t ⟨imS L n, en, k⟩ = (⟨imS (L ++ recB i t) ((n + (4 + t.length) : Nat) : Int), en + 4 + t.length, upd k i ⟨true, en + 3, t.length⟩⟩, true) := by
  subst he
  unfold addS
  have := prog_im L (recB i t) n (by rw [recB_length]; omega) hn
  rw [recB_length] at this
  simp only [Nat.zero_mul, Nat.zero_add]
  rw [this]
  rfl
theorem put_im (L : List UInt8) (n : Nat) (s : Sv) (i : Nat) (t : List UInt8) (hi : i < 3) (hac : s.ac = 0) (he : L.length = s.en) (h : s.en + 4 + t.length ≤ 4096) (ht : t.length ≤ 2000) (hn : n ≤ 1000000) (hN : needN s.k i t.length ≤ 4096) : putS (imS L n) s (i : Int) t = (imS (L ++ recB i t) ((n + (4 + t.length) : Nat) : Int), some ⟨0, s.tu, s.en + 4 + t.length, upd s.k i ⟨true, s.en + 3, t.length⟩⟩, 0) := by
  unfold putS
  rw [if_neg (by omega), show ((i : Int)).toNat = i by omega, if_neg (by omega), if_pos h, hac, add_im L n s.en i s.k t he h hn]
  rfl
def n0 : St := st0 (List.replicate 8192 255)
def v1 : Sv := ⟨0, 0, 1, kz⟩
theorem im_nil : im [] = List.replicate 8192 255 := rfl
theorem era_im (L : List UInt8) (hL : L = []) (n : Nat) (hn : n ≤ 1000000) (s : Nat) : eraseS (imS L n) s = (imS L ((n + 1 : Nat) : Int), true) := by
  have e : stepS (imS L n) = (imS L ((n + 1 : Nat) : Int), ⟨#[]⟩, true) := by
    unfold stepS imS
    simp only [Bool.false_eq_true, false_and, if_false]
    rw [show wrap64 ((n : Int) + 1) = ((n + 1 : Nat) : Int) by unfold wrap64; omega]
  unfold eraseS
  rw [e]
  simp only [if_true]
  have : onL (imS L ((n + 1 : Nat) : Int)).C (s * 4096) 4096 (fun _ _ => 255) = im L := by
    subst hL
    show onL (im []) _ _ _ = im []
    rw [im_nil]
    apply List.ext_getElem
    · rw [onL_length]
    · intro k h1 h2
      rw [onL_at, List.getElem_replicate]
      split <;> rfl
  rw [this]
  rfl
theorem n0_im : n0 = imS [] 0 := rfl
theorem za1 : bootS n0 = (imS [15] 2, some v1) := by
  unfold bootS
  rw [if_neg (by rw [n0_im]; exact Bool.false_ne_true)]
  have e1 : (secL n0.C 0).getD 0 0 = 255 := by kernel_rfl
  have e2 : (secL n0.C 1).getD 0 0 = 255 := by
    unfold secL
    rw [getD_at _ _ (by show 0 < (List.take 4096 (List.drop (1 * 4096) (List.replicate 8192 255))).length; rw [List.length_take, List.length_drop, List.length_replicate]; omega), List.getElem_take, List.getElem_drop]
    exact List.getElem_replicate _
  rw [e1, e2, if_pos (by decide)]
  unfold fmtS
  rw [if_pos rfl]
  unfold fmt2
  have e3 : eraseS (imS [] 0) 0 = (imS [] 1, true) := era_im [] rfl 0 (by omega) 0
  have : progS (imS [] 1) 0 [15] = (imS [15] 2, true) := prog_im [] [15] 1 (by simp) (by omega)
  rw [n0_im, e3]
  simp only [if_true]
  rw [this]
  rfl
def v2 : Sv := ⟨0, 0, 7, upd kz 0 ⟨true, 4, 2⟩⟩
def v3 : Sv := ⟨0, 0, 11, upd (upd kz 0 ⟨true, 4, 2⟩) 2 ⟨true, 10, 0⟩⟩
def n1 : St := imS [15] 2
def n2 : St := imS [15, 0, 2, 0, 97, 98, 0] 8
def n3 : St := imS [15, 0, 2, 0, 97, 98, 0, 2, 0, 0, 0] 12
theorem nble {a b : Nat} (h : Nat.ble a b = true) : a ≤ b := Nat.le_of_ble_eq_true h
theorem zp1 : putS n1 v1 0 [97, 98] = (n2, some v2, 0) := put_im [15] 2 v1 0 [97, 98] (by omega) rfl rfl (nble rfl) (nble rfl) (by omega) (nble rfl)
theorem zp2 : putS n2 v2 2 [] = (n3, some v3, 0) := put_im [15, 0, 2, 0, 97, 98, 0] 8 v2 2 [] (by omega) rfl rfl (nble rfl) (nble rfl) (by omega) (nble rfl)
theorem zp3 : putS n3 v3 3 [] = (n3, some v3, 1) := by unfold putS; rw [if_pos (by omega)]
theorem za5 : getV (getS n3.C v3 0) = .tuple #[.string ⟨#[97, 98]⟩, .bool true] := by kernel_rfl
theorem za6 : getV (getS n3.C v3 1) = .tuple #[.string ⟨#[]⟩, .bool false] := by kernel_rfl
theorem za7 : getV (getS n3.C v3 2) = .tuple #[.string ⟨#[]⟩, .bool true] := by kernel_rfl
theorem za8 : readR n3 0 12 = (⟨#[15, 0, 2, 0, 97, 98, 0, 2, 0, 0, 0, 255]⟩, 0) := by kernel_rfl
theorem ask1 : Ask v1 := ⟨by decide, by decide, nble rfl, KOk.kz.mono (by omega)⟩
theorem kok2 : KOk v2.k 7 := KOk.kz.upd 0 (by omega) 2 (by omega)
theorem ask2 : Ask v2 := ⟨by decide, by decide, nble rfl, kok2.mono (by omega)⟩
theorem ask3 : Ask v3 := ⟨by decide, by decide, nble rfl, (kok2.upd 2 (by omega) 0 (by omega)).mono (by omega)⟩
theorem put_at (w : World) (S R : Nat) (σ τ : St) (s : Sv) (o : Option Sv) (r : Int) (id : Int) (tv : ByteArray) (hF : Fl w R σ) (ho : σ.off = false) (hj : σ.jk.size = 0) (ha : Ask s) (h : So w S (fp R) s.ac s.tu s.en s.k) (hx : putS σ s id tv.data.toList = (τ, o, r)) :
    Calls Try.prog 21 #[fp S, .int .i64 id, .string tv] w fun e w' => e = .returned (.int .i64 r) ∧ Fl w' R τ ∧ (∀ s', o = some s' → So w' S (fp R) s'.ac s'.tu s'.en s'.k) ∧ (o = none → So w' S (.pointer none) 0 0 0 kz) ∧ Kep2 R S w w' := by
  refine (put_any w S R σ ⟨hF.len, ho, by omega⟩ s ha hF h id tv).mono ?_
  rintro e w1 ⟨τ', o', r', h1, h2, h3, h4, h5, h6⟩
  rw [hx] at h2
  injection h2 with e1 e2
  injection e2 with e2 e3
  subst e1 e2 e3
  exact ⟨h1, h3, h4, h5, h6⟩
theorem boot_at (w : World) (R : Nat) (σ τ : St) (s : Sv) (hF : Fl w R σ) (hj : σ.jk.size = 0) (hx : bootS σ = (τ, some s)) :
    Calls Try.prog 27 #[fp R] w fun e w' => ∃ S, e = .returned (.tuple #[fp S, .int .i64 0]) ∧ Fl w' R τ ∧ So w' S (fp R) s.ac s.tu s.en s.k ∧ w.heap.size ≤ S ∧ Kept R w w' := by
  refine (boot_any w R σ hF (by omega)).mono ?_
  rintro e w1 ⟨ok, τ', s', S, h1, h2, h3, h4, h5, h6⟩
  rw [hx] at h2
  cases ok
  · simp at h2
  · simp at h2
    obtain ⟨rfl, rfl⟩ := h2
    exact ⟨S, h1, h3, h4 rfl, h5, h6⟩
set_option maxHeartbeats 2000000 in
set_option maxRecDepth 100000 in
theorem awake7 (w : World) : Calls Try.prog 15 #[] w fun e w' => e = .returned (.bool true) ∧ Below w.heap.size w w' := by
  go_enter Try.func15, Try.ntmps15
  go_wp2_with fail
  refine (new_any w).mono ?_
  rintro e w1 ⟨rfl, h1, b1⟩
  obtain ⟨R, hR⟩ : ∃ R, Hid (w.heap.size = R) := ⟨_, hide rfl⟩
  rw [hR.out] at h1
  rw [show fp w.heap.size = fp R by rw [hR.out]]
  have H1 : Hid (Fl w1 R n0) := hide h1
  clear h1
  go_wp2_with fail
  refine (boot_at w1 R n0 n1 v1 H1.out rfl za1).mono ?_
  rintro e w2 ⟨S, rfl, f2, s2, g2, k2⟩
  have F2 := hide f2
  have S2 := hide s2
  clear f2 s2
  have ST : Calls Try.prog 25 #[fp R] w2 fun e w' => e = .returned (.int .i64 2) ∧ w' = w2 := by
    exact steps_any w2 R n1 F2.out
  go_wp2_with (go_at_call 25; refine ST.mono ?_; rintro e wx ⟨rfl, hw⟩; obtain rfl := hw.symm; clear hw)
  have P1 := put_at w2 S R n1 n2 v1 (some v2) 0 0 ⟨#[97, 98]⟩ F2.out rfl rfl ask1 S2.out zp1
  refine P1.mono ?_
  rintro e w3 ⟨rfl, f3, s3, _, k3⟩
  have F3 := hide f3
  have S3 := hide (s3 v2 rfl)
  clear f3 s3 P1 ST
  go_wp2_with fail
  have P1 := put_at w3 S R n2 n3 v2 (some v3) 0 2 ⟨#[]⟩ F3.out rfl rfl ask2 S3.out zp2
  refine P1.mono ?_
  rintro e w4 ⟨rfl, f4, s4, _, k4⟩
  have F4 := hide f4
  have S4 := hide (s4 v3 rfl)
  clear f4 s4 P1
  have hon : On n3 := ⟨F4.out.len, rfl, nble rfl⟩
  have G0 := get_any w4 S R n3 hon v3 ask3 F4.out S4.out 0
  rw [za5] at G0
  go_wp2_with fail
  refine G0.mono ?_
  rintro e w5 ⟨rfl, b5⟩
  have F5 := hide (F4.out.below b5)
  have S5 := hide (S4.out.below b5)
  clear G0
  have G0 := get_any w5 S R n3 hon v3 ask3 F5.out S5.out 1
  rw [za6] at G0
  go_wp2_with fail
  refine G0.mono ?_
  rintro e w6 ⟨rfl, b6⟩
  have F6 := hide (F5.out.below b6)
  have S6 := hide (S5.out.below b6)
  clear G0
  have G0 := get_any w6 S R n3 hon v3 ask3 F6.out S6.out 2
  rw [za7] at G0
  go_wp2_with fail
  refine G0.mono ?_
  rintro e w7 ⟨rfl, b7⟩
  have F7 := hide (F6.out.below b7)
  have S7 := hide (S6.out.below b7)
  clear G0
  have G0 := read_any w7 R n3 F7.out 0 12 (by unfold I64; omega)
  rw [za8] at G0
  go_wp2_with fail
  refine G0.mono ?_
  rintro e w8 ⟨rfl, hw⟩
  obtain rfl := hw.symm
  clear hw G0
  go_wp2_with fail
  have P1 := put_at w7 S R n3 n3 v3 (some v3) 1 3 ⟨#[]⟩ F7.out rfl rfl ask3 S7.out zp3
  refine P1.mono ?_
  rintro e w9 ⟨rfl, f9, s9, _, k9⟩
  clear P1 f9 s9
  go_wp2_with fail
  go_ret
  refine ⟨by rfl, ?_⟩
  have hR2 := hR.out
  have z1 := b1.size
  have z2 := k2.size
  have z3 := k3.size
  have z4 := k4.size
  have z5 := b5.size
  have z6 := b6.size
  have z7 := b7.size
  have hS : w.heap.size ≤ S := by omega
  have hRr : w.heap.size ≤ R := by omega
  exact k9.toBelow (below_next (below_next (below_next (k4.toBelow (k3.toBelow (k2.toBelow b1 (by omega) hRr) (by omega) hRr hS) (by omega) hRr hS) (Nat.le_refl _) b5) (Nat.le_refl _) b6) (Nat.le_refl _) b7) (by omega) hRr hS
/-- StoreNil -/
theorem StoreNil_walk (a : Int) (d : ByteArray) (_hs : d.size ≤ 140737488351232) (w : World) : Calls Try.prog 8 #[.int .i64 a, .string d] w fun e w' => e = .returned (.bool true) ∧ Below w.heap.size w w' := by
  go_enter Try.func8, Try.ntmps8
  go_wp2_with fail
  refine (boot_nil w).mono ?_
  rintro e w1 ⟨rfl, hw⟩
  obtain rfl := hw.symm
  clear hw
  go_wp2_with fail
  refine (get_nil w a).mono ?_
  rintro e w1 ⟨rfl, hw⟩
  obtain rfl := hw.symm
  clear hw
  go_wp2_with fail
  refine (awake7 w).mono ?_
  rintro e w1 ⟨rfl, hb⟩
  have PN := put_nil w1 a d
  go_wp2_with (go_at_call 21; refine PN.mono ?_; rintro e wx ⟨rfl, hw⟩; obtain rfl := hw.symm; clear hw)
  go_ret
  exact ⟨rfl, hb⟩
end Go.Proofs.Ytcjahdgppnmdkaa
