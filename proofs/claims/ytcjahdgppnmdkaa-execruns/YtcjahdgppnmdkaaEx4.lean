/- Package container/heap: down, over a queue of turns. -/
import Derived.Test.YtcjahdgppnmdkaaEx3
set_option maxRecDepth 100000
namespace Go.Proofs.Ytcjahdgppnmdkaa
open Go.RowKit Go.Great

theorem DnI.leaf {l : List Tu} {i n : Nat} (h : DnI l i n) (hi : n ≤ 2 * i + 1) : Hp l n := h.done (fun k h0 hk hp => by omega)
theorem DnI.less {l : List Tu} {i j n : Nat} (h : DnI l i n) (hmin : ∀ k, 0 < k → k < n → (k - 1) / 2 = i → hg l j ≤ hg l k) (hj : ¬ hg l j < hg l i) : Hp l n := h.done (fun k h0 hk hp => by have := hmin k h0 hk hp; omega)
theorem min_two {l : List Tu} {i n : Nat} (j : Nat) (h1 : hg l j ≤ hg l (2 * i + 1)) (h2 : 2 * i + 2 < n → hg l j ≤ hg l (2 * i + 2)) : ∀ k, 0 < k → k < n → (k - 1) / 2 = i → hg l j ≤ hg l k := by
  intro k h0 hk hp
  have : k = 2 * i + 1 ∨ k = 2 * i + 2 := by omega
  rcases this with rfl | rfl
  · exact h1
  · exact h2 hk
theorem sw_last {l : List Tu} {i j n : Nat} (hi : i < n) (hj : j < n) (hl : n < l.length) : te (sw l i j) n = te l n := by
  rw [te_sw _ _ _ _ (by omega) (by omega), if_neg (by omega), if_neg (by omega)]
def DEnd (w : World) (b Q o : Nat) (pre : List Value) (ty : TypeId) (a : Option Addr) (cap n : Nat) (l : List Tu) (e : Ending) (w' : World) : Prop := ∃ (d : Bool) (k : List Tu), QEnd w b Q o pre ty a cap k (.bool d) e w' ∧ k.Perm l ∧ Hp k n ∧ te k n = te l n
set_option maxHeartbeats 4000000 in
theorem downQ_any (w : World) (b Q o : Nat) (pre : List Value) (ty : TypeId) (a : Option Addr) (cap n : Nat) (l : List Tu) (h : Qu w b Q o pre ty a cap l) (hl : l.length = n + 1) (hD : DnI l 0 n) (hn : n ≤ 64) : Calls Try.prog 108 #[qI Q o, .int .i64 0, .int .i64 n] w (DEnd w b Q o pre ty a cap n l) := by
  have HQ := hide h
  have HD := hide hD
  obtain ⟨N, hN⟩ : ∃ N, Hid (N = n + 1) := ⟨_, hide rfl⟩
  have HL : Hid (l.length = N) := hide (by rw [hN.out]; exact hl)
  clear h hD hl
  go_enter Try.func108, Try.ntmps108
  go_wp2_with fail
  go_loopw [7] (fun vj wr => ∃ (i : Nat) (k : List Tu), vj = .int .i64 (i : Int) ∧ i ≤ n ∧ Hid (k.length = N) ∧ Hid (Qu wr b Q o pre ty a cap k) ∧ Hid (KB b Q w wr) ∧ Hid (DnI k i n) ∧ Hid (k.Perm l) ∧ Hid (te k n = te l n)) (fun vj _ => n - (intOf vj).toNat)
  case atStart => exact ⟨0, l, rfl, by omega, HL, HQ, hide (KB.refl _ _ _), HD, hide (List.Perm.refl _), hide rfl⟩
  case round =>
    clear HQ HD HL
    obtain ⟨i, k, rfl, hi, hk, HQ, Hb, HU, HP, HE⟩ := hrel
    obtain ⟨p, hp⟩ : ∃ p, 2 * i + 1 = p := ⟨_, rfl⟩
    have e1 : 2 * (i : Int) + 1 = (p : Int) := by omega
    by_cases hlf : n ≤ p
    · have HH := hide (HU.out.leaf (by omega))
      clear hp
      go_wp2_with fail
      go_ret
      exact ⟨_, k, ⟨rfl, HQ.out, Hb.out⟩, HP.out, HH.out, HE.out⟩
    obtain ⟨q, hq⟩ : ∃ q, p + 1 = q := ⟨_, rfl⟩
    have e2 : (p : Int) + 1 = (q : Int) := by omega
    have hin : i < p := by omega
    have hkl : Hid (∀ t, t ≤ n → t < k.length) := hide (fun t ht => by rw [hk.out, hN.out]; omega)
    have m1 : (method 294 145 (qP Q o) "Less").run Try.prog wr = .ok (131, slQ a N cap) wr := meth_less 293 wr Q o a N cap (by rw [← hk.out]; exact HQ.out.cellQ)
    by_cases hqn : q < n
    · have LE := hide (less_any wr b Q o pre ty a cap k q p HQ.out (hkl.out q (by omega)) (hkl.out p (by omega)))
      rw [hk.out] at LE
      by_cases hc : hg k q < hg k p
      · have HM := hide (min_two (l := k) (i := i) (n := n) q (by rw [hp]; omega) (fun _ => by rw [show 2 * i + 2 = q by omega]; omega))
        rw [decide_eq_true hc] at LE
        clear hc
        by_cases hlt : hg k q < hg k i
        · have HC : Hid (decide (hg k q < hg k i) = true) := hide (decide_eq_true hlt)
          have HS := hide (HU.out.swap (j := q) (by rw [hk.out, hN.out]; omega) (by omega) (by omega) (by omega) hlt HM.out)
          clear HU HM hlt hp hq HQ
          go_wp2_with (go_at_call 131; refine LE.out.mono ?_; rintro e w2 ⟨rfl, hQ2, hb2⟩; have L2 := hide (less_any w2 b Q o pre ty a cap k q i hQ2 (hkl.out q (by omega)) (hkl.out i (by omega))); rw [hk.out, HC.out] at L2; have m2 : (method 294 145 (qP Q o) "Less").run Try.prog w2 = .ok (131, slQ a N cap) w2 := meth_less 293 w2 Q o a N cap (by rw [← hk.out]; exact hQ2.cellQ); replace Hb := hide (Hb.out.trans hb2); clear hQ2 hb2 LE m1)
          refine L2.out.mono ?_
          rintro e w3 ⟨rfl, hQ3, hb3⟩
          have SW := hide (swap_any w3 b Q o pre ty a cap k i q hQ3 (hkl.out i (by omega)) (hkl.out q (by omega)))
          rw [hk.out] at SW
          have m3 : (method 294 145 (qP Q o) "Swap").run Try.prog w3 = .ok (132, slQ a N cap) w3 := meth_swap 293 w3 Q o a N cap (by rw [← hk.out]; exact hQ3.cellQ)
          replace Hb := hide (Hb.out.trans hb3)
          clear hQ3 hb3 L2
          go_wp2_with fail
          refine SW.out.mono ?_
          rintro e w4 ⟨rfl, hQ4, hb4⟩
          replace Hb := hide (Hb.out.trans hb4)
          have HQ := hide hQ4
          have HK : Hid ((sw k i q).length = N) := hide (by rw [sw_len, hk.out])
          have HP2 : Hid ((sw k i q).Perm l) := hide ((sw_perm k i q (hkl.out i (by omega)) (hkl.out q (by omega))).trans HP.out)
          have HE2 : Hid (te (sw k i q) n = te l n) := hide (by rw [sw_last (by omega) (by omega) (hkl.out n (Nat.le_refl _))]; exact HE.out)
          clear hQ4 hb4 SW HP hk m3 HE HC hkl
          generalize sw k i q = k2 at *
          go_wp2_with fail
          go_roundw
          case rel => exact ⟨q, k2, rfl, by omega, HK, HQ, Hb, HS, HP2, HE2⟩
          case measure => simp [intOf]; omega
        · have HC : Hid (decide (hg k q < hg k i) = false) := hide (decide_eq_false hlt)
          have HS := hide (HU.out.less HM.out hlt)
          clear HU HM hlt hp hq HQ
          go_wp2_with (go_at_call 131; refine LE.out.mono ?_; rintro e w2 ⟨rfl, hQ2, hb2⟩; have L2 := hide (less_any w2 b Q o pre ty a cap k q i hQ2 (hkl.out q (by omega)) (hkl.out i (by omega))); rw [hk.out, HC.out] at L2; have m2 : (method 294 145 (qP Q o) "Less").run Try.prog w2 = .ok (131, slQ a N cap) w2 := meth_less 293 w2 Q o a N cap (by rw [← hk.out]; exact hQ2.cellQ); replace Hb := hide (Hb.out.trans hb2); clear hQ2 hb2 LE m1)
          refine L2.out.mono ?_
          rintro e w3 ⟨rfl, hQ3, hb3⟩
          have HQ := hide hQ3
          replace Hb := hide (Hb.out.trans hb3)
          clear hQ3 hb3 L2
          go_wp2_with fail
          go_ret
          exact ⟨_, k, ⟨rfl, HQ.out, Hb.out⟩, HP.out, HS.out, HE.out⟩
      · have HM := hide (min_two (l := k) (i := i) (n := n) p (by rw [hp]; omega) (fun _ => by rw [show 2 * i + 2 = q by omega]; omega))
        rw [decide_eq_false hc] at LE
        clear hc
        by_cases hlt : hg k p < hg k i
        · have HC : Hid (decide (hg k p < hg k i) = true) := hide (decide_eq_true hlt)
          have HS := hide (HU.out.swap (j := p) (by rw [hk.out, hN.out]; omega) (by omega) (by omega) (by omega) hlt HM.out)
          clear HU HM hlt hp hq HQ
          go_wp2_with (go_at_call 131; refine LE.out.mono ?_; rintro e w2 ⟨rfl, hQ2, hb2⟩; have L2 := hide (less_any w2 b Q o pre ty a cap k p i hQ2 (hkl.out p (by omega)) (hkl.out i (by omega))); rw [hk.out, HC.out] at L2; have m2 : (method 294 145 (qP Q o) "Less").run Try.prog w2 = .ok (131, slQ a N cap) w2 := meth_less 293 w2 Q o a N cap (by rw [← hk.out]; exact hQ2.cellQ); replace Hb := hide (Hb.out.trans hb2); clear hQ2 hb2 LE m1)
          refine L2.out.mono ?_
          rintro e w3 ⟨rfl, hQ3, hb3⟩
          have SW := hide (swap_any w3 b Q o pre ty a cap k i p hQ3 (hkl.out i (by omega)) (hkl.out p (by omega)))
          rw [hk.out] at SW
          have m3 : (method 294 145 (qP Q o) "Swap").run Try.prog w3 = .ok (132, slQ a N cap) w3 := meth_swap 293 w3 Q o a N cap (by rw [← hk.out]; exact hQ3.cellQ)
          replace Hb := hide (Hb.out.trans hb3)
          clear hQ3 hb3 L2
          go_wp2_with fail
          refine SW.out.mono ?_
          rintro e w4 ⟨rfl, hQ4, hb4⟩
          replace Hb := hide (Hb.out.trans hb4)
          have HQ := hide hQ4
          have HK : Hid ((sw k i p).length = N) := hide (by rw [sw_len, hk.out])
          have HP2 : Hid ((sw k i p).Perm l) := hide ((sw_perm k i p (hkl.out i (by omega)) (hkl.out p (by omega))).trans HP.out)
          have HE2 : Hid (te (sw k i p) n = te l n) := hide (by rw [sw_last (by omega) (by omega) (hkl.out n (Nat.le_refl _))]; exact HE.out)
          clear hQ4 hb4 SW HP hk m3 HE HC hkl
          generalize sw k i p = k2 at *
          go_wp2_with fail
          go_roundw
          case rel => exact ⟨p, k2, rfl, by omega, HK, HQ, Hb, HS, HP2, HE2⟩
          case measure => simp [intOf]; omega
        · have HC : Hid (decide (hg k p < hg k i) = false) := hide (decide_eq_false hlt)
          have HS := hide (HU.out.less HM.out hlt)
          clear HU HM hlt hp hq HQ
          go_wp2_with (go_at_call 131; refine LE.out.mono ?_; rintro e w2 ⟨rfl, hQ2, hb2⟩; have L2 := hide (less_any w2 b Q o pre ty a cap k p i hQ2 (hkl.out p (by omega)) (hkl.out i (by omega))); rw [hk.out, HC.out] at L2; have m2 : (method 294 145 (qP Q o) "Less").run Try.prog w2 = .ok (131, slQ a N cap) w2 := meth_less 293 w2 Q o a N cap (by rw [← hk.out]; exact hQ2.cellQ); replace Hb := hide (Hb.out.trans hb2); clear hQ2 hb2 LE m1)
          refine L2.out.mono ?_
          rintro e w3 ⟨rfl, hQ3, hb3⟩
          have HQ := hide hQ3
          replace Hb := hide (Hb.out.trans hb3)
          clear hQ3 hb3 L2
          go_wp2_with fail
          go_ret
          exact ⟨_, k, ⟨rfl, HQ.out, Hb.out⟩, HP.out, HS.out, HE.out⟩
    · have HM := hide (min_two (l := k) (i := i) (n := n) p (by rw [hp]; omega) (fun _ => by omega))
      by_cases hlt : hg k p < hg k i
      · have HC : Hid (decide (hg k p < hg k i) = true) := hide (decide_eq_true hlt)
        have HS := hide (HU.out.swap (j := p) (by rw [hk.out, hN.out]; omega) (by omega) (by omega) (by omega) hlt HM.out)
        have L2 := hide (less_any wr b Q o pre ty a cap k p i HQ.out (hkl.out p (by omega)) (hkl.out i (by omega)))
        rw [hk.out, HC.out] at L2
        clear HU HM hlt hp hq HQ
        go_wp2_with fail
        refine L2.out.mono ?_
        rintro e w3 ⟨rfl, hQ3, hb3⟩
        have SW := hide (swap_any w3 b Q o pre ty a cap k i p hQ3 (hkl.out i (by omega)) (hkl.out p (by omega)))
        rw [hk.out] at SW
        have m3 : (method 294 145 (qP Q o) "Swap").run Try.prog w3 = .ok (132, slQ a N cap) w3 := meth_swap 293 w3 Q o a N cap (by rw [← hk.out]; exact hQ3.cellQ)
        replace Hb := hide (Hb.out.trans hb3)
        clear hQ3 hb3 L2
        go_wp2_with fail
        refine SW.out.mono ?_
        rintro e w4 ⟨rfl, hQ4, hb4⟩
        replace Hb := hide (Hb.out.trans hb4)
        have HQ := hide hQ4
        have HK : Hid ((sw k i p).length = N) := hide (by rw [sw_len, hk.out])
        have HP2 : Hid ((sw k i p).Perm l) := hide ((sw_perm k i p (hkl.out i (by omega)) (hkl.out p (by omega))).trans HP.out)
        have HE2 : Hid (te (sw k i p) n = te l n) := hide (by rw [sw_last (by omega) (by omega) (hkl.out n (Nat.le_refl _))]; exact HE.out)
        clear hQ4 hb4 SW HP hk m3 HE HC hkl
        generalize sw k i p = k2 at *
        go_wp2_with fail
        go_roundw
        case rel => exact ⟨p, k2, rfl, by omega, HK, HQ, Hb, HS, HP2, HE2⟩
        case measure => simp [intOf]; omega
      · have HC : Hid (decide (hg k p < hg k i) = false) := hide (decide_eq_false hlt)
        have HS := hide (HU.out.less HM.out hlt)
        have L2 := hide (less_any wr b Q o pre ty a cap k p i HQ.out (hkl.out p (by omega)) (hkl.out i (by omega)))
        rw [hk.out, HC.out] at L2
        clear HU HM hlt hp hq HQ
        go_wp2_with fail
        refine L2.out.mono ?_
        rintro e w3 ⟨rfl, hQ3, hb3⟩
        have HQ := hide hQ3
        replace Hb := hide (Hb.out.trans hb3)
        clear hQ3 hb3 L2
        go_wp2_with fail
        go_ret
        exact ⟨_, k, ⟨rfl, HQ.out, Hb.out⟩, HP.out, HS.out, HE.out⟩
end Go.Proofs.Ytcjahdgppnmdkaa
