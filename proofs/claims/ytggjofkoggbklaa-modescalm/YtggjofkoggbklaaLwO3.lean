/- ModesCalm. -/
import Derived.Test.YtggjofkoggbklaaMoL
import Derived.Test.YtggjofkoggbklaaOp0
namespace Go.Proofs.Ytggjofkoggbklaa
open Go.RowKit Go.Great

theorem and127 (ev : Int) : 0 ≤ bits BinOp.and IntKind.i64 ev 127 ∧ bits BinOp.and IntKind.i64 ev 127 ≤ 127 := by
  show 0 ≤ IntKind.i64.wrap (((BitVec.ofInt 64 ev) &&& BitVec.ofInt 64 127).toNat : Int) ∧ IntKind.i64.wrap (((BitVec.ofInt 64 ev) &&& BitVec.ofInt 64 127).toNat : Int) ≤ 127
  rw [BitVec.toNat_and, show (BitVec.ofInt 64 127).toNat = 127 from rfl, IntKind.wrap_i64]
  have h : (BitVec.ofInt 64 ev).toNat &&& 127 ≤ 127 := Nat.and_le_right
  generalize (BitVec.ofInt 64 ev).toNat &&& 127 = n at *
  omega
theorem has_high (x : Int) (h0 : 0 ≤ x) (h1 : x ≤ 127) : ∀ i : Nat, 7 ≤ i → hasE x i = false := by
  intro i hi
  rw [has_iff]
  have h2 : x / 2 ^ i = 0 := by
    refine Int.ediv_eq_zero_of_lt h0 ?_
    have h3 : (2 : Nat) ^ 7 ≤ 2 ^ i := Nat.pow_le_pow_right (by decide) hi
    have h4 : ((2 : Nat) ^ 7 : Int) ≤ ((2 : Nat) ^ i : Int) := by exact_mod_cast h3
    have h5 : ((2 : Nat) : Int) ^ 7 = 128 := rfl
    rw [h5] at h4
    exact Int.lt_of_lt_of_le (by omega) h4
  rw [h2]
  rfl
/-- how often a mode may still change, if nobody speaks -/
def rk (m : Nat) : Nat := [0, 0, 0, 7, 6, 6, 6, 6, 5, 4, 3, 3, 2, 1, 0].getD m 0
theorem rk_top : ∀ m : Nat, m < 15 → rk m ≤ 7 := by decide
theorem calm_round (m : Nat) (ev : Int) (h1 : 3 ≤ m) (h2 : m < 15) (hh : ∀ i : Nat, 7 ≤ i → hasE ev i = false) : (stM m ev = m ∧ stE m ev = -1) ∨ ∃ (k : Nat) (d : Int), stM m ev = k ∧ stE m ev = d ∧ 0 ≤ d ∧ 3 ≤ k ∧ k < 15 ∧ rk k + 1 ≤ rk m := by
  rcases st_ways m ev with h | ⟨i, hi, he, hd, hm, hne⟩
  · exact .inl h
  · right
    have hi7 : i < 7 := by
      refine Decidable.byContradiction fun h => ?_
      rw [hh i (by omega)] at he
      cases he
    have := all_nx (fun m i x => !(decide (3 ≤ m) && decide (i < 7) && !decide (x = m)) || (decide (3 ≤ x) && decide (x < 15) && decide (rk x.toNat + 1 ≤ rk m))) (by kernel_rfl) m i h2 hi
    simp only [h1, hi7, hne, decide_true, decide_false, Bool.not_false, Bool.and_self, Bool.not_true, Bool.false_or, Bool.and_eq_true, decide_eq_true_eq] at this
    exact ⟨(nx m i).toNat, i, by rw [hm]; omega, hd, by omega, by omega, by omega, this.2⟩
theorem fly_low (m : Nat) (h : flyB m = true) : 3 ≤ m := by
  have : 3 ≤ (m : Int) ∧ (m : Int) ≤ 13 := by simpa [flyB] using h
  omega
set_option maxHeartbeats 4000000 in
set_option maxRecDepth 100000 in
theorem calm_any (l1 l2 : List Int) (v1 v2 : Value) (w : World) (hv1 : Ints w v1 l1) (hlen1 : l1.length * 8 + 32 ≤ 140737488355328) (hv2 : Ints w v2 l2) (hlen2 : l2.length * 8 + 32 ≤ 140737488355328) : Calls Try.prog 6 #[v1, v2] w fun e w' => e = .returned (.bool true) ∧ Below w.heap.size w w' := by
  have AW := hide awakeO
  have FL := hide flying_any
  have HV1 := hide hv1
  have HV2 := hide hv2
  obtain ⟨ad1, cap1, rfl, hx1⟩ := hv1
  obtain ⟨ad2, cap2, rfl, hx2⟩ := hv2
  clear hx1 hx2
  obtain ⟨n, hn⟩ : ∃ n, Hid (l1.length = n) := ⟨_, hide rfl⟩
  obtain ⟨p, hp⟩ : ∃ p, Hid (l2.length = p) := ⟨_, hide rfl⟩
  rw [hn.out] at hlen1
  rw [hp.out] at hlen2
  rw [hn.out, hp.out]
  go_enter Try.func6, Try.ntmps6
  go_wp2_with (go_at_call 15; refine (newM_any _).mono ?_; rintro e w1 ⟨M, rfl, hM, hb, hMw⟩; have HM := hide hM; have Hb := hide hb; have HMw := hide hMw; clear hM hb hMw)
  go_loopw [6] (fun vi wr => ∃ (i m : Nat) (la : Int), vi = .int .i64 (i : Int) ∧ i ≤ n ∧ Hid (m < 15) ∧ Hid (Mac wr M m la) ∧ Hid (Below w.heap.size w wr)) (fun vi _ => n - (intOf vi).toNat)
  case atStart => exact ⟨0, 0, 0, rfl, by omega, hide (by omega), HM, Hb⟩
  case round =>
    clear HM Hb
    obtain ⟨i, m, la, rfl, hi, Hm, HM, Hb⟩ := hrel
    by_cases hlt : i < n
    · obtain ⟨a2, cap', e1, hc⟩ := HV1.out
      injection e1 with e1 e2 e3
      subst e1 e3
      obtain ⟨g0, o, rfl, hg, hc⟩ := hc (by rw [hn.out]; omega)
      have hci := hc i (by rw [hn.out]; omega)
      obtain ⟨ev, hev⟩ : ∃ ev, Hid (l1.getD i 0 = ev) := ⟨_, hide rfl⟩
      rw [hev.out] at hci
      have k0 : wr.cell? ⟨g0, o + i, none⟩ = some (.int .i64 ev) := (Hb.out.cell (p := ⟨g0, o + i, none⟩) hg).trans hci
      clear hci hc e2 HV1 HV2 hev
      obtain ⟨k, hk, hk2⟩ := st_nat m ev Hm.out
      have ST := hide (step_is k _ _ HM.out hk rfl rfl)
      generalize stL m la ev = la' at *
      generalize stE m ev = d at *
      have Hk := hide hk2
      clear hk hk2 HM
      go_wp2_with (go_at_call 16; refine ST.out.mono ?_; rintro e w2 ⟨rfl, hM2, hg2⟩; have HM2 := hide hM2; have Hb2 := hide (below_grown Hb.out hg2 (fun q e => by injection e with e; have := HMw.out; omega)); clear hM2 hg2)
      go_roundw
      case rel => exact ⟨i + 1, k, la', by go_num, by omega, Hk, HM2, Hb2⟩
      case measure => simp [intOf]; omega
    · have MD := hide (mode_any wr M m la HM.out)
      have FLm := hide (FL.out m)
      obtain ⟨fy, hfy⟩ : ∃ fy, flyB m = fy := ⟨_, rfl⟩
      rw [hfy] at FLm
      have ei : ¬ i < n := hlt
      cases fy
      · clear HV1 HV2 hfy
        go_wp2_with (first | (go_at_call 18; refine MD.out.mono ?_; rintro e w6 ⟨rfl, hw6⟩; obtain rfl := hw6.symm) | (go_at_call 12; refine (FLm.out _).mono ?_; rintro e w6 ⟨rfl, hw6⟩; obtain rfl := hw6.symm) | (go_at_call 14; refine (AW.out _).mono ?_; rintro e w5 ⟨rfl, hb5⟩; have Hb5 := hide hb5; clear hb5))
        go_ret
        exact ⟨rfl, below_next Hb.out (Nat.le_refl _) Hb5.out⟩
      · have Hm3 : Hid (3 ≤ m) := hide (fly_low m hfy)
        clear hfy HV1
        go_wp2_with (first | (go_at_call 18; refine MD.out.mono ?_; rintro e w6 ⟨rfl, hw6⟩; obtain rfl := hw6.symm) | (go_at_call 12; refine (FLm.out _).mono ?_; rintro e w6 ⟨rfl, hw6⟩; obtain rfl := hw6.symm))
        clear MD FLm
        go_loopw [7, 8] (fun vc vi wr => ∃ (c i m : Nat) (la : Int), vc = .int .i64 (c : Int) ∧ vi = .int .i64 (i : Int) ∧ i ≤ p ∧ c ≤ 7 ∧ Hid (c + rk m ≤ 7) ∧ Hid (3 ≤ m) ∧ Hid (m < 15) ∧ Hid (Mac wr M m la) ∧ Hid (Below w.heap.size w wr)) (fun _ vi _ => p - (intOf vi).toNat)
        case atStart => exact ⟨0, 0, m, la, rfl, rfl, by omega, by omega, hide (by have := rk_top m Hm.out; omega), Hm3, Hm, HM, Hb⟩
        case round =>
          clear HM Hb Hm Hm3 hlt ei
          obtain ⟨c, j, m, la, rfl, rfl, hj, hc7, Hc, Hm3, Hm, HM, Hb⟩ := hrel
          by_cases hlt : j < p
          · obtain ⟨a2, cap', e1, hc⟩ := HV2.out
            injection e1 with e1 e2 e3
            subst e1 e3
            obtain ⟨g0, o, rfl, hg, hc⟩ := hc (by rw [hp.out]; omega)
            have hci := hc j (by rw [hp.out]; omega)
            obtain ⟨ev, hev⟩ : ∃ ev, Hid (l2.getD j 0 = ev) := ⟨_, hide rfl⟩
            rw [hev.out] at hci
            have k0 : wr.cell? ⟨g0, o + j, none⟩ = some (.int .i64 ev) := (Hb.out.cell (p := ⟨g0, o + j, none⟩) hg).trans hci
            clear hci hc e2 HV2 hev
            have hx := and127 ev
            obtain ⟨x, ex⟩ : ∃ x, bits BinOp.and IntKind.i64 ev 127 = x := ⟨_, rfl⟩
            rw [ex] at hx
            rcases calm_round m x Hm3.out Hm.out (has_high x hx.1 hx.2) with ⟨q1, q2⟩ | ⟨k, d, q1, q2, q3, q4, q5, q6⟩
            · have ST := hide (step_is m _ (-1) HM.out q1 rfl q2)
              generalize stL m la x = la' at *
              clear q1 q2 HM hx
              go_wp2_with (go_at_call 16; refine ST.out.mono ?_; rintro e w2 ⟨rfl, hM2, hg2⟩; have HM2 := hide hM2; have Hb2 := hide (below_grown Hb.out hg2 (fun q e => by injection e with e; have := HMw.out; omega)); clear hM2 hg2)
              go_roundw
              case rel => exact ⟨c, j + 1, m, la', rfl, by go_num, by omega, hc7, Hc, Hm3, Hm, HM2, Hb2⟩
              case measure => simp [intOf]; omega
            · have ST := hide (step_is k _ d HM.out q1 rfl q2)
              generalize stL m la x = la' at *
              have Q4 := hide q4
              have Q5 := hide q5
              have Hc2 : Hid (c + 1 + rk k ≤ 7) := hide (by have := Hc.out; omega)
              have hc8 : c + 1 ≤ 7 := by have := Hc.out; omega
              clear q1 q2 HM hx q4 q5 q6 Hc
              go_wp2_with (go_at_call 16; refine ST.out.mono ?_; rintro e w2 ⟨rfl, hM2, hg2⟩; have HM2 := hide hM2; have Hb2 := hide (below_grown Hb.out hg2 (fun q e => by injection e with e; have := HMw.out; omega)); clear hM2 hg2)
              go_roundw
              case rel => exact ⟨c + 1, j + 1, k, la', by go_num, by go_num, by omega, hc8, Hc2, Q4, Q5, HM2, Hb2⟩
              case measure => simp [intOf]; omega
          · go_wp2_with (go_at_call 14; refine (AW.out _).mono ?_; rintro e w5 ⟨rfl, hb5⟩; have Hb5 := hide hb5; clear hb5)
            go_ret
            exact ⟨rfl, below_next Hb.out (Nat.le_refl _) Hb5.out⟩
theorem ModesCalm_walk (v1 v2 : Value) (w : World) (h1 : ∃ l, IntsIn w v1 l) (h2 : ∃ l, IntsIn w v2 l) : Calls Try.prog 6 #[v1, v2] w fun e w' => e = .returned (.bool true) ∧ Below w.heap.size w w' := by
  obtain ⟨l1, a1, _, b1⟩ := h1
  obtain ⟨l2, a2, _, b2⟩ := h2
  exact calm_any l1 l2 v1 v2 w a1 b1 a2 b2
end Go.Proofs.Ytggjofkoggbklaa
