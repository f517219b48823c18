/- What ControlTurns answers: true, at every heading and rate. -/
import Derived.Test.YthldohfjkjhdcaaCo5
import Derived.Test.YthldohfjkjhdcaaCoT
namespace Go.Proofs.Ythldohfjkjhdcaa
open Go.RowKit Go.Great

theorem sat_same {x : Int} (h : I64 x) : sat x = x := by
  unfold I64 at h
  unfold sat
  rw [if_neg (by omega), if_neg (by omega)]
theorem tw_is (x r : Int) (hr : -800 ≤ r ∧ r ≤ 800) : twG x r 800 = twa (eff x) r := by
  have h := wn (eff x)
  unfold twG twa
  rw [show shw x = eff x from rfl, show max (800 : Int) 0 = 800 from rfl, show clamp (-((eff x).tdiv 64)) (-800) 800 = wnt (eff x) from rfl, sat_same]
  unfold I64
  omega
theorem turns_endN {H r : Int} (h0 : -524288 ≤ H) (h1 : H < 524288) (r0 : -800 ≤ r) (r1 : r ≤ 800) (n : Nat) (hn : n = 4000) : (-512 ≤ (rn H r n).1 ∧ (rn H r n).1 ≤ 512) ∧ -16 ≤ (rn H r n).2 ∧ (rn H r n).2 ≤ 16 := by
  subst hn
  exact turns_end h0 h1 r0 r1
theorem eff_add (x y : Int) : eff (x + y) = eff (eff x + y) := by unfold eff; omega
set_option maxHeartbeats 1000000 in
theorem ControlTurns_walk (hd r : Int) (w : World) : Calls Try.prog 7 #[.int .i64 hd, .int .i64 r] w fun e w' => e = .returned (.bool true) ∧ Below w.heap.size w w' := by
  have AW := hide awakeC
  by_cases hr : r < -800 ∨ 800 < r
  · by_cases h1 : r < -800
    · go_enter Try.func7, Try.ntmps7
      go_wp2_with (first | (go_at_call 13; refine (AW.out _).mono ?_; rintro e w4 ⟨rfl, b4⟩))
      go_ret
      exact ⟨rfl, b4⟩
    · have h2 : 800 < r := by omega
      go_enter Try.func7, Try.ntmps7
      go_wp2_with (first | (go_at_call 13; refine (AW.out _).mono ?_; rintro e w4 ⟨rfl, b4⟩))
      go_ret
      exact ⟨rfl, b4⟩
  · have hr1 : -800 ≤ r := by omega
    have hr2 : r ≤ 800 := by omega
    have KN := hide (fun n => rn_kn (eff_in hd).1 (eff_in hd).2 hr1 hr2 n)
    have EN := hide (turns_endN (eff_in hd).1 (eff_in hd).2 hr1 hr2)
    obtain ⟨t1, t2, k, hk⟩ := tmod_is hd
    have hH := eff_in hd
    have HK : Hid (eff hd = eff (hd.tmod 1048576)) := hide (by unfold eff; omega)
    clear hk hr
    obtain ⟨H, hHe⟩ : ∃ H, Hid (eff hd = H) := ⟨_, hide rfl⟩
    rw [hHe.out] at KN EN hH HK
    clear hHe
    go_enter Try.func7, Try.ntmps7
    go_upto_region 4 with fail
    generalize hd.tmod 1048576 = t at *
    have hc : (524288 ≤ t ∧ t - 1048576 = H) ∨ (t < -524288 ∧ t + 1048576 = H) ∨ (-524288 ≤ t ∧ t < 524288 ∧ t = H) := by
      have h := HK.out
      unfold eff at h
      omega
    clear HK
    rcases hc with ⟨g1, g3⟩ | ⟨g1, g3⟩ | ⟨g1, g2, g3⟩
    all_goals
      go_upto_region 8 with fail
      try rw [g3]
      clear t1 t2 g1 g3
      try clear g2
      go_wp2_with fail
      go_loop [5, 6, 7] (fun hv rv iv => ∃ (n : Nat) (x : Int), (n : Int) ≤ 4000 ∧ iv = .int .i64 (n : Int) ∧ hv = .int .i64 x ∧ rv = .int .i64 (rn H r n).2 ∧ Hid (eff x = (rn H r n).1) ∧ -(524288 + 800 * (n : Int)) ≤ x ∧ x ≤ 524288 + 800 * (n : Int)) (fun _ _ iv => 4000 - (intOf iv).toNat)
      case atStart => exact ⟨0, H, by omega, rfl, rfl, rfl, hide (eff_same hH.1 hH.2), by omega, by omega⟩
      case round =>
        obtain ⟨n, x, hn, rfl, rfl, rfl, HE, hx1, hx2⟩ := hrel
        by_cases hlt : (n : Int) < 4000
        · have k0 := (KN.out n).r0
          have k1 := (KN.out n).r1
          have k2 := (KN.out (n + 1)).r0
          have k3 := (KN.out (n + 1)).r1
          have TW := hide (fun W => twist_any x (rn H r n).2 800 W (by unfold I64; omega) (i64_of (by decide)))
          rw [tw_is x (rn H r n).2 ⟨k0, k1⟩, HE.out] at TW
          have E1 : Hid ((rn H r (n + 1)).2 = (rn H r n).2 + twa (rn H r n).1 (rn H r n).2) := hide rfl
          have E2 : Hid ((rn H r (n + 1)).1 = eff ((rn H r n).1 + (rn H r (n + 1)).2)) := hide rfl
          rw [E1.out] at k2 k3 E2
          generalize twa (rn H r n).1 (rn H r n).2 = a at *
          rw [← HE.out] at E2
          obtain ⟨y, hy⟩ : ∃ y, Hid ((rn H r n).2 = y) := ⟨_, hide rfl⟩
          rw [hy.out] at E1 E2 TW k0 k1 k2 k3 ⊢
          clear HE hy
          go_wp2_with (first | (go_at_call 11; refine (TW.out _).mono ?_; rintro e w1 ⟨rfl, hw⟩; obtain rfl := hw.symm))
          go_round
          case rel => exact ⟨n + 1, x + (y + a), by omega, by simp, rfl, by rw [E1.out], hide (by rw [E2.out]; exact eff_add _ _), by omega, by omega⟩
          case measure => simp [intOf]; omega
        · obtain ⟨⟨e1, e2⟩, e3, e4⟩ := EN.out n (by omega)
          obtain ⟨t1, t2, k, hk⟩ := tmod_is x
          have HK : Hid (eff x = eff (x.tmod 1048576)) := hide (by unfold eff; omega)
          rw [← HE.out] at e1 e2
          rw [HK.out] at e1 e2
          clear hk HK HE EN KN
          generalize (rn H r n).2 = y at *
          go_upto_region 15 with fail
          generalize x.tmod 1048576 = t at *
          have hc : (524288 ≤ t ∧ -512 ≤ t - 1048576 ∧ t - 1048576 ≤ 512) ∨ (t < -524288 ∧ -512 ≤ t + 1048576 ∧ t + 1048576 ≤ 512) ∨ (-524288 ≤ t ∧ t < 524288 ∧ -512 ≤ t ∧ t ≤ 512) := by
            unfold eff at e1 e2
            omega
          clear e1 e2 hx1 hx2 hn hlt t1 t2
          rcases hc with ⟨g1, g2, g3⟩ | ⟨g1, g2, g3⟩ | ⟨g1, g4, g2, g3⟩
          all_goals
            go_wp2_with (first | (go_at_call 13; refine (AW.out _).mono ?_; rintro e w4 ⟨rfl, b4⟩))
            go_ret
            exact ⟨rfl, b4⟩
end Go.Proofs.Ythldohfjkjhdcaa
