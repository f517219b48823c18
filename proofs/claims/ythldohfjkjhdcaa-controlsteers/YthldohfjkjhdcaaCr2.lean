/- The document's steering, walked: Twist, an axis. -/
import Derived.Test.YthldohfjkjhdcaaCr1
namespace Go.Proofs.Ythldohfjkjhdcaa
open Go.RowKit Go.Great

set_option maxHeartbeats 1000000 in
theorem rtwist_any (h r m : Int) (w : World) (hr : I64 r) (hm : I64 m) : Calls Try.prog 12 #[.int .i64 h, .int .i64 r, .int .i64 m] w fun e w' => e = .returned (.int .i64 (twG h r m)) ∧ Below w.heap.size w w' := by
  obtain ⟨t1, t2, k, hk⟩ := tmod_is h
  have h1 := tdiv_in64 (shw h) (shw_in h)
  have hq := clamp_mid (x := -((shw h).tdiv 64)) (lo := -(max m 0)) (hi := max m 0) (by omega)
  have hsh : (0 ≤ h.tmod 1048576 ∧ h.tmod 1048576 < 524288 ∧ shw h = h.tmod 1048576) ∨ (524288 ≤ h.tmod 1048576 ∧ shw h = h.tmod 1048576 - 1048576) ∨ (h.tmod 1048576 < -524288 ∧ shw h = h.tmod 1048576 + 1048576) ∨ (-524288 ≤ h.tmod 1048576 ∧ h.tmod 1048576 < 0 ∧ shw h = h.tmod 1048576) := by
    unfold shw
    omega
  unfold twG
  unfold I64 at hm
  generalize shw h = s at *
  clear hk
  generalize hM : max m 0 = M at *
  have CL := hide (fun W => rclampC (-(s.tdiv 64)) (-M) M W)
  generalize clamp (-(s.tdiv 64)) (-M) M = c at *
  have SB := hide (fun W => ref_sub_any c r W (by unfold I64; omega) hr)
  have h4 := tdiv_in4 (sat (c - r)) (sat_in _)
  have CM := hide (fun W => rclampC ((sat (c - r)).tdiv 4) (-100) 100 W)
  generalize sat (c - r) = d at *
  generalize clamp (d.tdiv 4) (-100) 100 = z at *
  go_enter Try.func12, Try.ntmps12
  go_upto_region 2 with fail
  generalize h.tmod 1048576 = t at *
  clear hr
  rcases hsh with ⟨g1, g2, rfl⟩ | ⟨g1, rfl⟩ | ⟨g1, rfl⟩ | ⟨g1, g2, rfl⟩
  all_goals
    go_upto_region 6 with fail
    try rw [show s + 1048576 - 1048576 = s by omega]
    go_upto_region 8 with (first | (go_at_call 26; refine (CL.out _).mono ?_; rintro e w1 ⟨rfl, hw⟩; obtain rfl := hw.symm))
    clear hq h1 CL
    go_wp2_with fail
    refine (SB.out _).mono ?_
    rintro e w2 ⟨rfl, b2⟩
    have H2 := hide b2
    clear b2
    go_wp2_with (first | (go_at_call 26; refine (CM.out _).mono ?_; rintro e w3 ⟨rfl, hw⟩; obtain rfl := hw.symm))
    go_ret
    exact ⟨rfl, H2.out⟩
set_option maxHeartbeats 1000000 in
theorem raxis_any (r ac : Int) (p : Wn) (x v : Int) (w : World) (hr : I64 r) (hac : I64 ac) (hp : WOk p) (hx : I64 x) (hv : I64 v) : Calls Try.prog 21 #[.int .i64 r, .int .i64 ac, wnV p, .int .i64 x, .int .i64 v] w fun e w' => e = .returned (.tuple #[.int .i64 (nx r ac p x), .int .i64 (ask (nx r ac p x) v)]) ∧ Below w.heap.size w w' := by
  have SL := hide (fun W => ref_slew_any r (aim p x ac) ac W hr (aim_i hp x ac) hac)
  have SU := hide (fun W => ref_sub_any (nx r ac p x) v W (nx_i hp x hr) hv)
  have CL := hide (fun W => rclampC (sat (nx r ac p x - v)) (-64) 64 W)
  rw [show slew r (aim p x ac) ac = nx r ac p x from rfl] at SL
  rw [show clamp (sat (nx r ac p x - v)) (-64) 64 = ask (nx r ac p x) v from rfl] at CL
  have SA := hide (fun W => ref_sub_any p.a x W hp.a hx)
  have LA := hide (fun W => rlaw_any (sat (p.a - x)) p.s ac W (sat_in _) hp.s hac)
  have EA : Hid (aim p x ac = if p.h = true then lawS (sat (p.a - x)) p.s ac else p.s) := hide rfl
  generalize ask (nx r ac p x) v = k at *
  generalize sat (nx r ac p x - v) = y at *
  generalize nx r ac p x = n at *
  generalize aim p x ac = m at *
  generalize lawS (sat (p.a - x)) p.s ac = l at *
  generalize sat (p.a - x) = u at *
  obtain ⟨h, a, s⟩ := p
  simp only at SA LA EA
  clear hr hac hp hx hv
  obtain ⟨W0, hW0, b0, D0, z0⟩ := one_box w (wnC ⟨h, a, s⟩) 38
  have Hb := hide b0
  have HD := hide D0
  clear b0 D0 z0
  obtain ⟨c0, c1, c2⟩ := three_cells HD.out
  cases h
  · obtain rfl : m = s := EA.out
    clear EA SA LA
    go_enter Try.func21, Try.ntmps21
    go_wp2_with fail
    refine (SL.out _).mono ?_
    rintro e w1 ⟨rfl, b1⟩
    have H1 := hide (below_next Hb.out (Nat.le_refl _) b1)
    clear b1 Hb
    go_wp2_with fail
    refine (SU.out _).mono ?_
    rintro e w2 ⟨rfl, b2⟩
    have H2 := hide (below_next H1.out (Nat.le_refl _) b2)
    clear b2 H1
    go_wp2_with fail
    refine (CL.out _).mono ?_
    rintro e w3 ⟨rfl, hw⟩
    obtain rfl := hw.symm
    go_wp2_with fail
    go_ret2
    exact ⟨rfl, H2.out⟩
  · obtain rfl : m = l := EA.out
    clear EA
    go_enter Try.func21, Try.ntmps21
    go_upto_region 3 with fail
    have e1 : ∀ x : BelowW W0, x.q.cell? ⟨w.heap.size, 1, none⟩ = some (.int .i64 a) := HD.out.at 1 rfl
    have e2 : ∀ x : BelowW W0, x.q.cell? ⟨w.heap.size, 2, none⟩ = some (.int .i64 s) := HD.out.at 2 rfl
    have hne : Nonempty (BelowW W0) := ⟨⟨W0, Below.refl _ _⟩⟩
    refine wp_region_calm (by kernel_rfl) (by kernel_rfl) ?_
    repeat (go_big_quiet_step (first
      | (go_at_call 24; exact calm_of (SA.out _))
      | (go_at_call 10; exact calm_of (LA.out _))))
    refine wpQuiet_nil ?_
    rintro _ ⟨z, rfl⟩
    replace Hb := hide (below_next Hb.out (Nat.le_refl _) z.h)
    clear e1 e2 hne SA LA
    go_wp2_with fail
    refine (SL.out _).mono ?_
    rintro e w1 ⟨rfl, b1⟩
    have H1 := hide (below_next Hb.out (Nat.le_refl _) b1)
    clear b1 Hb
    go_wp2_with fail
    refine (SU.out _).mono ?_
    rintro e w2 ⟨rfl, b2⟩
    have H2 := hide (below_next H1.out (Nat.le_refl _) b2)
    clear b2 H1
    go_wp2_with fail
    refine (CL.out _).mono ?_
    rintro e w3 ⟨rfl, hw⟩
    obtain rfl := hw.symm
    go_wp2_with fail
    go_ret2
    exact ⟨rfl, H2.out⟩
end Go.Proofs.Ythldohfjkjhdcaa
