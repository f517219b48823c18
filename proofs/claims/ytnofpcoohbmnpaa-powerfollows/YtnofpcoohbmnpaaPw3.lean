/- Package power: Tier, New. -/
import Derived.Test.YtnofpcoohbmnpaaPw2
namespace Go.Proofs.Ytnofpcoohbmnpaa
open Go.RowKit Go.Great

set_option maxHeartbeats 2000000 in
theorem tier_any (w : World) (B : Nat) (t : Ba) (h d : Int) (hB : Bat w B t) (ht : BOk t) : Calls Try.prog 16 #[bP B, .int .i64 h, .int .i64 d] w fun e w' => e = .returned (.int .u8 (tierI t h d)) ∧ Below w.heap.size w w' := by
  have hl := ht.snd.len
  have LA : Hid (∀ W, Bat W B t → Calls Try.prog 28 #[.slice (some ⟨B, 0, none⟩) 24 24, .int .i64 (clamp h 0 536870912)] W fun e w' => e = .returned (.tuple #[.int .i64 (lanT t.l h), .int .i64 (landE t.l (clamp h 0 536870912)).2]) ∧ Below W.heap.size W w') := hide (fun W hW => landTicks_any t.l _ _ W (hW.vals hl 24))
  have RE : Hid (∀ W, Bat W B t → Calls Try.prog 29 #[.slice (some ⟨B, 0, none⟩) 24 24, .int .i64 (clamp h 0 536870912), .int .i64 (clamp d 0 536870912)] W fun e w' => e = .returned (.tuple #[.int .i64 (retT t.l h d), .int .i64 (retE t.l (clamp h 0 536870912) (clamp d 0 536870912)).2]) ∧ Below W.heap.size W w') := hide (fun W hW => returnTicks_any t.l _ _ _ W (hW.vals hl 24))
  have C1 := hide (fun W => clamp_any h 0 536870912 W)
  have C2 := hide (fun W => clamp_any d 0 536870912 W)
  have l1 := lanT_in ht.snd h
  have r1 := retT_in ht.snd h d
  have HS := hide ht.snd
  have E : Hid (tierI t h d = if t.kn = false ∨ t.lo < need t.l (lanT t.l h) then 2 else if t.lo < need t.l (retT t.l h d + lanT t.l h) then 1 else 0) := hide rfl
  generalize clamp h 0 536870912 = ch at *
  generalize clamp d 0 536870912 = cd at *
  generalize lanT t.l h = a at *
  generalize retT t.l h d = b at *
  generalize (landE t.l ch).2 = e1 at *
  generalize (retE t.l ch cd).2 = e2 at *
  have NA : Hid (∀ W, Bat W B t → Calls Try.prog 30 #[bP B, .int .i64 a] W fun e w' => e = .returned (.int .i64 (need t.l a)) ∧ ∃ n, w' = W.drewN n) := hide (fun W hW => needs_any W B t a hW HS.out l1.1 (by omega))
  have NB : Hid (∀ W, Bat W B t → Calls Try.prog 30 #[bP B, .int .i64 (b + a)] W fun e w' => e = .returned (.int .i64 (need t.l (b + a))) ∧ ∃ n, w' = W.drewN n) := hide (fun W hW => needs_any W B t (b + a) hW HS.out (by omega) (by omega))
  generalize need t.l a = p at *
  generalize need t.l (b + a) = q at *
  have HB := hide hB
  clear hB ht
  go_enter Try.func16, Try.ntmps16
  go_upto_region 4 with (first | (go_at_call_of 27 h; refine (C1.out _).mono ?_; rintro e w1 ⟨rfl, hw⟩; obtain rfl := hw.symm) | (go_at_call_of 27 d; refine (C2.out _).mono ?_; rintro e w1 ⟨rfl, hw⟩; obtain rfl := hw.symm))
  go_upto_region 5 with (go_at_call 28; refine (LA.out _ HB.out).mono ?_; rintro e w1 ⟨rfl, hb1⟩)
  have HB1 := hide (HB.out.after hb1)
  have Hb1 := hide hb1
  clear hb1 HB
  go_upto_region 6 with (go_at_call 29; refine (RE.out _ HB1.out).mono ?_; rintro e w2 ⟨rfl, hb2⟩)
  have HB2 := hide (HB1.out.after hb2)
  have Hb2 := hide (below_next Hb1.out (Nat.le_refl _) hb2)
  clear hb2 HB1 Hb1
  have c25 := HB2.out.clo hl
  have c27 := HB2.out.ckn hl
  have hw : wrap64 (b + a) = b + a := by unfold wrap64; omega
  obtain ⟨k, hk⟩ : ∃ k, Hid (t.kn = k) := ⟨_, hide rfl⟩
  rw [hk.out] at c27 E
  clear l1 r1
  cases k
  · rw [show (if false = false ∨ t.lo < p then (2 : Int) else if t.lo < q then 1 else 0) = 2 by simp] at E
    go_quiet (fail)
    go_wp2_with fail
    go_ret
    rw [E.out]
    exact ⟨rfl, below_drewN Hb2.out nq⟩
  · go_quiet (first | (go_at_call 30; exact Calls.quiet_of (NA.out _ (blk_drewN HB2.out _))))
    have HB3 := hide (blk_drewN HB2.out nq)
    have Hb3 := hide (below_drewN Hb2.out nq)
    clear HB2 Hb2 c25 c27
    generalize w2.drewN nq = W3 at *
    by_cases h1 : t.lo < p
    · rw [show (if true = false ∨ t.lo < p then (2 : Int) else if t.lo < q then 1 else 0) = 2 by simp [h1]] at E
      go_wp2_with fail
      go_ret
      rw [E.out]
      exact ⟨rfl, Hb3.out⟩
    · have c25 := HB3.out.clo hl
      go_upto_region 8 with fail
      go_quiet (first | (go_at_call 30; exact Calls.quiet_of (NB.out _ (blk_drewN HB3.out _))))
      have Hb4 := hide (below_drewN Hb3.out nq)
      clear HB3 Hb3 c25
      generalize W3.drewN nq = W4 at *
      by_cases h2 : t.lo < q
      · rw [show (if true = false ∨ t.lo < p then (2 : Int) else if t.lo < q then 1 else 0) = 1 by simp [h1, h2]] at E
        go_wp2_with fail
        go_ret
        rw [E.out]
        exact ⟨rfl, Hb4.out⟩
      · rw [show (if true = false ∨ t.lo < p then (2 : Int) else if t.lo < q then 1 else 0) = 0 by simp [h1, h2]] at E
        go_wp2_with fail
        go_ret
        rw [E.out]
        exact ⟨rfl, Hb4.out⟩
end Go.Proofs.Ytnofpcoohbmnpaa
