/- How long returning takes, how far a vehicle may be, by the reference. -/
import Derived.Test.YtnofpcoohbmnpaaPr4
namespace Go.Proofs.Ytnofpcoohbmnpaa
open Go.RowKit Go.Great

set_option maxRecDepth 100000 in
set_option maxHeartbeats 4000000 in
theorem rreturnTicks_any (l : List Int) (h d : Int) (v : Value) (w : World) (hv : Ints w v l) : Calls Try.prog 52 #[v, .int .i64 h, .int .i64 d] w fun e w' => e = .returned (.tuple #[.int .i64 (retE l h d).1, .int .i64 (retE l h d).2]) ∧ Below w.heap.size w w' := by
  have hm := rcheck_any l v w hv
  have HW1 := fun W => hide (far_any h W)
  have HW2 := fun W => hide (far_any d W)
  rcases retE_cases l h d with ⟨hc, hE⟩ | ⟨hs, hin, hE⟩ | ⟨hs, hin, hE⟩
  · rw [hE]
    obtain ⟨a, cap, rfl, _⟩ := hv
    generalize chk l = c at hm hc ⊢
    generalize l.length = n at hm ⊢
    have hne : (c != 0) = true := by simp [hc]
    clear hc hE
    go_enter Try.func52, Try.ntmps52
    go_wp2_with fail
    refine hm.mono ?_
    rintro e w1 ⟨rfl, hB1⟩
    have HB1 := hide hB1
    clear hB1 hm
    go_wp2_with fail
    go_ret2
    exact ⟨rfl, HB1.out⟩
  · rw [hE]
    rw [hs.chk] at hm
    obtain ⟨a, cap, rfl, _⟩ := hv
    generalize l.length = n at hm ⊢
    by_cases h1 : 0 ≤ h ∧ h ≤ 536870912
    · rw [in_yes h h1] at HW1
      rw [in_no d (fun h2 => hin ⟨h1, h2⟩)] at HW2
      clear hE hs hin h1
      go_enter Try.func52, Try.ntmps52
      go_wp2_with fail
      refine hm.mono ?_
      rintro e w1 ⟨rfl, hB1⟩
      have HB1 := hide hB1
      clear hB1 hm
      go_wp2_with fail
      refine (HW1 _).out.mono ?_
      rintro e w2 ⟨rfl, hw2⟩
      obtain rfl := hw2.symm
      go_wp2_with fail
      refine (HW2 _).out.mono ?_
      rintro e w2 ⟨rfl, hw2⟩
      obtain rfl := hw2.symm
      go_wp2_with fail
      go_ret2
      exact ⟨rfl, HB1.out⟩
    · rw [in_no h h1] at HW1
      clear hE hs hin h1 HW2
      go_enter Try.func52, Try.ntmps52
      go_wp2_with fail
      refine hm.mono ?_
      rintro e w1 ⟨rfl, hB1⟩
      have HB1 := hide hB1
      clear hB1 hm
      go_wp2_with fail
      refine (HW1 _).out.mono ?_
      rintro e w2 ⟨rfl, hw2⟩
      obtain rfl := hw2.symm
      go_wp2_with fail
      go_ret2
      exact ⟨rfl, HB1.out⟩
  · rw [hE]
    rw [hs.chk] at hm
    rw [in_yes h hin.1] at HW1
    rw [in_yes d hin.2] at HW2
    have HV := hide hv
    have HAx := hide (fun dd x a1 a2 a3 a4 W hW => axis_any l hs dd x a1 a2 a3 a4 v W hW)
    obtain ⟨g, o, cap, rfl, hg, hcc⟩ := hv.open24 hs.len
    obtain ⟨-, -, -, -, -, -, b6, b7, b8, b9, b10, -⟩ := hs.inr.bounds
    have c6 := hcc 6 (by omega)
    have c7 := hcc 7 (by omega)
    have c8 := hcc 8 (by omega)
    have c9 := hcc 9 (by omega)
    have c10 := hcc 10 (by omega)
    unfold retI
    simp only
    generalize l.getD 6 0 = p6 at b6 c6 HAx ⊢
    generalize l.getD 7 0 = p7 at b7 c7 ⊢
    generalize l.getD 8 0 = p8 at b8 c8 ⊢
    generalize l.getD 9 0 = p9 at b9 c9 ⊢
    generalize l.getD 10 0 = p10 at b10 c10 ⊢
    obtain ⟨mx, HMX⟩ : ∃ x, Hid ((if h < p10 then p10 else h) = x) := ⟨_, rfl⟩
    have hmx : max h p10 = mx := by rw [← HMX.out]; split <;> omega
    rw [hmx]
    have hmb : 1000 ≤ mx ∧ mx ≤ 536870912 := by have := hmx; omega
    have l1 := leg_in (mx + 1000) p8 p6 (by omega) (by omega) (by omega) (by omega) (by omega)
    have l2 := leg_in d p7 p6 (by omega) (by omega) (by omega) (by omega) (by omega)
    have L1 := fun W hW => hide (HAx.out (mx + 1000) p8 (by omega) (by omega) (by omega) (by omega) W hW)
    have L2 := fun W hW => hide (HAx.out d p7 (by omega) (by omega) (by omega) (by omega) W hW)
    have U1 := fun W => hide (rup_any (12800 * (mx + 1000)) p9 W (by omega) (by omega))
    have u1 := upI_in (12800 * (mx + 1000)) p9 (by omega) (by omega)
    have q1 := (ediv_in (p8 + p9) p6 (by omega)).1 (by omega)
    have t1 : (p8 + p9).tdiv p6 = (p8 + p9) / p6 := Int.tdiv_eq_ediv_of_nonneg (by omega)
    generalize legI (mx + 1000) p8 p6 = x1 at l1 L1 ⊢
    generalize legI d p7 p6 = x2 at l2 L2 ⊢
    generalize upI (12800 * (mx + 1000)) p9 = x3 at u1 U1 ⊢
    generalize (p8 + p9) / p6 = x4 at q1 t1 ⊢
    clear hE hs hcc hv hmx HAx
    go_enter Try.func52, Try.ntmps52
    go_wp2_with fail
    refine hm.mono ?_
    rintro e w1 ⟨rfl, hB1⟩
    have HB1 := hide hB1
    have HV1 : Hid (∀ q, Ints (w1.drewN q) (.slice (some ⟨g, o, none⟩) 24 cap) l) := fun q => (HV.out.below hB1).drewN q
    replace c6 := (hB1.cell (p := ⟨g, o + 6, none⟩) hg).trans c6
    replace c7 := (hB1.cell (p := ⟨g, o + 7, none⟩) hg).trans c7
    replace c8 := (hB1.cell (p := ⟨g, o + 8, none⟩) hg).trans c8
    replace c9 := (hB1.cell (p := ⟨g, o + 9, none⟩) hg).trans c9
    replace c10 := (hB1.cell (p := ⟨g, o + 10, none⟩) hg).trans c10
    clear hB1 hm HV
    go_wp2_with fail
    refine (HW1 _).out.mono ?_
    rintro e w2 ⟨rfl, hw2⟩
    obtain rfl := hw2.symm
    clear hw2
    go_wp2_with fail
    refine (HW2 _).out.mono ?_
    rintro e w2 ⟨rfl, hw2⟩
    obtain rfl := hw2.symm
    clear hw2 HW1 HW2
    have hmi := HMX.out
    go_wp2_with fail
    clear hmi
    go_quiet (first | (go_at_call_of 66 mx; exact Calls.quiet_of (L1 _ (HV1.out _)).out) | (go_at_call_of 66 d; exact Calls.quiet_of (L2 _ (HV1.out _)).out) | (go_at_call 39; exact Calls.quiet_of_same (U1 _).out))
    have HB3 := hide (below_drewN HB1.out nq)
    go_wp2_with fail
    go_ret2
    exact ⟨rfl, HB3.out⟩
end Go.Proofs.Ytnofpcoohbmnpaa
