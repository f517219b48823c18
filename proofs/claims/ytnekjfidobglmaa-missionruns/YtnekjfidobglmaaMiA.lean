/- The examples that each statement of layer 19 looks at ('awake'). -/
import Derived.Test.YtnekjfidobglmaaMiS
namespace Go.Proofs.Ytnekjfidobglmaa
open Go.RowKit Go.Great Go.Maps

set_option maxHeartbeats 4000000 in
set_option maxRecDepth 100000 in
theorem awakeM (w : World) : Calls Try.prog 16 #[] w fun e w' => e = .returned (.bool true) ∧ Below w.heap.size w w' := by
  have TO := hide tour_any
  have EG := eql_goal 1 0 0 2000 16000
  go_enter Try.func16, Try.ntmps16
  go_wp2_with fail
  refine (TO.out w).mono ?_
  rintro e w1 ⟨v1, rfl, hv1, hb1⟩
  have HV1 := hide hv1
  have Hb := hide hb1
  obtain ⟨a1, c1, rfl⟩ := hv1.shape
  clear hv1 hb1
  simp only [show trL.length = 4 from rfl] at HV1 ⊢
  go_wp2_with fail
  refine (new_any 16000 trL _ w1 HV1.out.rws).mono ?_
  rintro e w2 ⟨hb2, h2⟩
  rcases h2 with ⟨h2, _⟩ | ⟨_, R, rfl, hRl, hR⟩
  · exact absurd tr_chk h2
  have HR := hide hR
  have hRw : w.heap.size ≤ R := by have := Hb.out.size; omega
  replace Hb := hide (below_next Hb.out (Nat.le_refl _) hb2)
  clear hb2 hRl hR HV1
  go_wp2_with fail
  refine (TO.out w2).mono ?_
  rintro e w3 ⟨v3, rfl, hv3, hb3⟩
  have HV := hide hv3
  replace Hb := hide (below_next Hb.out (Nat.le_refl _) hb3)
  replace HR := hide (HR.out.grown hb3)
  obtain ⟨a3, c3, rfl⟩ := hv3.shape
  clear hv3 hb3
  simp only [show trL.length = 4 from rfl] at HV ⊢
  go_wp2_with fail
  have EN := encode_any trL _ w3 HV.out.rws
  rw [tr_chk] at EN
  refine EN.mono ?_
  rintro e w4 ⟨rfl, hb4⟩
  replace Hb := hide (below_next Hb.out (Nat.le_refl _) hb4)
  replace HR := hide (HR.out.grown hb4)
  clear hb4 HV EN
  have DE := hide (fun W => decode_any (bs (encA trL)) (by rw [bs_size, tr_enc]; omega) W)
  rw [bs_list, tr_dec.1, tr_dec.2] at DE
  have hsz : (bs (encA trL)).size = 53 := by rw [bs_size, tr_enc]
  generalize bs (encA trL) = B at *
  go_wp2_with fail
  refine (DE.out w4).mono ?_
  rintro e w5 ⟨v5, rfl, hv5, hb5⟩
  have HV := hide hv5
  replace Hb := hide (below_next Hb.out (Nat.le_refl _) hb5)
  replace HR := hide (HR.out.grown hb5)
  obtain ⟨a5, c5, rfl⟩ := hv5.shape
  clear hv5 hb5 DE
  simp only [show trL.length = 4 from rfl] at HV ⊢
  go_wp2_with fail
  refine (TO.out w5).mono ?_
  rintro e w6 ⟨v6, rfl, hv6, hb6⟩
  have HV6 := hide hv6
  replace HV := hide (HV.out.below hb6)
  replace Hb := hide (below_next Hb.out (Nat.le_refl _) hb6)
  replace HR := hide (HR.out.grown hb6)
  obtain ⟨a6, c6, rfl⟩ := hv6.shape
  clear hv6 hb6 TO
  simp only [show trL.length = 4 from rfl] at HV6 ⊢
  go_wp2_with fail
  refine (same_true trL _ _ w6 HV.out.rws HV6.out.rws).mono ?_
  rintro e w7 ⟨rfl, hb7⟩
  replace Hb := hide (below_next Hb.out (Nat.le_refl _) hb7)
  replace HR := hide (HR.out.grown hb7)
  clear hb7 HV HV6
  go_wp2_with fail
  have GO := goal_any w7 R 0 (rn0 16000 trL) HR.out (Nat.zero_le _)
  rw [tr0_goal] at GO
  refine GO.mono ?_
  rintro e w8 ⟨rfl, hb8⟩
  have HG := hide (Blk.new w8 (gC 1 0 0 2000 16000) 50)
  replace HR := hide ((HR.out.grown hb8).alloc (.cells (gC 1 0 0 2000 16000) 50))
  replace Hb := hide (below_next (below_next Hb.out (Nat.le_refl _) hb8) (Nat.le_refl _) (below_alloc w8 (.cells (gC 1 0 0 2000 16000) 50)))
  clear hb8 GO
  have hRg : R ≠ w8.heap.size := by
    intro e
    obtain ⟨_, _, hB, _⟩ := HR.out
    have h2 := HG.out
    unfold Blk at hB h2
    rw [e, h2] at hB
    simp at hB
  go_upto_region 7 with fail
  generalize w8.alloc (.cells (gC 1 0 0 2000 16000) 50) = W8 at *
  generalize w8.heap.size = q at *
  have ok0 : ROk (rn0 16000 trL) := rn0_ok tr_chk
  go_wp2_with fail
  refine (step_any W8 R 0 _ true HR.out ok0 (by unfold maxLen; omega)).mono ?_
  rintro e w9 ⟨rfl, hR9, hG9⟩
  replace HG := hide (HG.out.grown hG9 (by intro e; injection e with e; exact hRg e))
  replace HR := hide hR9
  replace Hb := hide (below_grown Hb.out hG9 (fun k e => by injection e with e; omega))
  clear hR9 hG9
  go_wp2_with fail
  refine (step_any w9 R 1 _ true HR.out (ok0.step true) (by unfold maxLen; omega)).mono ?_
  rintro e w10 ⟨rfl, hR9, hG9⟩
  replace HG := hide (HG.out.grown hG9 (by intro e; injection e with e; exact hRg e))
  replace HR := hide hR9
  replace Hb := hide (below_grown Hb.out hG9 (fun k e => by injection e with e; omega))
  clear hR9 hG9
  go_wp2_with fail
  refine (step_any w10 R 2 _ false HR.out ((ok0.step true).step true) (by unfold maxLen; omega)).mono ?_
  rintro e w11 ⟨rfl, hR9, hG9⟩
  replace HG := hide (HG.out.grown hG9 (by intro e; injection e with e; exact hRg e))
  replace HR : Hid (RunB w11 R 3 tr3) := hide hR9
  replace Hb := hide (below_grown Hb.out hG9 (fun k e => by injection e with e; omega))
  clear hR9 hG9
  obtain ⟨g0, g1, g2, g3, g4⟩ := goal_cells HG.out
  have IX := index_any w11 R 3 tr3 HR.out
  have OV := over_any w11 R 3 tr3 HR.out
  rw [tr3_p.1] at IX OV
  rw [tr3_p.2] at OV
  go_wp2_with (first | (go_at_call 26; refine IX.mono ?_; rintro e w12 ⟨rfl, hw⟩; obtain rfl := hw.symm))
  refine OV.mono ?_
  rintro e w12 ⟨rfl, kk, hw⟩
  replace Hb : Hid (Below w.heap.size w w12) := hide (by rw [hw]; exact below_drewN Hb.out kk)
  clear hw IX OV HR HG g0 g1 g2 g3 g4
  go_wp2_with fail
  have CK := check_any [⟨0, 0, 0, 0⟩] _ _ (mrow_new w12 [⟨0, 0, 0, 0⟩] 1 #[.int .u8 0, .int .i64 0, .int .i64 0, .int .i64 0] rfl rfl (by omega) w12.heap.size (Nat.le_refl _)).rws
  rw [one_chk] at CK
  refine CK.mono ?_
  rintro e w13 ⟨rfl, hb13⟩
  replace Hb := hide (below_next (below_next Hb.out (Nat.le_refl _) (below_alloc _ _)) (Nat.le_refl _) hb13)
  clear hb13 CK
  go_wp2_with fail
  go_ret
  exact ⟨rfl, Hb.out⟩
set_option maxHeartbeats 1000000 in
theorem MissionNil_walk (b : Bool) (w : World) : Calls Try.prog 9 #[.bool b] w fun e w' => e = .returned (.bool true) ∧ Below w.heap.size w w' := by
  have EQ := eql_goal 0 0 0 0 0
  have AW := hide awakeM
  have ST := hide (stepNil b)
  have GO := hide goalNil
  have IX := hide index_nil
  have OV := hide over_nil
  go_enter Try.func9, Try.ntmps9
  go_wp2_with fail
  refine (ST.out w).mono ?_
  rintro e w1 ⟨rfl, hb1⟩
  have Hb := hide hb1
  clear hb1
  go_wp2_with fail
  refine (GO.out w1).mono ?_
  rintro e w2 ⟨rfl, hb2⟩
  replace Hb := hide (below_next Hb.out (Nat.le_refl _) hb2)
  clear hb2
  go_wp2_with (first | (go_at_call 26; refine (IX.out _).mono ?_; rintro e w12 ⟨rfl, hw⟩; obtain rfl := hw.symm))
  refine (OV.out _).mono ?_
  rintro e w3 ⟨rfl, kk, hw⟩
  replace Hb : Hid (Below w.heap.size w w3) := hide (by rw [hw]; exact below_drewN Hb.out kk)
  clear hw
  go_wp2_with fail
  refine (AW.out _).mono ?_
  rintro e w4 ⟨rfl, hb4⟩
  go_wp2_with fail
  go_ret
  exact ⟨rfl, below_next Hb.out (Nat.le_refl _) hb4⟩
end Go.Proofs.Ytnekjfidobglmaa
