/- Encode of package msgs (layer 5's text over In0). -/
import Derived.Test.YtimkfipiebppiaaMtC
import Derived.Test.YtimkfipiebppiaaMtB
namespace Go.Proofs.Ytimkfipiebppiaa
open Go.RowKit Go.Great

set_option maxRecDepth 100000 in
set_option maxHeartbeats 2000000 in
theorem mencode_any (seq k : Int) (hk0 : 0 ≤ k) (hk1 : k ≤ 255) (ns : List Int) (u : Value) (w : World) (hu : Ints w u ns) (hns : ns.length ≤ 9223372036854775807) : Calls Try.prog 14 #[.int .i64 seq, .agg #[.int .u8 k, u]] w fun e w' => e = .returned (.tuple #[.agg #[.int .i64 (encM seq k ns).1.1, .int .i64 (encM seq k ns).1.2.1, .string (encM seq k ns).1.2.2], .int .i64 (encM seq k ns).2]) ∧ Below w.heap.size w w' := by
  have HU := hide hu
  obtain ⟨au, cu, rfl, _⟩ := hu
  have hWI := fun W => widths_any k W
  have hl7 := wsK_len k
  by_cases h1 : (wsK k).length = 0
  · have HE : Hid (encM seq k ns = ((0, 0, ⟨#[]⟩), 6)) := encM_kind _ _ _ h1
    have HL := hide h1
    rw [HE.out]
    clear h1 hl7
    go_enter Try.func14, Try.ntmps14
    go_wp2_with fail
    refine (hWI _).mono ?_
    rintro e w1 ⟨v, rfl, hI, hB⟩
    obtain ⟨hM, hF, hI2, hB1⟩ := enc_start HU.out hB
    obtain ⟨av, cv, rfl, _⟩ := hI
    rw [wpK_len, HL.out]
    have HB1 := hide hB1
    have c0 := hF.c0
    have c1 := hF.c1
    have c2 := hF.c2
    have fz := hF.fz
    have HF := hide hF
    clear hM hF hI2 hB hB1 hWI
    go_wp2_with fail
    refine bodyPost_ret (frame_back Try.results14 _ _ (w.heap.size + 1) _ _ _ _ _ rfl rfl (HF.out.set _ _ _)) rfl ?_
    exact ⟨rfl, below_set3 HB1.out (by omega) _ _ _⟩
  · by_cases h2 : ns.length = (wsK k).length
    · have HW := hide (wsK_wid k)
      have HOK := fun a b => hide (encM_ok seq k ns h1 h2 a b)
      have HNO := fun a => hide (encM_range seq k ns h1 h2 a)
      generalize encM seq k ns = E at HOK HNO
      unfold wpK at hWI
      generalize wsK k = ws at hWI hl7 h1 h2 HW HOK HNO
      have hfi := fun v w hv hu => fit_any ws ns HW.out hl7 h2 v (.slice au ns.length cu) w hv hu
      have hpa := fun v w hv hu => payload_any ws ns HW.out hl7 h2 v (.slice au ns.length cu) w hv hu
      obtain ⟨m, hm⟩ : ∃ m, ws.length = m := ⟨_, rfl⟩
      rw [hm] at h1 h2 hl7 HOK HNO hfi hpa
      have HM := hide hm
      have HN2 := hide h2
      rw [h2] at hfi hpa
      rw [h2]
      have hl0 : ((m : Int) == 0) = false := by rw [beq_eq_false_iff_ne]; omega
      clear h2 hm
      have hs : seq < 0 ∨ (0 ≤ seq ∧ 255 < seq) ∨ (0 ≤ seq ∧ seq ≤ 255) := by omega
      rcases hs with hs | ⟨hs, hs2⟩ | ⟨hs, hs2⟩
      · have HE : Hid (E = ((0, 0, ⟨#[]⟩), 5)) := (HNO (.inl (by omega))).out
        rw [HE.out]
        clear HE HNO HOK hfi hpa
        go_enter Try.func14, Try.ntmps14
        go_wp2_with fail
        refine (hWI _).mono ?_
        rintro e w1 ⟨v, rfl, hI, hB⟩
        obtain ⟨hM, hF, hI2, hB1⟩ := enc_start HU.out (by rw [HN2.out]; exact hB)
        rw [HN2.out] at hM
        have HI := hide hI
        have HI2 : Hid (Ints w1 (.slice au m cu) ns) := by show Ints _ _ _; rw [← HN2.out]; exact hI2
        obtain ⟨av, cv, rfl, _⟩ := hI
        rw [List.length_map, HM.out] at HI ⊢
        have HB1 := hide hB1
        have m0 := hM.c0
        have m1 := hM.c1
        have c0 := hF.c0
        have c1 := hF.c1
        have c2 := hF.c2
        have fz := hF.fz
        have HF := hide hF
        have HMs := hide hM
        clear hM hF hB hB1 hWI hI2
        go_wp2_with fail
        refine bodyPost_ret (frame_back Try.results14 _ _ (w.heap.size + 1) _ _ _ _ _ rfl rfl (HF.out.set _ _ _)) rfl ?_
        exact ⟨rfl, below_set3 HB1.out (by omega) _ _ _⟩
      · have HE : Hid (E = ((0, 0, ⟨#[]⟩), 5)) := (HNO (.inl (by omega))).out
        rw [HE.out]
        clear HE HNO HOK hfi hpa
        go_enter Try.func14, Try.ntmps14
        go_wp2_with fail
        refine (hWI _).mono ?_
        rintro e w1 ⟨v, rfl, hI, hB⟩
        obtain ⟨hM, hF, hI2, hB1⟩ := enc_start HU.out (by rw [HN2.out]; exact hB)
        rw [HN2.out] at hM
        have HI := hide hI
        have HI2 : Hid (Ints w1 (.slice au m cu) ns) := by show Ints _ _ _; rw [← HN2.out]; exact hI2
        obtain ⟨av, cv, rfl, _⟩ := hI
        rw [List.length_map, HM.out] at HI ⊢
        have HB1 := hide hB1
        have m0 := hM.c0
        have m1 := hM.c1
        have c0 := hF.c0
        have c1 := hF.c1
        have c2 := hF.c2
        have fz := hF.fz
        have HF := hide hF
        have HMs := hide hM
        clear hM hF hB hB1 hWI hI2
        go_wp2_with fail
        refine bodyPost_ret (frame_back Try.results14 _ _ (w.heap.size + 1) _ _ _ _ _ rfl rfl (HF.out.set _ _ _)) rfl ?_
        exact ⟨rfl, below_set3 HB1.out (by omega) _ _ _⟩
      · cases hft : fitsK ws ns m with
        | false =>
          have HE : Hid (E = ((0, 0, ⟨#[]⟩), 5)) := (HNO (.inr hft)).out
          rw [HE.out]
          rw [hft] at hfi
          clear HE HNO HOK hpa hft
          go_enter Try.func14, Try.ntmps14
          go_wp2_with fail
          refine (hWI _).mono ?_
          rintro e w1 ⟨v, rfl, hI, hB⟩
          obtain ⟨hM, hF, hI2, hB1⟩ := enc_start HU.out (by rw [HN2.out]; exact hB)
          rw [HN2.out] at hM
          have HI := hide hI
          have HI2 : Hid (Ints w1 (.slice au m cu) ns) := by show Ints _ _ _; rw [← HN2.out]; exact hI2
          obtain ⟨av, cv, rfl, _⟩ := hI
          rw [List.length_map, HM.out] at HI ⊢
          have HB1 := hide hB1
          have m0 := hM.c0
          have m1 := hM.c1
          have c0 := hF.c0
          have c1 := hF.c1
          have c2 := hF.c2
          have fz := hF.fz
          have HF := hide hF
          have HMs := hide hM
          clear hM hF hB hB1 hWI hI2
          go_wp2_with fail
          clear c0 c1 c2 fz m0 m1
          refine (hfi _ _ HI.out HI2.out).mono ?_
          rintro e w2 ⟨rfl, q, rfl⟩
          have c0 := (HF.out.drewN q).c0
          have c1 := (HF.out.drewN q).c1
          have c2 := (HF.out.drewN q).c2
          have fz := (HF.out.drewN q).fz
          go_wp2_with fail
          refine bodyPost_ret (frame_back Try.results14 _ _ (w.heap.size + 1) _ _ _ _ _ rfl rfl ((HF.out.drewN q).set _ _ _)) rfl ?_
          exact ⟨rfl, below_set3 (below_drewN HB1.out q) (by omega) _ _ _⟩
        | true =>
          have HE : Hid (E = ((seq, k, bs (payK ws ns m)), 0)) := (HOK ⟨hs, hs2⟩ hft).out
          rw [HE.out]
          rw [hft] at hfi
          generalize bs (payK ws ns m) = tx at hpa
          clear HE HNO HOK hft
          go_enter Try.func14, Try.ntmps14
          go_wp2_with fail
          refine (hWI _).mono ?_
          rintro e w1 ⟨v, rfl, hI, hB⟩
          obtain ⟨hM, hF, hI2, hB1⟩ := enc_start HU.out (by rw [HN2.out]; exact hB)
          rw [HN2.out] at hM
          have HI := hide hI
          have HI2 : Hid (Ints w1 (.slice au m cu) ns) := by show Ints _ _ _; rw [← HN2.out]; exact hI2
          obtain ⟨av, cv, rfl, _⟩ := hI
          rw [List.length_map, HM.out] at HI ⊢
          have HB1 := hide hB1
          have m0 := hM.c0
          have m1 := hM.c1
          have c0 := hF.c0
          have c1 := hF.c1
          have c2 := hF.c2
          have fz := hF.fz
          have HF := hide hF
          have HMs := hide hM
          clear hM hF hB hB1 hWI hI2
          go_wp2_with fail
          clear c0 c1 c2 fz m0 m1
          refine (hfi _ _ HI.out HI2.out).mono ?_
          rintro e w2 ⟨rfl, q, hw2⟩
          have HF2 : Hid (Frm w2 (w.heap.size + 1) (.int .i64 0) (.int .i64 0) (.string ⟨#[]⟩)) := by show Frm _ _ _ _ _; rw [hw2]; exact HF.out.drewN q
          have HM2 : Hid (Msg w2 w.heap.size (.int .u8 k) (.slice au m cu)) := by show Msg _ _ _ _; rw [hw2]; exact HMs.out.drewN q
          have HI' := hide (show Ints w2 _ _ by rw [hw2]; exact HI.out.drewN q)
          have HI2' := hide (show Ints w2 _ _ by rw [hw2]; exact HI2.out.drewN q)
          have HB2 : Hid (Below w.heap.size w w2) := by show Below _ _ _; rw [hw2]; exact below_drewN HB1.out q
          have m0 := HM2.out.c0
          have m1 := HM2.out.c1
          have c0 := HF2.out.c0
          have c1 := HF2.out.c1
          have c2 := HF2.out.c2
          have fz := HF2.out.fz
          clear hw2 HF HMs HI HI2 HB1 hfi
          go_wp2_with fail
          clear hs hs2 hl0
          have hwk : IntKind.i64.wrap k = k := by rw [IntKind.wrap_i64]; omega
          go_region_held3 (fun wx => wx.cell? ⟨w.heap.size, 0, none⟩ = some (.int .u8 k) ∧ wx.cell? ⟨w.heap.size, 1, none⟩ = some (.slice au m cu)) (go_keep) (first | (go_at_call 37; refine (hpa _ _ (by exact HI'.out) (by exact HI2'.out)).mono ?_; rintro e w3 ⟨rfl, hB3⟩; replace hB3 := below_undrew hB3; have m03 := (HM2.out.below hB3).c0; have m13 := (HM2.out.below hB3).c1; have c03 := (HF2.out.below hB3).c0; have c13 := (HF2.out.below hB3).c1; have c23 := (HF2.out.below hB3).c2; have fz3 := (HF2.out.below hB3).fz; have HB3 := hide hB3; clear hB3))
          all_goals go_wp2_with fail
          all_goals refine bodyPost_ret (frame_back Try.results14 _ _ (w.heap.size + 1) _ _ _ _ _ rfl rfl ((HF2.out.below HB3.out).set _ _ _)) rfl ?_
          all_goals exact ⟨rfl, below_set3 (below_next HB2.out (Nat.le_refl _) HB3.out) (by omega) _ _ _⟩
    · have HE : Hid (encM seq k ns = ((0, 0, ⟨#[]⟩), 50)) := encM_count _ _ _ h1 h2
      have hne : ((ns.length : Int) != ((wsK k).length : Int)) = true := by simp; omega
      have hl0 : (((wsK k).length : Int) == 0) = false := by rw [beq_eq_false_iff_ne]; omega
      rw [HE.out]
      clear h2 HE h1
      unfold wpK at hWI
      generalize wsK k = ws at hWI hl7 hne hl0
      generalize hq : ns.length = q at hne hns
      have HQ := hide hq
      clear hq
      go_enter Try.func14, Try.ntmps14
      go_wp2_with fail
      refine (hWI _).mono ?_
      rintro e w1 ⟨v, rfl, hI, hB⟩
      obtain ⟨hM, hF, _, hB1⟩ := enc_start HU.out (by rw [HQ.out]; exact hB)
      rw [HQ.out] at hM
      obtain ⟨av, cv, rfl, _⟩ := hI
      rw [List.length_map]
      generalize ws.length = m at hne hl0 hl7
      have HB1 := hide hB1
      have m0 := hM.c0
      have m1 := hM.c1
      have c0 := hF.c0
      have c1 := hF.c1
      have c2 := hF.c2
      have fz := hF.fz
      have HF := hide hF
      clear hM hF hB hB1 hWI
      go_wp2_with fail
      refine bodyPost_ret (frame_back Try.results14 _ _ (w.heap.size + 1) _ _ _ _ _ rfl rfl (HF.out.set _ _ _)) rfl ?_
      exact ⟨rfl, below_set3 HB1.out (by omega) _ _ _⟩
end Go.Proofs.Ytimkfipiebppiaa
