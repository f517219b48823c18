/- Decode of package msgs. -/
import Derived.Test.YtgdjphiicgiegaaMs7
namespace Go.Proofs.Ytgdjphiicgiegaa
open Go.RowKit Go.Great

theorem IRow.lower {w : World} {base b2 : Nat} {v : Value} {l : List Int} (h : IRow w base v l) (hb : b2 ≤ base) : IRow w b2 v l := by
  refine ⟨h.1, ?_⟩
  rcases h.2 with h1 | ⟨g, cap, cur, h1, h2, h3⟩
  · exact .inl h1
  · exact .inr ⟨g, cap, cur, h1, Nat.le_trans hb h2, h3⟩
theorem IRow.setCell {w : World} {base : Nat} {v : Value} {l : List Int} (h : IRow w base v l) {a : Addr} (ha : a.block < base) (x : Value) : IRow (w.setCell a x) base v l := ownsRow_setCell_below h ha x
theorem decM_kind (id : Int) (p : ByteArray) (h1 : (wsK id).length = 0) : decM id p = ((0, []), 6) := by unfold decM; rw [if_pos h1]
theorem decM_size (id : Int) (p : ByteArray) (h1 : (wsK id).length ≠ 0) (h2 : p.size ≠ totK (wsK id) (wsK id).length) : decM id p = ((0, []), 3) := by unfold decM; rw [if_neg h1, if_pos h2]
theorem decM_ok (id : Int) (p : ByteArray) (h1 : (wsK id).length ≠ 0) (h2 : p.size = totK (wsK id) (wsK id).length) : decM id p = ((id, fieK (wsK id) p.data.toList (wsK id).length), 0) := by unfold decM; rw [if_neg h1, if_neg (by omega)]
/-- behind the call of widths -/
theorem dec_start {w w1 : World} {s id : Int} {p : ByteArray} (hB : Below ((w.alloc (.cells #[.int .i64 s, .int .i64 id, .string p] 28)).alloc (.cells #[.int .u8 0, .slice none 0 0] 25)).heap.size ((w.alloc (.cells #[.int .i64 s, .int .i64 id, .string p] 28)).alloc (.cells #[.int .u8 0, .slice none 0 0] 25)) w1) : Frm w1 w.heap.size (.int .i64 s) (.int .i64 id) (.string p) ∧ Msg w1 (w.heap.size + 1) (.int .u8 0) (.slice none 0 0) ∧ Below w.heap.size w w1 ∧ w.heap.size + 2 ≤ w1.heap.size := by
  refine ⟨((frm_new w _ _ _).below (below_alloc _ _)).below hB, ?_, below_over (below_over hB), ?_⟩
  · have := (msg_new (w.alloc (.cells #[.int .i64 s, .int .i64 id, .string p] 28)) (.int .u8 0) (.slice none 0 0)).below hB
    rw [size_alloc] at this
    exact this
  · have := hB.size
    rw [size_alloc, size_alloc] at this
    exact this
set_option maxHeartbeats 2000000 in
theorem mdecode_any (s id : Int) (p : ByteArray) (w : World) : Calls Try.prog 14 #[.agg #[.int .i64 s, .int .i64 id, .string p]] w fun e w' => ∃ u, e = .returned (.tuple #[.agg #[.int .u8 (decM id p).1.1, u], .int .i64 (decM id p).2]) ∧ IRow w' w.heap.size u (decM id p).1.2 ∧ Below w.heap.size w w' := by
  have hWI := fun W => widths_any id W
  have hl7 := wsK_len id
  unfold wpK at hWI
  by_cases h1 : (wsK id).length = 0
  · rw [decM_kind id p h1]
    have HL := hide h1
    clear h1 hl7
    go_enter Try.func14, Try.ntmps14
    go_wp2_with fail
    refine (hWI _).mono ?_
    rintro e w1 ⟨v, rfl, hI, hB⟩
    obtain ⟨hF, hM, hB1, hz⟩ := dec_start hB
    obtain ⟨av, cv, rfl, _⟩ := hI
    rw [List.length_map, HL.out]
    have HB1 := hide hB1
    have c0 := hM.c0
    have c1 := hM.c1
    have fz := hM.fz
    have HMs := hide hM
    clear hM hF hB hB1 hWI
    go_wp2_with fail
    refine bodyPost_ret (msg_back Try.results14 _ _ (w.heap.size + 1) _ _ _ _ rfl rfl (HMs.out.set _ _)) rfl ?_
    exact ⟨_, rfl, IRow.nil _ _, below_set2 HB1.out (by omega) _ _⟩
  · have HW := hide (wsK_wid id)
    have hid := wsK_some h1
    by_cases h2 : p.size = totK (wsK id) (wsK id).length
    · rw [decM_ok id p h1 h2]
      generalize wsK id = ws at hWI hl7 h1 h2 HW
      have hsz := fun v w hv => msize_any ws HW.out hl7 v w hv
      have hfi := fun v w hv => fields_any ws HW.out hl7 v p h2 w hv
      generalize fieK ws p.data.toList ws.length = fl at hfi
      rw [← h2] at hsz
      clear h2
      obtain ⟨m, hm⟩ : ∃ m, ws.length = m := ⟨_, rfl⟩
      rw [hm] at h1 hl7
      have HM := hide hm
      have hl0 : ((m : Int) == 0) = false := by rw [beq_eq_false_iff_ne]; omega
      clear hm
      go_enter Try.func14, Try.ntmps14
      go_wp2_with fail
      refine (hWI _).mono ?_
      rintro e w1 ⟨v, rfl, hI, hB⟩
      obtain ⟨hF, hM, hB1, hz⟩ := dec_start hB
      have HI := hide hI
      obtain ⟨av, cv, rfl, _⟩ := hI
      rw [List.length_map, HM.out] at HI ⊢
      have HB1 := hide hB1
      have f1 := hF.c1
      have f2 := hF.c2
      have HF := hide hF
      have HMs := hide hM
      clear hM hF hB hB1 hWI
      go_wp2_with fail
      go_quiet (first | (go_at_call 31; exact Calls.quiet_of_same (hsz _ _ (by exact HI.out.drewN _))))
      clear f1 f2
      have HF2 := hide (HF.out.drewN nq)
      have HM2 := hide (HMs.out.drewN nq)
      have HI2 := hide (HI.out.drewN nq)
      have HB2 := hide (below_drewN HB1.out nq)
      have hz2 : (w1.drewN nq).heap.size = w1.heap.size := by
        clear HF2 HM2 HI2 HB2
        induction nq with
        | zero => rfl
        | succ n ih => exact ih
      generalize w1.drewN nq = w2 at HF2 HM2 HI2 HB2 hz2
      have f1 := HF2.out.c1
      have f2 := HF2.out.c2
      have c0 := HM2.out.c0
      have c1 := HM2.out.c1
      have fz := HM2.out.fz
      clear HF HMs HI HB1 hsz
      go_wp2_with fail
      have hwk : IntKind.u8.wrap id = id := by rw [IntKind.wrap_u8]; omega
      clear hl0
      go_region_held3 (fun wx => wx.cell? ⟨w.heap.size, 1, none⟩ = some (.int .i64 id) ∧ wx.cell? ⟨w.heap.size, 2, none⟩ = some (.string p)) (go_keep) (first | (go_at_call 32; refine (hfi _ _ (by exact HI2.out)).mono ?_; rintro e w3 ⟨u, rfl, hR3, hB3⟩; replace hB3 := below_undrew hB3; have f13 := (HF2.out.below hB3).c1; have f23 := (HF2.out.below hB3).c2; have c03 := (HM2.out.below hB3).c0; have c13 := (HM2.out.below hB3).c1; have fz3 := (HM2.out.below hB3).fz; have HR3 : Hid (IRow w3 w2.heap.size u fl) := hR3; obtain ⟨ua, uc, rfl⟩ := hR3.shape; have HB3 := hide hB3; clear hB3 hR3))
      all_goals go_wp2_with fail
      all_goals refine bodyPost_ret (msg_back Try.results14 _ _ (w.heap.size + 1) _ _ _ _ rfl rfl ((HM2.out.below HB3.out).set _ _)) rfl ?_
      all_goals exact ⟨_, rfl, ((HR3.out.setCell (a := ⟨w.heap.size + 1, 0, none⟩) (by show w.heap.size + 1 < _; omega) _).setCell (a := ⟨w.heap.size + 1, 1, none⟩) (by show w.heap.size + 1 < _; omega) _).lower (by omega), below_set2 (below_next HB2.out (Nat.le_refl _) HB3.out) (by omega) _ _⟩
    · rw [decM_size id p h1 h2]
      generalize wsK id = ws at hWI hl7 h1 h2 HW
      have hsz := fun v w hv => msize_any ws HW.out hl7 v w hv
      have hne : ((p.size : Int) != (totK ws ws.length : Int)) = true := by simp; omega
      generalize totK ws ws.length = t at hsz hne
      clear h2
      obtain ⟨m, hm⟩ : ∃ m, ws.length = m := ⟨_, rfl⟩
      rw [hm] at h1 hl7
      have HM := hide hm
      have hl0 : ((m : Int) == 0) = false := by rw [beq_eq_false_iff_ne]; omega
      clear hm
      go_enter Try.func14, Try.ntmps14
      go_wp2_with fail
      refine (hWI _).mono ?_
      rintro e w1 ⟨v, rfl, hI, hB⟩
      obtain ⟨hF, hM, hB1, hz⟩ := dec_start hB
      have HI := hide hI
      obtain ⟨av, cv, rfl, _⟩ := hI
      rw [List.length_map, HM.out] at HI ⊢
      have HB1 := hide hB1
      have f1 := hF.c1
      have f2 := hF.c2
      have HF := hide hF
      have HMs := hide hM
      clear hM hF hB hB1 hWI
      go_wp2_with fail
      go_quiet (first | (go_at_call 31; exact Calls.quiet_of_same (hsz _ _ (by exact HI.out.drewN _))))
      have HM2 := hide (HMs.out.drewN nq)
      have c0 := HM2.out.c0
      have c1 := HM2.out.c1
      have fz := HM2.out.fz
      go_wp2_with fail
      refine bodyPost_ret (msg_back Try.results14 _ _ (w.heap.size + 1) _ _ _ _ rfl rfl (HM2.out.set _ _)) rfl ?_
      exact ⟨_, rfl, IRow.nil _ _, below_set2 (below_drewN HB1.out nq) (by omega) _ _⟩
end Go.Proofs.Ytgdjphiicgiegaa
