/- The document's Of. -/
import Derived.Test.YtnekjfidobglmaaMiR
import Derived.Test.YtnekjfidobglmaaMi9
namespace Go.Proofs.Ytnekjfidobglmaa
open Go.RowKit Go.Great Go.Maps

set_option maxRecDepth 100000 in
set_option maxHeartbeats 8000000 in
theorem rof_any (L : List (List Int)) (v : Value) (w : World) (hv : Lsts w v L) (hl : L.length * 24 ≤ 140737488355328) : Calls Try.prog 20 #[v] w fun e w' => ∃ u, e = .returned (.tuple #[u, .int .i64 (ofE L)]) ∧ MRow w' w.heap.size u (ofA L) ∧ Below w.heap.size w w' := by
  obtain ⟨i0, hi, hz0, hz1, hz2⟩ := info_parts info_it
  have HV := hide hv
  obtain ⟨na, np, rfl, _⟩ := hv
  obtain ⟨n, eN⟩ : ∃ n, Hid (L.length = n) := ⟨_, hide rfl⟩
  obtain ⟨E, HE⟩ : ∃ E, Hid (ofE L = E) := ⟨_, hide rfl⟩
  obtain ⟨A, HA⟩ : ∃ A, Hid (ofA L = A) := ⟨_, hide rfl⟩
  rw [HE.out, HA.out]
  rw [eN.out] at hl ⊢
  go_enter Try.func20, Try.ntmps20
  go_wp2_with fail
  go_loopw [4, 5] (fun v i wx => ∃ k : Nat, k ≤ n ∧ i = .int .i64 k ∧ Hid (∀ j, j < k → rowOk (L.getD j []) = true) ∧ Hid (MRow wx w.heap.size v (rowsA (L.take k))) ∧ Hid (Below w.heap.size w wx)) (fun _ i _ => n - (intOf i).toNat)
  case atStart => exact ⟨0, Nat.zero_le _, rfl, hide (fun j hj => by omega), hide (MRow.nil _ _), hide (Below.refl _ _)⟩
  case round =>
    obtain ⟨k, hk, rfl, HK, HM, Hb⟩ := hrel
    by_cases hlt : k < n
    · obtain ⟨na', np', e0, hcc0⟩ := HV.out
      injection e0 with e1 e2 e3
      subst e1 e3
      obtain ⟨g, o, rfl, hg, hcc⟩ := hcc0 (by rw [eN.out]; omega)
      obtain ⟨u, hu, hI⟩ := hcc k (by rw [eN.out]; omega)
      have hu' : wr.cell? ⟨g, o + k, none⟩ = some u := (Hb.out.cell (p := ⟨g, o + k, none⟩) hg).trans hu
      have HS := hide (rowsA_snoc (L := L) (k := k) (by rw [eN.out]; omega))
      have HN := hide (rowsOk_no (L := L) (k := k) (by rw [eN.out]; omega))
      have HTL : Hid ((rowsA (L.take k)).length = k) := hide (by unfold rowsA; rw [List.length_map, List.length_take, eN.out]; omega)
      clear hcc0 hcc hu e2
      generalize hr : L.getD k [] = r at *
      have hro : rowOk r = (decide (r.length = 5) && (wi (r.getD 0 0) 1 7 && decide (r.getD 4 0 = 0))) := rfl
      by_cases h5 : r.length = 5
      · obtain ⟨gi, oi, ci, rfl, hgi, hcells⟩ := hI.five h5
        obtain ⟨r0, r1, r2, r3, r4⟩ := hcells wr Hb.out
        have HIt : Hid (rowIt r = ⟨UInt8.ofNat (r.getD 0 0).toNat, r.getD 1 0, r.getD 2 0, r.getD 3 0⟩) := hide rfl
        have HW := hide (fun (h : wi (r.getD 0 0) 1 7 = true) => wi_true h)
        generalize r.getD 0 0 = x0 at *
        generalize r.getD 1 0 = x1 at *
        generalize r.getD 2 0 = x2 at *
        generalize r.getD 3 0 = x3 at *
        generalize r.getD 4 0 = x4 at *
        have HRO := hide hro
        clear hro hcells
        by_cases hin : wi x0 1 7 = true
        · rw [hin] at HRO
          by_cases h4 : x4 = 0
          · subst h4
            have HRK : Hid (rowOk r = true) := hide (by rw [HRO.out]; simp [h5])
            have h17 := HW.out hin
            have q1 : ¬ (x0 < 1) := by omega
            have q2 : ¬ (7 < x0) := by omega
            go_upto_region 8 with fail
            have hmod : x0 % 256 = x0 := by omega
            obtain ⟨va, vc, rfl⟩ : ∃ va vc, u4 = .slice va k vc := by
              obtain ⟨va, vc, e⟩ := HM.out.shape
              rw [HTL.out] at e
              exact ⟨va, vc, e⟩
            refine reg_move3 15 (.slice va k vc) _ _ _ _ _ rfl rfl rfl rfl rfl rfl rfl rfl (by kernel_rfl) (by kernel_rfl) (by kernel_rfl) (by kernel_rfl) (by kernel_rfl) (by kernel_rfl) (by kernel_rfl) (by kernel_rfl) (by kernel_rfl) (fun _ _ _ h => h) (Or.inl ⟨by rfl, fun wS hSw => by go_simp⟩) ?_
            simp only [Act.put, List.setIfInBounds_toArray, List.set_cons_zero, List.set_cons_succ]
            repeat (quiet_step (fail))
            refine wpQuiet_nil ?_
            intro kq
            rw [wrap_u8 h17]
            refine wp_abs fun K' hK' => ?_
            go_simp
            refine hK'.out _ _ ?_
            clear hK' K'
            have hws := Hb.out.size
            have hz : ((wr.drewN kq).alloc (.cells (iC x0 x1 x2 x3) 48)).heap.size = wr.heap.size + 1 := by rw [size_alloc, drewN_size]
            have HO : Hid (((wr.drewN kq).alloc (.cells (iC x0 x1 x2 x3) 48)).ownsRow w.heap.size 48 4 (.slice va k vc) k (itsC (rowsA (L.take k)))) := hide (by
              have := (HM.out.below (below_drewN (Below.refl _ _) kq)).alloc (.cells (iC x0 x1 x2 x3) 48)
              unfold MRow at this
              rw [HTL.out] at this
              exact this)
            obtain ⟨v', w5, hrun, hown5, hgrow5⟩ := run_append_one (P := Try.prog) ((wr.drewN kq).alloc (.cells (iC x0 x1 x2 x3) 48)) 22 22 w.heap.size 48 i0 _ 4 32 Try.underlying22 hi hz0 hz1 hz2 rfl (by decide) (.slice va k vc) k _ HO.out ⟨wr.heap.size, 0, none⟩ 1 [.int .u8 x0, .int .i64 x1, .int .i64 x2, .int .i64 x3] rfl (new_cell4 _ _ (drewN_size _ _).symm _ _ _ _ _) (by intro u hu; simp at hu; rcases hu with rfl | rfl | rfl | rfl <;> rfl) (by omega) (by omega) (by omega)
            refine wp_append_run (.tmp 39) (.tmp 54) 22 rfl _ _ _ rfl rfl hrun ?_
            have HR5 : Hid (MRow w5 w.heap.size v' (rowsA (L.take (k + 1)))) := hide (by
              rw [HS.out, HIt.out]
              show World.ownsRow _ _ _ _ _ _ _
              rw [List.length_append, HTL.out, itsC_app]
              have e1 : itsC [⟨UInt8.ofNat x0.toNat, x1, x2, x3⟩] = [.int .u8 x0, .int .i64 x1, .int .i64 x2, .int .i64 x3] := by
                simp [itsC, itC]
                omega
              rw [e1]
              exact hown5)
            have HB5 : Hid (Below w.heap.size w w5) := hide ((((below_drewN Hb.out kq).alloc (by rw [drewN_size]; exact hws) _).grown hgrow5 (by omega) (fun j e => (HO.out.lt j e).1)))
            have HK5 : Hid (∀ j, j < k + 1 → rowOk (L.getD j []) = true) := hide (fun j hj => by
              by_cases e : j = k
              · rw [e, hr]; exact HRK.out
              · exact HK.out j (by omega))
            obtain ⟨ao5, cap5, rfl⟩ := HR5.out.shape
            generalize (rowsA (L.take (k + 1))).length = l5 at *
            clear hown5 hgrow5 hrun hi hz0 hz1 hz2 HO hz
            refine wp_abs fun K' hK' => ?_
            go_simp
            refine hK'.out _ _ ?_
            clear hK' K'
            go_wp2_with fail
            go_roundw
            case rel => exact ⟨k + 1, by omega, by go_num, HK5, HR5, HB5⟩
            case measure => simp [intOf]; omega
          · have HRK : Hid (rowOk r = false) := hide (by rw [HRO.out]; simp [h4])
            have HX := hide (HN.out HRK.out)
            clear hi hz0 hz1 hz2
            have h17 := HW.out hin
            have q1 : ¬ (x0 < 1) := by omega
            have q2 : ¬ (7 < x0) := by omega
            go_wp2_with fail
            go_ret2
            rw [← HE.out, ← HA.out]
            unfold ofE ofA
            rw [HX.out]
            exact ⟨_, rfl, MRow.nil _ _, Hb.out⟩
        · have hin2 : wi x0 1 7 = false := by simpa using hin
          rw [hin2] at HRO
          have HRK : Hid (rowOk r = false) := hide (by rw [HRO.out]; simp)
          have HX := hide (HN.out HRK.out)
          have hout : x0 < 1 ∨ 7 < x0 := by unfold wi at hin2; simp at hin2; omega
          clear hi hz0 hz1 hz2 hin hin2
          by_cases q1 : x0 < 1
          · go_wp2_with fail
            go_ret2
            rw [← HE.out, ← HA.out]
            unfold ofE ofA
            rw [HX.out]
            exact ⟨_, rfl, MRow.nil _ _, Hb.out⟩
          · have q2 : 7 < x0 := by omega
            go_wp2_with fail
            go_ret2
            rw [← HE.out, ← HA.out]
            unfold ofE ofA
            rw [HX.out]
            exact ⟨_, rfl, MRow.nil _ _, Hb.out⟩
      · have HRK : Hid (rowOk r = false) := hide (by rw [hro]; simp [h5])
        have HX := hide (HN.out HRK.out)
        obtain ⟨ua, uc, rfl, _⟩ := hI
        generalize r.length = ln at *
        clear hi hz0 hz1 hz2 hro
        go_wp2_with fail
        go_ret2
        rw [← HE.out, ← HA.out]
        unfold ofE ofA
        rw [HX.out]
        exact ⟨_, rfl, MRow.nil _ _, Hb.out⟩
    · obtain rfl : k = n := by omega
      have HX : Hid (rowsOk L = true) := hide (rowsOk_yes (fun i hi => HK.out i (by rw [eN.out] at hi; exact hi)))
      have e0 : L.take k = L := by rw [← eN.out, List.take_length]
      rw [e0] at HM
      have HTL : Hid ((rowsA L).length = k) := hide (by unfold rowsA; rw [List.length_map, eN.out])
      have CK := hide (rcheck_any (rowsA L) _ wr HM.out.rws)
      obtain ⟨va, vc, rfl⟩ : ∃ va vc, u4 = .slice va k vc := by
        obtain ⟨va, vc, e⟩ := HM.out.shape
        rw [HTL.out] at e
        exact ⟨va, vc, e⟩
      have HE2 : Hid (E = chk (rowsA L)) := hide (by rw [← HE.out]; unfold ofE; rw [if_pos HX.out])
      have HA2 : Hid (A = souA (rowsA L)) := hide (by rw [← HA.out]; unfold ofA; rw [if_pos HX.out])
      rw [← HE2.out] at CK
      clear hi hz0 hz1 hz2
      go_wp2_with fail
      refine CK.out.mono ?_
      rintro e w3 ⟨rfl, hb3⟩
      replace HM := hide (HM.out.below hb3)
      replace Hb := hide (below_next Hb.out (Nat.le_refl _) hb3)
      clear hb3 CK
      by_cases hE0 : E = 0
      · subst hE0
        have HA3 : Hid (A = rowsA L) := hide (by rw [HA2.out]; unfold souA; rw [if_pos HE2.out.symm])
        go_wp2_with fail
        go_ret2
        exact ⟨_, rfl, by rw [HA3.out]; exact HM.out, Hb.out⟩
      · have HA3 : Hid (A = []) := hide (by rw [HA2.out]; unfold souA; rw [if_neg (fun e => hE0 (by rw [HE2.out, e]))])
        have hne : (E != 0) = true := by simp [hE0]
        go_wp2_with fail
        go_ret2
        exact ⟨_, rfl, by rw [HA3.out]; exact MRow.nil _ _, Hb.out⟩
end Go.Proofs.Ytnekjfidobglmaa
