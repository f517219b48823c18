/- Package mission: sound, Of. -/
import Derived.Test.YtnekjfidobglmaaMi8
import Derived.Test.YtnekjfidobglmaaRg3
namespace Go.Proofs.Ytnekjfidobglmaa
open Go.RowKit Go.Great Go.Maps

theorem drewN_size (w : World) (n : Nat) : (w.drewN n).heap.size = w.heap.size := by
  induction n with
  | zero => rfl
  | succ n ih => exact ih
theorem wrap_u8 {x : Int} (h : 1 ≤ x ∧ x ≤ 7) : IntKind.u8.wrap x = x := by
  rw [IntKind.wrap_u8]
  omega
/-- a list that is handed on, or none -/
def souA (L : List It) : List It := if chk L = 0 then L else []
set_option maxHeartbeats 1000000 in
theorem sound_any (L : List It) (v : Value) (w : World) (base : Nat) (hv : MRow w base v L) : Calls Try.prog 37 #[v] w fun e w' => ∃ u, e = .returned (.tuple #[u, .int .i64 (chk L)]) ∧ MRow w' base u (souA L) ∧ Below w.heap.size w w' := by
  have CH := hide (check_any L v w hv.rws)
  have HV := hide hv
  obtain ⟨a, cap, rfl⟩ := hv.shape
  clear hv
  by_cases hc : chk L = 0
  · have HE : Hid (souA L = L) := hide (by unfold souA; rw [if_pos hc])
    rw [HE.out]
    rw [hc] at CH ⊢
    generalize hn : L.length = n at *
    clear hc HE hn
    go_enter Try.func37, Try.ntmps37
    go_wp2_with fail
    refine CH.out.mono ?_
    rintro e w1 ⟨rfl, hb1⟩
    have Hb := hide hb1
    clear hb1 CH
    go_wp2_with fail
    go_ret2
    exact ⟨_, rfl, HV.out.below Hb.out, Hb.out⟩
  · have HE : Hid (souA L = []) := hide (by unfold souA; rw [if_neg hc])
    rw [HE.out]
    have hne : (chk L != 0) = true := by simp [hc]
    generalize chk L = c at *
    generalize L.length = n at *
    clear hc HE HV
    go_enter Try.func37, Try.ntmps37
    go_wp2_with fail
    refine CH.out.mono ?_
    rintro e w1 ⟨rfl, hb1⟩
    have Hb := hide hb1
    clear hb1 CH
    go_wp2_with fail
    go_ret2
    exact ⟨_, rfl, MRow.nil _ _, Hb.out⟩
/-- a list of lists of numbers, as it reads -/
def Lsts (w : World) (v : Value) (L : List (List Int)) : Prop :=
  ∃ a cap, v = .slice a L.length cap ∧ (0 < L.length → ∃ g o, a = some ⟨g, o, none⟩ ∧ g < w.heap.size ∧ ∀ i, i < L.length → ∃ u, w.cell? ⟨g, o + i, none⟩ = some u ∧ Ints w u (L.getD i []))
theorem Lsts.below {w w' : World} {v : Value} {L : List (List Int)} (h : Lsts w v L) (hb : Below w.heap.size w w') : Lsts w' v L := by
  obtain ⟨a, cap, e, h1⟩ := h
  refine ⟨a, cap, e, fun h0 => ?_⟩
  obtain ⟨g, o, e2, hg, hc⟩ := h1 h0
  refine ⟨g, o, e2, Nat.lt_of_lt_of_le hg hb.size, fun i hi => ?_⟩
  obtain ⟨u, hu, hI⟩ := hc i hi
  exact ⟨u, (hb.cell (p := ⟨g, o + i, none⟩) hg).trans hu, hI.below hb⟩
/-- is a row of numbers an item's? -/
def rowOk (r : List Int) : Bool := decide (r.length = 5) && (wi (r.getD 0 0) 1 7 && decide (r.getD 4 0 = 0))
def rowIt (r : List Int) : It := ⟨UInt8.ofNat (r.getD 0 0).toNat, r.getD 1 0, r.getD 2 0, r.getD 3 0⟩
def rowsOk (L : List (List Int)) : Bool := L.all rowOk
def rowsA (L : List (List Int)) : List It := L.map rowIt
/-- what Of answers -/
def ofE (L : List (List Int)) : Int := if rowsOk L = true then chk (rowsA L) else 191
def ofA (L : List (List Int)) : List It := if rowsOk L = true then souA (rowsA L) else []
theorem rowsOk_no {L : List (List Int)} {k : Nat} (hk : k < L.length) (h : rowOk (L.getD k []) = false) : rowsOk L = false := by
  cases hh : rowsOk L with
  | false => rfl
  | true =>
    unfold rowsOk at hh
    rw [List.all_eq_true] at hh
    have := hh (L.getD k []) (by simp [hk])
    rw [h] at this
    cases this
theorem rowsOk_yes {L : List (List Int)} (h : ∀ i, i < L.length → rowOk (L.getD i []) = true) : rowsOk L = true := by
  unfold rowsOk
  rw [List.all_eq_true]
  intro x hx
  obtain ⟨i, hi, e⟩ := List.getElem_of_mem hx
  have := h i hi
  rw [← e]
  simpa [hi] using this
theorem rowsA_snoc {L : List (List Int)} {k : Nat} (hk : k < L.length) : rowsA (L.take (k + 1)) = rowsA (L.take k) ++ [rowIt (L.getD k [])] := by
  unfold rowsA
  rw [List.take_succ_eq_append_getElem hk, List.map_append]
  simp [hk]
theorem Ints.five {w : World} {u : Value} {r : List Int} (h : Ints w u r) (h5 : r.length = 5) : ∃ g o c, u = .slice (some ⟨g, o, none⟩) 5 c ∧ g < w.heap.size ∧ ∀ W, Below w.heap.size w W → W.cell? ⟨g, o, none⟩ = some (.int .i64 (r.getD 0 0)) ∧ W.cell? ⟨g, o + 1, none⟩ = some (.int .i64 (r.getD 1 0)) ∧ W.cell? ⟨g, o + 2, none⟩ = some (.int .i64 (r.getD 2 0)) ∧ W.cell? ⟨g, o + 3, none⟩ = some (.int .i64 (r.getD 3 0)) ∧ W.cell? ⟨g, o + 4, none⟩ = some (.int .i64 (r.getD 4 0)) := by
  obtain ⟨a, cap, e, hc⟩ := h
  rw [h5] at e hc
  obtain ⟨g, o, e2, hg, hcc⟩ := hc (by omega)
  subst e e2
  refine ⟨g, o, cap, rfl, hg, fun W hb => ?_⟩
  have q := fun i (hi : i < 5) => (hb.cell (p := ⟨g, o + i, none⟩) hg).trans (hcc i hi)
  exact ⟨q 0 (by omega), q 1 (by omega), q 2 (by omega), q 3 (by omega), q 4 (by omega)⟩
set_option maxRecDepth 100000 in
set_option maxHeartbeats 8000000 in
theorem of_any (L : List (List Int)) (v : Value) (w : World) (hv : Lsts w v L) (hl : L.length * 24 ≤ 140737488355328) : Calls Try.prog 19 #[v] w fun e w' => ∃ u, e = .returned (.tuple #[u, .int .i64 (ofE L)]) ∧ MRow w' w.heap.size u (ofA L) ∧ Below w.heap.size w w' := by
  obtain ⟨i0, hi, hz0, hz1, hz2⟩ := info_parts info_it
  have WI := hide within_any
  have HV := hide hv
  obtain ⟨na, np, rfl, _⟩ := hv
  obtain ⟨n, eN⟩ : ∃ n, Hid (L.length = n) := ⟨_, hide rfl⟩
  obtain ⟨E, HE⟩ : ∃ E, Hid (ofE L = E) := ⟨_, hide rfl⟩
  obtain ⟨A, HA⟩ : ∃ A, Hid (ofA L = A) := ⟨_, hide rfl⟩
  rw [HE.out, HA.out]
  rw [eN.out] at hl ⊢
  go_enter Try.func19, Try.ntmps19
  go_wp2_with fail
  go_loopw [4, 9] (fun v i wx => ∃ k : Nat, k ≤ n ∧ i = .int .i64 k ∧ Hid (∀ j, j < k → rowOk (L.getD j []) = true) ∧ Hid (MRow wx w.heap.size v (rowsA (L.take k))) ∧ Hid (Below w.heap.size w wx)) (fun _ i _ => n - (intOf i).toNat)
  case atStart => exact ⟨0, Nat.zero_le _, rfl, hide (fun j hj => by omega), hide (MRow.nil _ _), hide (Below.refl _ _)⟩
  case round =>
    obtain ⟨k, hk, rfl, HK, HM, Hb⟩ := hrel
    by_cases hlt : k < n
    · obtain ⟨na', np', e0, hcc0⟩ := HV.out
      injection e0 with e1 e2 e3
      subst e1 e3
      obtain ⟨g, o, rfl, hg, hcc⟩ := hcc0 (by rw [eN.out]; omega)
      obtain ⟨u, hu, hI⟩ := hcc k (by rw [eN.out]; omega)
      have hu' : wr.cell? ⟨g, o + k, none⟩ = some u := (Hb.out.cell (p := ⟨g, o + k, none⟩) hg).trans hu
      have HS := hide (rowsA_snoc (L := L) (k := k) (by rw [eN.out]; omega))
      have HN := hide (rowsOk_no (L := L) (k := k) (by rw [eN.out]; omega))
      have HTL : Hid ((rowsA (L.take k)).length = k) := hide (by unfold rowsA; rw [List.length_map, List.length_take, eN.out]; omega)
      clear hcc0 hcc hu e2
      generalize hr : L.getD k [] = r at *
      have hro : rowOk r = (decide (r.length = 5) && (wi (r.getD 0 0) 1 7 && decide (r.getD 4 0 = 0))) := rfl
      by_cases h5 : r.length = 5
      · obtain ⟨gi, oi, ci, rfl, hgi, hcells⟩ := hI.five h5
        obtain ⟨r0, r1, r2, r3, r4⟩ := hcells wr Hb.out
        have HIt : Hid (rowIt r = ⟨UInt8.ofNat (r.getD 0 0).toNat, r.getD 1 0, r.getD 2 0, r.getD 3 0⟩) := hide rfl
        have WX := hide (WI.out (r.getD 0 0) 1 7)
        have HW := hide (fun (h : wi (r.getD 0 0) 1 7 = true) => wi_true h)
        generalize r.getD 0 0 = x0 at *
        generalize r.getD 1 0 = x1 at *
        generalize r.getD 2 0 = x2 at *
        generalize r.getD 3 0 = x3 at *
        generalize r.getD 4 0 = x4 at *
        have HRO := hide hro
        clear hro hcells
        by_cases hin : wi x0 1 7 = true
        · rw [hin] at WX HRO
          by_cases h4 : x4 = 0
          · subst h4
            have HRK : Hid (rowOk r = true) := hide (by rw [HRO.out]; simp [h5])
            have h17 := HW.out hin
            go_upto_region 7 with (go_at_call 31; refine (WX.out _).mono ?_; rintro e w3 ⟨rfl, hw3⟩; obtain rfl := hw3.symm)
            have hmod : x0 % 256 = x0 := by omega
            obtain ⟨va, vc, rfl⟩ : ∃ va vc, u4 = .slice va k vc := by
              obtain ⟨va, vc, e⟩ := HM.out.shape
              rw [HTL.out] at e
              exact ⟨va, vc, e⟩
            refine reg_move3 15 (.slice va k vc) _ _ _ _ _ rfl rfl rfl rfl rfl rfl rfl rfl (by kernel_rfl) (by kernel_rfl) (by kernel_rfl) (by kernel_rfl) (by kernel_rfl) (by kernel_rfl) (by kernel_rfl) (by kernel_rfl) (by kernel_rfl) (fun _ _ _ h => h) (Or.inl ⟨by rfl, fun wS hSw => by go_simp⟩) ?_
            simp only [Act.put, List.setIfInBounds_toArray, List.set_cons_zero, List.set_cons_succ]
            repeat (quiet_step (fail))
            refine wpQuiet_nil ?_
            intro kq
            rw [wrap_u8 h17]
            refine wp_abs fun K' hK' => ?_
            go_simp
            refine hK'.out _ _ ?_
            clear hK' K'
            have hws := Hb.out.size
            have hz : ((wr.drewN kq).alloc (.cells (iC x0 x1 x2 x3) 48)).heap.size = wr.heap.size + 1 := by rw [size_alloc, drewN_size]
            have HO : Hid (((wr.drewN kq).alloc (.cells (iC x0 x1 x2 x3) 48)).ownsRow w.heap.size 48 4 (.slice va k vc) k (itsC (rowsA (L.take k)))) := hide (by
              have := (HM.out.below (below_drewN (Below.refl _ _) kq)).alloc (.cells (iC x0 x1 x2 x3) 48)
              unfold MRow at this
              rw [HTL.out] at this
              exact this)
            obtain ⟨v', w5, hrun, hown5, hgrow5⟩ := run_append_one (P := Try.prog) ((wr.drewN kq).alloc (.cells (iC x0 x1 x2 x3) 48)) 22 22 w.heap.size 48 i0 _ 4 32 Try.underlying22 hi hz0 hz1 hz2 rfl (by decide) (.slice va k vc) k _ HO.out ⟨wr.heap.size, 0, none⟩ 1 [.int .u8 x0, .int .i64 x1, .int .i64 x2, .int .i64 x3] rfl (new_cell4 _ _ (drewN_size _ _).symm _ _ _ _ _) (by intro u hu; simp at hu; rcases hu with rfl | rfl | rfl | rfl <;> rfl) (by omega) (by omega) (by omega)
            refine wp_append_run (.tmp 29) (.tmp 44) 22 rfl _ _ _ rfl rfl hrun ?_
            have HR5 : Hid (MRow w5 w.heap.size v' (rowsA (L.take (k + 1)))) := hide (by
              rw [HS.out, HIt.out]
              show World.ownsRow _ _ _ _ _ _ _
              rw [List.length_append, HTL.out, itsC_app]
              have e1 : itsC [⟨UInt8.ofNat x0.toNat, x1, x2, x3⟩] = [.int .u8 x0, .int .i64 x1, .int .i64 x2, .int .i64 x3] := by
                simp [itsC, itC]
                omega
              rw [e1]
              exact hown5)
            have HB5 : Hid (Below w.heap.size w w5) := hide ((((below_drewN Hb.out kq).alloc (by rw [drewN_size]; exact hws) _).grown hgrow5 (by omega) (fun j e => (HO.out.lt j e).1)))
            have HK5 : Hid (∀ j, j < k + 1 → rowOk (L.getD j []) = true) := hide (fun j hj => by
              by_cases e : j = k
              · rw [e, hr]; exact HRK.out
              · exact HK.out j (by omega))
            obtain ⟨ao5, cap5, rfl⟩ := HR5.out.shape
            generalize (rowsA (L.take (k + 1))).length = l5 at *
            clear hown5 hgrow5 hrun hi hz0 hz1 hz2 HO hz
            refine wp_abs fun K' hK' => ?_
            go_simp
            refine hK'.out _ _ ?_
            clear hK' K'
            go_wp2_with fail
            go_roundw
            case rel => exact ⟨k + 1, by omega, by go_num, HK5, HR5, HB5⟩
            case measure => simp [intOf]; omega
          · have HRK : Hid (rowOk r = false) := hide (by rw [HRO.out]; simp [h4])
            have HX := hide (HN.out HRK.out)
            clear hi hz0 hz1 hz2
            go_wp2_with (go_at_call 31; refine (WX.out _).mono ?_; rintro e w3 ⟨rfl, hw3⟩; obtain rfl := hw3.symm)
            go_ret2
            rw [← HE.out, ← HA.out]
            unfold ofE ofA
            rw [HX.out]
            exact ⟨_, rfl, MRow.nil _ _, Hb.out⟩
        · have hin2 : wi x0 1 7 = false := by simpa using hin
          rw [hin2] at WX HRO
          have HRK : Hid (rowOk r = false) := hide (by rw [HRO.out]; simp)
          have HX := hide (HN.out HRK.out)
          clear hi hz0 hz1 hz2
          go_wp2_with (go_at_call 31; refine (WX.out _).mono ?_; rintro e w3 ⟨rfl, hw3⟩; obtain rfl := hw3.symm)
          go_ret2
          rw [← HE.out, ← HA.out]
          unfold ofE ofA
          rw [HX.out]
          exact ⟨_, rfl, MRow.nil _ _, Hb.out⟩
      · have HRK : Hid (rowOk r = false) := hide (by rw [hro]; simp [h5])
        have HX := hide (HN.out HRK.out)
        obtain ⟨ua, uc, rfl, _⟩ := hI
        generalize r.length = ln at *
        clear hi hz0 hz1 hz2 hro
        go_wp2_with fail
        go_ret2
        rw [← HE.out, ← HA.out]
        unfold ofE ofA
        rw [HX.out]
        exact ⟨_, rfl, MRow.nil _ _, Hb.out⟩
    · obtain rfl : k = n := by omega
      have HX : Hid (rowsOk L = true) := hide (rowsOk_yes (fun i hi => HK.out i (by rw [eN.out] at hi; exact hi)))
      have e0 : L.take k = L := by rw [← eN.out, List.take_length]
      rw [e0] at HM
      have SO := hide (sound_any (rowsA L) _ wr w.heap.size HM.out)
      have HE2 : Hid (E = chk (rowsA L)) := hide (by rw [← HE.out]; unfold ofE; rw [if_pos HX.out])
      have HA2 : Hid (A = souA (rowsA L)) := hide (by rw [← HA.out]; unfold ofA; rw [if_pos HX.out])
      rw [← HE2.out, ← HA2.out] at SO
      clear hi hz0 hz1 hz2
      go_wp2_with fail
      refine SO.out.mono ?_
      rintro e w3 ⟨u, rfl, hu, hb3⟩
      go_wp2_with fail
      go_ret2
      exact ⟨u, rfl, hu, below_next Hb.out (Nat.le_refl _) hb3⟩
end Go.Proofs.Ytnekjfidobglmaa
