/- The document's Number, Decode and Of. -/
import Derived.Test.YtnekjfidobglmaaMiR
import Derived.Test.YtnekjfidobglmaaMiD
import Derived.Test.YtnekjfidobglmaaMi6
namespace Go.Proofs.Ytnekjfidobglmaa
open Go.RowKit Go.Great Go.Maps

set_option maxHeartbeats 2000000 in
theorem rnumber_any (s : ByteArray) (p : Nat) (hs : p + 4 ≤ s.size) (hm : s.size ≤ 1000000000) (w : World) : Calls Try.prog 38 #[.string s, .int .i64 (p : Int)] w fun e w' => e = .returned (.int .i64 (num4 s.data.toList p)) ∧ w' = w := by
  have HG : Hid (num4 s.data.toList p = sgn ((pre (s.data.toList.drop p) 4 : Nat) : Int)) := hide (by rw [pre_four, at8_drop, at8_drop, at8_drop, at8_drop]; rfl)
  rw [HG.out]
  have HL := hide (fun i hi => pre_lt (s.data.toList.drop p) i hi)
  have HP : Hid (∀ i, pre (s.data.toList.drop p) (i + 1) = pre (s.data.toList.drop p) i * 256 + (at8 s.data.toList (p + i)).toNat) := fun i => by rw [← at8_drop]; rfl
  generalize pre (s.data.toList.drop p) = P at *
  clear HG
  go_enter Try.func38, Try.ntmps38
  go_wp2_with fail
  go_loopw [5, 6] (fun vw vi wx => ∃ i : Nat, i ≤ 4 ∧ vi = .int .i64 (i : Int) ∧ vw = .int .i64 ((P i : Nat) : Int) ∧ wx = w) (fun _ vi _ => 4 - (intOf vi).toNat)
  case atStart => exact ⟨0, Nat.zero_le _, rfl, (by have := HL.out 0 (by omega); simp at this; rw [this]; rfl), rfl⟩
  case round =>
    obtain ⟨i, hi, rfl, rfl, rfl⟩ := hrel
    by_cases hl : i < 4
    · have hx : P i < 16777216 := by
        have := HL.out i hi
        have : (256 : Nat) ^ i ≤ 256 ^ 3 := Nat.pow_le_pow_right (by omega) (by omega)
        omega
      have hq : p + i < s.size := by omega
      have HQ : Hid (∀ h : p + i < s.size, s[p + i]'h = at8 s.data.toList (p + i)) := hide (fun h => at8_get s (p + i) h)
      have HPi := hide (HP.out i)
      have hd := (at8 s.data.toList (p + i)).toNat_lt
      generalize at8 s.data.toList (p + i) = d at *
      generalize P i = x at *
      go_wp2_with fail
      refine ⟨⟨i + 1, by omega, by go_num, ?_, trivial⟩, by simp [intOf]; omega⟩
      rw [HPi.out, HQ.out hq]
      refine congrArg _ ?_
      unfold wrap64
      omega
    · obtain rfl : i = 4 := by omega
      have h4 := HL.out 4 (by omega)
      obtain ⟨x, HX⟩ : ∃ x, Hid (P 4 = x) := ⟨_, hide rfl⟩
      rw [HX.out] at h4 ⊢
      clear HP HL
      by_cases hb : 2147483648 ≤ (x : Int)
      · go_wp2_with fail
        go_ret
        refine ⟨ret_int ?_, rfl⟩
        rw [HX.out]
        unfold sgn
        rw [if_pos hb]
      · go_wp2_with fail
        go_ret
        refine ⟨ret_int ?_, rfl⟩
        rw [HX.out]
        unfold sgn
        rw [if_neg (by omega)]
set_option maxRecDepth 100000 in
set_option maxHeartbeats 8000000 in
theorem rdecode_any (s : ByteArray) (hs : s.size ≤ 4611686018427387904) (w : World) : Calls Try.prog 18 #[.string s] w fun e w' => ∃ u, e = .returned (.tuple #[u, .int .i64 (decE s.data.toList)]) ∧ MRow w' w.heap.size u (decA s.data.toList) ∧ Below w.heap.size w w' := by
  obtain ⟨l, rfl⟩ : ∃ l, s = bs l := ⟨_, (bs_of s).symm⟩
  rw [bs_list]
  rw [bs_size] at hs
  cases l with
  | nil =>
    have hb : bs [] = ⟨#[]⟩ := rfl
    rw [hb]
    go_enter Try.func18, Try.ntmps18
    go_wp2_with fail
    go_ret2
    exact ⟨_, rfl, MRow.nil _ _, Below.refl _ _⟩
  | cons c l' =>
    have hc2 : ∀ h, (bs (c :: l'))[0]'h = c := fun _ => rfl
    have hsz : (bs (c :: l')).size = l'.length + 1 := by rw [bs_size, List.length_cons]
    have hc := c.toNat_lt
    by_cases hz : l'.length = 13 * c.toNat
    · obtain ⟨n, eN⟩ : ∃ n, c.toNat = n := ⟨_, rfl⟩
      have hcc := hc
      rw [eN] at hz hc
      have HZ : Hid (szd (c :: l') = true) := hide (by unfold szd; rw [at8_cons, List.length_cons]; simp; omega)
      have HI : Hid (its (c :: l') = decK l' n) := hide (by unfold its; rw [at8_cons, eN, List.drop_succ_cons, List.drop_zero])
      obtain ⟨E, HE⟩ : ∃ E, Hid (E = decE (c :: l')) := ⟨_, hide rfl⟩
      obtain ⟨A, HA⟩ : ∃ A, Hid (A = decA (c :: l')) := ⟨_, hide rfl⟩
      rw [← HE.out, ← HA.out]
      rw [List.length_cons] at hs
      have hd : ((l'.length : Int) + 1 != 1 + 13 * (n : Int)) = false := by simp; omega
      have HLL := hide hz
      have NU := hide (fun p hp W => rnumber_any (bs (c :: l')) p hp (by omega) W)
      rw [bs_list, hsz] at NU
      have HG8 : Hid (∀ i h, (bs (c :: l'))[i]'h = at8 (c :: l') i) := hide (fun i h => by rw [at8_get, bs_list])
      have HNM : Hid (∀ k j, num4 (c :: l') (1 + 13 * k + j) = num4 (l'.drop (13 * k)) j) := hide (fun k j => by
        rw [num4_drop, show c :: l' = [c] ++ l' from rfl]
        unfold num4
        have e : ∀ q, at8 ([c] ++ l') (1 + q) = at8 l' q := fun q => by unfold at8; rw [List.getD, List.getD, List.getElem?_append_right (by simp)]; simp
        rw [show 1 + 13 * k + j = 1 + (13 * k + j) by omega, e, show 1 + (13 * k + j) + 1 = 1 + (13 * k + j + 1) by omega, e, show 1 + (13 * k + j) + 2 = 1 + (13 * k + j + 2) by omega, e, show 1 + (13 * k + j) + 3 = 1 + (13 * k + j + 3) by omega, e])
      have HA8 : Hid (∀ k, at8 (c :: l') (1 + 13 * k) = at8 (l'.drop (13 * k)) 0) := hide (fun k => by rw [at8_drop]; unfold at8; rw [show c :: l' = [c] ++ l' from rfl, List.getD, List.getElem?_append_right (by simp), List.getD]; simp)
      generalize bs (c :: l') = S at *
      rw [← eN] at hd
      have HN := hide eN
      clear hz eN
      have hnz : ((l'.length : Int) + 1 == 0) = false := by simp; omega
      obtain ⟨i0, hi, hz0, hz1, hz2⟩ := info_parts info_it
      go_enter Try.func18, Try.ntmps18
      go_wp2_with fail
      go_loopw [4, 5] (fun v vr wx => ∃ k : Nat, k ≤ n ∧ vr = .int .i64 ((1 + 13 * k : Nat) : Int) ∧ Hid (MRow wx w.heap.size v (decK l' k)) ∧ Hid (Below w.heap.size w wx)) (fun _ vr _ => 13 * n + 1 - (intOf vr).toNat)
      case atStart => exact ⟨0, Nat.zero_le _, rfl, hide (MRow.nil _ _), hide (Below.refl _ _)⟩
      case round =>
        obtain ⟨k, hk, rfl, HM, Hb⟩ := hrel
        have HTL := hide (decK_len l' k)
        have hll : l'.length = 13 * n := HLL.out
        by_cases hlt : k < n
        · have HS : Hid (decK l' (k + 1) = decK l' k ++ [decIt (l'.drop (13 * k))]) := hide rfl
          have HIt : Hid (decIt (l'.drop (13 * k)) = ⟨at8 (l'.drop (13 * k)) 0, num4 (l'.drop (13 * k)) 1, num4 (l'.drop (13 * k)) 5, num4 (l'.drop (13 * k)) 9⟩) := hide rfl
          have N1 := hide (fun W => NU.out (1 + 13 * k + 1) (by omega) W)
          have N5 := hide (fun W => NU.out (1 + 13 * k + 5) (by omega) W)
          have N9 := hide (fun W => NU.out (1 + 13 * k + 9) (by omega) W)
          rw [HNM.out] at N1 N5 N9
          obtain ⟨p, HP⟩ : ∃ p, Hid (1 + 13 * k = p) := ⟨_, hide rfl⟩
          have hx0 : ∀ h, S[p]'h = at8 (l'.drop (13 * k)) 0 := fun h => by rw [HG8.out, ← HP.out, HA8.out]
          have hps : p < l'.length + 1 := by rw [← HP.out]; omega
          have hpb : p ≤ 4000 := by rw [← HP.out]; omega
          have h1 : Hid (((1 + 13 * k + 1 : Nat) : Int) = (p : Int) + 1) := hide (by rw [← HP.out]; omega)
          have h5 : Hid (((1 + 13 * k + 5 : Nat) : Int) = (p : Int) + 5) := hide (by rw [← HP.out]; omega)
          have h9 : Hid (((1 + 13 * k + 9 : Nat) : Int) = (p : Int) + 9) := hide (by rw [← HP.out]; omega)
          rw [h1.out] at N1
          rw [h5.out] at N5
          rw [h9.out] at N9
          rw [HP.out]
          generalize num4 (l'.drop (13 * k)) 1 = x1 at *
          generalize num4 (l'.drop (13 * k)) 5 = x2 at *
          generalize num4 (l'.drop (13 * k)) 9 = x3 at *
          generalize at8 (l'.drop (13 * k)) 0 = x0 at *
          obtain ⟨va, vc, rfl⟩ : ∃ va vc, u4 = .slice va k vc := by
            obtain ⟨va, vc, e⟩ := HM.out.shape
            rw [HTL.out] at e
            exact ⟨va, vc, e⟩
          have hpI : (p : Int) < (l'.length : Int) + 1 := by omega
          clear h1 h5 h9 NU hll
          go_upto_region 7 with fail
          refine reg_move3 17 (.slice va k vc) _ _ _ _ _ rfl rfl rfl rfl rfl rfl rfl rfl (by kernel_rfl) (by kernel_rfl) (by kernel_rfl) (by kernel_rfl) (by kernel_rfl) (by kernel_rfl) (by kernel_rfl) (by kernel_rfl) (by kernel_rfl) (fun _ _ _ h => h) (Or.inl ⟨by rfl, fun wS hSw => by go_simp⟩) ?_
          simp only [Act.put, List.setIfInBounds_toArray, List.set_cons_zero, List.set_cons_succ]
          iterate 6 (quiet_step (fail))
          rw [wrap_in (i64_of (by omega) : I64 ((p : Int) + 1))]
          quiet_step (first | (go_at_call 38; exact Calls.quiet_of_same (N1.out _)))
          iterate 3 (quiet_step (fail))
          rw [wrap_in (i64_of (by omega) : I64 ((p : Int) + 5))]
          quiet_step (first | (go_at_call 38; exact Calls.quiet_of_same (N5.out _)))
          iterate 3 (quiet_step (fail))
          rw [wrap_in (i64_of (by omega) : I64 ((p : Int) + 9))]
          quiet_step (first | (go_at_call 38; exact Calls.quiet_of_same (N9.out _)))
          quiet_step (fail)
          refine wpQuiet_nil ?_
          intro kq
          clear N1 N5 N9
          refine wp_abs fun K' hK' => ?_
          go_simp
          refine hK'.out _ _ ?_
          clear hK' K'
          have hws := Hb.out.size
          have hz : ((wr.drewN kq).alloc (.cells (iC x0.toNat x1 x2 x3) 48)).heap.size = wr.heap.size + 1 := by rw [size_alloc, drewN_size]
          have HO : Hid (((wr.drewN kq).alloc (.cells (iC x0.toNat x1 x2 x3) 48)).ownsRow w.heap.size 48 4 (.slice va k vc) k (itsC (decK l' k))) := hide (by
            have := (HM.out.below (below_drewN (Below.refl _ _) kq)).alloc (.cells (iC x0.toNat x1 x2 x3) 48)
            unfold MRow at this
            rw [HTL.out] at this
            exact this)
          obtain ⟨v', w5, hrun, hown5, hgrow5⟩ := run_append_one (P := Try.prog) ((wr.drewN kq).alloc (.cells (iC x0.toNat x1 x2 x3) 48)) 22 22 w.heap.size 48 i0 _ 4 32 Try.underlying22 hi hz0 hz1 hz2 rfl (by decide) (.slice va k vc) k _ HO.out ⟨wr.heap.size, 0, none⟩ 1 [.int .u8 x0.toNat, .int .i64 x1, .int .i64 x2, .int .i64 x3] rfl (new_cell4 _ _ (drewN_size _ _).symm _ _ _ _ _) (by intro u hu; simp at hu; rcases hu with rfl | rfl | rfl | rfl <;> rfl) (by omega) (by omega) (by omega)
          refine wp_append_run (.tmp 26) (.tmp 43) 22 rfl _ _ _ rfl rfl hrun ?_
          have HR5 : Hid (MRow w5 w.heap.size v' (decK l' (k + 1))) := hide (by
            rw [HS.out, HIt.out]
            show World.ownsRow _ _ _ _ _ _ _
            rw [List.length_append, HTL.out, itsC_app]
            exact hown5)
          have HB5 : Hid (Below w.heap.size w w5) := hide ((((below_drewN Hb.out kq).alloc (by rw [drewN_size]; exact hws) _).grown hgrow5 (by omega) (fun j e => (HO.out.lt j e).1)))
          obtain ⟨ao5, cap5, rfl⟩ := HR5.out.shape
          generalize (decK l' (k + 1)).length = l5 at *
          clear hown5 hgrow5 hrun hi hz0 hz1 hz2 HO hz
          refine wp_abs fun K' hK' => ?_
          go_simp
          refine hK'.out _ _ ?_
          clear hK' K'
          go_wp2_with fail
          go_roundw
          case rel => exact ⟨k + 1, by omega, congrArg _ (by have := HP.out; omega), HR5, HB5⟩
          case measure =>
            have := HP.out
            simp [intOf]
            omega
        · obtain rfl : k = n := by omega
          have CK := hide (rcheck_any (decK l' k) _ wr HM.out.rws)
          obtain ⟨va, vc, rfl⟩ : ∃ va vc, u4 = .slice va k vc := by
            obtain ⟨va, vc, e⟩ := HM.out.shape
            rw [HTL.out] at e
            exact ⟨va, vc, e⟩
          have HE2 : Hid (E = chk (decK l' k)) := hide (by rw [HE.out]; unfold decE; rw [if_pos HZ.out, HI.out])
          have HA2 : Hid (A = souA (decK l' k)) := hide (by rw [HA.out]; unfold decA souA; rw [HI.out, HZ.out]; simp)
          rw [← HE2.out] at CK
          clear hi hz0 hz1 hz2 NU
          have hge : ¬ ((1 + 13 * k : Nat) : Int) < (l'.length : Int) + 1 := by omega
          obtain ⟨p, HP⟩ : ∃ p, Hid (1 + 13 * k = p) := ⟨_, hide rfl⟩
          rw [HP.out] at hge ⊢
          clear hll
          go_wp2_with fail
          refine CK.out.mono ?_
          rintro e w3 ⟨rfl, hb3⟩
          replace HM := hide (HM.out.below hb3)
          replace Hb := hide (below_next Hb.out (Nat.le_refl _) hb3)
          clear hb3 CK
          by_cases hE0 : E = 0
          · subst hE0
            have HA3 : Hid (A = decK l' k) := hide (by rw [HA2.out]; unfold souA; rw [if_pos HE2.out.symm])
            go_wp2_with fail
            go_ret2
            exact ⟨_, rfl, by rw [HA3.out]; exact HM.out, Hb.out⟩
          · have HA3 : Hid (A = []) := hide (by rw [HA2.out]; unfold souA; rw [if_neg (fun e => hE0 (by rw [HE2.out, e]))])
            have hne : (E != 0) = true := by simp [hE0]
            go_wp2_with fail
            go_ret2
            exact ⟨_, rfl, by rw [HA3.out]; exact MRow.nil _ _, Hb.out⟩
    · have HE : Hid (szd (c :: l') = false) := hide (by unfold szd; rw [at8_cons, List.length_cons]; simp; omega)
      have e1 : decE (c :: l') = 3 := by unfold decE; rw [HE.out]; rfl
      have e2 : decA (c :: l') = [] := by unfold decA; rw [HE.out]; rfl
      rw [e1, e2]
      have hd : ((l'.length : Int) + 1 != 1 + 13 * (c.toNat : Int)) = true := by simp; omega
      clear e1 e2 HE
      rw [List.length_cons] at hs
      generalize bs (c :: l') = S at *
      go_enter Try.func18, Try.ntmps18
      go_wp2_with fail
      all_goals go_ret2
      all_goals exact ⟨_, rfl, MRow.nil _ _, Below.refl _ _⟩
end Go.Proofs.Ytnekjfidobglmaa
