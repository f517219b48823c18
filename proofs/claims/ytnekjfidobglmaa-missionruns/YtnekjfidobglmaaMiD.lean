/- Package mission: Decode. -/
import Derived.Test.YtnekjfidobglmaaMi9
namespace Go.Proofs.Ytnekjfidobglmaa
open Go.RowKit Go.Great Go.Maps

def strLen : Value → Nat
  | .string s => s.size
  | _ => 0
theorem num4_drop (l : List UInt8) (n i : Nat) : num4 (l.drop n) i = num4 l (n + i) := by
  unfold num4
  rw [at8_drop, at8_drop, at8_drop, at8_drop]
  rfl
theorem szd_no {l : List UInt8} (h0 : 0 < l.length) (h : szd l = false) : l.length ≠ 1 + 13 * (at8 l 0).toNat := by
  unfold szd at h
  simp at h
  exact h h0
theorem ext_from (m : List UInt8) (n : Nat) : (bs m).extract n (bs m).size = bs (m.drop n) := by
  rw [extract_from, bs_list]
theorem cut_from (m : List UInt8) (a : Nat) (h : a ≤ m.length) (wx : World) : (Instr.slice 9 (.string (bs m)) (some (.int .i64 (a : Int))) none none).run Try.prog wx = .ok (.string (bs (m.drop a))) wx := by
  rw [run_slice_string_l (P := Try.prog) wx 9 (bs m) Try.underlying9 .i64 (a : Int) (by omega) (by rw [bs_size]; omega)]
  rw [Int.toNat_natCast, ext_from]
set_option maxRecDepth 100000 in
set_option maxHeartbeats 8000000 in
theorem decode_any (s : ByteArray) (hs : s.size ≤ 4611686018427387904) (w : World) : Calls Try.prog 17 #[.string s] w fun e w' => ∃ u, e = .returned (.tuple #[u, .int .i64 (decE s.data.toList)]) ∧ MRow w' w.heap.size u (decA s.data.toList) ∧ Below w.heap.size w w' := by
  obtain ⟨l, rfl⟩ : ∃ l, s = bs l := ⟨_, (bs_of s).symm⟩
  rw [bs_list]
  rw [bs_size] at hs
  cases l with
  | nil =>
    have hb : bs [] = ⟨#[]⟩ := rfl
    rw [hb]
    go_enter Try.func17, Try.ntmps17
    go_wp2_with fail
    go_ret2
    exact ⟨_, rfl, MRow.nil _ _, Below.refl _ _⟩
  | cons c l' =>
    have hc2 : ∀ h, (bs (c :: l'))[0]'h = c := fun _ => rfl
    have hsz : (bs (c :: l')).size = l'.length + 1 := by rw [bs_size, List.length_cons]
    have hne : (bs (c :: l')).toList.isEmpty = false := by rw [ByteArray.toList_eq, bs_list]; rfl
    have hc := c.toNat_lt
    by_cases hz : l'.length = 13 * c.toNat
    · obtain ⟨n, eN⟩ : ∃ n, c.toNat = n := ⟨_, rfl⟩
      have hcc := hc
      rw [eN] at hz hc
      have HZ : Hid (szd (c :: l') = true) := hide (by unfold szd; rw [at8_cons, List.length_cons]; simp; omega)
      have HI : Hid (its (c :: l') = decK l' n) := hide (by unfold its; rw [at8_cons, eN, List.drop_succ_cons, List.drop_zero])
      obtain ⟨E, HE⟩ : ∃ E, Hid (E = decE (c :: l')) := ⟨_, hide rfl⟩
      obtain ⟨A, HA⟩ : ∃ A, Hid (A = decA (c :: l')) := ⟨_, hide rfl⟩
      rw [← HE.out, ← HA.out]
      have hcut : ∀ wx, (Instr.slice 9 (.string (bs (c :: l'))) (some (.int .i64 1)) none none).run Try.prog wx = .ok (.string (bs l')) wx := fun wx => cut_from (c :: l') 1 (by simp) wx
      rw [List.length_cons] at hs
      have hd : ((l'.length : Int) + 1 != 1 + 13 * (n : Int)) = false := by simp; omega
      have HLL := hide hz
      generalize bs (c :: l') = S at *
      rw [← eN] at hd
      have HN := hide eN
      clear hz eN
      obtain ⟨i0, hi, hz0, hz1, hz2⟩ := info_parts info_it
      go_enter Try.func17, Try.ntmps17
      go_wp2_with fail
      go_loopw [4, 5] (fun v vr wx => ∃ k : Nat, k ≤ n ∧ vr = .string (bs (l'.drop (13 * k))) ∧ Hid (MRow wx w.heap.size v (decK l' k)) ∧ Hid (Below w.heap.size w wx)) (fun _ vr _ => strLen vr)
      case atStart => exact ⟨0, Nat.zero_le _, rfl, hide (MRow.nil _ _), hide (Below.refl _ _)⟩
      case round =>
        obtain ⟨k, hk, rfl, HM, Hb⟩ := hrel
        have HTL := hide (decK_len l' k)
        have HLM : Hid ((l'.drop (13 * k)).length = 13 * n - 13 * k) := hide (by rw [List.length_drop, HLL.out])
        by_cases hlt : k < n
        · have HS : Hid (decK l' (k + 1) = decK l' k ++ [decIt (l'.drop (13 * k))]) := hide rfl
          have HD : Hid (l'.drop (13 * (k + 1)) = (l'.drop (13 * k)).drop 13) := hide (by rw [List.drop_drop]; congr 1)
          generalize hm : l'.drop (13 * k) = m at *
          have hml : 13 ≤ m.length := by have := HLM.out; omega
          have k1 : ∀ wx, (Instr.slice 9 (.string (bs m)) (some (.int .i64 1)) none none).run Try.prog wx = .ok (.string (bs (m.drop 1))) wx := cut_from m 1 (by omega)
          have k5 : ∀ wx, (Instr.slice 9 (.string (bs m)) (some (.int .i64 5)) none none).run Try.prog wx = .ok (.string (bs (m.drop 5))) wx := cut_from m 5 (by omega)
          have k9 : ∀ wx, (Instr.slice 9 (.string (bs m)) (some (.int .i64 9)) none none).run Try.prog wx = .ok (.string (bs (m.drop 9))) wx := cut_from m 9 (by omega)
          have k13 : ∀ wx, (Instr.slice 9 (.string (bs m)) (some (.int .i64 13)) none none).run Try.prog wx = .ok (.string (bs (m.drop 13))) wx := cut_from m 13 (by omega)
          have N1 := hide (fun W => number_any (bs (m.drop 1)) (by rw [bs_size, List.length_drop]; omega) (by rw [bs_size, List.length_drop]; have := HLM.out; omega) W)
          have N5 := hide (fun W => number_any (bs (m.drop 5)) (by rw [bs_size, List.length_drop]; omega) (by rw [bs_size, List.length_drop]; have := HLM.out; omega) W)
          have N9 := hide (fun W => number_any (bs (m.drop 9)) (by rw [bs_size, List.length_drop]; omega) (by rw [bs_size, List.length_drop]; have := HLM.out; omega) W)
          rw [bs_list, num4_drop] at N1 N5 N9
          have HIt : Hid (decIt m = ⟨at8 m 0, num4 m (1 + 0), num4 m (5 + 0), num4 m (9 + 0)⟩) := hide rfl
          have hx0 : ∀ h, (bs m)[0]'h = at8 m 0 := fun h => by rw [at8_get, bs_list]
          obtain ⟨q, hq⟩ : ∃ q, m.length = q + 13 := ⟨m.length - 13, by omega⟩
          have hms : (bs m).size = q + 13 := by rw [bs_size, hq]
          have hqb : q ≤ 3400 := by have := HLM.out; omega
          have hpos : (0 : Int) < (q : Int) + 13 := by omega
          have HQ := hide hq
          clear hq
          have hmn : (bs m).toList.isEmpty = false := by
            rw [ByteArray.toList_eq, bs_list]
            cases m with
            | nil => simp at hml
            | cons x y => rfl
          generalize num4 m (1 + 0) = x1 at *
          generalize num4 m (5 + 0) = x2 at *
          generalize num4 m (9 + 0) = x3 at *
          generalize at8 m 0 = x0 at *
          obtain ⟨va, vc, rfl⟩ : ∃ va vc, u4 = .slice va k vc := by
            obtain ⟨va, vc, e⟩ := HM.out.shape
            rw [HTL.out] at e
            exact ⟨va, vc, e⟩
          generalize bs m = bm at *
          generalize bs (m.drop 1) = b1 at *
          generalize bs (m.drop 5) = b5 at *
          generalize bs (m.drop 9) = b9 at *
          go_upto_region 7 with fail
          refine reg_move3 13 (.slice va k vc) _ _ _ _ _ rfl rfl rfl rfl rfl rfl rfl rfl (by kernel_rfl) (by kernel_rfl) (by kernel_rfl) (by kernel_rfl) (by kernel_rfl) (by kernel_rfl) (by kernel_rfl) (by kernel_rfl) (by kernel_rfl) (fun _ _ _ h => h) (Or.inl ⟨by rfl, fun wS hSw => by go_simp⟩) ?_
          simp only [Act.put, List.setIfInBounds_toArray, List.set_cons_zero, List.set_cons_succ]
          iterate 4 (quiet_step (fail))
          quiet_step (first | (go_at_call 36; exact Calls.quiet_of_same (N1.out _)))
          iterate 2 (quiet_step (fail))
          quiet_step (first | (go_at_call 36; exact Calls.quiet_of_same (N5.out _)))
          iterate 2 (quiet_step (fail))
          quiet_step (first | (go_at_call 36; exact Calls.quiet_of_same (N9.out _)))
          quiet_step (fail)
          refine wpQuiet_nil ?_
          intro kq
          clear k1 k5 k9 N1 N5 N9 hpos
          refine wp_abs fun K' hK' => ?_
          go_simp
          refine hK'.out _ _ ?_
          clear hK' K'
          have hws := Hb.out.size
          have hz : ((wr.drewN kq).alloc (.cells (iC x0.toNat x1 x2 x3) 48)).heap.size = wr.heap.size + 1 := by rw [size_alloc, drewN_size]
          have HO : Hid (((wr.drewN kq).alloc (.cells (iC x0.toNat x1 x2 x3) 48)).ownsRow w.heap.size 48 4 (.slice va k vc) k (itsC (decK l' k))) := hide (by
            have := (HM.out.below (below_drewN (Below.refl _ _) kq)).alloc (.cells (iC x0.toNat x1 x2 x3) 48)
            unfold MRow at this
            rw [HTL.out] at this
            exact this)
          obtain ⟨v', w5, hrun, hown5, hgrow5⟩ := run_append_one (P := Try.prog) ((wr.drewN kq).alloc (.cells (iC x0.toNat x1 x2 x3) 48)) 22 22 w.heap.size 48 i0 _ 4 32 Try.underlying22 hi hz0 hz1 hz2 rfl (by decide) (.slice va k vc) k _ HO.out ⟨wr.heap.size, 0, none⟩ 1 [.int .u8 x0.toNat, .int .i64 x1, .int .i64 x2, .int .i64 x3] rfl (new_cell4 _ _ (drewN_size _ _).symm _ _ _ _ _) (by intro u hu; simp at hu; rcases hu with rfl | rfl | rfl | rfl <;> rfl) (by omega) (by omega) (by omega)
          refine wp_append_run (.tmp 24) (.tmp 37) 22 rfl _ _ _ rfl rfl hrun ?_
          have HR5 : Hid (MRow w5 w.heap.size v' (decK l' (k + 1))) := hide (by
            rw [HS.out, HIt.out]
            show World.ownsRow _ _ _ _ _ _ _
            rw [List.length_append, HTL.out, itsC_app]
            exact hown5)
          have HB5 : Hid (Below w.heap.size w w5) := hide ((((below_drewN Hb.out kq).alloc (by rw [drewN_size]; exact hws) _).grown hgrow5 (by omega) (fun j e => (HO.out.lt j e).1)))
          obtain ⟨ao5, cap5, rfl⟩ := HR5.out.shape
          generalize (decK l' (k + 1)).length = l5 at *
          clear hown5 hgrow5 hrun hi hz0 hz1 hz2 HO hz
          refine wp_abs fun K' hK' => ?_
          go_simp
          refine hK'.out _ _ ?_
          clear hK' K'
          go_wp2_with fail
          go_roundw
          case rel => exact ⟨k + 1, by omega, by rw [HD.out], HR5, HB5⟩
          case measure =>
            show (bs (m.drop 13)).size < bm.size
            rw [hms, bs_size, List.length_drop, HLM.out]
            have := HQ.out
            rw [HLM.out] at this
            omega
        · obtain rfl : k = n := by omega
          have e0 : l'.drop (13 * k) = [] := List.drop_eq_nil_of_le (by rw [HLL.out]; omega)
          rw [e0]
          have hb0 : bs [] = ⟨#[]⟩ := rfl
          rw [hb0]
          have SO := hide (sound_any (decK l' k) _ wr w.heap.size HM.out)
          have HE2 : Hid (E = chk (decK l' k)) := hide (by rw [HE.out]; unfold decE; rw [if_pos HZ.out, HI.out])
          have HA2 : Hid (A = souA (decK l' k)) := hide (by rw [HA.out]; unfold decA souA; rw [HI.out, HZ.out]; simp)
          rw [← HE2.out, ← HA2.out] at SO
          clear hi hz0 hz1 hz2
          go_wp2_with fail
          refine SO.out.mono ?_
          rintro e w3 ⟨u, rfl, hu, hb3⟩
          go_wp2_with fail
          go_ret2
          exact ⟨u, rfl, hu, below_next Hb.out (Nat.le_refl _) hb3⟩
    · have HE : Hid (szd (c :: l') = false) := hide (by unfold szd; rw [at8_cons, List.length_cons]; simp; omega)
      have e1 : decE (c :: l') = 3 := by unfold decE; rw [HE.out]; rfl
      have e2 : decA (c :: l') = [] := by unfold decA; rw [HE.out]; rfl
      rw [e1, e2]
      have hd : ((l'.length : Int) + 1 != 1 + 13 * (c.toNat : Int)) = true := by simp; omega
      clear e1 e2 HE
      rw [List.length_cons] at hs
      generalize bs (c :: l') = S at *
      go_enter Try.func17, Try.ntmps17
      go_wp2_with fail
      all_goals go_ret2
      all_goals exact ⟨_, rfl, MRow.nil _ _, Below.refl _ _⟩
end Go.Proofs.Ytnekjfidobglmaa
