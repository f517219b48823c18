/- ExecRuns: what is due in each tick is what the document says. -/
import Derived.Test.YtcjahdgppnmdkaaExe
import Derived.Test.YtcjahdgppnmdkaaKo5
set_option maxRecDepth 100000
namespace Go.Proofs.Ytcjahdgppnmdkaa
open Go.RowKit Go.Great

theorem dueS_len {L : List Jb} (h : JsOk L) (t : Int) : (dueS L t).length ≤ 64 := by
  have h1 := (dueN_perm L t L.length).length_eq
  have h2 := List.length_filter_le (fun k => dueB (jbA L k) t) (List.range L.length)
  rw [List.length_range] at h2
  have := h.le
  unfold dueS
  omega
theorem eql_ptr0 (w : World) : (binOp .eql 69 (.pointer none) (.pointer none)).run Try.prog w = .ok (.bool true) w := by
  simp [go_sem]
/-- Due, its numbers l behind a letter -/
theorem due_l (w : World) (b P : Nat) (L : List Jb) (t : Int) (h : PlanW w b P L t) (hL : JsOk L) (h0 : 0 ≤ t) (ht : t < 9223372036854775807) (l : List Int) (ll : Nat) (e1 : (dueS L t).map Int.ofNat = l) (e2 : l.length = ll) : Calls Try.prog 32 #[pP P] w fun e w' => ∃ ua uc, e = .returned (.slice ua ll uc) ∧ IRow w' w.heap.size (.slice ua ll uc) l ∧ PlanW w' b P L (t + 1) ∧ w.grownBy w' (some P) := by
  refine (due_any w b P L t h hL h0 ht).mono ?_
  rintro e w' ⟨v, rfl, hr, hp, hg⟩
  rw [e1] at hr
  obtain ⟨ua, uc, rfl⟩ := hr.shape
  rw [e2] at hr ⊢
  exact ⟨ua, uc, rfl, hr, hp, hg⟩
theorem refDue_l (L : List Jb) (v : Value) (t : Int) (w : World) (hR : Rws w v 3 jbC L) (hL : JsOk L) (ht0 : 0 ≤ t) (ht : t ≤ 9223372036854775807) (l : List Int) (ll : Nat) (e1 : (dueS L t).map Int.ofNat = l) (e2 : l.length = ll) : Calls Try.prog 34 #[v, .int .i64 t] w fun e w' => ∃ ua uc, e = .returned (.slice ua ll uc) ∧ IRow w' w.heap.size (.slice ua ll uc) l ∧ Below w.heap.size w w' := by
  refine (refDue_any L v t w hR hL ht0 ht).mono ?_
  rintro e w' ⟨v, rfl, hr, hb⟩
  rw [e1] at hr
  obtain ⟨ua, uc, rfl⟩ := hr.shape
  rw [e2] at hr ⊢
  exact ⟨ua, uc, rfl, hr, hb⟩
set_option maxHeartbeats 4000000 in
theorem ExecRuns_walk (v : Value) (ticks : Int) (w : World) (hv : ∃ L, JbsN w v L) : Calls Try.prog 10 #[v, .int .i64 ticks] w fun e w' => e = .returned (.bool true) ∧ Below w.heap.size w w' := by
  obtain ⟨L, hv⟩ := hv
  have HV := hide hv
  have PL := hide (plan_any L v w hv)
  obtain ⟨_, na, np, rfl, _⟩ := hv.1.1.1
  obtain ⟨n, hn⟩ : ∃ n, Hid (L.length = n) := ⟨_, hide rfl⟩
  rw [hn.out] at PL HV ⊢
  clear hv
  by_cases hc : chkJ L = 0
  · have HJ : Hid (JsOk L) := hide ⟨(chkJ_ok hc).1, (chkJ_ok hc).2, HV.out.1.1.2⟩
    have PL2 : Hid (Calls Try.prog 29 #[.slice na n np] w fun e w' => ∃ P, e = .returned (.tuple #[pP P, .bool true]) ∧ w.heap.size ≤ P ∧ PlanW w' w.heap.size P L 0 ∧ Below w.heap.size w w') := hide (by
      refine PL.out.mono ?_
      rintro e w' ⟨hb, ⟨h1, _⟩ | ⟨_, P, rfl, h2, h3⟩⟩
      · exact absurd hc h1
      · exact ⟨P, rfl, h2, h3, hb⟩)
    clear PL hc
    go_enter Try.func10, Try.ntmps10
    go_upto_region 2 with (go_at_call 29; refine PL2.out.mono ?_; rintro e w1 ⟨P, rfl, hP1, hP2, hb1⟩; have HP0 := hide hP1; have HPl := hide hP2; have Hb := hide hb1; clear hP1 hP2 hb1)
    have EP := eql_ptr P
    obtain ⟨M, hM⟩ : ∃ M, Hid (M = 4096) := ⟨_, hide rfl⟩
    clear PL2
    go_wp2_with fail
    go_loopw [7] (fun v7 wr => ∃ t : Nat, v7 = .int .i64 (t : Int) ∧ t ≤ M ∧ Hid (PlanW wr w.heap.size P L t) ∧ Hid (Below w.heap.size w wr)) (fun v7 _ => M - (intOf v7).toNat)
    case atStart => exact ⟨0, rfl, by omega, HPl, Hb⟩
    case round =>
      clear HPl Hb
      obtain ⟨t, rfl, htM, HPl, Hb⟩ := hrel
      have hMi : (M : Int) = 4096 := by rw [hM.out]; rfl
      by_cases hlt : (t : Int) < ticks
      · by_cases hlt2 : (t : Int) < 4096
        · have NO := hide (now_any wr w.heap.size P L t HPl.out)
          have hl64 : ((dueS L t).map Int.ofNat).length ≤ 64 := by rw [List.length_map]; exact dueS_len HJ.out t
          obtain ⟨l, hl⟩ : ∃ l, Hid ((dueS L t).map Int.ofNat = l) := ⟨_, hide rfl⟩
          rw [hl.out] at hl64
          obtain ⟨ll, hll⟩ : ∃ ll, Hid (l.length = ll) := ⟨_, hide rfl⟩
          rw [hll.out] at hl64
          have DU := hide (due_l wr w.heap.size P L t HPl.out HJ.out (by omega) (by omega) l ll hl.out hll.out)
          have hd1 : decide ((t : Int) < ticks) = true := decide_eq_true hlt
          have hd2 : decide ((t : Int) < 4096) = true := decide_eq_true hlt2
          have htt : t < M := by omega
          have hne : ((t : Int) != (t : Int)) = false := by simp
          have RD : Hid (∀ q, Below w.heap.size w q → Calls Try.prog 34 #[.slice na n np, .int .i64 t] q fun e w' => ∃ ua uc, e = .returned (.slice ua ll uc) ∧ IRow w' q.heap.size (.slice ua ll uc) l ∧ Below q.heap.size q w') := hide (fun q hb => refDue_l L _ t q (HV.out.below hb).1.1.1 HJ.out (by omega) (by omega) l ll hl.out hll.out)
          have hsz := HP0.out
          have hwt : (t : Int) ≤ 4096 := by omega
          clear hMi hlt hlt2 HPl
          go_upto_region 11 with (go_at_call 31; refine NO.out.mono ?_; rintro e w2 ⟨rfl, hw2⟩; obtain rfl := hw2.symm)
          go_upto_region 12 with (go_at_call 32; refine DU.out.mono ?_; rintro e w3 ⟨ua, uc, rfl, hr, hp, hg⟩; have HR3 := hide hr; have HP3 := hide hp; have hzr3 := hide hg.size; have Hb3 := hide (below_grown Hb.out hg (fun k e => by injection e with e; omega)); clear hr hp hg)
          have RD3 := hide (RD.out w3 Hb3.out)
          clear NO DU RD
          have AP : Hid (∀ q L0, Two2 q L0 (.slice ua ll uc) → IRow q wr.heap.size (.slice ua ll uc) l → wr.heap.size ≤ L0 → Calls Try.prog 35 #[.slice (some ⟨L0, 0, none⟩) 1 1] q fun e w' => e = .returned (.bool true) ∧ Below wr.heap.size q w' ∧ q.grownBy w' (Value.slice ua ll uc).ownBlock) := hide (fun q L0 h1 h2 h3 => apart_one ll hl64 _ l hll.out q wr.heap.size h2 L0 h1 h3)
          have SI : Hid (∀ q x, Ints q (.slice ua ll uc) l → Ints q x l → Calls Try.prog 33 #[.slice ua ll uc, x] q fun e w' => e = .returned (.bool true) ∧ ∃ k, w' = q.drewN k) := hide (fun q x h1 h2 => sameInts_true l _ _ q h1 h2 (by rw [hll.out]; omega))
          go_wp2_with fail
          refine RD3.out.mono ?_
          rintro e w4 ⟨xa, xc, rfl, hx, hb4⟩
          have HR4 := hide (HR3.out.below hb4)
          have SI4 := hide (SI.out w4 _ HR4.out.ints hx.ints)
          have HP4 := hide (HP3.out.after hb4)
          have HB4 := hide hb4
          clear hx hb4 RD3 SI HP3 HR3
          go_wp2_with fail
          refine SI4.out.mono ?_
          rintro e w5 ⟨rfl, k5, hw5⟩
          have B45 : Below w4.heap.size w4 w5 := by rw [hw5]; exact below_drewN (Below.refl _ _) k5
          have HR5 := hide (HR4.out.below B45)
          have HP5 := hide (HP4.out.after B45)
          have HB5 := hide (below_next HB4.out (Nat.le_refl _) B45)
          clear hw5 B45 SI4 HR4 HP4 HB4
          have hz5 := HB5.out.size
          have hz3 := Hb3.out.size
          have hzr : wr.heap.size ≤ w5.heap.size := by have := HR5; exact Nat.le_trans hzr3.out hz5
          have AP5 := hide (AP.out (w5.alloc (.cells #[.slice ua ll uc] 72)) w5.heap.size (Blk.new _ _ _) (HR5.out.alloc _) hzr)
          have HP6 := hide (HP5.out.after (below_alloc w5 (.cells #[.slice ua ll uc] 72)))
          have HR6 := hide (HR5.out.alloc (.cells #[.slice ua ll uc] 72))
          go_wp2_with fail
          refine AP5.out.mono ?_
          rintro e w7 ⟨rfl, hb7, hg7⟩
          have HP7 := hide (HQ.grownT HP6.out HR6.out (by decide) (by decide) hg7)
          have HbW : Hid (Below w.heap.size w w7) := hide ((below_next Hb3.out (Nat.le_refl _) (below_next HB5.out (Nat.le_refl _) (below_alloc _ _))).trans (hb7.mono Hb.out.size))
          clear hb7 hg7 AP5 AP HP6 HR6 HP5 HR5 HB5 hz5 hz3 hzr
          go_wp2_with fail
          go_roundw
          case rel => exact ⟨t + 1, by simp, by omega, HP7, HbW⟩
          case measure => simp [intOf]; omega
        · have hd1 : decide ((t : Int) < ticks) = true := decide_eq_true hlt
          have hd2 : decide ((t : Int) < 4096) = false := decide_eq_false hlt2
          have AW := hide (awake22_any wr)
          clear hMi hlt hlt2 HPl
          go_wp2_with (go_at_call 30; refine AW.out.mono ?_; rintro e w2 ⟨rfl, hb2⟩; have Hb2 := hide (below_next Hb.out (Nat.le_refl _) hb2); clear hb2)
          go_ret
          exact ⟨rfl, Hb2.out⟩
      · have hd1 : decide ((t : Int) < ticks) = false := decide_eq_false hlt
        have AW := hide (awake22_any wr)
        clear hMi hlt HPl
        go_wp2_with (go_at_call 30; refine AW.out.mono ?_; rintro e w2 ⟨rfl, hb2⟩; have Hb2 := hide (below_next Hb.out (Nat.le_refl _) hb2); clear hb2)
        go_ret
        exact ⟨rfl, Hb2.out⟩
  · have PL2 : Hid (Calls Try.prog 29 #[.slice na n np] w fun e w' => e = .returned (.tuple #[.pointer none, .bool true]) ∧ Below w.heap.size w w') := hide (by
      refine PL.out.mono ?_
      rintro e w' ⟨hb, ⟨_, rfl⟩ | ⟨h0, _⟩⟩
      · exact ⟨rfl, hb⟩
      · exact absurd h0 hc)
    have EP := eql_ptr0
    clear PL hc HV
    go_enter Try.func10, Try.ntmps10
    go_upto_region 2 with (go_at_call 29; refine PL2.out.mono ?_; rintro e w1 ⟨rfl, hb1⟩; have Hb := hide hb1; have AW := hide (awake22_any w1); clear hb1)
    go_wp2_with (go_at_call 30; refine AW.out.mono ?_; rintro e w2 ⟨rfl, hb2⟩; have Hb2 := hide (below_next Hb.out (Nat.le_refl _) hb2); clear hb2)
    go_ret
    exact ⟨rfl, Hb2.out⟩
end Go.Proofs.Ytcjahdgppnmdkaa
