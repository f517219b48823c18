/- The reference's Atan2, where x is 0. -/
import Derived.Test.YtcfoeknijgiboaaTrigT
namespace Go.Proofs.Ytcfoeknijgiboaa
open Go.RowKit

set_option maxRecDepth 100000 in
set_option maxHeartbeats 32000000 in
theorem refatan_zero (y x : Int) (hy : I64 y) (hx : I64 x) (hs : x.natAbs < y.natAbs) (zx : x = 0) (w : World) :
    Calls Try.prog 25 #[.int .i64 y, .int .i64 x] w fun e w' => e = .returned (.tuple #[.int .i64 (atanI y x), .bool true]) ∧ Below w.heap.size w w' := by
  unfold atanI
  rw [stp_steep _ _ hs]
  obtain ⟨Y, hY⟩ : ∃ Y : Int, (y.natAbs : Int) = Y := ⟨_, rfl⟩
  obtain ⟨X, hX⟩ : ∃ X : Int, (x.natAbs : Int) = X := ⟨_, rfl⟩
  have ht := quot_in X Y (by omega) (by omega) (by omega)
  have HQ := hide (part_iff X Y (by omega))
  have hn := quot_nat X Y (by omega) (by omega)
  rw [show Y.toNat = y.natAbs by omega, show X.toNat = x.natAbs by omega] at hn
  rw [← hn]
  obtain ⟨t, hT⟩ : ∃ t, X * 16384 / Y = t := ⟨_, rfl⟩
  rw [hT] at ht HQ ⊢
  have ht : 0 ≤ t ∧ t ≤ 16384 := ⟨ht.1, ht.2.1⟩
  have hb := tab_le aTab t.toNat (by omega)
  rw [Int.ofNat_sub hb]
  obtain ⟨b, HV⟩ : ∃ b : Int, Hid (((tab aN t.toNat : Nat) : Int) = b) := ⟨_, rfl⟩
  have hb' : 0 ≤ b ∧ b ≤ 16384 := by rw [← HV.out]; omega
  rw [HV.out]
  obtain ⟨r, HR⟩ : ∃ r, Hid ((if 0 ≤ y ∧ 0 ≤ x then (((16384 : Nat) : Int) - b) else if 0 ≤ y then 32768 - (((16384 : Nat) : Int) - b) else if x < 0 then 32768 + (((16384 : Nat) : Int) - b) else (65536 - (((16384 : Nat) : Int) - b)) % 65536) = r) := ⟨_, rfl⟩
  rw [HR.out]
  have hc := cmpI_in Y X
  obtain ⟨q, HC⟩ : ∃ q, Hid (cmpI Y X = q) := ⟨_, rfl⟩
  rw [HC.out] at hc
  have dq : decide (0 < q) = true := by have := hc.2.2.2.1 (by omega); simpa using this
  have SY := hide (fun W => refsize_any y W hy)
  have SX := hide (fun W => refsize_any x W hx)
  rw [hY] at SY
  rw [hX] at SX
  have HI := hide (And.intro hy hx)
  have xz : ((0 : Int) == 0) = true := by simp
  have yz : (y == 0) = false := by simp; omega
  clear hn hT hb hc hY hX hy hx hs
  subst zx
  go_enter Try.func25, Try.ntmps25
  go_wp2_with fail
  refine (SY.out _).mono ?_
  rintro e w1 ⟨v1, rfl, h1, k1⟩
  obtain ⟨s1, p1, l1, c1, rfl⟩ := whole_agg k1
  have H1 := hide h1; have K1 := hide k1; clear h1 k1
  go_wp2_with fail
  refine (SX.out _).mono ?_
  rintro e w2 ⟨v2, rfl, h2, k2⟩
  obtain ⟨s2, p2, l2, c2, rfl⟩ := whole_agg k2
  have tt := two_mk (t2 := 28) H1.out K1.out h2 k2
  have ka := tt.a0
  have kb := tt.a1
  have kc := tt.d0
  have kd := tt.d1
  have fa := tt.f0
  have fb := tt.f1
  have fc := tt.g0
  have fd := tt.g1
  have HT := hide tt
  clear tt h2 k2 H1 K1
  go_wp2_with fail
  refine (cmp_any _ _ Y X 3 3 _ HT.out.wp HT.out.wd (by omega)).mono ?_
  rintro e w3 ⟨rfl, h3⟩
  rw [HC.out]
  have tt := HT.out.below h3
  clear HT ka kb kc kd fa fb fc fd
  have ka := tt.a0
  have kb := tt.a1
  have kc := tt.d0
  have kd := tt.d1
  have fa := tt.f0
  have fb := tt.f1
  have fc := tt.g0
  have fd := tt.g1
  have HT := hide tt
  clear tt h3
  go_wp2_with fail
  refine (SX.out _).mono ?_
  rintro e w4 ⟨v4, rfl, h4, k4⟩
  obtain ⟨s4, p4, l4, c4, rfl⟩ := whole_agg k4
  have tt := HT.out.below h4
  clear HT ka kb kc kd fa fb fc fd
  have ka := tt.a0
  have kb := tt.a1
  have kc := tt.d0
  have kd := tt.d1
  have fa := tt.f0
  have fb := tt.f1
  have fc := tt.g0
  have fd := tt.g1
  have TP := hide (tt.setP k4)
  clear tt h4 k4
  go_wp2_with fail
  refine (SY.out _).mono ?_
  rintro e w5 ⟨v5, rfl, h5, k5⟩
  obtain ⟨s5, p5, l5, c5, rfl⟩ := whole_agg k5
  have tt := TP.out.below h5
  clear TP ka kb kc kd fa fb fc fd
  have ka := tt.a0
  have kb := tt.a1
  have kc := tt.d0
  have kd := tt.d1
  have fa := tt.f0
  have fb := tt.f1
  have fc := tt.g0
  have fd := tt.g1
  have tq := tt.setD k5
  have TP := hide tq
  clear tt h5 k5 tq
  go_wp2_with fail
  clear ka kb kc kd fa fb fc fd
  have tt := TP.out
  clear TP
  generalize ((w5.setCell ⟨w2.heap.size, 0, none⟩ (.bool s5)).setCell ⟨w2.heap.size, 1, none⟩ (.slice p5 l5 c5)) = wr at tt ⊢
  have ka := tt.a0
  have kb := tt.a1
  have kc := tt.d0
  have kd := tt.d1
  have fa := tt.f0
  have fb := tt.f1
  have fc := tt.g0
  have fd := tt.g1
  have HT := hide tt
  clear tt
  have HB := hide HT.out.bel
  clear SX SY HC
  go_cut [9] (fun v wx => v = .int .i64 b ∧ Below w.heap.size w wx)
  case first =>
    go_region_with (first
      | (go_at_call 55; refine (refangles_from _).mono ?_; rintro e wg ⟨rfl, h, hl, hg⟩; have tt := HT.out.below (show Below _ _ wg from ⟨h.os, h.tape, h.output, h.size, h.block⟩); have ka := tt.a0; have kb := tt.a1; have kc := tt.d0; have kd := tt.d1; have fa := tt.f0; have fb := tt.f1; have fc := tt.g0; have fd := tt.g1; have HT := hide tt; have HG := hide hg; have HB := hide (below_next HB.out (Nat.le_refl _) (show Below _ _ wg from ⟨h.os, h.tape, h.output, h.size, h.block⟩)); clear tt h hg)
      | (go_at_call 56; refine (part_any _ _ X Y t 3 3 _ (by first | exact HT.out.wp | exact HT.out.drew.wp) (by first | exact HT.out.wd | exact HT.out.drew.wd) (by omega) (by omega) ht.1 ht.2 HQ.out).mono ?_; rintro e wp ⟨rfl, h⟩; have hbb := hide (below_next HB.out (Nat.le_refl _) (show Below _ _ wp from ⟨h.os, h.tape, h.output, h.size, h.block⟩)); (first | (have hg := (h.block _ hl).trans HG.out; have HG := hide hg; clear hg) | skip); (first | (have tt := HT.out.below (show Below _ _ wp from ⟨h.os, h.tape, h.output, h.size, h.block⟩); have HT := hide tt; clear tt) | skip); have HB := hbb; clear h hbb)
      | (go_at_call 50; refine (at_tab aTab t ht.1 ht.2 _ _ HG.out).mono ?_; rintro e wt ⟨rfl, n9, rfl⟩; rw [HV.out]))
    all_goals
      go_wp2_with fail
      go_meet
      exact ⟨rfl, below_draw HB.out _⟩
  case rest =>
    clear HT HB ka kb kc kd fa fb fc fd
    obtain ⟨rfl, hB⟩ := hcut
    have HB := hide hB
    clear hB HV HQ
    have hr := HR.out
    by_cases gy : 0 ≤ y
    · have d1 : decide (0 ≤ y) = true := by simpa using gy
      rw [if_pos ⟨gy, Int.le_refl 0⟩] at hr
      have RR := hide hr
      clear hr HR
      go_wp2_with fail
      go_ret2
      exact ⟨ret_ib (by have e := RR.out; omega), HB.out⟩
    · have d1 : decide (0 ≤ y) = false := by simpa using gy
      rw [if_neg (fun e => gy e.1), if_neg gy, if_neg (by omega)] at hr
      have RR := hide hr
      clear hr HR
      go_wp2_with fail
      go_ret2
      exact ⟨ret_ib (by have e := RR.out; omega), HB.out⟩
end Go.Proofs.Ytcfoeknijgiboaa
