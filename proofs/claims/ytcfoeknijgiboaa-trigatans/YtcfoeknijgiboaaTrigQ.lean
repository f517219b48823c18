/- The reference's part: sixteen thousand and odd times a number over a greater one, by halves. -/
import Derived.Test.YtcfoeknijgiboaaTrigP
namespace Go.Proofs.Ytcfoeknijgiboaa
open Go.RowKit

theorem times_front (va vb : Value) (a b : Int) (L M N : Nat) (w W : World) (ha : Whole w va a L) (h : Below w.heap.size w W) (hb : Whole W vb b M) (hL : L ≤ 100000) (hM : M ≤ 100000) (hN : L + M ≤ N) :
    Calls Try.prog 15 #[va, vb] W fun e w' => ∃ v, e = .returned v ∧ Below w.heap.size w w' ∧ Whole w' v (a * b) N := by
  refine (times_any va vb a b L M N W (ha.below h) hb hL hM hN).mono ?_
  rintro e w' ⟨v, rfl, hb, hv⟩
  exact ⟨v, rfl, h.trans (hb.mono h.size), hv⟩
set_option maxRecDepth 100000 in
set_option maxHeartbeats 16000000 in
theorem part_any (va vb : Value) (A B t : Int) (L M : Nat) (w : World) (ha : Whole w va A L) (hb : Whole w vb B M) (hL : L ≤ 1000) (hM : M ≤ 1000) (t0 : 0 ≤ t) (t1 : t ≤ 16384) (ht : ∀ m, m * B ≤ A * 16384 ↔ m ≤ t) :
    Calls Try.prog 56 #[va, vb] w fun e w' => e = .returned (.int .i64 t) ∧ Below w.heap.size w w' := by
  obtain ⟨s1, p1, l1, c1, rfl⟩ := whole_agg ha
  obtain ⟨s2, p2, l2, c2, rfl⟩ := whole_agg hb
  have hz : Below w.heap.size w ((w.alloc (.cells #[.bool s1, .slice p1 l1 c1] 28)).alloc (.cells #[.bool s2, .slice p2 l2 c2] 28)) := ((Below.refl _ _).alloc (Nat.le_refl _) _).alloc (by simp) _
  have ha2 := ha.below hz
  have ha3 := ha2
  have KA : Hid (((w.alloc (.cells #[.bool s1, .slice p1 l1 c1] 28)).alloc (.cells #[.bool s2, .slice p2 l2 c2] 28)).cell? ⟨w.heap.size, 0, none⟩ = some (.bool s1)) := by show _ = _; go_simp
  have KB : Hid (((w.alloc (.cells #[.bool s1, .slice p1 l1 c1] 28)).alloc (.cells #[.bool s2, .slice p2 l2 c2] 28)).cell? ⟨w.heap.size, 1, none⟩ = some (.slice p1 l1 c1)) := by show _ = _; go_simp
  have IK : Hid (I64 16384) := by show I64 _; unfold I64; omega
  have K3 := hide (hb.below (below_alloc w (.cells #[.bool s1, .slice p1 l1 c1] 28)))
  have HS : Hid ((w.alloc (.cells #[.bool s1, .slice p1 l1 c1] 28)).heap.size = w.heap.size + 1) := by show _ = _; simp
  have HQ := hide ht
  clear ha hb hz ha2 ht
  have tz := two_mk (t1 := 28) (t2 := 28) (below_alloc w (.cells #[.bool s1, .slice p1 l1 c1] 28)) K3.out (Below.refl _ _) (whole_zero _ 0)
  have sz2 : ((w.alloc (.cells #[.bool s1, .slice p1 l1 c1] 28)).alloc (.cells #[.bool s2, .slice p2 l2 c2] 28)).heap.size = w.heap.size + 1 + 1 := by simp
  rw [HS.out, sz2] at tz
  have TZ := hide tz
  have HA2 := hide ha3
  clear tz sz2 ha3
  go_enter Try.func56, Try.ntmps56
  go_wp2_with fail
  go_cut [5] (fun v wx => ∃ (b : Nat) (sx : Bool) (px : Option Addr) (lx cx : Nat), v = .pointer (some ⟨b, 0, none⟩) ∧ TwoV w wx (w.heap.size + 1) b s2 p2 l2 c2 sx px lx cx B (A * 16384) M (L + 3))
  case first =>
    go_region_with (first
      | (go_at_call 16; refine (of_any 16384 _ IK.out).mono ?_; rintro e wa ⟨v, rfl, h, k⟩; obtain ⟨s3, p3, l3, c3, rfl⟩ := whole_agg k; have HW := hide k; (first
          | (have tt := TZ.out.below (show Below _ _ wa from ⟨h.os, h.tape, h.output, h.size, h.block⟩); have kc := tt.d0; have kd := tt.d1; have fc := tt.g0; have fd := tt.g1; have HT := hide tt; have hb := (below_alloc ((w.alloc (.cells #[.bool s1, .slice p1 l1 c1] 28)).alloc (.cells #[.bool s2, .slice p2 l2 c2] 28)) (.cells #[.bool false, .slice none 0 0] 28)).trans ((show Below (((w.alloc (.cells #[.bool s1, .slice p1 l1 c1] 28)).alloc (.cells #[.bool s2, .slice p2 l2 c2] 28)).alloc (.cells #[.bool false, .slice none 0 0] 28)).heap.size (((w.alloc (.cells #[.bool s1, .slice p1 l1 c1] 28)).alloc (.cells #[.bool s2, .slice p2 l2 c2] 28)).alloc (.cells #[.bool false, .slice none 0 0] 28)) wa from ⟨h.os, h.tape, h.output, h.size, h.block⟩).mono (by simp)); clear tt)
          | (have hb := (show Below ((w.alloc (.cells #[.bool s1, .slice p1 l1 c1] 28)).alloc (.cells #[.bool s2, .slice p2 l2 c2] 28)).heap.size ((w.alloc (.cells #[.bool s1, .slice p1 l1 c1] 28)).alloc (.cells #[.bool s2, .slice p2 l2 c2] 28)) wa from ⟨h.os, h.tape, h.output, h.size, h.block⟩))); have ka : wa.cell? ⟨w.heap.size, 0, none⟩ = some (.bool s1) := (hb.cell (p := ⟨w.heap.size, 0, none⟩) (by simp <;> omega)).trans KA.out; have kb : wa.cell? ⟨w.heap.size, 1, none⟩ = some (.slice p1 l1 c1) := (hb.cell (p := ⟨w.heap.size, 1, none⟩) (by simp <;> omega)).trans KB.out; have hz0 : w.heap.size < wa.heap.size := (by have := hb.size; simp at this; omega); have HB := hide hb; clear hb h k)
      | (go_at_call 15; (first
          | (refine (times_any _ _ A 16384 L 3 (L + 3) _ (HA2.out.below HB.out) HW.out (by omega) (by omega) (by omega)).mono ?_; rintro e wb ⟨v, rfl, h, k⟩; obtain ⟨s4, p4, l4, c4, rfl⟩ := whole_agg k; have HW := hide k; (first
              | (have tt := HT.out.below h; have kc := tt.d0; have kd := tt.d1; have fc := tt.g0; have fd := tt.g1; have HT := hide tt; clear tt h k)
              | (have hb := HB.out.trans (h.mono HB.out.size); have HB := hide hb; clear hb h k)))
          | (refine (times_any _ _ A 16384 L 3 (L + 3) _ ((HA2.out.below HB.out).below (below_alloc _ _)) (HW.out.below (below_alloc _ _)) (by omega) (by omega) (by omega)).mono ?_; rintro e wb ⟨v, rfl, h, k⟩; obtain ⟨s4, p4, l4, c4, rfl⟩ := whole_agg k; have HW := hide k; have tz := two_mk (t2 := 28) (below_alloc w (.cells #[.bool s1, .slice p1 l1 c1] 28)) K3.out HB.out (whole_zero _ 0); rw [HS.out] at tz; have tt := tz.below h; have kc := tt.d0; have kd := tt.d1; have fc := tt.g0; have fd := tt.g1; have HT := hide tt; clear tt tz h k))))
    all_goals
      go_wp2_with fail
      go_meet
      first
        | exact ⟨_, _, _, _, _, rfl, HT.out.setD HW.out⟩
        | (have tt := two_mk (t2 := 28) (below_alloc w (.cells #[.bool s1, .slice p1 l1 c1] 28)) K3.out HB.out HW.out
           rw [HS.out] at tt
           exact ⟨_, _, _, _, _, rfl, tt⟩)
  case rest =>
    obtain ⟨b, sx, px, lx, cx, rfl, tt⟩ := hcut
    have HT := hide tt
    clear tt KA KB IK K3 HS TZ HA2
    go_wp2_with fail
    go_loopw [6, 7] (fun lo hi wr => ∃ x1 x2 : Int, lo = .int .i64 x1 ∧ hi = .int .i64 x2 ∧ 0 ≤ x1 ∧ x2 ≤ 16384 ∧ x1 ≤ t ∧ t ≤ x2 ∧ TwoV w wr (w.heap.size + 1) b s2 p2 l2 c2 sx px lx cx B (A * 16384) M (L + 3)) (fun lo hi _ => (intOf hi - intOf lo).toNat)
    case atStart => exact ⟨_, _, rfl, rfl, by omega, by omega, by omega, by omega, HT.out⟩
    case round =>
      clear HT
      obtain ⟨x1, x2, rfl, rfl, r1, r2, r3, r4, tt⟩ := hrel
      have ka := tt.a0
      have kb := tt.a1
      have kc := tt.d0
      have kd := tt.d1
      have fa := tt.f0
      have fb := tt.f1
      have fc := tt.g0
      have fd := tt.g1
      have HT := hide tt
      clear tt
      by_cases lt : x1 < x2
      · obtain ⟨m, hm⟩ : ∃ m, (x1 + x2 + 1) / 2 = m := ⟨_, rfl⟩
        have m1 : x1 < m := by omega
        have m2 : m ≤ x2 := by omega
        have UP : Hid (I64 m) := by show I64 _; unfold I64; omega
        have q1 := cmpI_in (m * B) (A * 16384)
        have q2 := HQ.out m
        obtain ⟨z, C3⟩ : ∃ x, Hid (cmpI (m * B) (A * 16384) = x) := ⟨_, rfl⟩
        rw [C3.out] at q1
        by_cases up : m ≤ t
        · have zz : decide (z ≤ 0) = true := by have := q1.2.2.1 (q2.2 up); simpa using this
          clear q1 q2
          go_wp2_with fail
          go_region_with (first
            | (go_at_call 16; refine (of_any m _ UP.out).mono ?_; rintro e wa ⟨v, rfl, h, k⟩; obtain ⟨sy, py, ly, cy, rfl⟩ := whole_agg k; have tt := HT.out.below (show Below _ _ wa from ⟨h.os, h.tape, h.output, h.size, h.block⟩); have ka := tt.a0; have kb := tt.a1; have kc := tt.d0; have kd := tt.d1; have fa := tt.f0; have fb := tt.f1; have fc := tt.g0; have fd := tt.g1; have HT := hide tt; have HW := hide k; clear h k tt)
            | (go_at_call 15; refine (times_any _ _ m B 3 M (3 + M) _ HW.out HT.out.wp (by omega) (by omega) (by omega)).mono ?_; rintro e wb ⟨v, rfl, h, k⟩; obtain ⟨sz, pz, lz, cz, rfl⟩ := whole_agg k; have tt := HT.out.below h; have ka := tt.a0; have kb := tt.a1; have kc := tt.d0; have kd := tt.d1; have fa := tt.f0; have fb := tt.f1; have fc := tt.g0; have fd := tt.g1; have HT := hide tt; have HW := hide k; clear h k tt)
            | (go_at_call 18; refine (cmp_any _ _ (m * B) (A * 16384) (3 + M) (L + 3) _ HW.out HT.out.wd (by omega)).mono ?_; rintro e wz ⟨rfl, h⟩; rw [C3.out]; have tt := HT.out.below h; have HT := hide tt; clear h tt))
          all_goals
            go_wp2_with fail
            go_roundw
            case rel => exact ⟨m, x2, rfl, rfl, by omega, by omega, by omega, by omega, HT.out⟩
            case measure => simp [intOf]; omega
        · have zz : decide (z ≤ 0) = false := by
            have : ¬ m * B ≤ A * 16384 := fun g => up (q2.1 g)
            have := q1.2.2.2.1 (by omega)
            simp; omega
          clear q1 q2
          go_wp2_with fail
          go_region_with (first
            | (go_at_call 16; refine (of_any m _ UP.out).mono ?_; rintro e wa ⟨v, rfl, h, k⟩; obtain ⟨sy, py, ly, cy, rfl⟩ := whole_agg k; have tt := HT.out.below (show Below _ _ wa from ⟨h.os, h.tape, h.output, h.size, h.block⟩); have ka := tt.a0; have kb := tt.a1; have kc := tt.d0; have kd := tt.d1; have fa := tt.f0; have fb := tt.f1; have fc := tt.g0; have fd := tt.g1; have HT := hide tt; have HW := hide k; clear h k tt)
            | (go_at_call 15; refine (times_any _ _ m B 3 M (3 + M) _ HW.out HT.out.wp (by omega) (by omega) (by omega)).mono ?_; rintro e wb ⟨v, rfl, h, k⟩; obtain ⟨sz, pz, lz, cz, rfl⟩ := whole_agg k; have tt := HT.out.below h; have ka := tt.a0; have kb := tt.a1; have kc := tt.d0; have kd := tt.d1; have fa := tt.f0; have fb := tt.f1; have fc := tt.g0; have fd := tt.g1; have HT := hide tt; have HW := hide k; clear h k tt)
            | (go_at_call 18; refine (cmp_any _ _ (m * B) (A * 16384) (3 + M) (L + 3) _ HW.out HT.out.wd (by omega)).mono ?_; rintro e wz ⟨rfl, h⟩; rw [C3.out]; have tt := HT.out.below h; have HT := hide tt; clear h tt))
          all_goals
            go_wp2_with fail
            go_roundw
            case rel => exact ⟨x1, m - 1, rfl, rfl, by omega, by omega, by omega, by omega, HT.out⟩
            case measure => simp [intOf]; omega
      · have e1 : x1 = t := by omega
        have E1 := hide e1
        clear e1
        go_wp2_with fail
        go_ret
        exact ⟨ret_int E1.out, HT.out.bel⟩
end Go.Proofs.Ytcfoeknijgiboaa
