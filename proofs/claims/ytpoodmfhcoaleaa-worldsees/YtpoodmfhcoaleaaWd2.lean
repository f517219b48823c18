/- Package world, walked: fly. -/
import Derived.Test.YtpoodmfhcoaleaaWd1
namespace Go.Proofs.Ytpoodmfhcoaleaa
open Go.RowKit Go.Great

/-- the velocities of the first i axes are new -/
def fA (p0 p1 p2 v0 v1 v2 V0 V1 V2 h r c : Int) : Nat → Array Value
  | 0 => woC p0 p1 p2 v0 v1 v2 h r c
  | 1 => woC p0 p1 p2 V0 v1 v2 h r c
  | 2 => woC p0 p1 p2 V0 V1 v2 h r c
  | _ => woC p0 p1 p2 V0 V1 V2 h r c
/-- the places of the first i axes are new -/
def gA (p0 p1 p2 q0 q1 q2 V0 V1 V2 h r c : Int) : Nat → Array Value
  | 0 => woC p0 p1 p2 V0 V1 V2 h r c
  | 1 => woC q0 p1 p2 V0 V1 V2 h r c
  | 2 => woC q0 q1 p2 V0 V1 V2 h r c
  | _ => woC q0 q1 q2 V0 V1 V2 h r c
set_option maxHeartbeats 4000000 in
set_option maxRecDepth 100000 in
theorem flyW_any (o : Wo) (l x y t a b c : Int) (w : World) (ho : WOk o) (hl : I64 l) (hx : I64 x) (hy : I64 y) (ht : I64 t) (ha : I64 a) (hb : I64 b) (hc : I64 c) : Calls Try.prog 20 #[woV o, wV l x y t, tV a b c] w fun e w' => e = .returned (woV (flyS o l x y t a b c)) ∧ Below w.heap.size w w' := by
  obtain ⟨p0, p1, p2, v0, v1, v2, h, r, ch⟩ := o
  obtain ⟨i0, i1, i2, i3, i4, i5, i6, i7, i8⟩ := ho
  simp only [] at i0 i1 i2 i3 i4 i5 i6 i7 i8
  have A1 := hide (fun W => add_any v0 x W i3 hx)
  have A2 := hide (fun W => add_any (sat (v0 + x)) a W (sat_any _) ha)
  have B1 := hide (fun W => add_any v1 y W i4 hy)
  have B2 := hide (fun W => add_any (sat (v1 + y)) b W (sat_any _) hb)
  have C1 := hide (fun W => add_any v2 l W i5 hl)
  have C2 := hide (fun W => add_any (sat (v2 + l)) c W (sat_any _) hc)
  have C3 := hide (fun W => sub_any (gov v2 l c) 392 W (sat_any _) (i64_of (by decide)))
  have P0 := hide (fun W => add_any p0 (gov v0 x a) W i0 (sat_any _))
  have P1 := hide (fun W => add_any p1 (gov v1 y b) W i1 (sat_any _))
  have P2 := hide (fun W => add_any p2 (goz v2 l c) W i2 (sat_any _))
  have RR := hide (fun W => add_any r t W i7 ht)
  rw [show sat (sat (v0 + x) + a) = gov v0 x a from rfl] at A2
  rw [show sat (sat (v1 + y) + b) = gov v1 y b from rfl] at B2
  rw [show sat (sat (v2 + l) + c) = gov v2 l c from rfl] at C2
  rw [show sat (gov v2 l c - 392) = goz v2 l c from rfl] at C3
  unfold flyS
  simp only []
  generalize sat (p0 + gov v0 x a) = q0 at *
  generalize sat (p1 + gov v1 y b) = q1 at *
  generalize sat (p2 + goz v2 l c) = q2 at *
  generalize sat (r + t) = q7 at *
  generalize gov v0 x a = V0 at *
  generalize gov v1 y b = V1 at *
  generalize goz v2 l c = V2 at *
  generalize gov v2 l c = U2 at *
  generalize sat (v0 + x) = s0 at *
  generalize sat (v1 + y) = s1 at *
  generalize sat (v2 + l) = s2 at *
  clear i0 i1 i2 i3 i4 i5 i6 i7 i8 hl hx hy ht ha hb hc
  obtain ⟨W0, hW0, b0, M0, R0, P0', Q0, hz0⟩ := four_boxesM w (woC p0 p1 p2 v0 v1 v2 h r ch) (wC l x y t) (tC a b c) (woC 0 0 0 0 0 0 0 0 0) 24 46 22 24
  obtain ⟨r0, r1, r2, r3⟩ := four_cells R0
  have Hb := hide b0
  have HM := hide M0
  have HR := hide R0
  have HT := hide P0'
  have HZ := hide Q0
  clear b0 M0 R0 P0' Q0
  go_enter Try.func20, Try.ntmps20
  go_wp2_with fail
  clear r0 r1 r2 r3 hW0 hz0
  go_loopw [18] (fun v wr => ∃ i : Nat, v = .int .i64 (i : Int) ∧ i ≤ 3 ∧ Blk wr w.heap.size (fA p0 p1 p2 v0 v1 v2 V0 V1 U2 h r ch i) 24 ∧ Blk wr (w.heap.size + 1) (wC l x y t) 46 ∧ Blk wr (w.heap.size + 1 + 1) (tC a b c) 22 ∧ Blk wr (w.heap.size + 1 + 1 + 1) (woC 0 0 0 0 0 0 0 0 0) 24 ∧ Below w.heap.size w wr) (fun v _ => 3 - (intOf v).toNat)
  case atStart => exact ⟨0, rfl, by omega, HM.out, HR.out, HT.out, HZ.out, Hb.out⟩
  case round =>
    clear HM HR HT HZ Hb
    obtain ⟨i, rfl, hi, hM, hR, hT, hZ, hb⟩ := hrel
    have HM := hide hM
    have HR := hide hR
    have HT := hide hT
    have HZ := hide hZ
    have Hb := hide hb
    have hz := hZ.lt
    clear hM hR hT hZ hb
    obtain rfl | rfl | rfl | rfl : i = 0 ∨ i = 1 ∨ i = 2 ∨ i = 3 := by omega
    · clear B1 B2 C1 C2 C3 P0 P1 P2 RR
      have IX := fun w => ix3_0 (.int .i64 x) (.int .i64 y) (.int .i64 l) w
      have c0 : wr.cell? ⟨w.heap.size, 3, none⟩ = some (.int .i64 v0) := HM.out.cell 3 rfl
      have f0 := HM.out.frozen 3
      have t0 := HT.out.cell 0 rfl
      go_wp2_with fail
      refine reg_last 13 rfl rfl _ rfl (by kernel_rfl) (by kernel_rfl) (by kernel_rfl) ?_
      simp only [List.take_succ_cons, List.take_zero]
      repeat (quiet_step (first | (go_at_call_of 29 (Value.int IntKind.i64 v0); exact Calls.quiet_of_same (A1.out _)) | (go_at_call_of 29 (Value.int IntKind.i64 s0); exact Calls.quiet_of_same (A2.out _))))
      refine wpQuiet_nil ?_
      intro nq
      go_simp
      go_wp2_with fail
      go_roundw
      case rel => exact ⟨1, by go_num, by omega, (blk_drewN HM.out nq).set 3 _, (blk_drewN HR.out nq).setOther (by omega) _ _, (blk_drewN HT.out nq).setOther (by omega) _ _, (blk_drewN HZ.out nq).setOther (by omega) _ _, below_set (below_drewN Hb.out nq) _ _ _ (by omega) (below_drewN Hb.out nq).size⟩
      case measure => simp [intOf]
    · clear A1 A2 C1 C2 C3 P0 P1 P2 RR
      have IX := fun w => ix3_1 (.int .i64 x) (.int .i64 y) (.int .i64 l) w
      have c0 : wr.cell? ⟨w.heap.size, 4, none⟩ = some (.int .i64 v1) := HM.out.cell 4 rfl
      have f0 := HM.out.frozen 4
      have t0 := HT.out.cell 1 rfl
      go_wp2_with fail
      refine reg_last 13 rfl rfl _ rfl (by kernel_rfl) (by kernel_rfl) (by kernel_rfl) ?_
      simp only [List.take_succ_cons, List.take_zero]
      repeat (quiet_step (first | (go_at_call_of 29 (Value.int IntKind.i64 v1); exact Calls.quiet_of_same (B1.out _)) | (go_at_call_of 29 (Value.int IntKind.i64 s1); exact Calls.quiet_of_same (B2.out _))))
      refine wpQuiet_nil ?_
      intro nq
      go_simp
      go_wp2_with fail
      go_roundw
      case rel => exact ⟨2, by go_num, by omega, (blk_drewN HM.out nq).set 4 _, (blk_drewN HR.out nq).setOther (by omega) _ _, (blk_drewN HT.out nq).setOther (by omega) _ _, (blk_drewN HZ.out nq).setOther (by omega) _ _, below_set (below_drewN Hb.out nq) _ _ _ (by omega) (below_drewN Hb.out nq).size⟩
      case measure => simp [intOf]
    · clear A1 A2 B1 B2 C3 P0 P1 P2 RR
      have IX := fun w => ix3_2 (.int .i64 x) (.int .i64 y) (.int .i64 l) w
      have c0 : wr.cell? ⟨w.heap.size, 5, none⟩ = some (.int .i64 v2) := HM.out.cell 5 rfl
      have f0 := HM.out.frozen 5
      have t0 := HT.out.cell 2 rfl
      go_wp2_with fail
      refine reg_last 13 rfl rfl _ rfl (by kernel_rfl) (by kernel_rfl) (by kernel_rfl) ?_
      simp only [List.take_succ_cons, List.take_zero]
      repeat (quiet_step (first | (go_at_call_of 29 (Value.int IntKind.i64 v2); exact Calls.quiet_of_same (C1.out _)) | (go_at_call_of 29 (Value.int IntKind.i64 s2); exact Calls.quiet_of_same (C2.out _))))
      refine wpQuiet_nil ?_
      intro nq
      go_simp
      go_wp2_with fail
      go_roundw
      case rel => exact ⟨3, by go_num, by omega, (blk_drewN HM.out nq).set 5 _, (blk_drewN HR.out nq).setOther (by omega) _ _, (blk_drewN HT.out nq).setOther (by omega) _ _, (blk_drewN HZ.out nq).setOther (by omega) _ _, below_set (below_drewN Hb.out nq) _ _ _ (by omega) (below_drewN Hb.out nq).size⟩
      case measure => simp [intOf]
    · clear A1 A2 B1 B2 C1 C2
      have c5 : wr.cell? ⟨w.heap.size, 5, none⟩ = some (.int .i64 U2) := HM.out.cell 5 rfl
      have f5 := HM.out.frozen 5
      go_upto_region 7 with (go_at_call 24; refine (C3.out _).mono ?_; rintro e w1 ⟨rfl, hw⟩; obtain rfl := hw.symm)
      replace HM := hide (show Blk _ w.heap.size (woC p0 p1 p2 V0 V1 V2 h r ch) 24 from HM.out.set 5 (.int .i64 V2))
      replace HR := hide (HR.out.setOther (C := w.heap.size) (by omega) 5 (.int .i64 V2))
      replace HT := hide (HT.out.setOther (C := w.heap.size) (by omega) 5 (.int .i64 V2))
      replace HZ := hide (HZ.out.setOther (C := w.heap.size) (by omega) 5 (.int .i64 V2))
      replace Hb := hide (below_set Hb.out w.heap.size 5 (.int .i64 V2) (Nat.le_refl _) Hb.out.size)
      clear c5 f5 C3 hz
      generalize wr.setCell ⟨w.heap.size, 5, none⟩ (.int .i64 V2) = W1 at *
      have v3 := HM.out.cell 3 rfl
      have v4 := HM.out.cell 4 rfl
      have v5 := HM.out.cell 5 rfl
      go_wp2_with fail
      clear v3 v4 v5
      go_loopw [44] (fun v wr => ∃ i : Nat, v = .int .i64 (i : Int) ∧ i ≤ 3 ∧ Blk wr w.heap.size (gA p0 p1 p2 q0 q1 q2 V0 V1 V2 h r ch i) 24 ∧ Blk wr (w.heap.size + 1) (wC l x y t) 46 ∧ Blk wr (w.heap.size + 1 + 1 + 1) (woC 0 0 0 0 0 0 0 0 0) 24 ∧ Below w.heap.size w wr) (fun v _ => 3 - (intOf v).toNat)
      case atStart => exact ⟨0, rfl, by omega, HM.out, HR.out, HZ.out, Hb.out⟩
      case round =>
        clear HM HR HT HZ Hb
        obtain ⟨i, rfl, hi, hM, hR, hZ, hb⟩ := hrel
        have HM := hide hM
        have HR := hide hR
        have HZ := hide hZ
        have Hb := hide hb
        have hz := hZ.lt
        clear hM hR hZ hb
        obtain rfl | rfl | rfl | rfl : i = 0 ∨ i = 1 ∨ i = 2 ∨ i = 3 := by omega
        · clear P1 P2 RR
          have IX := fun w => ix3_0 (.int .i64 V0) (.int .i64 V1) (.int .i64 V2) w
          have c0 : wr.cell? ⟨w.heap.size, 0, none⟩ = some (.int .i64 p0) := HM.out.cell 0 rfl
          have f0 := HM.out.frozen 0
          go_wp2_with (go_at_call 29; refine (P0.out _).mono ?_; rintro e w1 ⟨rfl, hw⟩; obtain rfl := hw.symm)
          go_roundw
          case rel => exact ⟨1, by go_num, by omega, HM.out.set 0 _, HR.out.setOther (by omega) _ _, HZ.out.setOther (by omega) _ _, below_set Hb.out _ _ _ (by omega) Hb.out.size⟩
          case measure => simp [intOf]
        · clear P0 P2 RR
          have IX := fun w => ix3_1 (.int .i64 V0) (.int .i64 V1) (.int .i64 V2) w
          have c0 : wr.cell? ⟨w.heap.size, 1, none⟩ = some (.int .i64 p1) := HM.out.cell 1 rfl
          have f0 := HM.out.frozen 1
          go_wp2_with (go_at_call 29; refine (P1.out _).mono ?_; rintro e w1 ⟨rfl, hw⟩; obtain rfl := hw.symm)
          go_roundw
          case rel => exact ⟨2, by go_num, by omega, HM.out.set 1 _, HR.out.setOther (by omega) _ _, HZ.out.setOther (by omega) _ _, below_set Hb.out _ _ _ (by omega) Hb.out.size⟩
          case measure => simp [intOf]
        · clear P0 P1 RR
          have IX := fun w => ix3_2 (.int .i64 V0) (.int .i64 V1) (.int .i64 V2) w
          have c0 : wr.cell? ⟨w.heap.size, 2, none⟩ = some (.int .i64 p2) := HM.out.cell 2 rfl
          have f0 := HM.out.frozen 2
          go_wp2_with (go_at_call 29; refine (P2.out _).mono ?_; rintro e w1 ⟨rfl, hw⟩; obtain rfl := hw.symm)
          go_roundw
          case rel => exact ⟨3, by go_num, by omega, HM.out.set 2 _, HR.out.setOther (by omega) _ _, HZ.out.setOther (by omega) _ _, below_set Hb.out _ _ _ (by omega) Hb.out.size⟩
          case measure => simp [intOf]
        · clear P0 P1 P2
          have c7 : wr.cell? ⟨w.heap.size, 7, none⟩ = some (.int .i64 r) := HM.out.cell 7 rfl
          have f7 := HM.out.frozen 7
          have t7 := HR.out.cell 3 rfl
          go_upto_region 13 with (go_at_call 29; refine (RR.out _).mono ?_; rintro e w1 ⟨rfl, hw⟩; obtain rfl := hw.symm)
          replace HM := hide (show Blk _ w.heap.size (woC q0 q1 q2 V0 V1 V2 h q7 ch) 24 from HM.out.set 7 (.int .i64 q7))
          replace HZ := hide (HZ.out.setOther (C := w.heap.size) (by omega) 7 (.int .i64 q7))
          replace Hb := hide (below_set Hb.out w.heap.size 7 (.int .i64 q7) (Nat.le_refl _) Hb.out.size)
          clear c7 f7 t7 RR HR hz
          generalize wr.setCell ⟨w.heap.size, 7, none⟩ (.int .i64 q7) = W2 at *
          obtain ⟨a0, a1, a2, a3, a4, a5, a6, a7, a8⟩ := nine_cells HM.out
          obtain ⟨f0, f1, f2, f3, f4, f5, f6, f7, f8⟩ := nine_froz HZ.out
          obtain ⟨g0, g1, g2, g3, g4, g5, g6, g7, g8⟩ := nine_cells HZ.out
          go_wp2_with fail
          exact bodyPost_ret (wo_back (p := 6) (by kernel_rfl) _ _ (w.heap.size + 1 + 1 + 1) _ _ _ _ _ _ _ _ _ rfl (HZ.out.set9 _ _ _ _ _ _ _ _ _)) rfl ⟨rfl, below_set9 Hb.out _ _ _ _ _ _ _ _ _ _ (by omega) Hb.out.size⟩
end Go.Proofs.Ytpoodmfhcoaleaa
