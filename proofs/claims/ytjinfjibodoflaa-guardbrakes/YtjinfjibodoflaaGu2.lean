/- Package guard, walked: Slow; a backup's step. -/
import Derived.Test.YtjinfjibodoflaaGu1
namespace Go.Proofs.Ytjinfjibodoflaa
open Go.RowKit Go.Great

/-- is a velocity small? -/
def sml (a : Int) : Bool := decide (-64 ≤ a) && decide (a ≤ 64)
def slw (a b c : Int) : Bool := sml a && (sml b && sml c)
theorem ixT0 (a b c : Value) (w : World) : (Instr.index 30 (.agg #[a, b, c]) (.int .i64 0)).run Try.prog w = .ok a w := by kernel_rfl
theorem ixT1 (a b c : Value) (w : World) : (Instr.index 30 (.agg #[a, b, c]) (.int .i64 1)).run Try.prog w = .ok b w := by kernel_rfl
theorem ixT2 (a b c : Value) (w : World) : (Instr.index 30 (.agg #[a, b, c]) (.int .i64 2)).run Try.prog w = .ok c w := by kernel_rfl
theorem sml_two (a : Int) : Hid (sml a = false) ∨ Hid (sml a = true) := by cases h : sml a; exact .inl (hide rfl); exact .inr (hide rfl)
theorem sml_no {a : Int} (h : sml a = false) : a < -64 ∨ 64 < a := by unfold sml at h; simp at h; omega
theorem sml_yes {a : Int} (h : sml a = true) : ¬ a < -64 ∧ ¬ 64 < a := by unfold sml at h; simp at h; omega
set_option maxHeartbeats 1000000 in
theorem slow_any (a b c : Int) (w : World) : Calls Try.prog 20 #[tV a b c] w fun e w' => e = .returned (.bool (slw a b c)) ∧ Below w.heap.size w w' := by
  obtain ⟨c0, c1, c2⟩ := three_cells (Blk.new w (tC a b c) 30)
  have Hb := hide (below_alloc w (.cells (tC a b c) 30))
  go_enter Try.func20, Try.ntmps20
  go_upto_region 2 with fail
  generalize w.alloc (.cells (tC a b c) 30) = W1 at *
  clear c0 c1 c2
  go_loopw [6] (fun v wr => ∃ i : Nat, v = .int .i64 (i : Int) ∧ i ≤ 3 ∧ (0 < i → sml a = true) ∧ (1 < i → sml b = true) ∧ (2 < i → sml c = true) ∧ wr = W1) (fun v _ => 3 - (intOf v).toNat)
  case atStart => exact ⟨0, rfl, by omega, by omega, by omega, by omega, rfl⟩
  case round =>
    obtain ⟨i, rfl, hi, ha, hb, hc, rfl⟩ := hrel
    obtain rfl | rfl | rfl | rfl : i = 0 ∨ i = 1 ∨ i = 2 ∨ i = 3 := by omega
    · have IX := ixT0
      rcases sml_two a with hs | hs
      · have e : Hid (slw a b c = false) := hide (by unfold slw; rw [hs.out]; rfl)
        rcases sml_no hs.out with h | h
        · go_wp2_with fail
          go_ret
          exact ⟨ret_bool e.out.symm, Hb.out⟩
        · have h' : ¬ a < -64 := by omega
          go_wp2_with fail
          go_ret
          exact ⟨ret_bool e.out.symm, Hb.out⟩
      · obtain ⟨h1, h2⟩ := sml_yes hs.out
        go_wp2_with fail
        go_roundw
        case rel => exact ⟨1, by go_num, by omega, fun _ => hs.out, by omega, by omega, trivial⟩
        case measure => simp [intOf]
    · have IX := ixT1
      have h0 := hide (ha (by omega))
      rcases sml_two b with hs | hs
      · have e : Hid (slw a b c = false) := hide (by unfold slw; rw [h0.out, hs.out]; rfl)
        rcases sml_no hs.out with h | h
        · go_wp2_with fail
          go_ret
          exact ⟨ret_bool e.out.symm, Hb.out⟩
        · have h' : ¬ b < -64 := by omega
          go_wp2_with fail
          go_ret
          exact ⟨ret_bool e.out.symm, Hb.out⟩
      · obtain ⟨h1, h2⟩ := sml_yes hs.out
        go_wp2_with fail
        go_roundw
        case rel => exact ⟨2, by go_num, by omega, fun _ => h0.out, fun _ => hs.out, by omega, trivial⟩
        case measure => simp [intOf]
    · have IX := ixT2
      have h0 := hide (ha (by omega))
      have h3 := hide (hb (by omega))
      rcases sml_two c with hs | hs
      · have e : Hid (slw a b c = false) := hide (by unfold slw; rw [h0.out, h3.out, hs.out]; rfl)
        rcases sml_no hs.out with h | h
        · go_wp2_with fail
          go_ret
          exact ⟨ret_bool e.out.symm, Hb.out⟩
        · have h' : ¬ c < -64 := by omega
          go_wp2_with fail
          go_ret
          exact ⟨ret_bool e.out.symm, Hb.out⟩
      · obtain ⟨h1, h2⟩ := sml_yes hs.out
        go_wp2_with fail
        go_roundw
        case rel => exact ⟨3, by go_num, by omega, fun _ => h0.out, fun _ => h3.out, fun _ => hs.out, trivial⟩
        case measure => simp [intOf]
    · have e : Hid (slw a b c = true) := hide (by unfold slw; rw [ha (by omega), hb (by omega), hc (by omega)]; rfl)
      clear ha hb hc
      go_wp2_with fail
      go_ret
      exact ⟨ret_bool e.out.symm, Hb.out⟩
theorem ixR0 (a b c : Value) (w : World) : (Instr.index 74 (.agg #[a, b, c]) (.int .i64 0)).run Try.prog w = .ok a w := by kernel_rfl
theorem ixR1 (a b c : Value) (w : World) : (Instr.index 74 (.agg #[a, b, c]) (.int .i64 1)).run Try.prog w = .ok b w := by kernel_rfl
theorem ixR2 (a b c : Value) (w : World) : (Instr.index 74 (.agg #[a, b, c]) (.int .i64 2)).run Try.prog w = .ok c w := by kernel_rfl
theorem fnB_nil (w : World) : (binOp BinOp.eql 68 (.func (.func 31) #[] #[]) .nilFunc).run Try.prog w = .ok (.bool false) w := by
  rfl
set_option maxHeartbeats 1000000 in
theorem stepB_nil (k : Bool) (a b c f : Int) (w : World) : Calls Try.prog 17 #[.pointer none, .bool k, tV a b c, .int .i64 f] w fun e w' => e = .returned (tV 0 0 0) ∧ Below w.heap.size w w' := by
  obtain ⟨W0, hW0, b0, _, hR, hA, z0⟩ := three_boxes w (tC a b c) (tC 0 0 0) (tC 0 0 0) 30 30 30
  have Hb := hide b0
  have HR := hide hR
  obtain ⟨r0, r1, r2⟩ := three_cells hR
  obtain ⟨a0, a1, a2⟩ := three_cells hA
  have f0 := hR.frozen 0
  have f1 := hR.frozen 1
  have f2 := hR.frozen 2
  clear hR hA b0
  go_enter Try.func17, Try.ntmps17
  go_wp2
  exact bodyPost_ret (t_back (p := 8) (by kernel_rfl) _ _ (w.heap.size + 1) _ _ _ rfl (HR.out.set3 _ _ _)) rfl ⟨rfl, below_set3 Hb.out _ _ _ _ (by omega) Hb.out.size⟩
/-- what is asked for behind i axes -/
def bkC (k0 k1 k2 : Int) : Nat → Array Value
  | 0 => tC 0 0 0
  | 1 => tC k0 0 0
  | 2 => tC k0 k1 0
  | _ => tC k0 k1 k2
/-- what a step leaves, and answers -/
def BEnd (w : World) (B : Nat) (n a b c : Int) (e : Ending) (w' : World) : Prop := e = .returned (tV (ask 0 a) (ask 0 b) (ask n c)) ∧ Bup w' B n ∧ w.grownBy w' (some B)
set_option maxHeartbeats 4000000 in
theorem stepB_any (w : World) (B : Nat) (r : Int) (k : Bool) (a b c f : Int) (hB : Bup w B r) (hr : I64 r) (ha : I64 a) (hb : I64 b) (hc : I64 c) (hf : I64 f) : Calls Try.prog 17 #[bP B, .bool k, tV a b c, .int .i64 f] w (BEnd w B (fnx r k f) a b c) := by
  have NX := hide (fun W => next_any r k f W hr hf)
  have P0 := hide (fun W => push_any 0 a W i64_0 ha)
  have P1 := hide (fun W => push_any 0 b W i64_0 hb)
  have P2 := hide (fun W => push_any (fnx r k f) c W (fnx_in r k f hf) hc)
  unfold BEnd
  generalize ask 0 a = k0 at *
  generalize ask 0 b = k1 at *
  generalize ask (fnx r k f) c = k2 at *
  generalize fnx r k f = n at *
  clear hr ha hb hc hf
  have hl := hB.lt
  have FN := fnB_nil
  obtain ⟨W0, hW0, b0, hV, hR, hA, z0⟩ := three_boxes w (tC a b c) (tC 0 0 0) (tC 0 0 0) 30 30 30
  have HV := hide hV
  have HR := hide hR
  have HA := hide hA
  have HB := hide (hB.after b0)
  have HG := hide (grown_below b0 (some B))
  have c0 : W0.cell? ⟨B, 0, none⟩ = some (.func (.func 31) #[] #[]) := (hB.after b0).cell 0 rfl
  have c1 : W0.cell? ⟨B, 1, none⟩ = some (.int .i64 r) := (hB.after b0).cell 1 rfl
  have f1 := (hB.after b0).frozen 1
  clear hV hR hA b0 hB
  go_enter Try.func17, Try.ntmps17
  go_upto_region 5 with (first | (go_at_call 32; refine (NX.out _).mono ?_; rintro e w1 ⟨rfl, hw⟩; obtain rfl := hw.symm))
  replace HV := hide (HV.out.setOther (C := B) (by omega) 1 (.int .i64 n))
  replace HR := hide (HR.out.setOther (C := B) (by omega) 1 (.int .i64 n))
  replace HA := hide (HA.out.setOther (C := B) (by omega) 1 (.int .i64 n))
  replace HB : Hid (Bup (W0.setCell ⟨B, 1, none⟩ (.int .i64 n)) B n) := hide (HB.out.set 1 (.int .i64 n))
  replace HG := hide (grown_more HG.out (grown_set W0 B 1 (.int .i64 n)))
  clear c0 c1 f1 NX FN
  generalize W0.setCell ⟨B, 1, none⟩ (.int .i64 n) = W1 at *
  clear hW0 z0
  have c1 : W1.cell? ⟨B, 1, none⟩ = some (.int .i64 n) := HB.out.cell 1 rfl
  go_upto_region 6 with fail
  clear c1
  go_loopw [37] (fun v wr => ∃ i : Nat, v = .int .i64 (i : Int) ∧ i ≤ 3 ∧ Blk wr B (gbC n) 72 ∧ Blk wr w.heap.size (tC a b c) 30 ∧ Blk wr (w.heap.size + 1) (tC 0 0 0) 30 ∧ Blk wr (w.heap.size + 1 + 1) (bkC k0 k1 k2 i) 30 ∧ w.grownBy wr (some B)) (fun v _ => 3 - (intOf v).toNat)
  case atStart => exact ⟨0, rfl, by omega, HB.out, HV.out, HR.out, HA.out, HG.out⟩
  case round =>
    clear HB HV HR HA HG
    obtain ⟨i, rfl, hi, hB, hV, hR, hA, hG⟩ := hrel
    have HB := hide hB
    have HV := hide hV
    have HR := hide hR
    have HA := hide hA
    have HG := hide hG
    obtain ⟨v0, v1, v2⟩ := three_cells hV
    have c0 : wr.cell? ⟨B, 0, none⟩ = some (.func (.func 31) #[] #[]) := hB.cell 0 rfl
    clear hB hV hR hA hG
    obtain rfl | rfl | rfl | rfl : i = 0 ∨ i = 1 ∨ i = 2 ∨ i = 3 := by omega
    · have IX := ixR0
      have f0 := HA.out.frozen 0
      obtain ⟨a0, a1, a2⟩ := three_cells HA.out
      go_upto_region 8 with fail
      refine reg_last 11 rfl rfl _ rfl (by kernel_rfl) (by kernel_rfl) (by kernel_rfl) ?_
      simp only [List.take_succ_cons, List.take_zero]
      repeat (quiet_step (first
        | (go_at_call 31; exact Calls.quiet_of_same (P0.out _))))
      refine wpQuiet_nil ?_
      intro nq
      go_simp
      go_wp2_with fail
      go_roundw
      case rel => exact ⟨1, by go_num, by omega, (blk_drewN HB.out nq).setOther (by omega) _ _, (blk_drewN HV.out nq).setOther (by omega) _ _, (blk_drewN HR.out nq).setOther (by omega) _ _, (blk_drewN HA.out nq).set 0 _, grown_new (grown_drewNN HG.out nq) _ _ _ (by omega)⟩
      case measure => simp [intOf]
    · have IX := ixR1
      have f0 := HA.out.frozen 1
      obtain ⟨a0, a1, a2⟩ := three_cells HA.out
      go_upto_region 8 with fail
      refine reg_last 11 rfl rfl _ rfl (by kernel_rfl) (by kernel_rfl) (by kernel_rfl) ?_
      simp only [List.take_succ_cons, List.take_zero]
      repeat (quiet_step (first
        | (go_at_call 31; exact Calls.quiet_of_same (P1.out _))))
      refine wpQuiet_nil ?_
      intro nq
      go_simp
      go_wp2_with fail
      go_roundw
      case rel => exact ⟨2, by go_num, by omega, (blk_drewN HB.out nq).setOther (by omega) _ _, (blk_drewN HV.out nq).setOther (by omega) _ _, (blk_drewN HR.out nq).setOther (by omega) _ _, (blk_drewN HA.out nq).set 1 _, grown_new (grown_drewNN HG.out nq) _ _ _ (by omega)⟩
      case measure => simp [intOf]
    · have IX := ixR2
      have f0 := HA.out.frozen 2
      obtain ⟨a0, a1, a2⟩ := three_cells HA.out
      go_upto_region 8 with fail
      refine reg_last 11 rfl rfl _ rfl (by kernel_rfl) (by kernel_rfl) (by kernel_rfl) ?_
      simp only [List.take_succ_cons, List.take_zero]
      repeat (quiet_step (first
        | (go_at_call 31; exact Calls.quiet_of_same (P2.out _))))
      refine wpQuiet_nil ?_
      intro nq
      go_simp
      go_wp2_with fail
      go_roundw
      case rel => exact ⟨3, by go_num, by omega, (blk_drewN HB.out nq).setOther (by omega) _ _, (blk_drewN HV.out nq).setOther (by omega) _ _, (blk_drewN HR.out nq).setOther (by omega) _ _, (blk_drewN HA.out nq).set 2 _, grown_new (grown_drewNN HG.out nq) _ _ _ (by omega)⟩
      case measure => simp [intOf]
    · obtain ⟨a0, a1, a2⟩ := three_cells HA.out
      obtain ⟨r0, r1, r2⟩ := three_cells HR.out
      have f0 := HR.out.frozen 0
      have f1 := HR.out.frozen 1
      have f2 := HR.out.frozen 2
      go_wp2_with fail
      exact bodyPost_ret (t_back (p := 8) (by kernel_rfl) _ _ (w.heap.size + 1) _ _ _ rfl (HR.out.set3 _ _ _)) rfl ⟨rfl, HB.out.set3o (by omega) _ _ _, grown_new (grown_new (grown_new HG.out _ _ _ (by omega)) _ _ _ (by omega)) _ _ _ (by omega)⟩
end Go.Proofs.Ytjinfjibodoflaa
