/- Package est: counting silence; is something known, and no silence too long? -/
import Derived.Test.YtgadpalkchillaaEs2
namespace Go.Proofs.Ytgadpalkchillaa
open Go.RowKit Go.Great

theorem qt_yes {m : Mea} {q : Int} (h : mth m = true) : qt m q = 0 := by unfold qt; rw [if_pos h]
theorem qt_no {m : Mea} {q : Int} (h : mth m = false) : qt m q = sat (q + 1) := by unfold qt; rw [if_neg (by rw [h]; decide)]
theorem set_again (cs : Array Value) (i : Nat) (v : Value) (h : cs[i]? = some v) : cs.setIfInBounds i v = cs := by
  apply Array.ext_getElem?
  intro j
  rw [Array.getElem?_setIfInBounds]
  split
  · subst_vars
    split
    · exact h.symm
    · rw [Array.getElem?_eq_none (by omega)]
  · rfl
theorem i64_one : I64 1 := by unfold I64; omega
def hcs2 (cs : Array Value) (p : Mea) (s0 : Int) (v : Mea) (s1 : Int) : Nat → Array Value := fun | 0 => cs | 1 => cs.setIfInBounds 2 (.int .i64 (qt p s0)) | _ => (cs.setIfInBounds 2 (.int .i64 (qt p s0))).setIfInBounds 3 (.int .i64 (qt v s1))
set_option maxHeartbeats 1000000 in
theorem hear2_any (w : World) (B : Nat) (cs : Array Value) (tt : TypeId) (p : Mea) (s0 : Int) (v : Mea) (s1 : Int) (hB : Blk w B cs tt) (h2 : cs[2]? = some (.int .i64 s0)) (h3 : cs[3]? = some (.int .i64 s1)) (is0 : I64 s0) (is1 : I64 s1) (G : Nat) (hG : Blk w G #[.bool p.o, .int .i64 p.x, .int .i64 p.e, .bool v.o, .int .i64 v.x, .int .i64 v.e] 38) (hGB : G ≠ B) :
    Calls Try.prog 25 #[.pointer (some ⟨B, 0, none⟩), .slice (some ⟨G, 0, none⟩) 2 2] w fun e w' => e = .returned (.tuple #[]) ∧ Blk w' B (hcs2 cs p s0 v s1 2) tt ∧ w.grownBy w' (some B) := by
  have HBB := hide hB
  have HGG := hide hG
  have Is0 := hide is0
  have Is1 := hide is1
  clear hB hG is0 is1
  go_enter Try.func25, Try.ntmps25
  go_wp2_with fail
  go_loopw [8] (fun v' wr => ∃ j : Nat, v' = .int .i64 (j : Int) ∧ j ≤ 2 ∧ Blk wr B (hcs2 cs p s0 v s1 j) tt ∧ Blk wr G #[.bool p.o, .int .i64 p.x, .int .i64 p.e, .bool v.o, .int .i64 v.x, .int .i64 v.e] 38 ∧ w.grownBy wr (some B)) (fun v' _ => 2 - (intOf v').toNat)
  case atStart => exact ⟨0, rfl, by omega, HBB.out, HGG.out, grown_below (Below.refl _ _) _⟩
  case round =>
    clear HBB HGG
    obtain ⟨j, rfl, hj, hBr, hGr, hWr⟩ := hrel
    have HB := hide hBr
    have HW := hide hWr
    clear hBr hWr
    by_cases he : j = 2
    · subst he
      go_wp2_with fail
      go_end0
      exact ⟨rfl, HB.out, HW.out⟩
    · obtain rfl | rfl : j = 0 ∨ j = 1 := by omega
      · -- measure 0
        have HG := hide hGr
        have c0 : wr.cell? ⟨G, 0 + 0, none⟩ = some (.bool p.o) := HG.out.cell 0 rfl
        have c1 : wr.cell? ⟨G, 0 + 1, none⟩ = some (.int .i64 p.x) := HG.out.cell (0 + 1) rfl
        have c2 : wr.cell? ⟨G, 0 + 2, none⟩ = some (.int .i64 p.e) := HG.out.cell (0 + 2) rfl
        have TH := hide (there_any p)
        rcases (show mth p = true ∨ mth p = false by cases mth p <;> simp) with hth | hth
        all_goals
          rw [hth] at TH
          have hlB := HB.out.lt
          have hlG := HG.out.lt
          go_upto_region 3 with fail
          have HM1 := hide (Blk.new wr #[.bool p.o, .int .i64 p.x, .int .i64 p.e] 38)
          have HB1 := hide (HB.out.alloc (.cells #[.bool p.o, .int .i64 p.x, .int .i64 p.e] 38))
          have HG1 := hide (HG.out.alloc (.cells #[.bool p.o, .int .i64 p.x, .int .i64 p.e] 38))
          have HW1 := hide (grown_after HW.out (below_alloc wr (.cells #[.bool p.o, .int .i64 p.x, .int .i64 p.e] 38)))
          clear HB HG HW c0 c1 c2
          generalize wr.heap.size = d at *
          generalize wr.alloc (.cells #[.bool p.o, .int .i64 p.x, .int .i64 p.e] 38) = W1 at *
          have c0 : W1.cell? ⟨d, 0, none⟩ = some (.bool p.o) := HM1.out.cell 0 rfl
          have c1 : W1.cell? ⟨d, 1, none⟩ = some (.int .i64 p.x) := HM1.out.cell 1 rfl
          have c2 : W1.cell? ⟨d, 2, none⟩ = some (.int .i64 p.e) := HM1.out.cell 2 rfl
        · go_upto_region 4 with (go_at_call 41; refine (TH.out _).mono ?_; rintro e w2 ⟨rfl, hb2⟩)
          have HB2 := hide (HB1.out.after hb2)
          have HG2 := hide (HG1.out.after hb2)
          have HW2 := hide (grown_after HW1.out hb2)
          clear HB1 HG1 HM1 HW1 hb2 c0 c1 c2
          have k0 : w2.cell? ⟨B, 2, none⟩ = some (.int .i64 s0) := HB2.out.cell 2 (h2)
          have f0 := HB2.out.frozen 2
          go_wp2_with fail
          go_roundw
          case rel => exact ⟨0 + 1, by go_num, by omega, (show Blk _ B (Array.setIfInBounds cs 2 (.int .i64 (qt p s0))) tt from by rw [qt_yes hth]; exact HB2.out.set 2 (.int .i64 0)), HG2.out.setOther (fun e => hGB e) _ _, grown_more HW2.out (grown_set _ _ _ _)⟩
          case measure => simp [intOf]
        · go_upto_region 5 with (go_at_call 41; refine (TH.out _).mono ?_; rintro e w2 ⟨rfl, hb2⟩)
          have HB2 := hide (HB1.out.after hb2)
          have HG2 := hide (HG1.out.after hb2)
          have HW2 := hide (grown_after HW1.out hb2)
          clear HB1 HG1 HM1 HW1 hb2 c0 c1 c2
          have k0 : w2.cell? ⟨B, 2, none⟩ = some (.int .i64 s0) := HB2.out.cell 2 (h2)
          have f0 := HB2.out.frozen 2
          refine reg_last 12 rfl rfl _ rfl (by kernel_rfl) (by kernel_rfl) (by kernel_rfl) ?_
          simp only [List.take_succ_cons, List.take_zero]
          repeat (quiet_step (first
            | (go_at_call 43; exact Calls.quiet_of_same (add_any _ _ _ Is0.out (i64_one)))))
          refine wpQuiet_nil ?_
          intro nq
          go_simp
          go_wp2_with fail
          go_roundw
          case rel => exact ⟨0 + 1, by go_num, by omega, (show Blk _ B (Array.setIfInBounds cs 2 (.int .i64 (qt p s0))) tt from by rw [qt_no hth]; exact (blk_drewN HB2.out nq).set 2 (.int .i64 (sat (s0 + 1)))), (blk_drewN HG2.out nq).setOther (fun e => hGB e) _ _, grown_more (grown_drewNN HW2.out nq) (grown_set _ _ _ _)⟩
          case measure => simp [intOf]
      · -- measure 1
        have HG := hide hGr
        have c0 : wr.cell? ⟨G, 3 + 0, none⟩ = some (.bool v.o) := HG.out.cell 3 rfl
        have c1 : wr.cell? ⟨G, 3 + 1, none⟩ = some (.int .i64 v.x) := HG.out.cell (3 + 1) rfl
        have c2 : wr.cell? ⟨G, 3 + 2, none⟩ = some (.int .i64 v.e) := HG.out.cell (3 + 2) rfl
        have TH := hide (there_any v)
        rcases (show mth v = true ∨ mth v = false by cases mth v <;> simp) with hth | hth
        all_goals
          rw [hth] at TH
          have hlB := HB.out.lt
          have hlG := HG.out.lt
          go_upto_region 3 with fail
          have HM1 := hide (Blk.new wr #[.bool v.o, .int .i64 v.x, .int .i64 v.e] 38)
          have HB1 := hide (HB.out.alloc (.cells #[.bool v.o, .int .i64 v.x, .int .i64 v.e] 38))
          have HG1 := hide (HG.out.alloc (.cells #[.bool v.o, .int .i64 v.x, .int .i64 v.e] 38))
          have HW1 := hide (grown_after HW.out (below_alloc wr (.cells #[.bool v.o, .int .i64 v.x, .int .i64 v.e] 38)))
          clear HB HG HW c0 c1 c2
          generalize wr.heap.size = d at *
          generalize wr.alloc (.cells #[.bool v.o, .int .i64 v.x, .int .i64 v.e] 38) = W1 at *
          have c0 : W1.cell? ⟨d, 0, none⟩ = some (.bool v.o) := HM1.out.cell 0 rfl
          have c1 : W1.cell? ⟨d, 1, none⟩ = some (.int .i64 v.x) := HM1.out.cell 1 rfl
          have c2 : W1.cell? ⟨d, 2, none⟩ = some (.int .i64 v.e) := HM1.out.cell 2 rfl
        · go_upto_region 4 with (go_at_call 41; refine (TH.out _).mono ?_; rintro e w2 ⟨rfl, hb2⟩)
          have HB2 := hide (HB1.out.after hb2)
          have HG2 := hide (HG1.out.after hb2)
          have HW2 := hide (grown_after HW1.out hb2)
          clear HB1 HG1 HM1 HW1 hb2 c0 c1 c2
          have k0 : w2.cell? ⟨B, 3, none⟩ = some (.int .i64 s1) := HB2.out.cell 3 (by show (cs.setIfInBounds 2 _)[3]? = _; rw [Array.getElem?_setIfInBounds, if_neg (by decide)]; exact h3)
          have f0 := HB2.out.frozen 3
          go_wp2_with fail
          go_roundw
          case rel => exact ⟨1 + 1, by go_num, by omega, (show Blk _ B (Array.setIfInBounds (cs.setIfInBounds 2 (.int .i64 (qt p s0))) 3 (.int .i64 (qt v s1))) tt from by rw [qt_yes hth]; exact HB2.out.set 3 (.int .i64 0)), HG2.out.setOther (fun e => hGB e) _ _, grown_more HW2.out (grown_set _ _ _ _)⟩
          case measure => simp [intOf]
        · go_upto_region 5 with (go_at_call 41; refine (TH.out _).mono ?_; rintro e w2 ⟨rfl, hb2⟩)
          have HB2 := hide (HB1.out.after hb2)
          have HG2 := hide (HG1.out.after hb2)
          have HW2 := hide (grown_after HW1.out hb2)
          clear HB1 HG1 HM1 HW1 hb2 c0 c1 c2
          have k0 : w2.cell? ⟨B, 3, none⟩ = some (.int .i64 s1) := HB2.out.cell 3 (by show (cs.setIfInBounds 2 _)[3]? = _; rw [Array.getElem?_setIfInBounds, if_neg (by decide)]; exact h3)
          have f0 := HB2.out.frozen 3
          refine reg_last 12 rfl rfl _ rfl (by kernel_rfl) (by kernel_rfl) (by kernel_rfl) ?_
          simp only [List.take_succ_cons, List.take_zero]
          repeat (quiet_step (first
            | (go_at_call 43; exact Calls.quiet_of_same (add_any _ _ _ Is1.out (i64_one)))))
          refine wpQuiet_nil ?_
          intro nq
          go_simp
          go_wp2_with fail
          go_roundw
          case rel => exact ⟨1 + 1, by go_num, by omega, (show Blk _ B (Array.setIfInBounds (cs.setIfInBounds 2 (.int .i64 (qt p s0))) 3 (.int .i64 (qt v s1))) tt from by rw [qt_no hth]; exact (blk_drewN HB2.out nq).set 3 (.int .i64 (sat (s1 + 1)))), (blk_drewN HG2.out nq).setOther (fun e => hGB e) _ _, grown_more (grown_drewNN HW2.out nq) (grown_set _ _ _ _)⟩
          case measure => simp [intOf]
def hcs1 (cs : Array Value) (p : Mea) (s0 : Int) : Nat → Array Value := fun | 0 => cs | _ => cs.setIfInBounds 2 (.int .i64 (qt p s0))
set_option maxHeartbeats 1000000 in
theorem hear1_any (w : World) (B : Nat) (cs : Array Value) (tt : TypeId) (p : Mea) (s0 : Int) (hB : Blk w B cs tt) (h2 : cs[2]? = some (.int .i64 s0)) (is0 : I64 s0) (G : Nat) (hG : Blk w G #[.bool p.o, .int .i64 p.x, .int .i64 p.e] 38) (hGB : G ≠ B) :
    Calls Try.prog 25 #[.pointer (some ⟨B, 0, none⟩), .slice (some ⟨G, 0, none⟩) 1 1] w fun e w' => e = .returned (.tuple #[]) ∧ Blk w' B (hcs1 cs p s0 1) tt ∧ w.grownBy w' (some B) := by
  have HBB := hide hB
  have HGG := hide hG
  have Is0 := hide is0
  clear hB hG is0
  go_enter Try.func25, Try.ntmps25
  go_wp2_with fail
  go_loopw [8] (fun v' wr => ∃ j : Nat, v' = .int .i64 (j : Int) ∧ j ≤ 1 ∧ Blk wr B (hcs1 cs p s0 j) tt ∧ Blk wr G #[.bool p.o, .int .i64 p.x, .int .i64 p.e] 38 ∧ w.grownBy wr (some B)) (fun v' _ => 1 - (intOf v').toNat)
  case atStart => exact ⟨0, rfl, by omega, HBB.out, HGG.out, grown_below (Below.refl _ _) _⟩
  case round =>
    clear HBB HGG
    obtain ⟨j, rfl, hj, hBr, hGr, hWr⟩ := hrel
    have HB := hide hBr
    have HW := hide hWr
    clear hBr hWr
    by_cases he : j = 1
    · subst he
      go_wp2_with fail
      go_end0
      exact ⟨rfl, HB.out, HW.out⟩
    · obtain rfl : j = 0 := by omega
      · -- measure 0
        have HG := hide hGr
        have c0 : wr.cell? ⟨G, 0 + 0, none⟩ = some (.bool p.o) := HG.out.cell 0 rfl
        have c1 : wr.cell? ⟨G, 0 + 1, none⟩ = some (.int .i64 p.x) := HG.out.cell (0 + 1) rfl
        have c2 : wr.cell? ⟨G, 0 + 2, none⟩ = some (.int .i64 p.e) := HG.out.cell (0 + 2) rfl
        have TH := hide (there_any p)
        rcases (show mth p = true ∨ mth p = false by cases mth p <;> simp) with hth | hth
        all_goals
          rw [hth] at TH
          have hlB := HB.out.lt
          have hlG := HG.out.lt
          go_upto_region 3 with fail
          have HM1 := hide (Blk.new wr #[.bool p.o, .int .i64 p.x, .int .i64 p.e] 38)
          have HB1 := hide (HB.out.alloc (.cells #[.bool p.o, .int .i64 p.x, .int .i64 p.e] 38))
          have HG1 := hide (HG.out.alloc (.cells #[.bool p.o, .int .i64 p.x, .int .i64 p.e] 38))
          have HW1 := hide (grown_after HW.out (below_alloc wr (.cells #[.bool p.o, .int .i64 p.x, .int .i64 p.e] 38)))
          clear HB HG HW c0 c1 c2
          generalize wr.heap.size = d at *
          generalize wr.alloc (.cells #[.bool p.o, .int .i64 p.x, .int .i64 p.e] 38) = W1 at *
          have c0 : W1.cell? ⟨d, 0, none⟩ = some (.bool p.o) := HM1.out.cell 0 rfl
          have c1 : W1.cell? ⟨d, 1, none⟩ = some (.int .i64 p.x) := HM1.out.cell 1 rfl
          have c2 : W1.cell? ⟨d, 2, none⟩ = some (.int .i64 p.e) := HM1.out.cell 2 rfl
        · go_upto_region 4 with (go_at_call 41; refine (TH.out _).mono ?_; rintro e w2 ⟨rfl, hb2⟩)
          have HB2 := hide (HB1.out.after hb2)
          have HG2 := hide (HG1.out.after hb2)
          have HW2 := hide (grown_after HW1.out hb2)
          clear HB1 HG1 HM1 HW1 hb2 c0 c1 c2
          have k0 : w2.cell? ⟨B, 2, none⟩ = some (.int .i64 s0) := HB2.out.cell 2 (h2)
          have f0 := HB2.out.frozen 2
          go_wp2_with fail
          go_roundw
          case rel => exact ⟨0 + 1, by go_num, by omega, (show Blk _ B (Array.setIfInBounds cs 2 (.int .i64 (qt p s0))) tt from by rw [qt_yes hth]; exact HB2.out.set 2 (.int .i64 0)), HG2.out.setOther (fun e => hGB e) _ _, grown_more HW2.out (grown_set _ _ _ _)⟩
          case measure => simp [intOf]
        · go_upto_region 5 with (go_at_call 41; refine (TH.out _).mono ?_; rintro e w2 ⟨rfl, hb2⟩)
          have HB2 := hide (HB1.out.after hb2)
          have HG2 := hide (HG1.out.after hb2)
          have HW2 := hide (grown_after HW1.out hb2)
          clear HB1 HG1 HM1 HW1 hb2 c0 c1 c2
          have k0 : w2.cell? ⟨B, 2, none⟩ = some (.int .i64 s0) := HB2.out.cell 2 (h2)
          have f0 := HB2.out.frozen 2
          refine reg_last 12 rfl rfl _ rfl (by kernel_rfl) (by kernel_rfl) (by kernel_rfl) ?_
          simp only [List.take_succ_cons, List.take_zero]
          repeat (quiet_step (first
            | (go_at_call 43; exact Calls.quiet_of_same (add_any _ _ _ Is0.out (i64_one)))))
          refine wpQuiet_nil ?_
          intro nq
          go_simp
          go_wp2_with fail
          go_roundw
          case rel => exact ⟨0 + 1, by go_num, by omega, (show Blk _ B (Array.setIfInBounds cs 2 (.int .i64 (qt p s0))) tt from by rw [qt_no hth]; exact (blk_drewN HB2.out nq).set 2 (.int .i64 (sat (s0 + 1)))), (blk_drewN HG2.out nq).setOther (fun e => hGB e) _ _, grown_more (grown_drewNN HW2.out nq) (grown_set _ _ _ _)⟩
          case measure => simp [intOf]
end Go.Proofs.Ytgadpalkchillaa
