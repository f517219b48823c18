/- Package mission: loiter, jump, Step. -/
import Derived.Test.YtnekjfidobglmaaMi5
namespace Go.Proofs.Ytnekjfidobglmaa
open Go.RowKit Go.Great Go.Maps

/-- one step -/
def stp (r : Rn) (arr : Bool) : Rn := match r.L[r.p]? with
  | none => r
  | some x =>
    if (x.k.toNat : Int) = 1 ∨ (x.k.toNat : Int) = 2 then (if arr = true then { r with p := r.p + 1 } else r)
    else if (x.k.toNat : Int) = 3 then (if x.a ≤ r.l + 1 then { r with l := 0, p := r.p + 1 } else { r with l := r.l + 1 })
    else if (x.k.toNat : Int) = 4 then (if r.J r.p < x.b then { r with J := upJ r.J r.p (r.J r.p + 1), p := x.a.toNat } else { r with J := upJ r.J r.p 0, p := r.p + 1 })
    else if (x.k.toNat : Int) = 5 then { r with s := x.a, p := r.p + 1 }
    else r
set_option maxHeartbeats 1000000 in
theorem loiter_any (w : World) (R : Nat) (iv : Value) (p s l : Int) (m : Nat) (hB : Blk w R (rC iv p s l m) 70) (x : Int) (hl : 0 ≤ l ∧ l ≤ 1000000) (hp : 0 ≤ p ∧ p ≤ 64) : Calls Try.prog 41 #[rP R, .int .i64 x] w fun e w' => e = .returned (.tuple #[]) ∧ w.grownBy w' (some R) ∧ Blk w' R (if x ≤ l + 1 then rC iv (p + 1) s 0 m else rC iv p s (l + 1) m) 70 := by
  have H1 : Hid (Blk (w.setCell ⟨R, 3, none⟩ (.int .i64 (l + 1))) R (rC iv p s (l + 1) m) 70) := hide (hB.set 3 (.int .i64 (l + 1)))
  have G1 := hide (grown_set w R 3 (.int .i64 (l + 1)))
  obtain ⟨c0, c1, c2, c3, c4⟩ := run_cells hB
  have f3 := hB.frozen 3
  clear hB
  go_enter Try.func41, Try.ntmps41
  go_upto_region 1 with fail
  clear c0 c1 c2 c3 c4 f3
  generalize w.setCell ⟨R, 3, none⟩ (.int .i64 (l + 1)) = W1 at *
  obtain ⟨c0, c1, c2, c3, c4⟩ := run_cells H1.out
  have f3 := H1.out.frozen 3
  have f1 := H1.out.frozen 1
  by_cases hx : x ≤ l + 1
  · have H2 : Hid (Blk ((W1.setCell ⟨R, 3, none⟩ (.int .i64 0)).setCell ⟨R, 1, none⟩ (.int .i64 (p + 1))) R (rC iv (p + 1) s 0 m) 70) := hide ((H1.out.set 3 (.int .i64 0)).set 1 (.int .i64 (p + 1)))
    have G2 := hide (grown_more (grown_more G1.out (grown_set W1 R 3 (.int .i64 0))) (grown_set _ R 1 (.int .i64 (p + 1))))
    go_wp2_with fail
    go_end0
    exact ⟨rfl, G2.out, H2.out⟩
  · go_wp2_with fail
    go_end0
    exact ⟨rfl, G1.out, H1.out⟩
theorem wp_update {P : Program} {w w' : World} {o : Oper} {a : Act} {K : Act → World → Prop} {Q : Exit → Act → World → Prop} (m x v : Operand) (t : TypeId) (hop : o.op = Op.mapUpdate t m x v) (b : Nat) (key val : Value) (hm : a.eval m = .map (some b)) (hx : a.eval x = key) (hv : a.eval v = val)
    (hrun : (Instr.mapUpdate t (.map (some b)) key val).run P w = .ok () w') (h : K (a.put o.dst undef) w') : o.wp P a w K Q := by
  unfold Oper.wp
  simp [execOp, hop, hm, hx, hv, hrun, Result.andThen]
  exact h
theorem wp_delete {P : Program} {w w' : World} {o : Oper} {a : Act} {K : Act → World → Prop} {Q : Exit → Act → World → Prop} (m x : Operand) (t k : TypeId) (hop : o.op = Op.call { callee := Callee.builtin Builtin.delete, args := #[m, x], argTypes := #[t, k] }) (b : Nat) (key : Value) (hm : a.eval m = .map (some b)) (hx : a.eval x = key)
    (hrun : (Builtin.delete_ #[t, k] o.type #[.map (some b), key]).run P w = .ok (.tuple #[]) w') (h : K (a.put o.dst (.tuple #[])) w') : o.wp P a w K Q := by
  unfold Oper.wp
  simp [execOp, hop, resolve, invoke, builtin, hm, hx, hrun, Result.andThen]
  exact h
theorem wrap_in {x : Int} (h : I64 x) : IntKind.i64.wrap x = x := by
  unfold I64 at h
  rw [IntKind.wrap_i64]
  omega
set_option maxHeartbeats 4000000 in
theorem jump_any (w : World) (R : Nat) (iv : Value) (p : Nat) (s l : Int) (m n : Nat) (J : Nat → Int) (hB : Blk w R (rC iv p s l m) 70) (hM : MapJ w m n J) (hn : n < maxLen) (tt times : Int) (hp : p ≤ 64) (hJ : 0 ≤ J p ∧ J p ≤ 255) : Calls Try.prog 42 #[rP R, .int .i64 tt, .int .i64 times] w fun e w' => e = .returned (.tuple #[]) ∧ w.grownBy w' (some R) ∧ ∃ m', Blk w' R (if J p < times then rC iv tt s l m' else rC iv (p + 1) s l m') 70 ∧ MapJ w' m' (n + 1) (if J p < times then upJ J p (J p + 1) else upJ J p 0) := by
  have MC := hide (mclone_any w m n J hM)
  obtain ⟨c0, c1, c2, c3, c4⟩ := run_cells hB
  have HB := hide hB
  have hlt := hB.lt
  clear hB hM
  go_enter Try.func42, Try.ntmps42
  go_wp2_with fail
  refine MC.out.mono ?_
  rintro e w1 ⟨rfl, hM1, hb1⟩
  have hB1 := HB.out.after hb1
  have hw1 : (w.heap.size : Nat) ≠ R := by omega
  have HM : Hid (MapJ (w1.setCell ⟨R, 4, none⟩ (.map (some w.heap.size))) w.heap.size n J) := hide (hM1.kept (grown_set w1 R 4 _) (by intro e; injection e with e; omega))
  replace HB : Hid (Blk (w1.setCell ⟨R, 4, none⟩ (.map (some w.heap.size))) R (rC iv p s l w.heap.size) 70) := hide (hB1.set 4 (.map (some w.heap.size)))
  have HG := hide (grown_then (row := some R) (grown_below hb1 (some R)) (grown_set w1 R 4 (.map (some w.heap.size))) (fun k e => .inl (by injection e with e; exact e.symm)))
  clear c0 c1 c2 c3 c4 MC hM1 hb1
  obtain ⟨c0, c1, c2, c3, c4⟩ := run_cells hB1
  have f4 := hB1.frozen 4
  clear hB1
  go_upto_region 1 with fail
  clear c0 c1 c2 c3 c4 f4
  generalize w1.setCell ⟨R, 4, none⟩ (.map (some w.heap.size)) = W1 at *
  obtain ⟨c0, c1, c2, c3, c4⟩ := run_cells HB.out
  have LK := fun k => ((HM.out.drewN k).look p (by omega)).1
  generalize hd : w.heap.size = d at *
  go_quiet (fail)
  replace HM := hide (HM.out.drewN nq)
  replace HB := hide (blk_drewN HB.out nq)
  replace HG := hide (grown_drewNN HG.out nq)
  clear c0 c1 c2 c3 c4 LK
  generalize W1.drewN nq = W2 at *
  obtain ⟨c0, c1, c2, c3, c4⟩ := run_cells HB.out
  have LK := fun k => ((HM.out.drewN k).look p (by omega)).1
  by_cases hj : J p < times
  · have HJ := hide hj
    go_upto_region 2 with fail
    refine reg_last 10 rfl rfl _ rfl (by kernel_rfl) (by kernel_rfl) (by kernel_rfl) ?_
    simp only [List.take_succ_cons, List.take_zero]
    repeat (quiet_step (fail))
    refine wpQuiet_nil ?_
    intro kq
    obtain ⟨w3, hrun, hM3, hg3⟩ := (HM.out.drewN kq).put hn p (by omega) (J p + 1) (i64_of (by omega))
    rw [wrap_in (i64_of (by omega) : I64 (J p + 1))]
    refine wp_update (.tmp 28) (.tmp 32) (.tmp 34) 68 rfl d _ _ rfl rfl rfl hrun ?_
    replace HB := hide ((blk_drewN HB.out kq).grown hg3 (by intro e; injection e with e; omega))
    replace HG := hide (grown_then (grown_drewNN HG.out kq) hg3 (fun k e => .inr (by injection e with e; omega)))
    have HM3 := hide hM3
    clear c0 c1 c2 c3 c4 LK hrun hM3 hg3 HM
    have HB4 : Hid (Blk (w3.setCell ⟨R, 1, none⟩ (.int .i64 tt)) R (rC iv tt s l d) 70) := hide (HB.out.set 1 (.int .i64 tt))
    have HG4 := hide (grown_more HG.out (grown_set w3 R 1 (.int .i64 tt)))
    have HM4 := hide (HM3.out.kept (grown_set w3 R 1 (.int .i64 tt)) (by intro e; injection e with e; omega))
    obtain ⟨c0, c1, c2, c3, c4⟩ := run_cells HB.out
    have f1 := HB.out.frozen 1
    go_wp2_with fail
    refine bodyPost_ret (results_none rfl _ _ _) rfl ?_
    exact ⟨rfl, HG4.out, d, HB4.out, HM4.out⟩
  · have HJ := hide hj
    go_upto_region 4 with fail
    refine reg_last 8 rfl rfl _ rfl (by kernel_rfl) (by kernel_rfl) (by kernel_rfl) ?_
    simp only [List.take_succ_cons, List.take_zero]
    repeat (quiet_step (fail))
    refine wpQuiet_nil ?_
    intro kq
    obtain ⟨w3, hrun, hM3, hg3⟩ := (HM.out.drewN kq).del p (by omega) 0
    refine wp_delete (.tmp 42) (.tmp 46) 68 3 rfl d _ rfl rfl hrun ?_
    replace HB := hide ((blk_drewN HB.out kq).grown hg3 (by intro e; injection e with e; omega))
    replace HG := hide (grown_then (grown_drewNN HG.out kq) hg3 (fun k e => .inr (by injection e with e; omega)))
    have HM3 := hide (hM3.mono (Nat.le_succ _))
    clear c0 c1 c2 c3 c4 LK hrun hM3 hg3 HM
    have HB4 : Hid (Blk (w3.setCell ⟨R, 1, none⟩ (.int .i64 (p + 1))) R (rC iv (p + 1) s l d) 70) := hide (HB.out.set 1 (.int .i64 (p + 1)))
    have HG4 := hide (grown_more HG.out (grown_set w3 R 1 (.int .i64 (p + 1))))
    have HM4 := hide (HM3.out.kept (grown_set w3 R 1 (.int .i64 (p + 1))) (by intro e; injection e with e; omega))
    obtain ⟨c0, c1, c2, c3, c4⟩ := run_cells HB.out
    have f1 := HB.out.frozen 1
    go_wp2_with fail
    go_end0
    exact ⟨rfl, HG4.out, d, HB4.out, HM4.out⟩
end Go.Proofs.Ytnekjfidobglmaa
