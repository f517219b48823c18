/- What the small functions of package params answer. -/
import Derived.Test.YthldohfjkjhdcaaIn0
import Derived.Test.YthldohfjkjhdcaaPaM
namespace Go.Proofs.Ythldohfjkjhdcaa
open Go.RowKit Go.Great

theorem within_any (x a b : Int) (w : World) : Calls Try.prog 36 #[.int .i64 x, .int .i64 a, .int .i64 b] w fun e w' => e = .returned (.bool (decide (a ≤ x) && decide (x ≤ b))) ∧ w' = w := by
  go_enter Try.func36, Try.ntmps36
  go_wp2
  all_goals (go_ret; refine ⟨ret_bool ?_, rfl⟩)
  all_goals (simp; try omega)
set_option maxHeartbeats 1000000 in
theorem speE_any (l : List Int) (hl : 4 < l.length) (v : Value) (w : World) (hv : Ints w v l) : Calls Try.prog 51 #[v] w fun e w' => e = .returned (.int .i64 (speE l)) ∧ ∃ n, w' = w.drewN n := by
  obtain ⟨a, cap, rfl, hc⟩ := hv
  obtain ⟨g, o, rfl, hg, hcc⟩ := hc (by omega)
  have c2 := hcc 2 (by omega)
  have c4 := hcc 4 (by omega)
  have HN : (2 : Int) < l.length ∧ (4 : Int) < l.length := by omega
  unfold speE
  generalize l.getD 2 0 = x at c2 ⊢
  generalize l.getD 4 0 = y at c4 ⊢
  generalize l.length = n at HN ⊢
  clear hc hcc
  go_enter Try.func51, Try.ntmps51
  go_wp2_with fail
  go_quiet (fail)
  go_wp2_with fail
  all_goals (go_ret; exact ⟨ret_int (by omega), _, rfl⟩)
set_option maxHeartbeats 1000000 in
theorem plaE_any (l : List Int) (hl : 3 < l.length) (v : Value) (w : World) (hv : Ints w v l) : Calls Try.prog 52 #[v] w fun e w' => e = .returned (.int .i64 (plaE l)) ∧ ∃ n, w' = w.drewN n := by
  obtain ⟨a, cap, rfl, hc⟩ := hv
  obtain ⟨g, o, rfl, hg, hcc⟩ := hc (by omega)
  have c1 := hcc 1 (by omega)
  have c3 := hcc 3 (by omega)
  have HN : (1 : Int) < l.length ∧ (3 : Int) < l.length := by omega
  unfold plaE
  generalize l.getD 1 0 = x at c1 ⊢
  generalize l.getD 3 0 = y at c3 ⊢
  generalize l.length = n at HN ⊢
  clear hc hcc
  go_enter Try.func52, Try.ntmps52
  go_wp2_with fail
  go_quiet (fail)
  go_wp2_with fail
  all_goals (go_ret; exact ⟨ret_int (by omega), _, rfl⟩)
/-- the table's cells -/
def tabC : Array Value := ((List.range 24).flatMap fun i => [Value.int .i64 (loL.getD i 0), .int .i64 (hiL.getD i 0), .int .i64 (deL.getD i 0)]).toArray
def zTab : Array Value := Array.replicate 72 (.int .i64 0)
theorem info_tab : (Try.prog.info? 61).map (fun i => (i.zero, i.size)) = some (some (.agg zTab), 72) := by kernel_rfl
def rowC (i : Nat) : Array Value := #[.int .i64 (loL.getD i 0), .int .i64 (hiL.getD i 0), .int .i64 (deL.getD i 0)]
theorem tab_ix0 (w : World) : (Instr.index 61 (.agg tabC) (.int .i64 ((0 : Nat) : Int))).run Try.prog w = .ok (.agg (rowC 0)) w := by kernel_rfl
theorem tab_ix1 (w : World) : (Instr.index 61 (.agg tabC) (.int .i64 ((1 : Nat) : Int))).run Try.prog w = .ok (.agg (rowC 1)) w := by kernel_rfl
theorem tab_ix2 (w : World) : (Instr.index 61 (.agg tabC) (.int .i64 ((2 : Nat) : Int))).run Try.prog w = .ok (.agg (rowC 2)) w := by kernel_rfl
theorem tab_ix3 (w : World) : (Instr.index 61 (.agg tabC) (.int .i64 ((3 : Nat) : Int))).run Try.prog w = .ok (.agg (rowC 3)) w := by kernel_rfl
theorem tab_ix4 (w : World) : (Instr.index 61 (.agg tabC) (.int .i64 ((4 : Nat) : Int))).run Try.prog w = .ok (.agg (rowC 4)) w := by kernel_rfl
theorem tab_ix5 (w : World) : (Instr.index 61 (.agg tabC) (.int .i64 ((5 : Nat) : Int))).run Try.prog w = .ok (.agg (rowC 5)) w := by kernel_rfl
theorem tab_ix6 (w : World) : (Instr.index 61 (.agg tabC) (.int .i64 ((6 : Nat) : Int))).run Try.prog w = .ok (.agg (rowC 6)) w := by kernel_rfl
theorem tab_ix7 (w : World) : (Instr.index 61 (.agg tabC) (.int .i64 ((7 : Nat) : Int))).run Try.prog w = .ok (.agg (rowC 7)) w := by kernel_rfl
theorem tab_ix8 (w : World) : (Instr.index 61 (.agg tabC) (.int .i64 ((8 : Nat) : Int))).run Try.prog w = .ok (.agg (rowC 8)) w := by kernel_rfl
theorem tab_ix9 (w : World) : (Instr.index 61 (.agg tabC) (.int .i64 ((9 : Nat) : Int))).run Try.prog w = .ok (.agg (rowC 9)) w := by kernel_rfl
theorem tab_ix10 (w : World) : (Instr.index 61 (.agg tabC) (.int .i64 ((10 : Nat) : Int))).run Try.prog w = .ok (.agg (rowC 10)) w := by kernel_rfl
theorem tab_ix11 (w : World) : (Instr.index 61 (.agg tabC) (.int .i64 ((11 : Nat) : Int))).run Try.prog w = .ok (.agg (rowC 11)) w := by kernel_rfl
theorem tab_ix12 (w : World) : (Instr.index 61 (.agg tabC) (.int .i64 ((12 : Nat) : Int))).run Try.prog w = .ok (.agg (rowC 12)) w := by kernel_rfl
theorem tab_ix13 (w : World) : (Instr.index 61 (.agg tabC) (.int .i64 ((13 : Nat) : Int))).run Try.prog w = .ok (.agg (rowC 13)) w := by kernel_rfl
theorem tab_ix14 (w : World) : (Instr.index 61 (.agg tabC) (.int .i64 ((14 : Nat) : Int))).run Try.prog w = .ok (.agg (rowC 14)) w := by kernel_rfl
theorem tab_ix15 (w : World) : (Instr.index 61 (.agg tabC) (.int .i64 ((15 : Nat) : Int))).run Try.prog w = .ok (.agg (rowC 15)) w := by kernel_rfl
theorem tab_ix16 (w : World) : (Instr.index 61 (.agg tabC) (.int .i64 ((16 : Nat) : Int))).run Try.prog w = .ok (.agg (rowC 16)) w := by kernel_rfl
theorem tab_ix17 (w : World) : (Instr.index 61 (.agg tabC) (.int .i64 ((17 : Nat) : Int))).run Try.prog w = .ok (.agg (rowC 17)) w := by kernel_rfl
theorem tab_ix18 (w : World) : (Instr.index 61 (.agg tabC) (.int .i64 ((18 : Nat) : Int))).run Try.prog w = .ok (.agg (rowC 18)) w := by kernel_rfl
theorem tab_ix19 (w : World) : (Instr.index 61 (.agg tabC) (.int .i64 ((19 : Nat) : Int))).run Try.prog w = .ok (.agg (rowC 19)) w := by kernel_rfl
theorem tab_ix20 (w : World) : (Instr.index 61 (.agg tabC) (.int .i64 ((20 : Nat) : Int))).run Try.prog w = .ok (.agg (rowC 20)) w := by kernel_rfl
theorem tab_ix21 (w : World) : (Instr.index 61 (.agg tabC) (.int .i64 ((21 : Nat) : Int))).run Try.prog w = .ok (.agg (rowC 21)) w := by kernel_rfl
theorem tab_ix22 (w : World) : (Instr.index 61 (.agg tabC) (.int .i64 ((22 : Nat) : Int))).run Try.prog w = .ok (.agg (rowC 22)) w := by kernel_rfl
theorem tab_ix23 (w : World) : (Instr.index 61 (.agg tabC) (.int .i64 ((23 : Nat) : Int))).run Try.prog w = .ok (.agg (rowC 23)) w := by kernel_rfl
theorem tab_ix (i : Nat) (h : i < 24) (w : World) : (Instr.index 61 (.agg tabC) (.int .i64 (i : Int))).run Try.prog w = .ok (.agg (rowC i)) w := by
  have hh : i = 0 ∨ i = 1 ∨ i = 2 ∨ i = 3 ∨ i = 4 ∨ i = 5 ∨ i = 6 ∨ i = 7 ∨ i = 8 ∨ i = 9 ∨ i = 10 ∨ i = 11 ∨ i = 12 ∨ i = 13 ∨ i = 14 ∨ i = 15 ∨ i = 16 ∨ i = 17 ∨ i = 18 ∨ i = 19 ∨ i = 20 ∨ i = 21 ∨ i = 22 ∨ i = 23 := by omega
  rcases hh with rfl | rfl | rfl | rfl | rfl | rfl | rfl | rfl | rfl | rfl | rfl | rfl | rfl | rfl | rfl | rfl | rfl | rfl | rfl | rfl | rfl | rfl | rfl | rfl
  · exact tab_ix0 w
  · exact tab_ix1 w
  · exact tab_ix2 w
  · exact tab_ix3 w
  · exact tab_ix4 w
  · exact tab_ix5 w
  · exact tab_ix6 w
  · exact tab_ix7 w
  · exact tab_ix8 w
  · exact tab_ix9 w
  · exact tab_ix10 w
  · exact tab_ix11 w
  · exact tab_ix12 w
  · exact tab_ix13 w
  · exact tab_ix14 w
  · exact tab_ix15 w
  · exact tab_ix16 w
  · exact tab_ix17 w
  · exact tab_ix18 w
  · exact tab_ix19 w
  · exact tab_ix20 w
  · exact tab_ix21 w
  · exact tab_ix22 w
  · exact tab_ix23 w
theorem wpList_run {P : Program} {ops : Array Oper} {rest : List Oper} {o : Oper} {a : Act} {w : World} {Q : Exit → Act → World → Prop} (hg : o.guard = none) (dst : Option Tmp) (hdst : o.dst = dst)
    (v : Value) (w' : World) (hrun : (execOp a.eval o).run P w = .ok (.value v) w')
    (h : wpList P ops Q rest (a.put dst v) w') : wpList P ops Q (o :: rest) a w := by
  subst hdst
  refine wpList_plain hg fun K hK => ?_
  unfold Oper.wp
  rw [hrun, Oper.upon_value]
  exact hK _ _ h
theorem alloc_tab (w : World) (ρ : Operand → Value) (o : Oper) (ho : o.op = .alloc 61) : (execOp ρ o).run Try.prog w = .ok (.value (.pointer (some ⟨w.heap.size, 0, none⟩))) (w.alloc (.cells zTab 61)) := by
  have hz := (zero_of_info info_tab).1
  simp [execOp, ho, go_sem, hz, Value.cells]
theorem results_one {fn : Func} {p : Tmp} {ty : TypeId} (h : fn.results = #[.cell p ty]) (tmps : Array Value) (P : Program) (w : World) :
    (results fn tmps).run P w = ((asAddr (tmps.getD p undef)).run P w).andThen fun a w₁ => (loadVar ty a).run P w₁ := by
  simp only [results, h]
  simp [Sem.run_bind, Result.andThen]
def rowV (i : Nat) : Value := .agg (rowC i)
set_option maxRecDepth 100000 in
set_option maxHeartbeats 2000000 in
theorem rows_any (w : World) : Calls Try.prog 35 #[] w fun e w' => e = .returned (.agg tabC) ∧ w' = (w.alloc (.cells tabC 61)) := by
  go_enter Try.func35, Try.ntmps35
  apply wp_seq_k; intro K0 hK0
  apply wp_region_lit
  refine wpList_run rfl (some 0) rfl _ _ (alloc_tab _ _ _ rfl) ?_
  refine wpList_frame (a' := { tmps := #[.pointer (some ⟨w.heap.size, 0, none⟩), undef, undef, undef, undef, undef, undef, undef, undef, undef, undef, undef, undef, undef, undef, undef, undef, undef, undef, undef, undef, undef, undef, undef, undef, undef], defers := [] }) (by kernel_rfl) ?_
  apply wpList_nil
  refine hK0 _ _ ?_
  clear hK0 K0
  apply wp_seq_k; intro K0 hK0
  apply wp_region_lit
  refine wpList_run rfl (some 1) rfl (rowV 0) (w.alloc (.cells zTab 61)) (by kernel_rfl) ?_
  refine wpList_run rfl (some 2) rfl (rowV 1) (w.alloc (.cells zTab 61)) (by kernel_rfl) ?_
  refine wpList_run rfl (some 3) rfl (rowV 2) (w.alloc (.cells zTab 61)) (by kernel_rfl) ?_
  refine wpList_run rfl (some 4) rfl (rowV 3) (w.alloc (.cells zTab 61)) (by kernel_rfl) ?_
  refine wpList_run rfl (some 5) rfl (rowV 4) (w.alloc (.cells zTab 61)) (by kernel_rfl) ?_
  refine wpList_run rfl (some 6) rfl (rowV 5) (w.alloc (.cells zTab 61)) (by kernel_rfl) ?_
  refine wpList_run rfl (some 7) rfl (rowV 6) (w.alloc (.cells zTab 61)) (by kernel_rfl) ?_
  refine wpList_run rfl (some 8) rfl (rowV 7) (w.alloc (.cells zTab 61)) (by kernel_rfl) ?_
  refine wpList_run rfl (some 9) rfl (rowV 8) (w.alloc (.cells zTab 61)) (by kernel_rfl) ?_
  refine wpList_run rfl (some 10) rfl (rowV 9) (w.alloc (.cells zTab 61)) (by kernel_rfl) ?_
  refine wpList_run rfl (some 11) rfl (rowV 10) (w.alloc (.cells zTab 61)) (by kernel_rfl) ?_
  refine wpList_run rfl (some 12) rfl (rowV 11) (w.alloc (.cells zTab 61)) (by kernel_rfl) ?_
  refine wpList_run rfl (some 13) rfl (rowV 12) (w.alloc (.cells zTab 61)) (by kernel_rfl) ?_
  refine wpList_run rfl (some 14) rfl (rowV 13) (w.alloc (.cells zTab 61)) (by kernel_rfl) ?_
  refine wpList_run rfl (some 15) rfl (rowV 14) (w.alloc (.cells zTab 61)) (by kernel_rfl) ?_
  refine wpList_run rfl (some 16) rfl (rowV 15) (w.alloc (.cells zTab 61)) (by kernel_rfl) ?_
  refine wpList_run rfl (some 17) rfl (rowV 16) (w.alloc (.cells zTab 61)) (by kernel_rfl) ?_
  refine wpList_run rfl (some 18) rfl (rowV 17) (w.alloc (.cells zTab 61)) (by kernel_rfl) ?_
  refine wpList_run rfl (some 19) rfl (rowV 18) (w.alloc (.cells zTab 61)) (by kernel_rfl) ?_
  refine wpList_run rfl (some 20) rfl (rowV 19) (w.alloc (.cells zTab 61)) (by kernel_rfl) ?_
  refine wpList_run rfl (some 21) rfl (rowV 20) (w.alloc (.cells zTab 61)) (by kernel_rfl) ?_
  refine wpList_run rfl (some 22) rfl (rowV 21) (w.alloc (.cells zTab 61)) (by kernel_rfl) ?_
  refine wpList_run rfl (some 23) rfl (rowV 22) (w.alloc (.cells zTab 61)) (by kernel_rfl) ?_
  refine wpList_run rfl (some 24) rfl (rowV 23) (w.alloc (.cells zTab 61)) (by kernel_rfl) ?_
  refine wpList_run rfl (some 25) rfl (.agg tabC) (w.alloc (.cells zTab 61)) (by kernel_rfl) ?_
  refine wpList_frame (a' := { tmps := #[.pointer (some ⟨w.heap.size, 0, none⟩), rowV 0, rowV 1, rowV 2, rowV 3, rowV 4, rowV 5, rowV 6, rowV 7, rowV 8, rowV 9, rowV 10, rowV 11, rowV 12, rowV 13, rowV 14, rowV 15, rowV 16, rowV 17, rowV 18, rowV 19, rowV 20, rowV 21, rowV 22, rowV 23, .agg tabC], defers := [] }) (by kernel_rfl) ?_
  refine wpList_store_rowTo rfl 61 _ _ rfl rfl w.heap.size tabC (by kernel_rfl) (by kernel_rfl) 61 zTab (heap_alloc_last _ _) (by kernel_rfl) (by kernel_rfl) (by kernel_rfl) ?_
  rw [World.setRow_alloc_new]
  apply wpList_nil
  refine hK0 _ _ ?_
  clear hK0 K0
  refine wp_ret (bodyPost_ret (v := .agg tabC) ?_ rfl ⟨rfl, rfl⟩)
  rw [results_one (by kernel_rfl : Try.f35.results = #[.cell 0 61])]
  simp only [Array.getD_eq_getD_getElem?, asAddr, Result.andThen]
  exact run_loadVar_new w 61 tabC 24 36 (by kernel_rfl) (by kernel_rfl)
end Go.Proofs.Ythldohfjkjhdcaa
