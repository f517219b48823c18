/- Package modes: within, Armed, Flying, rows, Next. -/
import Derived.Test.YthheekneanhmkaaMoM
namespace Go.Proofs.Ythheekneanhmkaa
open Go.RowKit Go.Great

set_option maxHeartbeats 1000000 in
theorem withinM_any (x lo hi : Int) (w : World) : Calls Try.prog 21 #[.int .u8 x, .int .u8 lo, .int .u8 hi] w fun e w' => e = .returned (.bool (decide (lo ≤ x) && decide (x ≤ hi))) ∧ w' = w := by
  by_cases h1 : lo ≤ x
  · go_enter Try.func21, Try.ntmps21
    go_wp2_with fail
    go_ret
    exact ⟨ret_bool (by simp [h1]), rfl⟩
  · go_enter Try.func21, Try.ntmps21
    go_wp2_with fail
    go_ret
    exact ⟨ret_bool (by simp; omega), rfl⟩
theorem flying_any (m : Int) (w : World) : Calls Try.prog 12 #[.int .u8 m] w fun e w' => e = .returned (.bool (flyB m)) ∧ w' = w := by
  have WI := hide withinM_any
  go_enter Try.func12, Try.ntmps12
  go_wp2_with (go_at_call 21; refine (WI.out _ _ _ _).mono ?_; rintro e w2 ⟨rfl, hw2⟩; obtain rfl := hw2.symm)
  go_ret
  exact ⟨rfl, rfl⟩
theorem armed_any (m : Int) (w : World) : Calls Try.prog 10 #[.int .u8 m] w fun e w' => e = .returned (.bool (armB m)) ∧ w' = w := by
  have WI := hide withinM_any
  go_enter Try.func10, Try.ntmps10
  go_wp2_with (go_at_call 21; refine (WI.out _ _ _ _).mono ?_; rintro e w2 ⟨rfl, hw2⟩; obtain rfl := hw2.symm)
  go_ret
  exact ⟨rfl, rfl⟩
def tabC : Array Value := (tabR.flatMap rC).toArray
def rA (k : Nat) : Value := .agg (rC (tabR.getD k ⟨0, 0, 0, 0⟩)).toArray
def zTab : Array Value := ((List.replicate 29 (⟨0, 0, 0, 0⟩ : Rw)).flatMap rC).toArray
theorem info_tab : (Try.prog.info? 42).map (fun i => (i.zero, i.size)) = some (some (.agg zTab), 116) := by kernel_rfl
theorem wpList_run {P : Program} {ops : Array Oper} {rest : List Oper} {o : Oper} {a : Act} {w : World} {Q : Exit → Act → World → Prop} (hg : o.guard = none) (dst : Option Tmp) (hdst : o.dst = dst)
    (v : Value) (w' : World) (hrun : (execOp a.eval o).run P w = .ok (.value v) w')
    (h : wpList P ops Q rest (a.put dst v) w') : wpList P ops Q (o :: rest) a w := by
  subst hdst
  refine wpList_plain hg fun K hK => ?_
  unfold Oper.wp
  rw [hrun, Oper.upon_value]
  exact hK _ _ h
theorem wpList_same {P : Program} {ops : Array Oper} {rest : List Oper} {o : Oper} {a : Act} {w : World} {Q : Exit → Act → World → Prop} (hg : o.guard = none) (dst : Option Tmp) (hdst : o.dst = dst)
    (v : Value) (hrun : (execOp a.eval o).run P w = .ok (.value v) w) (h : wpList P ops Q rest (a.put dst v) w) : wpList P ops Q (o :: rest) a w := wpList_run hg dst hdst v w hrun h
theorem alloc_tab (w : World) (ρ : Operand → Value) (o : Oper) (ho : o.op = .alloc 42) : (execOp ρ o).run Try.prog w = .ok (.value (.pointer (some ⟨w.heap.size, 0, none⟩))) (w.alloc (.cells zTab 42)) := by
  have hz := (zero_of_info info_tab).1
  simp [execOp, ho, go_sem, hz, Value.cells]
set_option maxRecDepth 100000 in
theorem rows_any (w : World) : Calls Try.prog 20 #[] w fun e w' => e = .returned (.agg tabC) ∧ Below w.heap.size w w' := by
  -- the table, operation by operation
  go_enter Try.func20, Try.ntmps20
  apply wp_seq_k; intro K0 hK0
  apply wp_region_lit
  refine wpList_run rfl (some 0) rfl _ _ (alloc_tab _ _ _ rfl) ?_
  refine wpList_frame (a' := { tmps := #[.pointer (some ⟨w.heap.size, 0, none⟩), undef, undef, undef, undef, undef, undef, undef, undef, undef, undef, undef, undef, undef, undef, undef, undef, undef, undef, undef, undef, undef, undef, undef, undef, undef, undef, undef, undef, undef, undef], defers := [] }) (by kernel_rfl) ?_
  apply wpList_nil
  refine hK0 _ _ ?_
  clear hK0 K0
  apply wp_seq_k; intro K0 hK0
  apply wp_region_lit
  refine wpList_same rfl (some 1) rfl (rA 0) (by kernel_rfl) ?_
  refine wpList_frame (a' := { tmps := #[.pointer (some ⟨w.heap.size, 0, none⟩), rA 0, undef, undef, undef, undef, undef, undef, undef, undef, undef, undef, undef, undef, undef, undef, undef, undef, undef, undef, undef, undef, undef, undef, undef, undef, undef, undef, undef, undef, undef], defers := [] }) (by kernel_rfl) ?_
  refine wpList_same rfl (some 2) rfl (rA 1) (by kernel_rfl) ?_
  refine wpList_frame (a' := { tmps := #[.pointer (some ⟨w.heap.size, 0, none⟩), rA 0, rA 1, undef, undef, undef, undef, undef, undef, undef, undef, undef, undef, undef, undef, undef, undef, undef, undef, undef, undef, undef, undef, undef, undef, undef, undef, undef, undef, undef, undef], defers := [] }) (by kernel_rfl) ?_
  refine wpList_same rfl (some 3) rfl (rA 2) (by kernel_rfl) ?_
  refine wpList_frame (a' := { tmps := #[.pointer (some ⟨w.heap.size, 0, none⟩), rA 0, rA 1, rA 2, undef, undef, undef, undef, undef, undef, undef, undef, undef, undef, undef, undef, undef, undef, undef, undef, undef, undef, undef, undef, undef, undef, undef, undef, undef, undef, undef], defers := [] }) (by kernel_rfl) ?_
  refine wpList_same rfl (some 4) rfl (rA 3) (by kernel_rfl) ?_
  refine wpList_frame (a' := { tmps := #[.pointer (some ⟨w.heap.size, 0, none⟩), rA 0, rA 1, rA 2, rA 3, undef, undef, undef, undef, undef, undef, undef, undef, undef, undef, undef, undef, undef, undef, undef, undef, undef, undef, undef, undef, undef, undef, undef, undef, undef, undef], defers := [] }) (by kernel_rfl) ?_
  refine wpList_same rfl (some 5) rfl (rA 4) (by kernel_rfl) ?_
  refine wpList_frame (a' := { tmps := #[.pointer (some ⟨w.heap.size, 0, none⟩), rA 0, rA 1, rA 2, rA 3, rA 4, undef, undef, undef, undef, undef, undef, undef, undef, undef, undef, undef, undef, undef, undef, undef, undef, undef, undef, undef, undef, undef, undef, undef, undef, undef], defers := [] }) (by kernel_rfl) ?_
  refine wpList_same rfl (some 6) rfl (rA 5) (by kernel_rfl) ?_
  refine wpList_frame (a' := { tmps := #[.pointer (some ⟨w.heap.size, 0, none⟩), rA 0, rA 1, rA 2, rA 3, rA 4, rA 5, undef, undef, undef, undef, undef, undef, undef, undef, undef, undef, undef, undef, undef, undef, undef, undef, undef, undef, undef, undef, undef, undef, undef, undef], defers := [] }) (by kernel_rfl) ?_
  refine wpList_same rfl (some 7) rfl (rA 6) (by kernel_rfl) ?_
  refine wpList_frame (a' := { tmps := #[.pointer (some ⟨w.heap.size, 0, none⟩), rA 0, rA 1, rA 2, rA 3, rA 4, rA 5, rA 6, undef, undef, undef, undef, undef, undef, undef, undef, undef, undef, undef, undef, undef, undef, undef, undef, undef, undef, undef, undef, undef, undef, undef], defers := [] }) (by kernel_rfl) ?_
  refine wpList_same rfl (some 8) rfl (rA 7) (by kernel_rfl) ?_
  refine wpList_frame (a' := { tmps := #[.pointer (some ⟨w.heap.size, 0, none⟩), rA 0, rA 1, rA 2, rA 3, rA 4, rA 5, rA 6, rA 7, undef, undef, undef, undef, undef, undef, undef, undef, undef, undef, undef, undef, undef, undef, undef, undef, undef, undef, undef, undef, undef, undef], defers := [] }) (by kernel_rfl) ?_
  refine wpList_same rfl (some 9) rfl (rA 8) (by kernel_rfl) ?_
  refine wpList_frame (a' := { tmps := #[.pointer (some ⟨w.heap.size, 0, none⟩), rA 0, rA 1, rA 2, rA 3, rA 4, rA 5, rA 6, rA 7, rA 8, undef, undef, undef, undef, undef, undef, undef, undef, undef, undef, undef, undef, undef, undef, undef, undef, undef, undef, undef, undef, undef], defers := [] }) (by kernel_rfl) ?_
  refine wpList_same rfl (some 10) rfl (rA 9) (by kernel_rfl) ?_
  refine wpList_frame (a' := { tmps := #[.pointer (some ⟨w.heap.size, 0, none⟩), rA 0, rA 1, rA 2, rA 3, rA 4, rA 5, rA 6, rA 7, rA 8, rA 9, undef, undef, undef, undef, undef, undef, undef, undef, undef, undef, undef, undef, undef, undef, undef, undef, undef, undef, undef, undef], defers := [] }) (by kernel_rfl) ?_
  refine wpList_same rfl (some 11) rfl (rA 10) (by kernel_rfl) ?_
  refine wpList_frame (a' := { tmps := #[.pointer (some ⟨w.heap.size, 0, none⟩), rA 0, rA 1, rA 2, rA 3, rA 4, rA 5, rA 6, rA 7, rA 8, rA 9, rA 10, undef, undef, undef, undef, undef, undef, undef, undef, undef, undef, undef, undef, undef, undef, undef, undef, undef, undef, undef], defers := [] }) (by kernel_rfl) ?_
  refine wpList_same rfl (some 12) rfl (rA 11) (by kernel_rfl) ?_
  refine wpList_frame (a' := { tmps := #[.pointer (some ⟨w.heap.size, 0, none⟩), rA 0, rA 1, rA 2, rA 3, rA 4, rA 5, rA 6, rA 7, rA 8, rA 9, rA 10, rA 11, undef, undef, undef, undef, undef, undef, undef, undef, undef, undef, undef, undef, undef, undef, undef, undef, undef, undef], defers := [] }) (by kernel_rfl) ?_
  refine wpList_same rfl (some 13) rfl (rA 12) (by kernel_rfl) ?_
  refine wpList_frame (a' := { tmps := #[.pointer (some ⟨w.heap.size, 0, none⟩), rA 0, rA 1, rA 2, rA 3, rA 4, rA 5, rA 6, rA 7, rA 8, rA 9, rA 10, rA 11, rA 12, undef, undef, undef, undef, undef, undef, undef, undef, undef, undef, undef, undef, undef, undef, undef, undef, undef], defers := [] }) (by kernel_rfl) ?_
  refine wpList_same rfl (some 14) rfl (rA 13) (by kernel_rfl) ?_
  refine wpList_frame (a' := { tmps := #[.pointer (some ⟨w.heap.size, 0, none⟩), rA 0, rA 1, rA 2, rA 3, rA 4, rA 5, rA 6, rA 7, rA 8, rA 9, rA 10, rA 11, rA 12, rA 13, undef, undef, undef, undef, undef, undef, undef, undef, undef, undef, undef, undef, undef, undef, undef, undef], defers := [] }) (by kernel_rfl) ?_
  refine wpList_same rfl (some 15) rfl (rA 14) (by kernel_rfl) ?_
  refine wpList_frame (a' := { tmps := #[.pointer (some ⟨w.heap.size, 0, none⟩), rA 0, rA 1, rA 2, rA 3, rA 4, rA 5, rA 6, rA 7, rA 8, rA 9, rA 10, rA 11, rA 12, rA 13, rA 14, undef, undef, undef, undef, undef, undef, undef, undef, undef, undef, undef, undef, undef, undef, undef], defers := [] }) (by kernel_rfl) ?_
  refine wpList_same rfl (some 16) rfl (rA 15) (by kernel_rfl) ?_
  refine wpList_frame (a' := { tmps := #[.pointer (some ⟨w.heap.size, 0, none⟩), rA 0, rA 1, rA 2, rA 3, rA 4, rA 5, rA 6, rA 7, rA 8, rA 9, rA 10, rA 11, rA 12, rA 13, rA 14, rA 15, undef, undef, undef, undef, undef, undef, undef, undef, undef, undef, undef, undef, undef, undef], defers := [] }) (by kernel_rfl) ?_
  refine wpList_same rfl (some 17) rfl (rA 16) (by kernel_rfl) ?_
  refine wpList_frame (a' := { tmps := #[.pointer (some ⟨w.heap.size, 0, none⟩), rA 0, rA 1, rA 2, rA 3, rA 4, rA 5, rA 6, rA 7, rA 8, rA 9, rA 10, rA 11, rA 12, rA 13, rA 14, rA 15, rA 16, undef, undef, undef, undef, undef, undef, undef, undef, undef, undef, undef, undef, undef], defers := [] }) (by kernel_rfl) ?_
  refine wpList_same rfl (some 18) rfl (rA 17) (by kernel_rfl) ?_
  refine wpList_frame (a' := { tmps := #[.pointer (some ⟨w.heap.size, 0, none⟩), rA 0, rA 1, rA 2, rA 3, rA 4, rA 5, rA 6, rA 7, rA 8, rA 9, rA 10, rA 11, rA 12, rA 13, rA 14, rA 15, rA 16, rA 17, undef, undef, undef, undef, undef, undef, undef, undef, undef, undef, undef, undef], defers := [] }) (by kernel_rfl) ?_
  refine wpList_same rfl (some 19) rfl (rA 18) (by kernel_rfl) ?_
  refine wpList_frame (a' := { tmps := #[.pointer (some ⟨w.heap.size, 0, none⟩), rA 0, rA 1, rA 2, rA 3, rA 4, rA 5, rA 6, rA 7, rA 8, rA 9, rA 10, rA 11, rA 12, rA 13, rA 14, rA 15, rA 16, rA 17, rA 18, undef, undef, undef, undef, undef, undef, undef, undef, undef, undef, undef], defers := [] }) (by kernel_rfl) ?_
  refine wpList_same rfl (some 20) rfl (rA 19) (by kernel_rfl) ?_
  refine wpList_frame (a' := { tmps := #[.pointer (some ⟨w.heap.size, 0, none⟩), rA 0, rA 1, rA 2, rA 3, rA 4, rA 5, rA 6, rA 7, rA 8, rA 9, rA 10, rA 11, rA 12, rA 13, rA 14, rA 15, rA 16, rA 17, rA 18, rA 19, undef, undef, undef, undef, undef, undef, undef, undef, undef, undef], defers := [] }) (by kernel_rfl) ?_
  refine wpList_same rfl (some 21) rfl (rA 20) (by kernel_rfl) ?_
  refine wpList_frame (a' := { tmps := #[.pointer (some ⟨w.heap.size, 0, none⟩), rA 0, rA 1, rA 2, rA 3, rA 4, rA 5, rA 6, rA 7, rA 8, rA 9, rA 10, rA 11, rA 12, rA 13, rA 14, rA 15, rA 16, rA 17, rA 18, rA 19, rA 20, undef, undef, undef, undef, undef, undef, undef, undef, undef], defers := [] }) (by kernel_rfl) ?_
  refine wpList_same rfl (some 22) rfl (rA 21) (by kernel_rfl) ?_
  refine wpList_frame (a' := { tmps := #[.pointer (some ⟨w.heap.size, 0, none⟩), rA 0, rA 1, rA 2, rA 3, rA 4, rA 5, rA 6, rA 7, rA 8, rA 9, rA 10, rA 11, rA 12, rA 13, rA 14, rA 15, rA 16, rA 17, rA 18, rA 19, rA 20, rA 21, undef, undef, undef, undef, undef, undef, undef, undef], defers := [] }) (by kernel_rfl) ?_
  refine wpList_same rfl (some 23) rfl (rA 22) (by kernel_rfl) ?_
  refine wpList_frame (a' := { tmps := #[.pointer (some ⟨w.heap.size, 0, none⟩), rA 0, rA 1, rA 2, rA 3, rA 4, rA 5, rA 6, rA 7, rA 8, rA 9, rA 10, rA 11, rA 12, rA 13, rA 14, rA 15, rA 16, rA 17, rA 18, rA 19, rA 20, rA 21, rA 22, undef, undef, undef, undef, undef, undef, undef], defers := [] }) (by kernel_rfl) ?_
  refine wpList_same rfl (some 24) rfl (rA 23) (by kernel_rfl) ?_
  refine wpList_frame (a' := { tmps := #[.pointer (some ⟨w.heap.size, 0, none⟩), rA 0, rA 1, rA 2, rA 3, rA 4, rA 5, rA 6, rA 7, rA 8, rA 9, rA 10, rA 11, rA 12, rA 13, rA 14, rA 15, rA 16, rA 17, rA 18, rA 19, rA 20, rA 21, rA 22, rA 23, undef, undef, undef, undef, undef, undef], defers := [] }) (by kernel_rfl) ?_
  refine wpList_same rfl (some 25) rfl (rA 24) (by kernel_rfl) ?_
  refine wpList_frame (a' := { tmps := #[.pointer (some ⟨w.heap.size, 0, none⟩), rA 0, rA 1, rA 2, rA 3, rA 4, rA 5, rA 6, rA 7, rA 8, rA 9, rA 10, rA 11, rA 12, rA 13, rA 14, rA 15, rA 16, rA 17, rA 18, rA 19, rA 20, rA 21, rA 22, rA 23, rA 24, undef, undef, undef, undef, undef], defers := [] }) (by kernel_rfl) ?_
  refine wpList_same rfl (some 26) rfl (rA 25) (by kernel_rfl) ?_
  refine wpList_frame (a' := { tmps := #[.pointer (some ⟨w.heap.size, 0, none⟩), rA 0, rA 1, rA 2, rA 3, rA 4, rA 5, rA 6, rA 7, rA 8, rA 9, rA 10, rA 11, rA 12, rA 13, rA 14, rA 15, rA 16, rA 17, rA 18, rA 19, rA 20, rA 21, rA 22, rA 23, rA 24, rA 25, undef, undef, undef, undef], defers := [] }) (by kernel_rfl) ?_
  refine wpList_same rfl (some 27) rfl (rA 26) (by kernel_rfl) ?_
  refine wpList_frame (a' := { tmps := #[.pointer (some ⟨w.heap.size, 0, none⟩), rA 0, rA 1, rA 2, rA 3, rA 4, rA 5, rA 6, rA 7, rA 8, rA 9, rA 10, rA 11, rA 12, rA 13, rA 14, rA 15, rA 16, rA 17, rA 18, rA 19, rA 20, rA 21, rA 22, rA 23, rA 24, rA 25, rA 26, undef, undef, undef], defers := [] }) (by kernel_rfl) ?_
  refine wpList_same rfl (some 28) rfl (rA 27) (by kernel_rfl) ?_
  refine wpList_frame (a' := { tmps := #[.pointer (some ⟨w.heap.size, 0, none⟩), rA 0, rA 1, rA 2, rA 3, rA 4, rA 5, rA 6, rA 7, rA 8, rA 9, rA 10, rA 11, rA 12, rA 13, rA 14, rA 15, rA 16, rA 17, rA 18, rA 19, rA 20, rA 21, rA 22, rA 23, rA 24, rA 25, rA 26, rA 27, undef, undef], defers := [] }) (by kernel_rfl) ?_
  refine wpList_same rfl (some 29) rfl (rA 28) (by kernel_rfl) ?_
  refine wpList_frame (a' := { tmps := #[.pointer (some ⟨w.heap.size, 0, none⟩), rA 0, rA 1, rA 2, rA 3, rA 4, rA 5, rA 6, rA 7, rA 8, rA 9, rA 10, rA 11, rA 12, rA 13, rA 14, rA 15, rA 16, rA 17, rA 18, rA 19, rA 20, rA 21, rA 22, rA 23, rA 24, rA 25, rA 26, rA 27, rA 28, undef], defers := [] }) (by kernel_rfl) ?_
  refine wpList_same rfl (some 30) rfl (.agg tabC) (by kernel_rfl) ?_
  refine wpList_frame (a' := { tmps := #[.pointer (some ⟨w.heap.size, 0, none⟩), rA 0, rA 1, rA 2, rA 3, rA 4, rA 5, rA 6, rA 7, rA 8, rA 9, rA 10, rA 11, rA 12, rA 13, rA 14, rA 15, rA 16, rA 17, rA 18, rA 19, rA 20, rA 21, rA 22, rA 23, rA 24, rA 25, rA 26, rA 27, rA 28, .agg tabC], defers := [] }) (by kernel_rfl) ?_
  refine wpList_store_rowTo rfl 42 _ _ rfl rfl w.heap.size tabC (by kernel_rfl) (by kernel_rfl) 42 zTab (heap_alloc_last _ _) (by kernel_rfl) (by kernel_rfl) (by kernel_rfl) ?_
  rw [World.setRow_alloc_new]
  apply wpList_nil
  refine hK0 _ _ ?_
  clear hK0 K0
  refine wp_ret (bodyPost_ret (v := .agg tabC) ?_ rfl ⟨rfl, below_alloc _ _⟩)
  rw [res_one (by kernel_rfl : Try.f20.results = #[.cell 0 42])]
  simp only [Array.getD_eq_getD_getElem?, asAddr, Result.andThen]
  exact run_loadVar_new w 42 tabC 29 41 (by kernel_rfl) (by kernel_rfl)
  -- so far

end Go.Proofs.Ythheekneanhmkaa
