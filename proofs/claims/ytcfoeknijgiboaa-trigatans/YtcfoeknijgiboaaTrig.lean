/- What the small functions of package trig, and of the reference for it, answer: at every input. -/
import Derived.Test.YtcfoeknijgiboaaFix
import Derived.Test.YtcfoeknijgiboaaTrigM
import Derived.Great.BuildSlice
import Derived.Deep.WholeRow
import Derived.Below
namespace Go.Proofs.Ytcfoeknijgiboaa
open Go.RowKit Go.Great

theorem and_low (a : Int) : bits .and .i64 a 65535 = a % 65536 := by
  have h1 : (BitVec.ofInt 64 a &&& BitVec.ofInt 64 65535).toNat = (a % 65536).toNat := by
    rw [BitVec.toNat_and, show (BitVec.ofInt 64 65535).toNat = 2 ^ 16 - 1 from rfl, Nat.and_two_pow_sub_one_eq_mod, BitVec.toNat_ofInt]
    omega
  show IntKind.i64.wrap ((BitVec.ofInt 64 a &&& BitVec.ofInt 64 65535).toNat : Int) = _
  rw [h1, IntKind.wrap_i64]
  omega
theorem place_any (a : Int) (w : World) : Calls Try.prog 46 #[.int .i64 a] w fun e w' => e = .returned (.int .i64 (a % 65536)) ∧ w' = w := by
  go_enter Try.func46, Try.ntmps46
  go_wp2
  go_ret
  exact ⟨ret_int (and_low a), rfl⟩
theorem tm_pos (a : Int) (n : Int) (hn : 0 < n) : (a % n = if a.tmod n < 0 then a.tmod n + n else a.tmod n) ∧ -n < a.tmod n ∧ a.tmod n < n := by
  have e := Int.mul_tdiv_add_tmod a n
  have l1 := Int.tmod_lt_of_pos a hn
  have l2 := Int.tmod_lt_of_pos (-a) hn
  rw [Int.neg_tmod] at l2
  refine ⟨?_, by omega, l1⟩
  split
  · exact ((Int.ediv_emod_unique (a := a) (b := n) (q := a.tdiv n - 1) (r := a.tmod n + n) (by omega)).2 ⟨by rw [Int.mul_sub]; omega, by omega, by omega⟩).2
  · exact ((Int.ediv_emod_unique (a := a) (b := n) (q := a.tdiv n) (r := a.tmod n) (by omega)).2 ⟨by omega, by omega, by omega⟩).2
theorem lin_in (x y f : Int) (h0 : 0 ≤ x) (h1 : x ≤ y) (h2 : y ≤ 16384) (f0 : 0 ≤ f) (f1 : f ≤ 255) : 0 ≤ (y - x) * f ∧ (y - x) * f ≤ 4177920 := by
  refine ⟨Int.mul_nonneg (by omega) f0, ?_⟩
  have := Int.mul_le_mul (a := y - x) (b := f) (c := 16384) (d := 255) (by omega) (by omega) (by omega) (by omega)
  omega
theorem between_at (c : Array Value) (r x y : Int) (h0 : 0 ≤ r) (h1 : r ≤ 16384) (hx : c[(r / 256).toNat]? = some (.int .i64 x)) (hy : r % 256 ≠ 0 → c[(r / 256 + 1).toNat]? = some (.int .i64 y)) (x0 : 0 ≤ x) (xy : r % 256 ≠ 0 → x ≤ y ∧ y ≤ 16384) (w : World) :
    Calls Try.prog 47 #[.agg c, .int .i64 r] w fun e w' => e = .returned (.int .i64 (x + ((y - x) * (r % 256) + 128) / 256)) ∧ ∃ n, w' = (w.alloc (.cells c 51)).drewN n := by
  have hcell : ∀ i v, c[i]? = some v → (w.alloc (.cells c 51)).cell? ⟨w.heap.size, i, none⟩ = some v := by
    intro i v hv
    rw [cell_of_row _ _ i c 51 (0, 0) (heap_alloc_last w _)]
    exact hv
  obtain ⟨i, hi⟩ : ∃ i : Nat, r / 256 = i := ⟨(r / 256).toNat, by omega⟩
  obtain ⟨f, hf⟩ : ∃ f, r % 256 = f := ⟨_, rfl⟩
  rw [hi] at hx hy
  rw [hf] at hy xy ⊢
  have k0 := hcell i _ (by simpa using hx)
  have hf0 : 0 ≤ f ∧ f ≤ 255 := by omega
  have hi0 : (i : Int) ≤ 64 := by omega
  by_cases z : f = 0
  · have zz : (f == 0) = true := by simp [z]
    have e : x = x + ((y - x) * f + 128) / 256 := by rw [z, Int.mul_zero]; omega
    rw [← e]
    clear e hcell hx hy z
    go_enter Try.func47, Try.ntmps47
    go_wp2
    go_ret
    exact ⟨rfl, 0, rfl⟩
  · have zz : (f == 0) = false := by simp [z]
    have k1 := hcell (i + 1) _ (by simpa using hy z)
    have hq := xy z
    have hp := lin_in x y f x0 hq.1 hq.2 hf0.1 hf0.2
    have hi1 : (i : Int) ≤ 63 := by omega
    obtain ⟨p, hP⟩ : ∃ p, (y - x) * f = p := ⟨_, rfl⟩
    rw [hP] at hp ⊢
    clear hcell hx hy z
    go_enter Try.func47, Try.ntmps47
    go_wp2
    go_quiet (fail)
    go_wp2
    go_ret
    exact ⟨rfl, _, rfl⟩
def zAll : Array Value := Array.replicate 65 (.int .i64 0)
theorem Try.infoAll : (Try.prog.info? 51).map (fun i => (i.zero, i.size)) = some (some (.agg zAll), 65) := by kernel_rfl
theorem wpList_run {P : Program} {ops : Array Oper} {rest : List Oper} {o : Oper} {a : Act} {w : World} {Q : Exit → Act → World → Prop} (hg : o.guard = none) (dst : Option Tmp) (hdst : o.dst = dst)
    (v : Value) (w' : World) (hrun : (execOp a.eval o).run P w = .ok (.value v) w')
    (h : wpList P ops Q rest (a.put dst v) w') : wpList P ops Q (o :: rest) a w := by
  subst hdst
  refine wpList_plain hg fun K hK => ?_
  unfold Oper.wp
  rw [hrun, Oper.upon_value]
  exact hK _ _ h
theorem alloc_all (w : World) (ρ : Operand → Value) (o : Oper) (ho : o.op = .alloc 51) : (execOp ρ o).run Try.prog w = .ok (.value (.pointer (some ⟨w.heap.size, 0, none⟩))) (w.alloc (.cells zAll 51)) := by
  have hz := (zero_of_info Try.infoAll).1
  simp [execOp, ho, go_sem, hz, Value.cells]
def sZ : List Int := sN.map Int.ofNat
def aZ : List Int := aN.map Int.ofNat
/-- a table's cells -/
def cellsZ (l : List Int) : Array Value := (l.map (Value.int .i64)).toArray
theorem results_one {fn : Func} {p : Tmp} {ty : TypeId} (h : fn.results = #[.cell p ty]) (tmps : Array Value) (P : Program) (w : World) :
    (results fn tmps).run P w = ((asAddr (tmps.getD p undef)).run P w).andThen fun a w₁ => (loadVar ty a).run P w₁ := by
  simp only [results, h]
  simp [Sem.run_bind, Result.andThen]
set_option maxRecDepth 100000 in
theorem sines_any (w : World) : Calls Try.prog 48 #[] w fun e w' => e = .returned (.agg (cellsZ sZ)) ∧ w' = (w.alloc (.cells (cellsZ sZ) 51)) := by
  go_enter Try.func48, Try.ntmps48
  apply wp_seq_k; intro K0 hK0
  apply wp_region_lit
  refine wpList_run rfl (some 0) rfl _ _ (alloc_all _ _ _ rfl) ?_
  refine wpList_frame (a' := { tmps := #[.pointer (some ⟨w.heap.size, 0, none⟩), undef], defers := [] }) (by kernel_rfl) ?_
  apply wpList_nil
  refine hK0 _ _ ?_
  clear hK0 K0
  apply wp_seq_k; intro K0 hK0
  apply wp_region_lit
  refine wpList_buildFlatArrTo rfl 51 3 65 _ rfl .i64 sZ (some 1) rfl (by kernel_rfl) (by kernel_rfl) (by kernel_rfl) (by kernel_rfl) ?_
  refine wpList_frame (a' := { tmps := #[.pointer (some ⟨w.heap.size, 0, none⟩), (.agg (cellsZ sZ))], defers := [] }) (by kernel_rfl) ?_
  refine wpList_store_rowTo rfl 51 _ _ rfl rfl w.heap.size (cellsZ sZ) (by kernel_rfl) (by kernel_rfl) 51 zAll (heap_alloc_last _ _) (by kernel_rfl) (by kernel_rfl) (by kernel_rfl) ?_
  rw [World.setRow_alloc_new]
  apply wpList_nil
  refine hK0 _ _ ?_
  clear hK0 K0
  refine wp_ret (bodyPost_ret (v := .agg (cellsZ sZ)) ?_ rfl ⟨rfl, rfl⟩)
  rw [results_one (by kernel_rfl : Try.f48.results = #[.cell 0 51])]
  simp only [Array.getD_eq_getD_getElem?, asAddr, Result.andThen]
  exact run_loadVar_new w 51 (cellsZ sZ) 65 3 (by kernel_rfl) (by kernel_rfl)
set_option maxRecDepth 100000 in
theorem angles_any (w : World) : Calls Try.prog 62 #[] w fun e w' => e = .returned (.agg (cellsZ aZ)) ∧ w' = (w.alloc (.cells (cellsZ aZ) 51)) := by
  go_enter Try.func62, Try.ntmps62
  apply wp_seq_k; intro K0 hK0
  apply wp_region_lit
  refine wpList_run rfl (some 0) rfl _ _ (alloc_all _ _ _ rfl) ?_
  refine wpList_frame (a' := { tmps := #[.pointer (some ⟨w.heap.size, 0, none⟩), undef], defers := [] }) (by kernel_rfl) ?_
  apply wpList_nil
  refine hK0 _ _ ?_
  clear hK0 K0
  apply wp_seq_k; intro K0 hK0
  apply wp_region_lit
  refine wpList_buildFlatArrTo rfl 51 3 65 _ rfl .i64 aZ (some 1) rfl (by kernel_rfl) (by kernel_rfl) (by kernel_rfl) (by kernel_rfl) ?_
  refine wpList_frame (a' := { tmps := #[.pointer (some ⟨w.heap.size, 0, none⟩), (.agg (cellsZ aZ))], defers := [] }) (by kernel_rfl) ?_
  refine wpList_store_rowTo rfl 51 _ _ rfl rfl w.heap.size (cellsZ aZ) (by kernel_rfl) (by kernel_rfl) 51 zAll (heap_alloc_last _ _) (by kernel_rfl) (by kernel_rfl) (by kernel_rfl) ?_
  rw [World.setRow_alloc_new]
  apply wpList_nil
  refine hK0 _ _ ?_
  clear hK0 K0
  refine wp_ret (bodyPost_ret (v := .agg (cellsZ aZ)) ?_ rfl ⟨rfl, rfl⟩)
  rw [results_one (by kernel_rfl : Try.f62.results = #[.cell 0 51])]
  simp only [Array.getD_eq_getD_getElem?, asAddr, Result.andThen]
  exact run_loadVar_new w 51 (cellsZ aZ) 65 3 (by kernel_rfl) (by kernel_rfl)
end Go.Proofs.Ytcfoeknijgiboaa
