/- PowerNil. -/
import Derived.Test.YtnofpcoohbmnpaaPwO
namespace Go.Proofs.Ytnofpcoohbmnpaa
open Go.RowKit Go.Great

set_option maxHeartbeats 1000000 in
theorem nil_walk (o : Bool) (x : Int) (w : World) : Calls Try.prog 6 #[rdV o x] w fun e w' => e = .returned (.bool true) ∧ Below w.heap.size w w' := by
  have HR := hide (Blk.new w #[.bool o, .int .i64 x] 42)
  have Hb := hide (below_alloc w (.cells #[.bool o, .int .i64 x] 42))
  go_enter Try.func6, Try.ntmps6
  go_upto_region 1 with fail
  generalize w.alloc (.cells #[.bool o, .int .i64 x] 42) = W at *
  have r0 : W.cell? ⟨w.heap.size, 0, none⟩ = some (.bool o) := HR.out.cell 0 rfl
  have r1 : W.cell? ⟨w.heap.size, 1, none⟩ = some (.int .i64 x) := HR.out.cell 1 rfl
  go_wp2_with fail
  refine (step_nil W o x).mono ?_
  rintro e w1 ⟨rfl, hb1⟩
  have HR1 := hide (HR.out.after hb1)
  have Hb1 := hide (below_next Hb.out (Nat.le_refl _) hb1)
  clear r0 r1 hb1 HR Hb
  go_wp2_with fail
  refine (left_nil w1).mono ?_
  rintro e w2 ⟨rfl, hb2⟩
  have HS := hide (Blk.new w2 #[.int .i64 0, .int .i64 0] 31)
  have HR2 := hide ((HR1.out.after hb2).alloc (.cells #[.int .i64 0, .int .i64 0] 31))
  have Hb2 := hide (below_next (below_next Hb1.out (Nat.le_refl _) hb2) (Nat.le_refl _) (below_alloc w2 (.cells #[.int .i64 0, .int .i64 0] 31)))
  clear hb2 HR1 Hb1
  go_upto_region 4 with fail
  generalize w2.heap.size = d at *
  generalize w2.alloc (.cells #[.int .i64 0, .int .i64 0] 31) = W2 at *
  have r1 : W2.cell? ⟨w.heap.size, 1, none⟩ = some (.int .i64 x) := HR2.out.cell 1 rfl
  have s0 : W2.cell? ⟨d, 0, none⟩ = some (.int .i64 0) := HS.out.cell 0 rfl
  have s1 : W2.cell? ⟨d, 1, none⟩ = some (.int .i64 0) := HS.out.cell 1 rfl
  go_wp2_with fail
  refine (tier_nil W2 x x).mono ?_
  rintro e w3 ⟨rfl, hw⟩
  obtain rfl := hw.symm
  go_wp2_with fail
  refine (awakeP _).mono ?_
  rintro e w4 ⟨rfl, hb4⟩
  go_wp2_with fail
  go_ret
  exact ⟨rfl, below_next Hb2.out (Nat.le_refl _) hb4⟩
theorem PowerNil_walk (v : Value) (w : World) (hv : ∃ o x, v = rdV o x) : Calls Try.prog 6 #[v] w fun e w' => e = .returned (.bool true) ∧ Below w.heap.size w w' := by
  obtain ⟨o, x, rfl⟩ := hv
  exact nil_walk o x w
end Go.Proofs.Ytnofpcoohbmnpaa
