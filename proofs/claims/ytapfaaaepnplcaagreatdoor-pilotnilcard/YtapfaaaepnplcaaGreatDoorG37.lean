/- Qpl. -/
import Derived.Test.YtapfaaaepnplcaaGreatDoorG32
import Derived.Test.YtapfaaaepnplcaaGreatDoorG29
import Derived.Test.YtapfaaaepnplcaaGreatDoorG36
import Derived.Test.YtapfaaaepnplcaaGreatDoorG06
import Derived.Laws.CopyOwn
set_option maxRecDepth 100000
set_option maxHeartbeats 8000000
namespace Go.Proofs.YtapfaaaepnplcaaGreatDoor
open Go.RowKit Go.Great
theorem viewN (w : World) : Calls Tryz.prog 7 #[.pointer none] w fun e w' => e = .returned (.agg vw0) ∧ Below w.heap.size w w' := by
  have HZ := hide (Blk.new w vw0 46)
  have HB := hide (below_alloc w (.cells vw0 46))
  go_enter Tryz.func7, Tryz.ntmps7
  go_upto_region 2 with fail
  generalize w.alloc (.cells vw0 46) = w1 at *
  apply wp_region_lit
  refine wpList_same rfl (some 8) rfl (.agg vw0) (by kernel_rfl) ?_
  refine (wpList_store_row rfl 46 _ _ rfl w.heap.size vw0 rfl rfl 46 vw0 HZ.out (by kernel_rfl) rfl (by kernel_rfl) ?_)
  have R10 := setRow_heap w1 w.heap.size vw0 vw0 _ _ HZ.out
  have B10 := hide (below_setRow HB.out (Nat.le_refl _) vw0)
  go_wp2_with fail
  refine bodyPost_ret (res_back Tryz.results7 Tryz.underlying46 (by kernel_rfl) _ _ w.heap.size rfl R10) rfl ?_
  exact ⟨rfl, B10.out⟩
theorem paramsN (w : World) : Calls Tryz.prog 8 #[.pointer none] w fun e w' => e = .returned (.slice none 0 0) ∧ w' = w := by
  go_enter Tryz.func8, Tryz.ntmps8
  go_wp2_with fail
  go_ret
  exact ⟨rfl, rfl⟩
theorem missionN (w : World) : Calls Tryz.prog 9 #[.pointer none] w fun e w' => e = .returned (.slice none 0 0) ∧ w' = w := by
  go_enter Tryz.func9, Tryz.ntmps9
  go_wp2_with fail
  go_ret
  exact ⟨rfl, rfl⟩
theorem fenceN (w : World) : Calls Tryz.prog 5 #[.pointer none] w fun e w' => e = .returned (.tuple #[.agg feN, .bool false]) ∧ Below w.heap.size w w' := by
  have HZ := hide (Blk.new w feN 34)
  have HB := hide (below_alloc w (.cells feN 34))
  go_enter Tryz.func5, Tryz.ntmps5
  go_wp2_with fail
  refine bodyPost_ret (res_back2 Tryz.results5 Tryz.underlying34 (by kernel_rfl) _ _ w.heap.size (.bool false) rfl rfl HZ.out) rfl ?_
  exact ⟨rfl, HB.out⟩
theorem newN (w : World) : Calls Tryz.prog 6 #[.pointer none] w fun e w' => e = .returned (.tuple #[.pointer none, .int .i64 2]) ∧ w' = w := by
  go_enter Tryz.func6, Tryz.ntmps6
  go_wp2_with fail
  refine (boot_nil _).mono ?_
  rintro e w1 ⟨rfl, hw⟩
  obtain rfl := hw.symm
  clear hw
  go_wp2_with fail
  go_ret2
  exact ⟨rfl, rfl⟩
abbrev ou0 : Array Value := #[.int .i64 0, .int .i64 0, .int .i64 0, .int .i64 0, .int .i64 0, .int .i64 0, .int .i64 0, .int .i64 0, .string ⟨#[]⟩]
theorem stepN (w : World) (x0 x1 x2 x3 x4 x5 x6 x7 x8 x9 xa xb : ByteArray) : Calls Tryz.prog 4 #[.pointer none, .agg #[.string x0, .string x1, .string x2, .string x3, .string x4, .string x5, .string x6, .string x7, .string x8, .string x9, .string xa, .string xb]] w fun e w' => e = .returned (.tuple #[.agg #[.int .i64 0, .int .i64 0, .int .i64 0, .int .i64 0, .int .i64 0, .int .i64 0, .int .i64 0, .int .i64 0, .string ⟨#[]⟩], .int .i64 2]) ∧ Below w.heap.size w w' := by
  go_enter Tryz.func4, Tryz.ntmps4
  go_upto_region 2 with fail
  obtain ⟨W0, hW0, hB, B0, B1, hz⟩ := two_boxes w #[.string x0, .string x1, .string x2, .string x3, .string x4, .string x5, .string x6, .string x7, .string x8, .string x9, .string xa, .string xb] ou0 24 28
  rw [hW0]
  clear hW0 B0 hz
  apply wp_region_lit
  refine wpList_same rfl (some 10) rfl (.agg ou0) (by kernel_rfl) ?_
  refine (wpList_store_row rfl 28 _ _ rfl (w.heap.size + 1) ou0 rfl rfl 28 ou0 B1 (by kernel_rfl) rfl (by kernel_rfl) ?_)
  have R10 := setRow_heap W0 (w.heap.size + 1) ou0 ou0 _ _ B1
  have B10 := hide (below_setRow hB (Nat.le_succ _) ou0)
  clear B1 hB
  go_wp2_with fail
  refine bodyPost_ret (res_back2 Tryz.results4 Tryz.underlying28 (by kernel_rfl) _ _ (w.heap.size + 1) (.int .i64 2) rfl rfl R10) rfl ?_
  exact ⟨rfl, B10.out⟩
end Go.Proofs.YtapfaaaepnplcaaGreatDoor
