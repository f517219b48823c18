/- Qb. -/
import Derived.Test.YtapfaaaepnplcaaGreatDoorG06
import Derived.Lib.Bytealg
import Derived.Laws.Externs
set_option maxRecDepth 100000
set_option maxHeartbeats 4000000
namespace Go.Proofs.YtapfaaaepnplcaaGreatDoor
open Go.RowKit Go.Great
theorem widthsE (k : Nat) (hk : 1 ≤ k ∧ k ≤ 5) (w : World) : Calls Tryz.prog 328 #[.int .u8 (k : Int)] w fun e w' => ∃ a n cap, e = .returned (.slice a n cap) ∧ 1 ≤ n ∧ Below w.heap.size w w' := by
  have h : k = 1 ∨ k = 2 ∨ k = 3 ∨ k = 4 ∨ k = 5 := by omega
  rcases h with rfl | rfl | rfl | rfl | rfl
  all_goals
    go_enter Tryz.func328, Tryz.ntmps328
    go_wp2
    go_ret
    refine ⟨_, _, _, rfl, by omega, ?_⟩
    repeat (first | exact below_alloc _ _ | refine Below.alloc ?_ (by simp only [size_alloc]; omega) _)
theorem index_a5 (w : World) : Calls Tryz.prog 329 #[.string ⟨#[]⟩, .int .u8 165] w fun e w' => e = .returned (.int .i64 (-1)) ∧ w' = w := by
  have hx : ∀ wx : World, (callFunc 394 #[.string ⟨#[]⟩, .int .u8 165]).run Tryz.prog wx = .ok (.value (.int .i64 (-1))) wx := by
    intro wx
    rw [run_callFunc_extern (fn := Tryz.f394) (e := Extern.BytealgIndexByte.indexByte) (by kernel_rfl) (by kernel_rfl) (by kernel_rfl) (by kernel_rfl) (by kernel_rfl)]
    rw [Lib.run_indexByteString]
    rfl
  go_enter Tryz.func329, Tryz.ntmps329
  go_wp2
  go_ret
  exact ⟨rfl, rfl⟩
theorem readE (k : Nat) (hk : 1 ≤ k ∧ k ≤ 5) (w : World) : Calls Tryz.prog 260 #[.int .u8 (k : Int), .string ⟨#[]⟩] w fun e w' => e = .returned (.tuple #[.slice none 0 0, .bool false, .int .i64 0]) ∧ Below w.heap.size w w' := by
  have WI := hide (widthsE k hk)
  have IX := hide index_a5
  clear hk
  go_enter Tryz.func260, Tryz.ntmps260
  go_wp2_with fail
  refine (WI.out _).mono ?_
  rintro e w1 ⟨a, n, cap, rfl, hn, hb⟩
  have hn0 : ((n : Int) == 0) = false := by rw [beq_eq_false_iff_ne]; omega
  have HB := hide hb
  clear hb WI
  go_wp2_with fail
  go_loopw [1, 8, 9] (fun d vl bd wx => d = .string ⟨#[]⟩ ∧ vl = .slice none 0 0 ∧ bd = .int .i64 0 ∧ wx = w1) (fun _ _ _ _ => 0)
  case atStart => exact ⟨rfl, rfl, rfl, rfl⟩
  case round =>
    obtain ⟨rfl, rfl, rfl, hw⟩ := hrel
    subst hw
    go_wp2_with fail
    refine (IX.out _).mono ?_
    rintro e w2 ⟨rfl, hw⟩
    obtain rfl := hw.symm
    go_wp2_with fail
    go_ret3
    exact ⟨rfl, HB.out⟩
end Go.Proofs.YtapfaaaepnplcaaGreatDoor
