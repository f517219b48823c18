/- The document's vote: New; a tick. -/
import Derived.Test.YtmglcmhofcejiaaVr1
namespace Go.Proofs.Ytmglcmhofcejiaa
open Go.RowKit Go.Great

theorem voter_back {fn : Func} (h : fn.results = #[.cell 4 29, .tmp 5]) (tmps : Array Value) (w : World) (g : Nat) (cs : Array Value) (hcs : cs.size = 9) (b : Value) (hp : tmps.getD 4 undef = .pointer (some ⟨g, 0, none⟩)) (hq : tmps.getD 5 undef = b) (hg : Blk w g cs 29) : (results fn tmps).run Try.prog w = .ok (.tuple #[.agg cs, b]) w := by
  rw [results_cell_tmp h]
  have := run_loadVar_row (P := Try.prog) w g 29 29 cs (0, 0) _ hg Try.underlying29 rfl (by rw [hcs]; kernel_rfl)
  rw [hp, hq]
  simp [asAddr, this, Result.andThen]
theorem rnew_any (w : World) (s p : Int) (hs : 0 ≤ s) (hs1 : s ≤ 65534) (hp : 0 ≤ p) : Calls Try.prog 10 #[.int .i64 s, .int .i64 p] w fun e w' => e = .returned (.tuple #[.agg (vC (vN s p)), .int .i64 0]) ∧ Below w.heap.size w w' := by
  have g1 : ¬ s < 0 := by omega
  have g2 : ¬ 65535 ≤ s := by omega
  have g3 : ¬ p < 0 := by omega
  go_enter Try.func10, Try.ntmps10
  go_wp2
  refine bodyPost_ret (voter_back (by kernel_rfl) _ _ w.heap.size (vC (vN s p)) rfl _ rfl rfl (Blk.new _ _ _)) rfl ⟨rfl, below_alloc _ _⟩
theorem rnew_no (w : World) (s p : Int) (h : s < 0 ∨ 65534 < s ∨ p < 0) : Calls Try.prog 10 #[.int .i64 s, .int .i64 p] w fun e w' => e = .returned (.tuple #[.agg (vC ⟨0, 0, fun _ => 0, fun _ => 0, 0⟩), .int .i64 1]) ∧ Below w.heap.size w w' := by
  by_cases g1 : s < 0
  · go_enter Try.func10, Try.ntmps10
    go_wp2
    refine bodyPost_ret (voter_back (by kernel_rfl) _ _ w.heap.size (vC ⟨0, 0, fun _ => 0, fun _ => 0, 0⟩) rfl _ rfl rfl (Blk.new _ _ _)) rfl ⟨rfl, below_alloc _ _⟩
  · by_cases g2 : 65535 ≤ s
    · go_enter Try.func10, Try.ntmps10
      go_wp2
      refine bodyPost_ret (voter_back (by kernel_rfl) _ _ w.heap.size (vC ⟨0, 0, fun _ => 0, fun _ => 0, 0⟩) rfl _ rfl rfl (Blk.new _ _ _)) rfl ⟨rfl, below_alloc _ _⟩
    · have g3 : p < 0 := by omega
      go_enter Try.func10, Try.ntmps10
      go_wp2
      refine bodyPost_ret (voter_back (by kernel_rfl) _ _ w.heap.size (vC ⟨0, 0, fun _ => 0, fun _ => 0, 0⟩) rfl _ rfl rfl (Blk.new _ _ _)) rfl ⟨rfl, below_alloc _ _⟩
end Go.Proofs.Ytmglcmhofcejiaa
