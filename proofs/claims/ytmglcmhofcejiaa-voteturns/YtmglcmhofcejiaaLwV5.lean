/- VoteTurns. -/
import Derived.Test.YtmglcmhofcejiaaVoR
import Derived.Deep.DeepCutAuto
namespace Go.Proofs.Ytmglcmhofcejiaa
open Go.RowKit Go.Great

theorem Blk.past2v {W : World} {B sb : Nat} {cs : Array Value} {t : TypeId} (h : Blk W B cs t) (hne : ¬ B = sb) (u v : Value) : Blk ((W.setCell ⟨sb, 0, none⟩ u).setCell ⟨sb, 1, none⟩ v) B cs t := (h.setOther hne _ _).setOther hne _ _
theorem below_twov {n : Nat} {w W : World} {sb : Nat} (h : Below n w W) (hs : n ≤ sb) (hn : n ≤ W.heap.size) (u v : Value) : Below n w ((W.setCell ⟨sb, 0, none⟩ u).setCell ⟨sb, 1, none⟩ v) := below_set (below_set h _ _ _ hs hn) _ _ _ hs (by rw [setCell_size]; exact hn)
theorem Blk.cell6 {W : World} {B : Nat} {u : Un} {t : TypeId} (h : Blk W B #[.bool (u.o 0), .int .i64 (u.x 0), .bool (u.o 1), .int .i64 (u.x 1), .bool (u.o 2), .int .i64 (u.x 2)] t) : W.cell? ⟨B, 0, none⟩ = some (.bool (u.o 0)) ∧ W.cell? ⟨B, 1, none⟩ = some (.int .i64 (u.x 0)) ∧ W.cell? ⟨B, 2, none⟩ = some (.bool (u.o 1)) ∧ W.cell? ⟨B, 3, none⟩ = some (.int .i64 (u.x 1)) ∧ W.cell? ⟨B, 4, none⟩ = some (.bool (u.o 2)) ∧ W.cell? ⟨B, 5, none⟩ = some (.int .i64 (u.x 2)) :=
  ⟨h.cell 0 rfl, h.cell 1 rfl, h.cell 2 rfl, h.cell 3 rfl, h.cell 4 rfl, h.cell 5 rfl⟩
set_option maxHeartbeats 2000000 in
set_option maxRecDepth 100000 in
theorem turns_no (s p q : Int) (tv : Value) (w : World) (h1 : s < 0 ∨ 65534 < s ∨ p < 0) : Calls Try.prog 5 #[.agg #[.int .i64 s, tv], .int .i64 p, .int .i64 q] w fun e w' => e = .returned (.bool true) ∧ Below w.heap.size w w' := by
  have S0 := Blk.new w #[.int .i64 s, tv] 41
  have c0 : (w.alloc (.cells #[.int .i64 s, tv] 41)).cell? ⟨w.heap.size, 0, none⟩ = some (.int .i64 s) := S0.cell 0 rfl
  clear S0
  go_enter Try.func5, Try.ntmps5
  go_wp2_with (first
      | (go_at_call 9; refine (new_no _ s p h1).mono ?_; rintro e w' ⟨rfl, hw'⟩; obtain rfl := hw'.symm)
      | (go_at_call 11; refine (awakeV _).mono ?_; rintro e w1 ⟨rfl, hb⟩))
  go_ret
  exact ⟨rfl, below_over hb⟩
end Go.Proofs.Ytmglcmhofcejiaa
