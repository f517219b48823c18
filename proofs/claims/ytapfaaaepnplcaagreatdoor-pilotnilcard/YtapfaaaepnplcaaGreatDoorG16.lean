/- Qv. -/
import Derived.Test.YtapfaaaepnplcaaGreatDoorG06
import Derived.Test.YtapfaaaepnplcaaGreatDoorG08
import Derived.Lib.BitFns
set_option maxRecDepth 100000
set_option maxHeartbeats 2000000
namespace Go.Proofs.YtapfaaaepnplcaaGreatDoor
open Go.RowKit Go.Great
/-- a voter's cells, to whom nobody has spoken -/
def vE (s p : Int) : Array Value := #[.int .i64 s, .int .i64 p, .int .i64 0, .int .i64 0, .int .i64 0, .int .i64 65535, .int .i64 65535, .int .i64 65535, .int .i64 0]
abbrev VotE (w : World) (B : Nat) (s p : Int) : Prop := Blk w B (vE s p) 303
theorem newVE (w : World) (s p : Int) (h0 : 0 ≤ s) (h1 : s < 65535) (hp : 0 ≤ p) : Calls Tryz.prog 97 #[.int .i64 s, .int .i64 p] w fun e w' => ∃ V, e = .returned (.tuple #[.pointer (some ⟨V, 0, none⟩), .int .i64 0]) ∧ VotE w' V s p ∧ Below w.heap.size w w' ∧ w.heap.size ≤ V := by
  obtain ⟨W0, hW0, hB, B0, B1, hz⟩ := two_boxes w #[.int .i64 65535, .int .i64 65535, .int .i64 65535] (vE s p) 63 303
  have HB := hide hB
  have H1 := hide B1
  unfold vE at hW0
  clear hB B0 B1
  go_enter Tryz.func97, Tryz.ntmps97
  go_wp2_with fail
  go_ret2
  exact ⟨w.heap.size + 1, rfl, H1.out, HB.out, by omega⟩
theorem countE (w : World) : Calls Tryz.prog 285 #[.int .i64 65535] w fun e w' => e = .returned (.int .i64 65535) ∧ w' = w := by
  go_enter Tryz.func285, Tryz.ntmps285
  go_wp2
  go_ret
  exact ⟨rfl, rfl⟩
/-- three units that are silent -/
def uE (x y z : Int) : Array Value := #[.bool false, .int .i64 x, .bool false, .int .i64 y, .bool false, .int .i64 z]
theorem ixu_0 (a b c d e f : Value) (w : World) : (Instr.index 61 (.agg #[a, b, c, d, e, f]) (.int .i64 0)).run Tryz.prog w = .ok (.agg #[a, b]) w := by kernel_rfl
theorem ixu_1 (a b c d e f : Value) (w : World) : (Instr.index 61 (.agg #[a, b, c, d, e, f]) (.int .i64 1)).run Tryz.prog w = .ok (.agg #[c, d]) w := by kernel_rfl
theorem ixu_2 (a b c d e f : Value) (w : World) : (Instr.index 61 (.agg #[a, b, c, d, e, f]) (.int .i64 2)).run Tryz.prog w = .ok (.agg #[e, f]) w := by kernel_rfl
theorem hearE (w : World) (B : Nat) (s p : Int) (x y z : Int) (hB : VotE w B s p) : Calls Tryz.prog 282 #[.pointer (some ⟨B, 0, none⟩), .agg (uE x y z)] w fun e w' => e = .returned (.tuple #[]) ∧ Below w.heap.size w w' := by
  have x0 := ixu_0
  have x1 := ixu_1
  have x2 := ixu_2
  unfold uE
  have HB := hide hB
  clear hB
  go_enter Tryz.func282, Tryz.ntmps282
  go_wp2_with fail
  go_loopw [7] (fun v wr => ∃ j : Nat, v = .int .i64 (j : Int) ∧ j ≤ 3 ∧ Hid (Below w.heap.size w wr)) (fun v _ => 3 - (intOf v).toNat)
  case atStart => exact ⟨0, rfl, by omega, hide (by first | exact Below.refl _ _ | exact below_alloc _ _)⟩
  case round =>
    obtain ⟨j, rfl, hj, HG⟩ := hrel
    by_cases h3 : j = 3
    · subst h3
      go_wp2_with fail
      go_end0
      exact ⟨rfl, HG.out⟩
    · have hBj := HB.out.below HG.out HB.out.lt
      obtain rfl | rfl | rfl : j = 0 ∨ j = 1 ∨ j = 2 := by omega
      · have B1 := hBj.alloc (.cells #[.bool false, .int .i64 x] 60)
        have G1 := hide (below_next HG.out (Nat.le_refl _) (below_alloc wr (.cells #[.bool false, .int .i64 x] 60)))
        have r0 : (wr.alloc (.cells #[.bool false, .int .i64 x] 60)).cell? ⟨wr.heap.size, 0, none⟩ = some (.bool false) := (Blk.new wr #[.bool false, .int .i64 x] 60).cell 0 rfl
        go_wp2_with fail
        generalize wr.alloc (.cells #[.bool false, .int .i64 x] 60) = W1 at *
        have c5 : W1.cell? ⟨B, 5, none⟩ = some (.int .i64 65535) := B1.cell 5 rfl
        have f5 := B1.frozen 5
        have B1' := hide B1
        clear B1
        go_region_with ((go_at_call 285; refine (countE _).mono ?_; rintro e w' ⟨rfl, rfl⟩))
        go_wp2
        go_roundw
        case rel =>
          refine ⟨1, by go_num, by omega, hide ?_⟩
          rw [B1'.out.same (k := 5) (v := .int .i64 65535) rfl]
          exact G1.out.drew
        case measure => simp [intOf]
      · have B1 := hBj.alloc (.cells #[.bool false, .int .i64 y] 60)
        have G1 := hide (below_next HG.out (Nat.le_refl _) (below_alloc wr (.cells #[.bool false, .int .i64 y] 60)))
        have r0 : (wr.alloc (.cells #[.bool false, .int .i64 y] 60)).cell? ⟨wr.heap.size, 0, none⟩ = some (.bool false) := (Blk.new wr #[.bool false, .int .i64 y] 60).cell 0 rfl
        go_wp2_with fail
        generalize wr.alloc (.cells #[.bool false, .int .i64 y] 60) = W1 at *
        have c5 : W1.cell? ⟨B, 6, none⟩ = some (.int .i64 65535) := B1.cell 6 rfl
        have f5 := B1.frozen 6
        have B1' := hide B1
        clear B1
        go_region_with ((go_at_call 285; refine (countE _).mono ?_; rintro e w' ⟨rfl, rfl⟩))
        go_wp2
        go_roundw
        case rel =>
          refine ⟨2, by go_num, by omega, hide ?_⟩
          rw [B1'.out.same (k := 6) (v := .int .i64 65535) rfl]
          exact G1.out.drew
        case measure => simp [intOf]
      · have B1 := hBj.alloc (.cells #[.bool false, .int .i64 z] 60)
        have G1 := hide (below_next HG.out (Nat.le_refl _) (below_alloc wr (.cells #[.bool false, .int .i64 z] 60)))
        have r0 : (wr.alloc (.cells #[.bool false, .int .i64 z] 60)).cell? ⟨wr.heap.size, 0, none⟩ = some (.bool false) := (Blk.new wr #[.bool false, .int .i64 z] 60).cell 0 rfl
        go_wp2_with fail
        generalize wr.alloc (.cells #[.bool false, .int .i64 z] 60) = W1 at *
        have c5 : W1.cell? ⟨B, 7, none⟩ = some (.int .i64 65535) := B1.cell 7 rfl
        have f5 := B1.frozen 7
        have B1' := hide B1
        clear B1
        go_region_with ((go_at_call 285; refine (countE _).mono ?_; rintro e w' ⟨rfl, rfl⟩))
        go_wp2
        go_roundw
        case rel =>
          refine ⟨3, by go_num, by omega, hide ?_⟩
          rw [B1'.out.same (k := 7) (v := .int .i64 65535) rfl]
          exact G1.out.drew
        case measure => simp [intOf]
theorem ixi_0 (a b c : Value) (w : World) : (Instr.index 63 (.agg #[a, b, c]) (.int .i64 0)).run Tryz.prog w = .ok a w := by kernel_rfl
theorem ixi_1 (a b c : Value) (w : World) : (Instr.index 63 (.agg #[a, b, c]) (.int .i64 1)).run Tryz.prog w = .ok b w := by kernel_rfl
theorem ixi_2 (a b c : Value) (w : World) : (Instr.index 63 (.agg #[a, b, c]) (.int .i64 2)).run Tryz.prog w = .ok c w := by kernel_rfl
theorem len64_0 (w : World) : Calls Tryz.prog 409 #[.int .u64 0] w fun e w' => e = .returned (.int .i64 0) ∧ w' = w := by
  go_enter Tryz.func409, Tryz.ntmps409
  go_wp2_with fail
  go_ret
  exact ⟨by kernel_rfl, rfl⟩
theorem len_0 (w : World) : Calls Tryz.prog 387 #[.int .u64 0] w fun e w' => e = .returned (.int .i64 0) ∧ w' = w := by
  go_enter Tryz.func387, Tryz.ntmps387
  go_wp2_with (go_at_call 409; refine (len64_0 _).mono ?_; rintro e w' ⟨rfl, rfl⟩)
  go_ret
  exact ⟨rfl, rfl⟩
theorem isort_0 (w : World) (a : Option Addr) (cap : Nat) : Calls Tryz.prog 399 #[.slice a 0 cap, .int .i64 0, .int .i64 0] w fun e w' => e = .returned (.tuple #[]) ∧ w' = w := by
  go_enter Tryz.func399, Tryz.ntmps399
  go_wp2
  go_loop [6] (fun vi => vi = .int .i64 1) (fun _ => 0)
  case atStart => rfl
  case round =>
    subst hrel
    go_wp2
    go_end0
    exact ⟨rfl, rfl⟩
theorem pdq_0 (w : World) (a : Option Addr) (cap : Nat) (l : Int) : Calls Tryz.prog 386 #[.slice a 0 cap, .int .i64 0, .int .i64 0, .int .i64 l] w fun e w' => e = .returned (.tuple #[]) ∧ w' = w := by
  go_enter Tryz.func386, Tryz.ntmps386
  go_wp2_with fail
  go_loopw [1, 2] (fun va vb wr => va = .int .i64 0 ∧ vb = .int .i64 0 ∧ wr = w) (fun _ _ _ => 0)
  case atStart => exact ⟨rfl, rfl, rfl⟩
  case round =>
    obtain ⟨rfl, rfl, rfl⟩ := hrel
    go_wp2_with (go_at_call 399; refine (isort_0 _ a cap).mono ?_; rintro e w' ⟨rfl, rfl⟩)
    exact bodyPost_ret (results_none rfl _ _ _) rfl ⟨rfl, rfl⟩
theorem sort_0 (w : World) (a : Option Addr) (cap : Nat) : Calls Tryz.prog 344 #[.slice a 0 cap] w fun e w' => e = .returned (.tuple #[]) ∧ w' = w := by
  go_enter Tryz.func344, Tryz.ntmps344
  go_wp2_with (first | (go_at_call 387; refine (len_0 _).mono ?_; rintro e w' ⟨rfl, rfl⟩) | (go_at_call 386; refine (pdq_0 _ a cap _).mono ?_; rintro e w' ⟨rfl, rfl⟩))
  go_end0
  exact ⟨rfl, rfl⟩
/-- nothing is valid -/
theorem validE (w : World) (B : Nat) (s p : Int) (hs : s < 65535) (hB : VotE w B s p) : Calls Tryz.prog 283 #[.pointer (some ⟨B, 0, none⟩)] w fun e w' => e = .returned (.slice none 0 0) ∧ Below w.heap.size w w' := by
  have c0 : w.cell? ⟨B, 0, none⟩ = some (.int .i64 s) := hB.cell 0 rfl
  have c2 : w.cell? ⟨B, 2, none⟩ = some (.int .i64 0) := hB.cell 2 rfl
  have c3 : w.cell? ⟨B, 3, none⟩ = some (.int .i64 0) := hB.cell 3 rfl
  have c4 : w.cell? ⟨B, 4, none⟩ = some (.int .i64 0) := hB.cell 4 rfl
  have c5 : w.cell? ⟨B, 5, none⟩ = some (.int .i64 65535) := hB.cell 5 rfl
  have c6 : w.cell? ⟨B, 6, none⟩ = some (.int .i64 65535) := hB.cell 6 rfl
  have c7 : w.cell? ⟨B, 7, none⟩ = some (.int .i64 65535) := hB.cell 7 rfl
  have hs1 : ¬ 65535 ≤ s := by omega
  have x0 := ixi_0
  have x1 := ixi_1
  have x2 := ixi_2
  clear hB
  go_enter Tryz.func283, Tryz.ntmps283
  go_wp2_with fail
  go_loopw [3, 10] (fun sv v wr => ∃ j : Nat, sv = .slice none 0 0 ∧ v = .int .i64 (j : Int) ∧ j ≤ 3 ∧ ∃ n, wr = w.drewN n) (fun _ v _ => 3 - (intOf v).toNat)
  case atStart => exact ⟨0, rfl, rfl, by omega, 0, rfl⟩
  case round =>
    obtain ⟨j, rfl, rfl, hj, n, rfl⟩ := hrel
    by_cases h3 : j = 3
    · subst h3
      go_wp2_with fail
      refine (sort_0 _ none 0).mono ?_
      rintro e w1 ⟨rfl, h1⟩
      obtain rfl := h1.symm
      go_wp2_with fail
      go_ret
      exact ⟨rfl, below_drewN (Below.refl _ _) n⟩
    · obtain rfl | rfl | rfl : j = 0 ∨ j = 1 ∨ j = 2 := by omega
      · go_wp2_with fail
        go_quiet (fail)
        go_wp2_with fail
        go_roundw
        case rel => exact ⟨1, rfl, by go_num, by omega, n + nq, rfl⟩
        case measure => simp [intOf]
      · go_wp2_with fail
        go_quiet (fail)
        go_wp2_with fail
        go_roundw
        case rel => exact ⟨2, rfl, by go_num, by omega, n + nq, rfl⟩
        case measure => simp [intOf]
      · go_wp2_with fail
        go_quiet (fail)
        go_wp2_with fail
        go_roundw
        case rel => exact ⟨3, rfl, by go_num, by omega, n + nq, rfl⟩
        case measure => simp [intOf]
theorem stepVE (w : World) (B : Nat) (s p : Int) (x y z : Int) (hs : s < 65535) (hB : VotE w B s p) : Calls Tryz.prog 195 #[.pointer (some ⟨B, 0, none⟩), .agg (uE x y z)] w fun e w' => e = .returned (.agg #[.bool false, .int .i64 0]) ∧ Below w.heap.size w w' := by
  unfold uE
  obtain ⟨W0, hW0, b0, U0, B2, hz0⟩ := two_boxes w #[.bool false, .int .i64 x, .bool false, .int .i64 y, .bool false, .int .i64 z] #[.bool false, .int .i64 0] 61 60
  have q0 : W0.cell? ⟨w.heap.size, 0, none⟩ = some (.bool false) := U0.cell 0 rfl
  have q1 : W0.cell? ⟨w.heap.size, 1, none⟩ = some (.int .i64 x) := U0.cell 1 rfl
  have q2 : W0.cell? ⟨w.heap.size, 2, none⟩ = some (.bool false) := U0.cell 2 rfl
  have q3 : W0.cell? ⟨w.heap.size, 3, none⟩ = some (.int .i64 y) := U0.cell 3 rfl
  have q4 : W0.cell? ⟨w.heap.size, 4, none⟩ = some (.bool false) := U0.cell 4 rfl
  have q5 : W0.cell? ⟨w.heap.size, 5, none⟩ = some (.int .i64 z) := U0.cell 5 rfl
  have HB := hide (Blk.after hB b0)
  have H2 := hide B2
  have HB0 := hide b0
  clear b0 U0 B2 hB
  go_enter Tryz.func195, Tryz.ntmps195
  go_wp2_with fail
  refine (hearE W0 B s p x y z HB.out).mono ?_
  rintro e w1 ⟨rfl, hb1⟩
  have HB1 := hide (Blk.after HB.out hb1)
  have H21 := hide (H2.out.after hb1)
  have Hb1 := hide (below_next HB0.out (Nat.le_refl _) hb1)
  clear hb1 HB H2 HB0 q0 q1 q2 q3 q4 q5
  go_wp2_with fail
  refine (validE w1 B s p hs HB1.out).mono ?_
  rintro e w2 ⟨rfl, hb2⟩
  have B2 := H21.out.after hb2
  have Hb2 := hide (below_next Hb1.out (Nat.le_refl _) hb2)
  have r0 : w2.cell? ⟨w.heap.size + 1, 0, none⟩ = some (.bool false) := B2.cell 0 rfl
  have r1 : w2.cell? ⟨w.heap.size + 1, 1, none⟩ = some (.int .i64 0) := B2.cell 1 rfl
  have f0 : w2.frozen? ⟨w.heap.size + 1, 0, none⟩ = false := B2.frozen 0
  have f1 : w2.frozen? ⟨w.heap.size + 1, 1, none⟩ = false := B2.frozen 1
  have e0 : w2.setCell ⟨w.heap.size + 1, 0, none⟩ (.bool false) = w2 := B2.same rfl
  have e1 : w2.setCell ⟨w.heap.size + 1, 1, none⟩ (.int .i64 0) = w2 := B2.same rfl
  have H3 := hide B2
  have hln := fun W : World => (show (Builtin.len_ #[48] 3 #[.slice none 0 0]).run Tryz.prog W = .ok (.int .i64 0) W by kernel_rfl)
  clear hb2 B2
  go_wp2_with fail
  refine bodyPost_ret (res_back Tryz.results195 Tryz.underlying60 (by kernel_rfl) _ _ (w.heap.size + 1) rfl H3.out) rfl ?_
  exact ⟨rfl, Hb2.out⟩
end Go.Proofs.YtapfaaaepnplcaaGreatDoor
