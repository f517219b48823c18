/- WorldDrains. -/
import Derived.Test.YtpoodmfhcoaleaaWdO
namespace Go.Proofs.Ytpoodmfhcoaleaa
open Go.RowKit Go.Great

set_option maxHeartbeats 2000000 in
theorem drains_any (n0 n1 n2 n3 n4 n5 n6 n7 b m : Int) (hb : I64 b) (hm : I64 m) (w : World) : Calls Try.prog 5 #[eV n0 n1 n2 n3 n4 n5 n6 n7, .int .i64 b, .int .i64 m] w fun e w' => e = .returned (.bool true) ∧ Below w.heap.size w w' := by
  have C1 := hide (fun W => curve_any n0 n1 n2 n3 n4 n5 n6 n7 b m W hb hm)
  have C2 := hide (fun W => rcurve_any n0 n1 n2 n3 n4 n5 n6 n7 b m W hb hm)
  generalize crv b m _ = z at *
  have ez : (z == z) = true := by simp
  clear hb hm
  have HM := hide (Blk.new w (eC n0 n1 n2 n3 n4 n5 n6 n7) 26)
  have Hb := hide (below_alloc w (.cells (eC n0 n1 n2 n3 n4 n5 n6 n7) 26))
  go_enter Try.func5, Try.ntmps5
  go_upto_region 1 with fail
  generalize w.alloc (.cells (eC n0 n1 n2 n3 n4 n5 n6 n7) 26) = W3 at *
  have q0 : ∀ z : BelowW W3, z.q.cell? ⟨w.heap.size, 0, none⟩ = some (.int .i64 n0) := HM.out.at 0 rfl
  have q1 : ∀ z : BelowW W3, z.q.cell? ⟨w.heap.size, 1, none⟩ = some (.int .i64 n1) := HM.out.at 1 rfl
  have q2 : ∀ z : BelowW W3, z.q.cell? ⟨w.heap.size, 2, none⟩ = some (.int .i64 n2) := HM.out.at 2 rfl
  have q3 : ∀ z : BelowW W3, z.q.cell? ⟨w.heap.size, 3, none⟩ = some (.int .i64 n3) := HM.out.at 3 rfl
  have q4 : ∀ z : BelowW W3, z.q.cell? ⟨w.heap.size, 4, none⟩ = some (.int .i64 n4) := HM.out.at 4 rfl
  have q5 : ∀ z : BelowW W3, z.q.cell? ⟨w.heap.size, 5, none⟩ = some (.int .i64 n5) := HM.out.at 5 rfl
  have q6 : ∀ z : BelowW W3, z.q.cell? ⟨w.heap.size, 6, none⟩ = some (.int .i64 n6) := HM.out.at 6 rfl
  have q7 : ∀ z : BelowW W3, z.q.cell? ⟨w.heap.size, 7, none⟩ = some (.int .i64 n7) := HM.out.at 7 rfl
  have hne : Nonempty (BelowW W3) := ⟨⟨W3, Below.refl _ _⟩⟩
  refine wp_region_calm (by kernel_rfl) (by kernel_rfl) ?_
  repeat (go_big_quiet_step (first
    | (go_at_call 16; exact calm_of (C1.out _))
    | (go_at_call 17; exact calm_of (C2.out _))
    | (go_at_call 9; exact calm_of (awakeW _))))
  refine wpQuiet_nil ?_
  rintro _ ⟨z, rfl⟩
  go_wp2_with fail
  go_ret
  exact ⟨rfl, below_next Hb.out (Nat.le_refl _) z.h⟩
theorem WorldDrains_walk (v : Value) (b m : Int) (w : World) (hv : ∃ n0 n1 n2 n3 n4 n5 n6 n7 : Int, v = eV n0 n1 n2 n3 n4 n5 n6 n7) (hb : I64 b) (hm : I64 m) : Calls Try.prog 5 #[v, .int .i64 b, .int .i64 m] w fun e w' => e = .returned (.bool true) ∧ Below w.heap.size w w' := by
  obtain ⟨n0, n1, n2, n3, n4, n5, n6, n7, rfl⟩ := hv
  exact drains_any n0 n1 n2 n3 n4 n5 n6 n7 b m hb hm w
end Go.Proofs.Ytpoodmfhcoaleaa
