/- Package control, walked: New; a nil steer's step. -/
import Derived.Test.YthldohfjkjhdcaaCo2
namespace Go.Proofs.Ythldohfjkjhdcaa
open Go.RowKit Go.Great

theorem five_boxes (w : World) (A B C D E : Array Value) (t u v x y : TypeId) : ∃ W0, ((((w.alloc (.cells A t)).alloc (.cells B u)).alloc (.cells C v)).alloc (.cells D x)).alloc (.cells E y) = W0 ∧ Below w.heap.size w W0 ∧ Blk W0 w.heap.size A t ∧ Blk W0 (w.heap.size + 1) B u ∧ Blk W0 (w.heap.size + 1 + 1) C v ∧ Blk W0 (w.heap.size + 1 + 1 + 1) D x ∧ Blk W0 (w.heap.size + 1 + 1 + 1 + 1) E y ∧ W0.heap.size = w.heap.size + 5 := by
  obtain ⟨W0, h0, b0, hA, hB, hC, hz⟩ := three_boxes w A B C t u v
  obtain ⟨W1, h1, b1, hD, hE, hy⟩ := two_boxes W0 D E x y
  rw [h0, h1]
  refine ⟨W1, rfl, below_next b0 (Nat.le_refl _) b1, hA.after b1, hB.after b1, hC.after b1, ?_, ?_, by omega⟩
  · rw [hz] at hD; exact hD
  · rw [hz] at hE; exact hE
/-- Accel of a list of parameters -/
abbrev acc (l : List Int) : Int := l.getD 6 0
set_option maxHeartbeats 1000000 in
theorem newS_no (w : World) (l : List Int) (v : Value) (hv : Ints w v l) (hc : chk l ≠ 0) : Calls Try.prog 15 #[v] w fun e w' => e = .returned (.tuple #[.pointer none, .int .i64 (chk l)]) ∧ Below w.heap.size w w' := by
  have CH := hide (check_any l v w hv)
  have hne : (chk l != 0) = true := by simp [hc]
  obtain ⟨a, cap, rfl, _⟩ := hv
  generalize l.length = n at *
  generalize chk l = c at *
  go_enter Try.func15, Try.ntmps15
  go_wp2_with (go_at_call 16; refine CH.out.mono ?_; rintro e w1 ⟨rfl, hb1⟩)
  go_ret2
  exact ⟨rfl, hb1⟩
set_option maxHeartbeats 1000000 in
theorem newS_any (w : World) (l : List Int) (v : Value) (hv : Ints w v l) (hs : Sound l) : Calls Try.prog 15 #[v] w fun e w' => ∃ B, e = .returned (.tuple #[sP B, .int .i64 0]) ∧ Str w' B (acc l) 0 0 0 ∧ Below w.heap.size w w' ∧ w.heap.size ≤ B := by
  have CH := hide (check_any l v w hv)
  rw [hs.chk] at CH
  obtain ⟨g, o, cap, rfl, hg, hc⟩ := hv.open24 hs.len
  have h6 := hc 6 (by omega)
  have HC : Hid (w.cell? ⟨g, o + 6, none⟩ = some (.int .i64 (acc l))) := hide h6
  generalize acc l = ac at *
  clear hv hc h6
  go_enter Try.func15, Try.ntmps15
  go_upto_region 4 with (go_at_call 16; refine CH.out.mono ?_; rintro e w1 ⟨rfl, hb1⟩)
  have c6 : w1.cell? ⟨g, o + 6, none⟩ = some (.int .i64 ac) := (hb1.cell (p := ⟨g, o + 6, none⟩) hg).trans HC.out
  have HB1 := hide hb1
  clear hb1 CH HC
  go_wp2_with fail
  go_ret2
  exact ⟨w1.heap.size, rfl, Blk.new _ _ _, below_next HB1.out (Nat.le_refl _) (below_alloc _ _), HB1.out.size⟩
set_option maxHeartbeats 1000000 in
theorem step_nil (p q r : Wn) (a b c d e f : Int) (w : World) : Calls Try.prog 20 #[.pointer none, wsV p q r, tV a b c, tV d e f] w fun e w' => e = .returned (tV 0 0 0) ∧ Below w.heap.size w w' := by
  obtain ⟨W0, hW0, b0, _, _, _, hR, hA, z0⟩ := five_boxes w (wsC p q r) (tC a b c) (tC d e f) (tC 0 0 0) (tC 0 0 0) 39 36 36 36 36
  have Hb := hide b0
  have HR := hide hR
  obtain ⟨r0, r1, r2⟩ := three_cells hR
  obtain ⟨a0, a1, a2⟩ := three_cells hA
  have f0 := hR.frozen 0
  have f1 := hR.frozen 1
  have f2 := hR.frozen 2
  clear hR hA b0
  go_enter Try.func20, Try.ntmps20
  go_wp2
  exact bodyPost_ret (t_back (p := 8) (by kernel_rfl) _ _ (w.heap.size + 1 + 1 + 1) _ _ _ rfl (HR.out.set3 _ _ _)) rfl ⟨rfl, below_set3 Hb.out _ _ _ _ (by omega) Hb.out.size⟩
end Go.Proofs.Ythldohfjkjhdcaa
