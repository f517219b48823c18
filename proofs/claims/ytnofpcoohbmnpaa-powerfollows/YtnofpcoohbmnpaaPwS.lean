/- The document's battery: Need, Tier. -/
import Derived.Test.YtnofpcoohbmnpaaPwR
namespace Go.Proofs.Ytnofpcoohbmnpaa
open Go.RowKit Go.Great

set_option maxHeartbeats 2000000 in
theorem rneedP (w : World) (u : Value) (t : Ba) (h d : Int) (hv : Ints w u t.l) (hs : Sound t.l) : Calls Try.prog 31 #[.agg (rbC u t), .int .i64 h, .int .i64 d] w fun e w' => e = .returned (.tuple #[.int .i64 (need t.l (lanT t.l h)), .int .i64 (need t.l (retT t.l h d + lanT t.l h))]) ∧ Below w.heap.size w w' := by
  have LA : Hid (∀ W, Ints W u t.l → Calls Try.prog 51 #[u, .int .i64 (clamp h 0 536870912)] W fun e w' => e = .returned (.tuple #[.int .i64 (lanT t.l h), .int .i64 (landE t.l (clamp h 0 536870912)).2]) ∧ Below W.heap.size W w') := hide (fun W hW => rlandTicks_any t.l _ _ W hW)
  have RE : Hid (∀ W, Ints W u t.l → Calls Try.prog 52 #[u, .int .i64 (clamp h 0 536870912), .int .i64 (clamp d 0 536870912)] W fun e w' => e = .returned (.tuple #[.int .i64 (retT t.l h d), .int .i64 (retE t.l (clamp h 0 536870912) (clamp d 0 536870912)).2]) ∧ Below W.heap.size W w') := hide (fun W hW => rreturnTicks_any t.l _ _ _ W hW)
  have C1 := hide (fun W => rclampP h 0 536870912 W)
  have C2 := hide (fun W => rclampP d 0 536870912 W)
  have l1 := lanT_in hs h
  have r1 := retT_in hs h d
  have n1 := need_in hs (lanT t.l h) l1.1 (by omega)
  have n2 := need_in hs (retT t.l h d + lanT t.l h) (by omega) (by omega)
  have hd := drn_in hs
  have hf := floor_in hs
  obtain ⟨g, o, cap, rfl, hg, hc⟩ := hv.open24 hs.len
  have HV := hide hv
  have HC := hide (hc 17 (by omega))
  unfold need rbC
  generalize clamp h 0 536870912 = ch at *
  generalize clamp d 0 536870912 = cd at *
  generalize lanT t.l h = a at *
  generalize retT t.l h d = b at *
  generalize (landE t.l ch).2 = e1 at *
  generalize (retE t.l ch cd).2 = e2 at *
  generalize t.l.getD 17 0 = f at *
  generalize drn t.l = dr at *
  obtain ⟨x, hx⟩ : ∃ x, dr * (a + 8) = x := ⟨_, rfl⟩
  obtain ⟨y, hy⟩ : ∃ y, dr * (b + a + 8) = y := ⟨_, rfl⟩
  have hx2 : (a + 8) * dr = x := by rw [Int.mul_comm]; exact hx
  have hy2 : (b + a + 8) * dr = y := by rw [Int.mul_comm]; exact hy
  rw [hx] at n1 ⊢
  rw [hy] at n2 ⊢
  have HBx := hide (Blk.new w #[.slice (some ⟨g, o, none⟩) 24 cap, .int .i64 dr, .bool t.kn, .int .i64 t.lo, .int .i64 t.hi] 33)
  have Hb := hide (below_alloc w (.cells #[.slice (some ⟨g, o, none⟩) 24 cap, .int .i64 dr, .bool t.kn, .int .i64 t.lo, .int .i64 t.hi] 33))
  clear hv hc hs
  go_enter Try.func31, Try.ntmps31
  go_upto_region 1 with fail
  replace HV := hide (HV.out.below Hb.out)
  generalize w.alloc (.cells #[.slice (some ⟨g, o, none⟩) 24 cap, .int .i64 dr, .bool t.kn, .int .i64 t.lo, .int .i64 t.hi] 33) = W0 at *
  have c0 : W0.cell? ⟨w.heap.size, 0, none⟩ = some (.slice (some ⟨g, o, none⟩) 24 cap) := HBx.out.cell 0 rfl
  go_upto_region 3 with (first | (go_at_call_of 50 h; refine (C1.out _).mono ?_; rintro e w1 ⟨rfl, hw⟩; obtain rfl := hw.symm) | (go_at_call_of 50 d; refine (C2.out _).mono ?_; rintro e w1 ⟨rfl, hw⟩; obtain rfl := hw.symm))
  go_upto_region 4 with (go_at_call 51; refine (LA.out _ HV.out).mono ?_; rintro e w1 ⟨rfl, hb1⟩)
  replace HBx := hide (HBx.out.after hb1)
  replace HV := hide (HV.out.below hb1)
  replace Hb := hide (below_next Hb.out (Nat.le_refl _) hb1)
  clear hb1 c0
  have c0 : w1.cell? ⟨w.heap.size, 0, none⟩ = some (.slice (some ⟨g, o, none⟩) 24 cap) := HBx.out.cell 0 rfl
  go_upto_region 5 with (go_at_call 52; refine (RE.out _ HV.out).mono ?_; rintro e w2 ⟨rfl, hb2⟩)
  replace HBx := hide (HBx.out.after hb2)
  replace Hb := hide (below_next Hb.out (Nat.le_refl _) hb2)
  clear hb2 c0 HV
  have c0 : w2.cell? ⟨w.heap.size, 0, none⟩ = some (.slice (some ⟨g, o, none⟩) 24 cap) := HBx.out.cell 0 rfl
  have c1 : w2.cell? ⟨w.heap.size, 1, none⟩ = some (.int .i64 dr) := HBx.out.cell 1 rfl
  have c17 : w2.cell? ⟨g, o + 17, none⟩ = some (.int .i64 f) := (Hb.out.cell (p := ⟨g, o + 17, none⟩) hg).trans HC.out
  go_wp2_with fail
  go_quiet (fail)
  go_wp2_with fail
  go_ret2
  exact ⟨ret_two (by omega) (by omega), below_drewN Hb.out nq⟩
set_option maxHeartbeats 1000000 in
theorem rtierP (w : World) (u : Value) (t : Ba) (h d : Int) (hv : Ints w u t.l) (hs : Sound t.l) : Calls Try.prog 17 #[.agg (rbC u t), .int .i64 h, .int .i64 d] w fun e w' => e = .returned (.int .u8 (tierI t h d)) ∧ Below w.heap.size w w' := by
  have NE := hide (fun W (hW : Ints W u t.l) => rneedP W u t h d hW hs)
  have E : Hid (tierI t h d = if t.kn = false ∨ t.lo < need t.l (lanT t.l h) then 2 else if t.lo < need t.l (retT t.l h d + lanT t.l h) then 1 else 0) := hide rfl
  generalize need t.l (lanT t.l h) = p at *
  generalize need t.l (retT t.l h d + lanT t.l h) = q at *
  obtain ⟨g, o, cap, rfl, hg, _⟩ := hv.open24 hs.len
  have HV := hide hv
  have HBx := hide (Blk.new w (rbC (.slice (some ⟨g, o, none⟩) 24 cap) t) 33)
  have Hb := hide (below_alloc w (.cells (rbC (.slice (some ⟨g, o, none⟩) 24 cap) t) 33))
  replace HV := hide (HV.out.below Hb.out)
  clear hv hs
  unfold rbC at *
  generalize drn t.l = dr at *
  go_enter Try.func17, Try.ntmps17
  go_upto_region 1 with fail
  generalize w.alloc (.cells #[.slice (some ⟨g, o, none⟩) 24 cap, .int .i64 dr, .bool t.kn, .int .i64 t.lo, .int .i64 t.hi] 33) = W0 at *
  have c0 : W0.cell? ⟨w.heap.size, 0, none⟩ = some (.slice (some ⟨g, o, none⟩) 24 cap) := HBx.out.cell 0 rfl
  have c1 : W0.cell? ⟨w.heap.size, 1, none⟩ = some (.int .i64 dr) := HBx.out.cell 1 rfl
  have c2 : W0.cell? ⟨w.heap.size, 2, none⟩ = some (.bool t.kn) := HBx.out.cell 2 rfl
  have c3 : W0.cell? ⟨w.heap.size, 3, none⟩ = some (.int .i64 t.lo) := HBx.out.cell 3 rfl
  have c4 : W0.cell? ⟨w.heap.size, 4, none⟩ = some (.int .i64 t.hi) := HBx.out.cell 4 rfl
  go_upto_region 2 with (go_at_call 31; refine (NE.out _ HV.out).mono ?_; rintro e w1 ⟨rfl, hb1⟩)
  replace HBx := hide (HBx.out.after hb1)
  replace Hb := hide (below_next Hb.out (Nat.le_refl _) hb1)
  clear hb1 HV c0 c1 c2 c3 c4
  have c2 : w1.cell? ⟨w.heap.size, 2, none⟩ = some (.bool t.kn) := HBx.out.cell 2 rfl
  have c3 : w1.cell? ⟨w.heap.size, 3, none⟩ = some (.int .i64 t.lo) := HBx.out.cell 3 rfl
  obtain ⟨k, hk⟩ : ∃ k, Hid (t.kn = k) := ⟨_, hide rfl⟩
  rw [hk.out] at c2 E
  rcases (show k = false ∨ (k = true ∧ t.lo < p) ∨ (k = true ∧ ¬ t.lo < p ∧ t.lo < q) ∨ (k = true ∧ ¬ t.lo < p ∧ ¬ t.lo < q) by cases k <;> simp; omega) with rfl | ⟨rfl, h1⟩ | ⟨rfl, h1, h2⟩ | ⟨rfl, h1, h2⟩
  · rw [show (if false = false ∨ t.lo < p then (2 : Int) else if t.lo < q then 1 else 0) = 2 by simp] at E
    go_wp2_with fail
    go_ret
    rw [E.out]
    exact ⟨rfl, Hb.out⟩
  · rw [show (if true = false ∨ t.lo < p then (2 : Int) else if t.lo < q then 1 else 0) = 2 by simp [h1]] at E
    go_wp2_with fail
    go_ret
    rw [E.out]
    exact ⟨rfl, Hb.out⟩
  · rw [show (if true = false ∨ t.lo < p then (2 : Int) else if t.lo < q then 1 else 0) = 1 by simp [h1, h2]] at E
    go_wp2_with fail
    go_ret
    rw [E.out]
    exact ⟨rfl, Hb.out⟩
  · rw [show (if true = false ∨ t.lo < p then (2 : Int) else if t.lo < q then 1 else 0) = 0 by simp [h1, h2]] at E
    go_wp2_with fail
    go_ret
    rw [E.out]
    exact ⟨rfl, Hb.out⟩
end Go.Proofs.Ytnofpcoohbmnpaa
