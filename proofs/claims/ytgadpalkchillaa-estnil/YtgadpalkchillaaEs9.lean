/- Package est: a step of a compass. -/
import Derived.Test.YtgadpalkchillaaEs8
namespace Go.Proofs.Ytgadpalkchillaa
open Go.RowKit Go.Great

set_option maxHeartbeats 1000000 in
theorem stepC_no (w : World) (B : Nat) (t : Co) (r m : Mea) (hB : Blk w B (cC t) 82) (hk : t.kn = false) : Calls Try.prog 20 #[.pointer (some ⟨B, 0, none⟩), mV r, mV m] w fun e w' => e = .returned (.tuple #[]) ∧ Blk w' B (cC (cstp r m t)) 82 ∧ w.grownBy w' (some B) := by
  obtain ⟨W0, hW0, b0, P0, V0, hz0⟩ := two_boxes w #[.bool r.o, .int .i64 r.x, .int .i64 r.e] #[.bool m.o, .int .i64 m.x, .int .i64 m.e] 38 38
  have hlB := hB.lt
  have HB0 := hide (hB.below b0 hlB)
  have G0 := hide (grown_below b0 (some B))
  have HT0 : Hid (Two W0 w.heap.size r m) := hide ⟨P0, V0⟩
  have hkn : W0.cell? ⟨B, 1, none⟩ = some (.bool false) := by rw [← hk]; exact (cc4 HB0.out).1
  have HE : Hid (cstp r m t = cbeg m t) := hide (by unfold cstp; rw [hk]; rfl)
  obtain ⟨a0, a1, a2, c0, c1, c2⟩ := HT0.out.cells
  clear hB b0 P0 V0 hk
  go_enter Try.func20, Try.ntmps20
  go_wp2_with (go_at_call 38; refine (beginC_any W0 B t m HB0.out).mono ?_; rintro e w1 ⟨rfl, hB1, hG1⟩)
  refine bodyPost_ret (results_none rfl _ _ _) rfl ?_
  refine ⟨rfl, ?_, grown_more G0.out hG1⟩
  rw [HE.out]
  exact hB1
set_option maxHeartbeats 2000000 in
set_option maxRecDepth 100000 in
theorem stepC_yes (w : World) (B : Nat) (t : Co) (r m : Mea) (hB : Blk w B (cC t) 82) (hk : t.kn = true) (ht : COk t) : Calls Try.prog 20 #[.pointer (some ⟨B, 0, none⟩), mV r, mV m] w fun e w' => e = .returned (.tuple #[]) ∧ Blk w' B (cC (cstp r m t)) 82 ∧ w.grownBy w' (some B) := by
  obtain ⟨W0, hW0, b0, P0, V0, hz0⟩ := two_boxes w #[.bool r.o, .int .i64 r.x, .int .i64 r.e] #[.bool m.o, .int .i64 m.x, .int .i64 m.e] 38 38
  have hlB := hB.lt
  have HB0 := hide (hB.below b0 hlB)
  have G0 := hide (grown_below b0 (some B))
  have HT0 : Hid (Two W0 w.heap.size r m) := hide ⟨P0, V0⟩
  have hkn : W0.cell? ⟨B, 1, none⟩ = some (.bool true) := by rw [← hk]; exact (cc4 HB0.out).1
  have HE : Hid (cstp r m t = clean m (crot r { t with q0 := qt m t.q0 })) := hide (by unfold cstp; rw [hk]; rfl)
  have HT := hide ht
  have I0 := hide (i64_of ht.q0)
  clear hB b0 P0 V0 hk ht
  go_enter Try.func20, Try.ntmps20
  go_upto_region 4 with fail
  clear hW0 hkn
  refine wp_region_held_drew (S := fun wx => wx.cell? ⟨w.heap.size, 0, none⟩ = some (.bool r.o) ∧ wx.cell? ⟨w.heap.size, 1, none⟩ = some (.int .i64 r.x) ∧ wx.cell? ⟨w.heap.size, 2, none⟩ = some (.int .i64 r.e) ∧ wx.cell? ⟨w.heap.size + 1, 0, none⟩ = some (.bool m.o) ∧ wx.cell? ⟨w.heap.size + 1, 1, none⟩ = some (.int .i64 m.x) ∧ wx.cell? ⟨w.heap.size + 1, 2, none⟩ = some (.int .i64 m.e)) (by kernel_rfl) (HT0.out.drew.cells) (fun hHeld => ?_)
  refine take_at (i := 0) (v := .pointer (some ⟨B, 0, none⟩)) (d := some 17) rfl rfl (by kernel_rfl) (by kernel_rfl) (by kernel_rfl) (fun _ _ _ h => h) (Or.inl ⟨by rfl, fun wS ⟨hS0, hS1, hS2, hS3, hS4, hS5⟩ => by go_simp; all_goals (rw [IntKind.wrap_i64]; omega)⟩) (by assumption) ?_
  simp only [Act.put, List.setIfInBounds_toArray, List.set_cons_zero, List.set_cons_succ]
  refine take_at (i := 1) (v := .pointer (some ⟨B, 0, none⟩)) (d := some 18) rfl rfl (by kernel_rfl) (by kernel_rfl) (by kernel_rfl) (fun _ _ _ h => h) (Or.inl ⟨by rfl, fun wS ⟨hS0, hS1, hS2, hS3, hS4, hS5⟩ => by go_simp; all_goals (rw [IntKind.wrap_i64]; omega)⟩) (by assumption) ?_
  simp only [Act.put, List.setIfInBounds_toArray, List.set_cons_zero, List.set_cons_succ]
  refine take_at (i := 2) (v := .pointer (some ⟨B, 0, none⟩)) (d := some 19) rfl rfl (by kernel_rfl) (by kernel_rfl) (by kernel_rfl) (fun _ _ _ h => h) (Or.inl ⟨by rfl, fun wS ⟨hS0, hS1, hS2, hS3, hS4, hS5⟩ => by go_simp; all_goals (rw [IntKind.wrap_i64]; omega)⟩) (by assumption) ?_
  simp only [Act.put, List.setIfInBounds_toArray, List.set_cons_zero, List.set_cons_succ]
  refine take_at (i := 3) (v := .agg #[.bool m.o, .int .i64 m.x, .int .i64 m.e]) (d := some 20) rfl rfl (by kernel_rfl) (by kernel_rfl) (by kernel_rfl) (fun _ _ _ h => h) (Or.inl ⟨by rfl, fun wS ⟨hS0, hS1, hS2, hS3, hS4, hS5⟩ => by go_simp; all_goals (rw [IntKind.wrap_i64]; omega)⟩) (by assumption) ?_
  simp only [Act.put, List.setIfInBounds_toArray, List.set_cons_zero, List.set_cons_succ]
  clear hHeld
  refine wpAnyH_ready (rs := [4]) (by kernel_rfl) (by simp) ?_
  refine AllReadyH.cons rfl (fun K hK => ?_) AllReadyH.nil
  go_simp
  have HB1 := hide (HB0.out.alloc (.cells #[.bool m.o, .int .i64 m.x, .int .i64 m.e] 38))
  have HT1 := hide (HT0.out.after (below_alloc W0 (.cells #[.bool m.o, .int .i64 m.x, .int .i64 m.e] 38)))
  have G1 := hide (grown_after G0.out (below_alloc W0 (.cells #[.bool m.o, .int .i64 m.x, .int .i64 m.e] 38)))
  have HS1 : Hid (Blk (W0.alloc (.cells #[.bool m.o, .int .i64 m.x, .int .i64 m.e] 38)) (w.heap.size + 2) #[.bool m.o, .int .i64 m.x, .int .i64 m.e] 38) := hide (by have := Blk.new W0 #[.bool m.o, .int .i64 m.x, .int .i64 m.e] 38; rwa [hz0] at this)
  clear HB0 HT0 G0
  generalize W0.alloc (.cells #[.bool m.o, .int .i64 m.x, .int .i64 m.e] 38) = W1 at *
  refine hK.out _ _ HT1.out.drew.cells (fun hHeld => ?_)
  clear hK K hHeld
  refine wpAnyH_ready (rs := [5]) (by kernel_rfl) (by simp) ?_
  refine AllReadyH.cons rfl (fun K hK => ?_) AllReadyH.nil
  go_simp
  refine (hear1_any W1.drew B (cC t) 82 m t.q0 HB1.out rfl I0.out (w.heap.size + 2) HS1.out (by omega)).mono ?_
  rintro e w2 ⟨rfl, hB2, hG2⟩
  have HB2 : Hid (Blk w2 B (cC { t with q0 := qt m t.q0 }) 82) := hide hB2
  have HT2 := hide (HT1.out.drew.grown hG2 hlB)
  have G2 := hide (grown_more (grown_drew1 G1.out) hG2)
  clear HB1 HT1 G1 HS1 hB2 hG2
  refine hK.out _ _ HT2.out.cells (fun hHeld => ?_)
  clear hK K hHeld
  refine wpAnyH_done (by kernel_rfl) ?_ _
  go_simp
  have HT1 := hide (chear_ok (m := m) HT.out)
  obtain ⟨t1, ht1⟩ : ∃ t1, Hid ({ t with q0 := qt m t.q0 } = t1) := ⟨_, hide rfl⟩
  rw [ht1.out] at HB2 HT1 HE
  obtain ⟨a0, a1, a2, c0, c1, c2⟩ := HT2.out.cells
  go_upto_region 6 with (go_at_call 39; refine (rotate_any w2 B t1 r HB2.out HT1.out).mono ?_; rintro e w3 ⟨rfl, hB3, hG3⟩)
  have HB3 := hide hB3
  have HT3 := hide (HT2.out.grown hG3 hlB)
  have G3 := hide (grown_more G2.out hG3)
  have HO3 := hide (crot_ok (m := r) HT1.out)
  clear HB2 HT2 G2 hB3 hG3 a0 a1 a2 c0 c1 c2
  obtain ⟨t2, ht2⟩ : ∃ t2, Hid (crot r t1 = t2) := ⟨_, hide rfl⟩
  rw [ht2.out] at HB3 HO3 HE
  obtain ⟨a0, a1, a2, c0, c1, c2⟩ := HT3.out.cells
  go_wp2_with (go_at_call 40; refine (lean_any w3 B t2 m HB3.out HO3.out).mono ?_; rintro e w4 ⟨rfl, hB4, hG4⟩)
  go_end0
  refine ⟨rfl, ?_, grown_more G3.out hG4⟩
  rw [HE.out]
  exact hB4
theorem stepC_any (w : World) (B : Nat) (t : Co) (r m : Mea) (hB : Blk w B (cC t) 82) (ht : COk t) : Calls Try.prog 20 #[.pointer (some ⟨B, 0, none⟩), mV r, mV m] w fun e w' => e = .returned (.tuple #[]) ∧ Blk w' B (cC (cstp r m t)) 82 ∧ w.grownBy w' (some B) := by
  rcases (show t.kn = true ∨ t.kn = false by cases t.kn <;> simp) with hk | hk
  · exact stepC_yes w B t r m hB hk ht
  · exact stepC_no w B t r m hB hk
end Go.Proofs.Ytgadpalkchillaa
