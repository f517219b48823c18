/- Package upload: a list with one more row; take. -/
import Derived.Test.YtimkfipiebppiaaUp2
namespace Go.Proofs.Ytimkfipiebppiaa
open Go.RowKit Go.Great

theorem set5z {W : World} {B : Nat} {a b c d e : Value} {t : TypeId} (h : Blk W B #[a, b, c, d, e] t) (a' b' c' d' e' : Value) : Blk (((((W.setCell ⟨B, 0, none⟩ a').setCell ⟨B, 1, none⟩ b').setCell ⟨B, 2, none⟩ c').setCell ⟨B, 3, none⟩ d').setCell ⟨B, 4, none⟩ e') B #[a', b', c', d', e'] t :=
  ((((h.set 0 a').set 1 b').set 2 c').set 3 d').set 4 e'
theorem grown5z (W : World) (B : Nat) (a' b' c' d' e' : Value) : W.grownBy (((((W.setCell ⟨B, 0, none⟩ a').setCell ⟨B, 1, none⟩ b').setCell ⟨B, 2, none⟩ c').setCell ⟨B, 3, none⟩ d').setCell ⟨B, 4, none⟩ e') (some B) :=
  grown_more (grown_more (grown_more (grown_more (grown_set _ _ _ _) (grown_set _ _ _ _)) (grown_set _ _ _ _)) (grown_set _ _ _ _)) (grown_set _ _ _ _)
theorem IRow.grown2 {w w' : World} {base : Nat} {v : Value} {l : List Int} {B : Nat} (h : IRow w base v l) (hg : w.grownBy w' (some B)) (hB : v.ownBlock ≠ some B) : IRow w' base v l := World.ownsRow.kept h hg (.inr hB)
theorem IRow.low {w : World} {b b' : Nat} {v : Value} {l : List Int} (h : IRow w b v l) (hb : b' ≤ b) : IRow w b' v l := by
  refine ⟨h.1, ?_⟩
  rcases h.2 with q | ⟨g, cap, cur, q1, q2, q3⟩
  · exact .inl q
  · exact .inr ⟨g, cap, cur, q1, Nat.le_trans hb q2, q3⟩
set_option maxHeartbeats 1000000 in
theorem with_any (c h a g now : Int) (hh : 0 ≤ h ∧ h ≤ 70000) (q : Option Addr) (r : List Int) (u : Value) (w : World) (hu : Ints w u r) (h0 : 0 < r.length) (hl : r.length * 8 ≤ 140737488355328) : Calls Try.prog 74 #[.agg #[.int .i64 c, .int .i64 h, .pointer q, .int .i64 a, .int .i64 g], u, .int .i64 now] w fun e w' => ∃ E u', e = .returned (.agg #[.int .i64 c, .int .i64 (h + 1), .pointer (some ⟨E, 0, none⟩), .int .i64 now, .int .i64 0]) ∧ Blk w' E #[u', .pointer q] 98 ∧ IRow w' w.heap.size u' r ∧ w.heap.size ≤ E ∧ Below w.heap.size w w' := by
  obtain ⟨W2, HW2, hb2, hB1, hB2, hz2⟩ := two_boxes w #[.int .i64 c, .int .i64 h, .pointer q, .int .i64 a, .int .i64 g] #[.int .i64 0, .int .i64 0, .pointer none, .int .i64 0, .int .i64 0] 66 66
  have Hb := hide hb2
  have H1 := hide hB1
  have H2 := hide hB2
  have HZ := hide hz2
  have CL := hide (fun W (hb : Below w.heap.size w W) => clone_any r u W (hu.below hb) h0 hl)
  clear hb2 hB1 hB2 hz2
  obtain ⟨ua, uc, rfl, _⟩ := hu
  clear h0 hl
  obtain ⟨n, hn⟩ : ∃ n, Hid (r.length = n) := ⟨_, hide rfl⟩
  rw [hn.out] at CL ⊢
  go_enter Try.func74, Try.ntmps74
  go_upto_region 1 with fail
  clear HW2
  have HS : Hid (∀ W, Below W2.heap.size W2 W → W.cell? ⟨w.heap.size, 2, none⟩ = some (.pointer q)) := hide (fun W hb => (H1.out.after hb).cell 2 rfl)
  refine wp_region_held_drew (S := fun wx => wx.cell? ⟨w.heap.size, 2, none⟩ = some (.pointer q)) (by kernel_rfl) (HS.out W2 (Below.refl _ _)) (fun hHeld => ?_)
  refine take_at (i := 0) (v := .slice ua n uc) (d := some 8) rfl rfl (by kernel_rfl) (by kernel_rfl) (by kernel_rfl) (fun _ _ _ h => h) (Or.inl ⟨by rfl, fun wS hSw => by go_simp; all_goals (rw [IntKind.wrap_i64]; omega)⟩) (by assumption) ?_
  simp only [Act.put, List.setIfInBounds_toArray, List.set_cons_zero, List.set_cons_succ]
  refine take_at (i := 2) (v := .pointer (some ⟨w.heap.size, 2, none⟩)) (d := some 10) rfl rfl (by kernel_rfl) (by kernel_rfl) (by kernel_rfl) (fun _ _ _ h => h) (Or.inl ⟨by rfl, fun wS hSw => by go_simp; all_goals (rw [IntKind.wrap_i64]; omega)⟩) (by assumption) ?_
  simp only [Act.put, List.setIfInBounds_toArray, List.set_cons_zero, List.set_cons_succ]
  refine take_at (i := 3) (v := .pointer q) (d := some 11) rfl rfl (by kernel_rfl) (by kernel_rfl) (by kernel_rfl) (fun _ _ _ h => h) (Or.inl ⟨by rfl, fun wS hSw => by go_simp; all_goals (rw [IntKind.wrap_i64]; omega)⟩) (by assumption) ?_
  simp only [Act.put, List.setIfInBounds_toArray, List.set_cons_zero, List.set_cons_succ]
  clear hHeld
  refine wpAnyH_ready (rs := [1]) (by kernel_rfl) (by simp) ?_
  refine AllReadyH.cons rfl (fun K hK => ?_) AllReadyH.nil
  go_simp
  refine (CL.out W2.drew Hb.out.drew).mono ?_
  rintro e w3 ⟨u', rfl, hI, hb3⟩
  have hb3 := below_undrew hb3
  have HI : Hid (IRow w3 (w.heap.size + 2) u' r) := hide (by have := HZ.out; rw [← this]; exact hI)
  have Hb3 := hide hb3
  have K1 := hide (H1.out.after hb3)
  have K2 := hide (H2.out.after hb3)
  obtain ⟨ao, co, rfl⟩ := hI.shape
  rw [hn.out] at HI ⊢
  clear hI hb3 CL
  refine hK.out _ _ (HS.out _ Hb3.out) (fun hHeld => ?_)
  clear hK K
  refine take_at (i := 4) (v := .agg #[.slice ao n co, .pointer q]) (d := some 12) rfl rfl (by kernel_rfl) (by kernel_rfl) (by kernel_rfl) (fun _ _ _ h => h) (Or.inl ⟨by rfl, fun wS hSw => by go_simp; all_goals (rw [IntKind.wrap_i64]; omega)⟩) (by assumption) ?_
  simp only [Act.put, List.setIfInBounds_toArray, List.set_cons_zero, List.set_cons_succ]
  clear hHeld
  refine wpAnyH_ready (rs := [5]) (by kernel_rfl) (by simp) ?_
  refine AllReadyH.cons rfl (fun K hK => ?_) AllReadyH.nil
  go_simp
  refine hK.out _ _ (HS.out _ (below_next Hb3.out (Nat.le_refl _) (below_alloc w3 _))) (fun hHeld => ?_)
  clear hK K
  refine take_at (i := 6) (v := .pointer (some ⟨w3.heap.size, 0, none⟩)) (d := some 7) rfl rfl (by kernel_rfl) (by kernel_rfl) (by kernel_rfl) (fun _ _ _ h => h) (Or.inl ⟨by rfl, fun wS hSw => by go_simp; all_goals (rw [IntKind.wrap_i64]; omega)⟩) (by assumption) ?_
  simp only [Act.put, List.setIfInBounds_toArray, List.set_cons_zero, List.set_cons_succ]
  clear hHeld
  refine wpAnyH_done (by kernel_rfl) ?_ _
  go_simp
  have HE := hide (Blk.new w3 #[.slice ao n co, .pointer q] 98)
  have L1 := hide (K1.out.alloc (.cells #[.slice ao n co, .pointer q] 98))
  have L2 := hide (K2.out.alloc (.cells #[.slice ao n co, .pointer q] 98))
  have LI := hide (HI.out.alloc (.cells #[.slice ao n co, .pointer q] 98))
  have Lb := hide (below_next (below_next Hb.out (Nat.le_refl _) Hb3.out) (Nat.le_refl _) (below_alloc w3 (.cells #[.slice ao n co, .pointer q] 98)))
  have hE : w.heap.size + 1 < w3.heap.size := K2.out.lt
  have HE0 : Hid (w.heap.size ≤ w3.heap.size) := hide (by omega)
  clear HI Hb3 K1 K2 HS Hb H1 H2
  generalize w3.alloc (.cells #[.slice ao n co, .pointer q] 98) = W5 at *
  generalize w3.heap.size = E at *
  have a0 := L1.out.cell 0 rfl
  have a1 := L1.out.cell 1 rfl
  have b0 := L2.out.cell 0 rfl
  have b1 := L2.out.cell 1 rfl
  have b2 := L2.out.cell 2 rfl
  have b3 := L2.out.cell 3 rfl
  have b4 := L2.out.cell 4 rfl
  have f0 := L2.out.frozen 0
  have f1 := L2.out.frozen 1
  have f2 := L2.out.frozen 2
  have f3 := L2.out.frozen 3
  have f4 := L2.out.frozen 4
  have HR := hide (set5z L2.out (.int .i64 c) (.int .i64 (h + 1)) (.pointer (some ⟨E, 0, none⟩)) (.int .i64 now) (.int .i64 0))
  have HG := hide (grown5z W5 (w.heap.size + 1) (.int .i64 c) (.int .i64 (h + 1)) (.pointer (some ⟨E, 0, none⟩)) (.int .i64 now) (.int .i64 0))
  clear L1
  go_wp2_with fail
  refine bodyPost_ret (res_back Try.results74 Try.underlying66 (by kernel_rfl) _ _ (w.heap.size + 1) rfl HR.out) rfl ?_
  refine ⟨E, .slice ao n co, rfl, ?_, ?_, HE0.out, ?_⟩
  · exact HE.out.grown HG.out (fun e => by injection e with e; omega)
  · refine (LI.out.grown2 HG.out ?_).low (by omega)
    intro e
    have := (World.ownsRow.lt LI.out _ e).1
    omega
  · exact Lb.out.grown HG.out Lb.out.size (fun k e => by injection e with e; omega)
end Go.Proofs.Ytimkfipiebppiaa
