/- Layer 11: awake. -/
import Derived.Test.YtmlcknaahpfhbaaSe7
import Derived.Test.YtmlcknaahpfhbaaKr1
namespace Go.Proofs.Ytmlcknaahpfhbaa
open Go.RowKit Go.Great

theorem aw_w : wrE 5 [3, -2] = 0 ∧ (wrB 5 [3, -2]).length = 9 := by decide +kernel
theorem aw_r : (rdR 5 ([0, 165] ++ wrB 5 [3, -2] ++ [165, 5])).is = true ∧ (rdR 5 ([0, 165] ++ wrB 5 [3, -2] ++ [165, 5])).bad = 2 ∧ (rdR 5 ([0, 165] ++ wrB 5 [3, -2] ++ [165, 5])).out = [3, -2] := by decide +kernel
theorem aw_n : (rdR 2 (wrB 5 [3, -2])).is = false ∧ (rdR 2 (wrB 5 [3, -2])).bad = 1 := by decide +kernel
theorem aw_6 : wrE 6 [1] = 6 := by decide +kernel
set_option maxRecDepth 100000 in
set_option maxHeartbeats 4000000 in
theorem awakeS_any (w : World) : Calls Try.prog 12 #[] w fun e w' => e = .returned (.bool true) ∧ Below w.heap.size w w' := by
  have W1 := fun W g hg => write_any 5 (by decide) [3, -2] (.slice (some ⟨g, 0, none⟩) 2 2) W hg (by decide)
  have W2 := fun W g hg => write_any 6 (by decide) [1] (.slice (some ⟨g, 0, none⟩) 1 1) W hg (by decide)
  have hl := aw_w.2
  have R1 := fun W => read_any 5 (by decide) ([0, 165] ++ wrB 5 [3, -2] ++ [165, 5]) (by rw [List.length_append, List.length_append, hl]; decide) W
  have R2 := fun W => read_any 2 (by decide) (wrB 5 [3, -2]) (by rw [hl]; decide) W
  rw [aw_w.1] at W1
  rw [aw_6] at W2
  rw [aw_r.1, aw_r.2.1, aw_r.2.2, ← bs_app, ← bs_app] at R1
  rw [aw_n.1, aw_n.2] at R2
  have hsz : (bs (wrB 5 [3, -2])).size = 9 := by rw [bs_size, hl]
  have e1 : bs [0, 165] = ⟨#[0, 165]⟩ := rfl
  have e2 : bs [165, 5] = ⟨#[165, 5]⟩ := rfl
  rw [e1, e2] at R1
  have SI := fun W v u hv hu => sameInts_true [3, -2] v u W hv hu (by decide)
  generalize (rdR 2 (wrB 5 [3, -2])).out = o2 at *
  generalize bs (wrB 5 [3, -2]) = s at *
  generalize bs (wrB 6 [1]) = s6 at *
  clear hl e1 e2
  have hs1 : (⟨#[0, 165]⟩ : ByteArray).size = 2 := rfl
  have hs2 : (⟨#[165, 5]⟩ : ByteArray).size = 2 := rfl
  go_enter Try.func12, Try.ntmps12
  go_wp2_with fail
  refine (W1 _ w.heap.size (ints_row (l := [3, -2]) (heap_alloc_new _ _) _ _ rfl)).mono ?_
  rintro e w1 ⟨rfl, h1⟩
  have H1 := hide (below_over h1)
  clear h1 W1
  go_wp2_with fail
  refine (R1 _).mono ?_
  rintro e w2 ⟨v2, rfl, hr2, h2⟩
  have H2 := hide (below_next H1.out (Nat.le_refl _) h2)
  have HR2 := hide hr2.ints
  obtain ⟨va, vc, hve⟩ := IRow.shape hr2
  subst hve
  clear h2 R1 H1 hr2
  go_wp2_with fail
  refine (R2 _).mono ?_
  rintro e w3 ⟨v3, rfl, hr3, h3⟩
  have H3 := hide (below_next H2.out (Nat.le_refl _) h3)
  have HR3 := hide (HR2.out.below h3)
  obtain ⟨va3, vc3, hve⟩ := IRow.shape hr3
  subst hve
  generalize o2.length = n3 at *
  clear h3 R2 H2 hr3 HR2
  go_wp2_with fail
  refine (W2 _ w3.heap.size (ints_row (l := [1]) (heap_alloc_new _ _) _ _ rfl)).mono ?_
  rintro e w4 ⟨rfl, h4⟩
  have H4 := hide (below_next H3.out (Nat.le_refl _) (below_over h4))
  have HR4 := hide (HR3.out.below (below_over h4))
  clear h4 W2 H3 HR3
  go_wp2_with fail
  refine (SI _ _ _ (HR4.out.below (below_alloc _ _)) (ints_row (l := [3, -2]) (heap_alloc_new _ _) _ _ rfl)).mono ?_
  rintro e w5 ⟨rfl, n5, h5⟩
  have H5 : Hid (Below w.heap.size w w5) := hide (by rw [h5]; exact below_drewN (below_next H4.out (Nat.le_refl _) (below_alloc _ _)) n5)
  clear h5 SI H4 HR4
  go_wp2_with fail
  go_ret
  exact ⟨rfl, H5.out⟩
end Go.Proofs.Ytmlcknaahpfhbaa
