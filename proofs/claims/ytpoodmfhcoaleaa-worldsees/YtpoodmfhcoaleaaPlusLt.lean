/- Whole numbers of unlike signs are added; Plus as a whole, and Minus. -/
import Derived.Test.YtpoodmfhcoaleaaPlusEq
namespace Go.Proofs.Ytpoodmfhcoaleaa
open Go.RowKit


set_option maxHeartbeats 4000000 in
theorem plus_lt (sa sb : Value) (da db : List Int) (s : Bool) (w : World) (ra : Row w sa da) (rb : Row w sb db) (ga : Dig da) (gb : Dig db) (ta : Top da) (tb : Top db) (la : da.length ≤ 1000000) (lb : db.length ≤ 1000000) (hv : val da < val db) :
    Calls Try.prog 42 #[.agg #[.bool s, sa], .agg #[.bool (!s), sb]] w fun e w' => ∃ v, e = .returned (.agg #[.bool (!s), v]) ∧ Below w.heap.size w w' ∧ Sum w' v (val db - val da) db.length := by
  have HC := hide (fun (W : World) (h : Below w.heap.size w W) => size_cmp sa sb da db W (ra.below h) (rb.below h) ga gb ta tb la)
  have CMP := hide (cmpI_lt hv)
  have HA := hide (fun (W : World) (h : Below w.heap.size w W) => less_digits sb sa db da W (rb.below h) (ra.below h) gb ga lb (no_longer gb ga ta (by omega)) (by omega))
  obtain ⟨pa, ca, rfl, hca, hma, h3a⟩ := ra
  obtain ⟨pb, cb, rfl, hcb, hmb, h3b⟩ := rb
  clear h3a h3b hca hcb hma hmb ga gb ta tb hv
  have hs : (s == !s) = false := by cases s <;> rfl
  go_enter Try.func42, Try.ntmps42
  go_wp2_with (go_at_call 53; refine (HC.out _ (by repeat (first | exact Below.refl _ _ | refine Below.drew ?_ | refine below_draw ?_ _ | refine Below.setCell ?_ (by simp <;> omega) _ | refine Below.alloc ?_ (by simp <;> omega) _))).mono ?_; rintro e w' ⟨rfl, q, rfl⟩; rw [CMP.out])
  go_region_with (go_at_call 54; refine (HA.out _ (by repeat (first | exact Below.refl _ _ | refine Below.drew ?_ | refine below_draw ?_ _ | refine Below.setCell ?_ (by simp <;> omega) _ | refine Below.alloc ?_ (by simp <;> omega) _))).mono ?_; rintro e w1 ⟨v, rfl, hb, hs⟩; obtain ⟨p1, l1, c1, rfl⟩ := sum_slice hs; have HS := hide hs; have HB := hide hb; obtain ⟨hc, hf⟩ := kept_cells hb; clear hs hb)
  all_goals
    have k0 : w1.cell? ⟨w.heap.size + 1 + 1, 0, none⟩ = some (.bool false) := by rw [hc _ _ (by simp)]; go_simp
    have k1 : w1.cell? ⟨w.heap.size + 1 + 1, 1, none⟩ = some (.slice none 0 0) := by rw [hc _ _ (by simp)]; go_simp
    clear hc hf
    go_wp2
    refine bodyPost_ret (v := .agg #[.bool (!s), .slice p1 l1 c1]) (by simp [results, Try.results42, go_sem, World.cell?_setCell_other, k0, k1]) rfl ⟨_, rfl, ?_, result_set HS.out k0 k1 _ _⟩
    refine Below.setCell (Below.setCell (Below.trans ?_ (HB.out.mono (by simp <;> omega))) (by simp <;> omega) _) (by simp <;> omega) _
    repeat (first | exact Below.refl _ _ | refine Below.drew ?_ | refine below_draw ?_ _ | refine Below.setCell ?_ (by simp <;> omega) _ | refine Below.alloc ?_ (by simp <;> omega) _)
end Go.Proofs.Ytpoodmfhcoaleaa
