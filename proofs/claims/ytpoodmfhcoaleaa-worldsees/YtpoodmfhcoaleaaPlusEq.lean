/- Whole numbers of unlike signs are added; Plus as a whole, and Minus. -/
import Derived.Test.YtpoodmfhcoaleaaPlus
namespace Go.Proofs.Ytpoodmfhcoaleaa
open Go.RowKit

theorem no_longer {a b : List Int} (ha : Dig a) (hb : Dig b) (tb : Top b) (h : val b ≤ val a) : b.length ≤ a.length := by
  by_cases g : b.length ≤ a.length
  · exact g
  · have := val_shorter ha hb tb (by omega)
    omega

set_option maxHeartbeats 4000000 in
theorem plus_eq (sa sb : Value) (da db : List Int) (s : Bool) (w : World) (ra : Row w sa da) (rb : Row w sb db) (ga : Dig da) (gb : Dig db) (ta : Top da) (tb : Top db) (la : da.length ≤ 1000000) (hv : val da = val db) :
    Calls Try.prog 42 #[.agg #[.bool s, sa], .agg #[.bool (!s), sb]] w fun e w' => e = .returned (.agg #[.bool false, .slice none 0 0]) ∧ Below w.heap.size w w' := by
  have HC := hide (fun (W : World) (h : Below w.heap.size w W) => size_cmp sa sb da db W (ra.below h) (rb.below h) ga gb ta tb la)
  have CMP := hide (cmpI_eq hv)
  obtain ⟨pa, ca, rfl, hca, hma, h3a⟩ := ra
  obtain ⟨pb, cb, rfl, hcb, hmb, h3b⟩ := rb
  clear h3a h3b hca hcb hma hmb ga gb ta tb hv
  have hs : (s == !s) = false := by cases s <;> rfl
  go_enter Try.func42, Try.ntmps42
  go_wp2_with (go_at_call 53; refine (HC.out _ (by repeat (first | exact Below.refl _ _ | refine Below.drew ?_ | refine below_draw ?_ _ | refine Below.setCell ?_ (by simp <;> omega) _ | refine Below.alloc ?_ (by simp <;> omega) _))).mono ?_; rintro e w' ⟨rfl, q, rfl⟩; rw [CMP.out])
  refine bodyPost_ret (v := .agg #[.bool false, .slice none 0 0]) (by simp [results, Try.results42, go_sem]) rfl ⟨rfl, ?_⟩
  repeat (first | exact Below.refl _ _ | refine Below.drew ?_ | refine below_draw ?_ _ | refine Below.setCell ?_ (by simp <;> omega) _ | refine Below.alloc ?_ (by simp <;> omega) _)
end Go.Proofs.Ytpoodmfhcoaleaa
