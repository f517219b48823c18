/- The reference's size of a number, as a whole number. -/
import Derived.Test.YtcfoeknijgiboaaTrigR
import Derived.Test.YtcfoeknijgiboaaTwo
import Derived.Test.YtcfoeknijgiboaaOver
namespace Go.Proofs.Ytcfoeknijgiboaa
open Go.RowKit

theorem whole_abs {w : World} {s : Bool} {p : Option Addr} {l c : Nat} {n : Int} {L : Nat} (h : Whole w (.agg #[.bool s, .slice p l c]) n L) : Whole w (.agg #[.bool false, .slice p l c]) (n.natAbs : Int) L := by
  obtain ⟨sl, ds, hv, hr, hd, hl⟩ := h
  refine ⟨sl, ds, ?_, hr, ?_, hl⟩
  · have : decide ((n.natAbs : Int) < 0) = false := by simp
    rw [this]
    simp at hv
    rw [hv.2]
  · rw [Int.natAbs_natCast]; exact hd
set_option maxHeartbeats 1000000 in
theorem refsize_any (n : Int) (w : World) (hn : I64 n) : Calls Try.prog 54 #[.int .i64 n] w fun e w' => ∃ v, e = .returned v ∧ Below w.heap.size w w' ∧ Whole w' v (n.natAbs : Int) 3 := by
  have HN := hide hn
  clear hn
  go_enter Try.func54, Try.ntmps54
  go_wp2_with fail
  refine (of_any n _ HN.out).mono ?_
  rintro e w1 ⟨v, rfl, h1, k1⟩
  obtain ⟨s, p, l, c, rfl⟩ := whole_agg k1
  obtain ⟨hc, hf⟩ := kept_cells h1
  have hz : w.heap.size < w1.heap.size := by have := h1.size; simp at this; omega
  have d0 : w1.cell? ⟨w.heap.size, 0, none⟩ = some (.bool false) := by rw [hc _ _ (by simp)]; go_simp
  have d1 : w1.cell? ⟨w.heap.size, 1, none⟩ = some (.slice none 0 0) := by rw [hc _ _ (by simp)]; go_simp
  have g0 : w1.frozen? ⟨w.heap.size, 0, none⟩ = false := by rw [hf _ _ (by simp)]; go_simp
  have g1 : w1.frozen? ⟨w.heap.size, 1, none⟩ = false := by rw [hf _ _ (by simp)]; go_simp
  have d2 : (w1.setCell ⟨w.heap.size, 0, none⟩ (.bool false)).cell? ⟨w.heap.size, 1, none⟩ = some (.slice none 0 0) := (World.cell?_setCell_other _ _ _ _ (by simp)).trans d1
  have hW : ((w1.setCell ⟨w.heap.size, 0, none⟩ (.bool false)).setCell ⟨w.heap.size, 1, none⟩ (.slice p l c)).heap.size = w1.heap.size := by simp [World.setCell]
  have E0 : ((w1.setCell ⟨w.heap.size, 0, none⟩ (.bool false)).setCell ⟨w.heap.size, 1, none⟩ (.slice p l c)).cell? ⟨w.heap.size, 0, none⟩ = some (.bool false) := by
    rw [World.cell?_setCell_other _ _ _ _ (by simp)]; exact World.cell?_setCell_same _ _ _ d0
  have E1 : ((w1.setCell ⟨w.heap.size, 0, none⟩ (.bool false)).setCell ⟨w.heap.size, 1, none⟩ (.slice p l c)).cell? ⟨w.heap.size, 1, none⟩ = some (.slice p l c) := World.cell?_setCell_same _ _ _ d2
  have F0 := hide (((below_alloc ((w1.setCell ⟨w.heap.size, 0, none⟩ (.bool false)).setCell ⟨w.heap.size, 1, none⟩ (.slice p l c)) (.cells #[.bool false, .slice p l c] 28)).cell (p := ⟨w.heap.size, 0, none⟩) (by show w.heap.size < _; omega)).trans E0)
  have F1 := hide (((below_alloc ((w1.setCell ⟨w.heap.size, 0, none⟩ (.bool false)).setCell ⟨w.heap.size, 1, none⟩ (.slice p l c)) (.cells #[.bool false, .slice p l c] 28)).cell (p := ⟨w.heap.size, 1, none⟩) (by show w.heap.size < _; omega)).trans E1)
  have K1 := hide ((whole_set (whole_abs k1) d0 d1 false (.slice p l c)).below (below_alloc _ (.cells #[.bool false, .slice p l c] 28)))
  have BB := hide ((((below_alloc w (.cells #[.bool false, .slice none 0 0] 28)).trans (h1.mono (by simp))).setCell (Nat.le_refl _) (.bool false) (p := ⟨w.heap.size, 0, none⟩)).setCell (Nat.le_refl _) (.slice p l c) (p := ⟨w.heap.size, 1, none⟩))
  clear h1 k1 hc hf hW E0 E1 d2
  go_wp2_with fail
  exact bodyPost_ret (v := .agg #[.bool false, .slice p l c]) (by have f0 := F0.out; have f1 := F1.out; simp [results, Try.results54, go_sem, f0, f1]) rfl ⟨_, rfl, BB.out.trans ((below_alloc _ _).mono (BB.out.size)), K1.out⟩
end Go.Proofs.Ytcfoeknijgiboaa
