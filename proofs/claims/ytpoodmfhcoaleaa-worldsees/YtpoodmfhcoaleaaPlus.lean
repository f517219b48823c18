/- Whole numbers are added and taken from each other: the walks of Plus and Minus. -/
import Derived.Test.YtpoodmfhcoaleaaOf
import Derived.Deep.RegionWith
namespace Go.Proofs.Ytpoodmfhcoaleaa
open Go.RowKit

/-- what lay there reads as it did -/
theorem kept_cells {W w1 : World} (h : Below W.heap.size W w1) : (∀ b o, b < W.heap.size → w1.cell? ⟨b, o, none⟩ = W.cell? ⟨b, o, none⟩) ∧ (∀ b o, b < W.heap.size → w1.frozen? ⟨b, o, none⟩ = W.frozen? ⟨b, o, none⟩) :=
  ⟨fun b o hb => h.cell (p := ⟨b, o, none⟩) hb, fun b o hb => h.frozen (p := ⟨b, o, none⟩) hb⟩

/-- a store where no int lies leaves a row as it was -/
theorem Row.set {w : World} {v : Value} {ds : List Int} (h : Row w v ds) {p : Addr} {u : Value} (hp : w.cell? p = some u) (hu : ∀ x, u ≠ .int .i64 x) (u' : Value) : Row (w.setCell p u') v ds := by
  obtain ⟨a, cap, hv, h1, h2, h3⟩ := h
  refine ⟨a, cap, hv, h1, h2, ?_⟩
  rcases h3 with h3 | ⟨b, off, ha, hlt, hc⟩
  · exact .inl h3
  · refine .inr ⟨b, off, ha, by simpa [World.setCell] using hlt, fun i hi => ?_⟩
    have g := hc i hi
    rw [World.cell?_setCell_other _ _ _ _ ?_]
    · exact g
    · intro e
      first
        | (rw [e] at g; rw [hp] at g; exact hu _ (Option.some.inj g))
        | (rw [← e] at g; rw [hp] at g; exact hu _ (Option.some.inj g))
theorem Sum.set {w : World} {v : Value} {m : Int} {L : Nat} (h : Sum w v m L) {p : Addr} {u : Value} (hp : w.cell? p = some u) (hu : ∀ x, u ≠ .int .i64 x) (u' : Value) : Sum (w.setCell p u') v m L := by
  obtain ⟨ds, hr, hd⟩ := h
  exact ⟨ds, hr.set hp hu u', hd⟩
theorem whole_mk {w : World} {v : Value} {n m : Int} {L : Nat} {s : Bool} (h : Sum w v m L) (hs : s = decide (n < 0)) (hm : m = (n.natAbs : Int)) : Whole w (.agg #[.bool s, v]) n L := by
  obtain ⟨ds, hr, hd, hl⟩ := h
  subst hs hm
  exact ⟨v, ds, rfl, hr, hd, hl⟩
theorem sum_slice {w : World} {v : Value} {m : Int} {L : Nat} (h : Sum w v m L) : ∃ p l c, v = .slice p l c := by
  obtain ⟨ds, ⟨a, cap, hv, _⟩, _⟩ := h
  exact ⟨_, _, _, hv⟩
/-- a row is stored into the struct that is handed back -/
theorem result_set {w1 : World} {r : Nat} {v : Value} {m : Int} {L : Nat} (h : Sum w1 v m L) (h0 : w1.cell? ⟨r, 0, none⟩ = some (.bool false)) (h1 : w1.cell? ⟨r, 1, none⟩ = some (.slice none 0 0)) (s : Bool) (u : Value) :
    Sum ((w1.setCell ⟨r, 0, none⟩ (.bool s)).setCell ⟨r, 1, none⟩ u) v m L :=
  (h.set h0 (fun x => by simp) _).set ((World.cell?_setCell_other _ _ _ _ (by simp)).trans h1) (fun x => by simp) _

set_option maxHeartbeats 4000000 in
theorem plus_same (sa sb : Value) (da db : List Int) (s : Bool) (w : World) (ra : Row w sa da) (rb : Row w sb db) (ga : Dig da) (gb : Dig db) (la : da.length ≤ 1000000) (lb : db.length ≤ 1000000) :
    Calls Try.prog 42 #[.agg #[.bool s, sa], .agg #[.bool s, sb]] w fun e w' => ∃ v, e = .returned (.agg #[.bool s, v]) ∧ Below w.heap.size w w' ∧ Sum w' v (val da + val db) (max da.length db.length + 1) := by
  have HA := hide (fun (W : World) (h : Below w.heap.size w W) => add_digits sa sb da db W (ra.below h) (rb.below h) ga gb la lb)
  obtain ⟨pa, ca, rfl, hca, hma, h3a⟩ := ra
  obtain ⟨pb, cb, rfl, hcb, hmb, h3b⟩ := rb
  clear h3a h3b hca hcb hma hmb ga gb
  have hs : (s == s) = true := by simp
  go_enter Try.func42, Try.ntmps42
  go_wp2
  go_region_with (go_at_call 52; refine (HA.out _ (by repeat (first | exact Below.refl _ _ | refine Below.drew ?_ | refine Below.setCell ?_ (by simp <;> omega) _ | refine Below.alloc ?_ (by simp <;> omega) _))).mono ?_; rintro e w1 ⟨v, rfl, hb, hs⟩; obtain ⟨p1, l1, c1, rfl⟩ := sum_slice hs; have HS := hide hs; have HB := hide hb; obtain ⟨hc, hf⟩ := kept_cells hb; clear hs hb)
  all_goals
    have k0 : w1.cell? ⟨w.heap.size + 1 + 1, 0, none⟩ = some (.bool false) := by rw [hc _ _ (by simp)]; go_simp
    have k1 : w1.cell? ⟨w.heap.size + 1 + 1, 1, none⟩ = some (.slice none 0 0) := by rw [hc _ _ (by simp)]; go_simp
    clear hc hf
    go_wp2
    refine bodyPost_ret (v := .agg #[.bool s, .slice p1 l1 c1]) (by simp [results, Try.results42, go_sem, World.cell?_setCell_other, k0, k1]) rfl ⟨_, rfl, ?_, result_set HS.out k0 k1 _ _⟩
    refine Below.setCell (Below.setCell (Below.trans ?_ (HB.out.mono (by simp <;> omega))) (by simp <;> omega) _) (by simp <;> omega) _
    repeat (first | exact Below.refl _ _ | refine Below.drew ?_ | refine Below.setCell ?_ (by simp <;> omega) _ | refine Below.alloc ?_ (by simp <;> omega) _)
end Go.Proofs.Ytpoodmfhcoaleaa
