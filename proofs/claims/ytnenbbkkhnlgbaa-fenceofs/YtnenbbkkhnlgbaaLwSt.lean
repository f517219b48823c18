/- GeoStays. -/
import Derived.Test.YtnenbbkkhnlgbaaGeT
import Derived.Deep.DeepCutAuto
import Derived.Deep.RegionWith
namespace Go.Proofs.Ytnenbbkkhnlgbaa
open Go.RowKit Go.Great

theorem Pts.own {w : World} {g n cap : Nat} {l : List Pt} (h : Pts w (.slice (some ⟨g, 0, none⟩) n cap) (l ++ [mark])) : Pts w (.slice (some ⟨g, 0, none⟩) l.length cap) l := by
  have := h.take l.length cap (by simp)
  rwa [List.take_left' rfl] at this
theorem side_own (l : List Pt) (p0 p1 : Int) (hl : l.length ≤ 4611686018427387904) {W : World} {g n cap : Nat} (h : Pts W (.slice (some ⟨g, 0, none⟩) n cap) (l ++ [mark])) : Calls Try.prog 39 #[.slice (some ⟨g, 0, none⟩) l.length cap, .agg #[.int .i64 p0, .int .i64 p1]] W fun e w' => e = .returned (.tuple #[.int .i64 (sdI l (p0, p1)), .int .i64 (sdE l (p0, p1))]) ∧ Below W.heap.size W w' :=
  callsIn_wide.1 (side_any l _ (p0, p1) W h.own hl)
theorem sd_none (l : List Pt) (p : Pt) : sdE l p = 0 ∨ sdI l p = 0 := by
  unfold sdE sdI
  split
  · split <;> simp
  · simp
theorem sd_ok {l : List Pt} {p : Pt} (h : sdE l p = 0) : simE l = 0 ∧ fitB p = true := by
  unfold sdE at h
  split at h
  · split at h
    · exact ⟨by assumption, by assumption⟩
    · omega
  · contradiction
theorem sim_len {l : List Pt} (h : simE l = 0) : 3 ≤ l.length ∧ l.length ≤ 64 ∧ l.all fitB = true := by
  unfold simE at h
  repeat (split at h <;> try omega)
  exact ⟨by omega, by omega, by simp_all⟩
end Go.Proofs.Ytnenbbkkhnlgbaa
