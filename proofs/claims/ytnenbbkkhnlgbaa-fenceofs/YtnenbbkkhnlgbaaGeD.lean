/- Orient, Meet, Far. -/
import Derived.Test.YtnenbbkkhnlgbaaGeC
namespace Go.Proofs.Ytnenbbkkhnlgbaa
open Go.RowKit Go.Great

/-- what Orient, Meet, Far answer -/
def orI (a b p : Pt) : Int := if [a, b, p].all fitB then sg (cross a b p) else 0
def meI (a b c d : Pt) : Bool := if [a, b, c, d].all fitB then meetB a b c d else false
def farI (a b : Pt) : Int := if [a, b].all fitB then (b.1 - a.1) * (b.1 - a.1) + (b.2 - a.2) * (b.2 - a.2) else 0
def orE (l : List Pt) : Int := if l.all fitB then 0 else 5
set_option maxHeartbeats 2000000 in
theorem far_any (a b : Pt) (w : World) : Calls Try.prog 42 #[pV a, pV b] w fun e w' => e = .returned (.tuple #[.int .i64 (farI a b), .int .i64 (orE [a, b])]) ∧ Below w.heap.size w w' := by
  have M := fun v w => mayBe_any [a, b] v w
  have T : [a, b].all fitB = true → Fit a ∧ Fit b := fun h => ⟨fit_of (at_all h (j := 0) (by simp)), fit_of (at_all h (j := 1) (by simp))⟩
  unfold farI orE
  have HL := fun (W : World) g (h : Blk W g #[.int .i64 a.1, .int .i64 a.2, .int .i64 b.1, .int .i64 b.2] 39) => pts_new h [a, b] rfl 2 2 rfl
  generalize [a, b].all fitB = r at M T ⊢
  simp only [pV] at *
  go_enter Try.func42, Try.ntmps42
  go_wp2_with fail
  obtain ⟨W0, hW0⟩ : ∃ W0, lay w [(#[.int .i64 a.1, .int .i64 a.2], 39), (#[.int .i64 b.1, .int .i64 b.2], 39), (#[.int .i64 a.1, .int .i64 a.2, .int .i64 b.1, .int .i64 b.2], 39)] = W0 := ⟨_, rfl⟩
  have hB : Below w.heap.size w W0 := hW0 ▸ lay_below _ _
  have B0 : Blk W0 (w.heap.size) #[.int .i64 a.1, .int .i64 a.2] 39 := hW0 ▸ lay_blk _ w 0 _ _ rfl
  have B1 : Blk W0 (w.heap.size + 1) #[.int .i64 b.1, .int .i64 b.2] 39 := hW0 ▸ lay_blk _ w 1 _ _ rfl
  have BL : Blk W0 (w.heap.size + 1 + 1) #[.int .i64 a.1, .int .i64 a.2, .int .i64 b.1, .int .i64 b.2] 39 := hW0 ▸ lay_blk _ w 2 _ _ rfl
  rw [show (((w.alloc _).alloc _).alloc _) = W0 from hW0]
  clear hW0
  refine (M _ _ (HL _ _ BL) (by simp)).mono ?_
  rintro e w1 ⟨rfl, hb⟩
  have hb1 := below_next hB (Nat.le_refl _) hb
  have x0 := (B0.after hb).cell 0 rfl
  have y0 := (B0.after hb).cell 1 rfl
  have x1 := (B1.after hb).cell 0 rfl
  have y1 := (B1.after hb).cell 1 rfl
  clear B0 B1 BL hB hb M HL
  cases r
  · go_wp2_with fail
    go_ret2
    exact ⟨by simp, hb1⟩
  · obtain ⟨⟨a1, a2, a3, a4⟩, b1, b2, b3, b4⟩ := T rfl
    have m1 := dd_bound b1 b2 a1 a2 b1 b2 a1 a2
    have m2 := dd_bound b3 b4 a3 a4 b3 b4 a3 a4
    clear T
    go_wp2_with fail
    go_quiet (fail)
    go_wp2_with fail
    go_ret2
    exact ⟨by simp, below_drewN hb1 _⟩
end Go.Proofs.Ytnenbbkkhnlgbaa
