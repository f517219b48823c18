/- Orient, Meet, Far. -/
import Derived.Test.YtohepelnbmojiaaGeC
namespace Go.Proofs.Ytohepelnbmojiaa
open Go.RowKit Go.Great

/-- what Orient, Meet, Far answer -/
def orI (a b p : Pt) : Int := if [a, b, p].all fitB then sg (cross a b p) else 0
def meI (a b c d : Pt) : Bool := if [a, b, c, d].all fitB then meetB a b c d else false
def farI (a b : Pt) : Int := if [a, b].all fitB then (b.1 - a.1) * (b.1 - a.1) + (b.2 - a.2) * (b.2 - a.2) else 0
def orE (l : List Pt) : Int := if l.all fitB then 0 else 5
set_option maxHeartbeats 2000000 in
theorem orient_any (a b p : Pt) (w : World) : Calls Try.prog 14 #[pV a, pV b, pV p] w fun e w' => e = .returned (.tuple #[.int .i64 (orI a b p), .int .i64 (orE [a, b, p])]) ∧ Below w.heap.size w w' := by
  have M := fun v w => mayBe_any [a, b, p] v w
  have T : [a, b, p].all fitB = true → ∀ w, _ := fun h => turn_any a b p (fit_of (at_all h (j := 0) (by simp))) (fit_of (at_all h (j := 1) (by simp))) (fit_of (at_all h (j := 2) (by simp)))
  unfold orI orE
  have HL := fun (W : World) g (h : Blk W g #[.int .i64 a.1, .int .i64 a.2, .int .i64 b.1, .int .i64 b.2, .int .i64 p.1, .int .i64 p.2] 23) => pts_new h [a, b, p] rfl 3 3 rfl
  generalize [a, b, p].all fitB = r at M T ⊢
  simp only [pV, sV] at *
  go_enter Try.func14, Try.ntmps14
  go_wp2_with fail
  obtain ⟨W0, hW0⟩ : ∃ W0, lay w [(#[.int .i64 a.1, .int .i64 a.2], 23), (#[.int .i64 b.1, .int .i64 b.2], 23), (#[.int .i64 p.1, .int .i64 p.2], 23), (#[.int .i64 a.1, .int .i64 a.2, .int .i64 b.1, .int .i64 b.2, .int .i64 p.1, .int .i64 p.2], 23)] = W0 := ⟨_, rfl⟩
  have hB : Below w.heap.size w W0 := hW0 ▸ lay_below _ _
  have B0 : Blk W0 (w.heap.size) #[.int .i64 a.1, .int .i64 a.2] 23 := hW0 ▸ lay_blk _ w 0 _ _ rfl
  have B1 : Blk W0 (w.heap.size + 1) #[.int .i64 b.1, .int .i64 b.2] 23 := hW0 ▸ lay_blk _ w 1 _ _ rfl
  have B2 : Blk W0 (w.heap.size + 1 + 1) #[.int .i64 p.1, .int .i64 p.2] 23 := hW0 ▸ lay_blk _ w 2 _ _ rfl
  have BL : Blk W0 (w.heap.size + 1 + 1 + 1) #[.int .i64 a.1, .int .i64 a.2, .int .i64 b.1, .int .i64 b.2, .int .i64 p.1, .int .i64 p.2] 23 := hW0 ▸ lay_blk _ w 3 _ _ rfl
  rw [show ((((w.alloc _).alloc _).alloc _).alloc _) = W0 from hW0]
  clear hW0
  refine (M _ _ (HL _ _ BL) (by simp)).mono ?_
  rintro e w1 ⟨rfl, hb⟩
  have hb1 := below_next hB (Nat.le_refl _) hb
  have x0 := (B0.after hb).cell 0 rfl
  have y0 := (B0.after hb).cell 1 rfl
  have x1 := (B1.after hb).cell 0 rfl
  have y1 := (B1.after hb).cell 1 rfl
  have x2 := (B2.after hb).cell 0 rfl
  have y2 := (B2.after hb).cell 1 rfl
  clear B0 B1 B2 BL hB hb M HL
  cases r
  · go_wp2_with fail
    go_ret2
    exact ⟨by simp, hb1⟩
  · have T' := T rfl
    go_wp2_with (go_at_call 35; refine (T' _).mono ?_; rintro e w2 ⟨rfl, hb2⟩)
    go_ret2
    exact ⟨by simp, below_next hb1 (Nat.le_refl _) hb2⟩
set_option maxHeartbeats 2000000 in
theorem meetF_any (a b c d : Pt) (w : World) : Calls Try.prog 20 #[pV a, pV b, pV c, pV d] w fun e w' => e = .returned (.tuple #[.bool (meI a b c d), .int .i64 (orE [a, b, c, d])]) ∧ Below w.heap.size w w' := by
  have M := fun v w => mayBe_any [a, b, c, d] v w
  have T : [a, b, c, d].all fitB = true → ∀ w, _ := fun h => meet_any a b c d (fit_of (at_all h (j := 0) (by simp))) (fit_of (at_all h (j := 1) (by simp))) (fit_of (at_all h (j := 2) (by simp))) (fit_of (at_all h (j := 3) (by simp)))
  unfold meI orE
  have HL := fun (W : World) g (h : Blk W g #[.int .i64 a.1, .int .i64 a.2, .int .i64 b.1, .int .i64 b.2, .int .i64 c.1, .int .i64 c.2, .int .i64 d.1, .int .i64 d.2] 23) => pts_new h [a, b, c, d] rfl 4 4 rfl
  generalize [a, b, c, d].all fitB = r at M T ⊢
  simp only [pV, sV] at *
  go_enter Try.func20, Try.ntmps20
  go_wp2_with fail
  obtain ⟨W0, hW0⟩ : ∃ W0, lay w [(#[.int .i64 a.1, .int .i64 a.2], 23), (#[.int .i64 b.1, .int .i64 b.2], 23), (#[.int .i64 c.1, .int .i64 c.2], 23), (#[.int .i64 d.1, .int .i64 d.2], 23), (#[.int .i64 a.1, .int .i64 a.2, .int .i64 b.1, .int .i64 b.2, .int .i64 c.1, .int .i64 c.2, .int .i64 d.1, .int .i64 d.2], 23)] = W0 := ⟨_, rfl⟩
  have hB : Below w.heap.size w W0 := hW0 ▸ lay_below _ _
  have B0 : Blk W0 (w.heap.size) #[.int .i64 a.1, .int .i64 a.2] 23 := hW0 ▸ lay_blk _ w 0 _ _ rfl
  have B1 : Blk W0 (w.heap.size + 1) #[.int .i64 b.1, .int .i64 b.2] 23 := hW0 ▸ lay_blk _ w 1 _ _ rfl
  have B2 : Blk W0 (w.heap.size + 1 + 1) #[.int .i64 c.1, .int .i64 c.2] 23 := hW0 ▸ lay_blk _ w 2 _ _ rfl
  have B3 : Blk W0 (w.heap.size + 1 + 1 + 1) #[.int .i64 d.1, .int .i64 d.2] 23 := hW0 ▸ lay_blk _ w 3 _ _ rfl
  have BL : Blk W0 (w.heap.size + 1 + 1 + 1 + 1) #[.int .i64 a.1, .int .i64 a.2, .int .i64 b.1, .int .i64 b.2, .int .i64 c.1, .int .i64 c.2, .int .i64 d.1, .int .i64 d.2] 23 := hW0 ▸ lay_blk _ w 4 _ _ rfl
  rw [show (((((w.alloc _).alloc _).alloc _).alloc _).alloc _) = W0 from hW0]
  clear hW0
  refine (M _ _ (HL _ _ BL) (by simp)).mono ?_
  rintro e w1 ⟨rfl, hb⟩
  have hb1 := below_next hB (Nat.le_refl _) hb
  have x0 := (B0.after hb).cell 0 rfl
  have y0 := (B0.after hb).cell 1 rfl
  have x1 := (B1.after hb).cell 0 rfl
  have y1 := (B1.after hb).cell 1 rfl
  have x2 := (B2.after hb).cell 0 rfl
  have y2 := (B2.after hb).cell 1 rfl
  have x3 := (B3.after hb).cell 0 rfl
  have y3 := (B3.after hb).cell 1 rfl
  clear B0 B1 B2 B3 BL hB hb M HL
  cases r
  · go_wp2_with fail
    go_ret2
    exact ⟨by simp, hb1⟩
  · have T' := T rfl
    go_wp2_with (go_at_call 42; refine (T' _).mono ?_; rintro e w2 ⟨rfl, hb2⟩)
    go_ret2
    exact ⟨by simp, below_next hb1 (Nat.le_refl _) hb2⟩
set_option maxHeartbeats 2000000 in
theorem far_any (a b : Pt) (w : World) : Calls Try.prog 16 #[pV a, pV b] w fun e w' => e = .returned (.tuple #[.int .i64 (farI a b), .int .i64 (orE [a, b])]) ∧ Below w.heap.size w w' := by
  have M := fun v w => mayBe_any [a, b] v w
  have T : [a, b].all fitB = true → Fit a ∧ Fit b := fun h => ⟨fit_of (at_all h (j := 0) (by simp)), fit_of (at_all h (j := 1) (by simp))⟩
  unfold farI orE
  have HL := fun (W : World) g (h : Blk W g #[.int .i64 a.1, .int .i64 a.2, .int .i64 b.1, .int .i64 b.2] 23) => pts_new h [a, b] rfl 2 2 rfl
  generalize [a, b].all fitB = r at M T ⊢
  simp only [pV] at *
  go_enter Try.func16, Try.ntmps16
  go_wp2_with fail
  obtain ⟨W0, hW0⟩ : ∃ W0, lay w [(#[.int .i64 a.1, .int .i64 a.2], 23), (#[.int .i64 b.1, .int .i64 b.2], 23), (#[.int .i64 a.1, .int .i64 a.2, .int .i64 b.1, .int .i64 b.2], 23)] = W0 := ⟨_, rfl⟩
  have hB : Below w.heap.size w W0 := hW0 ▸ lay_below _ _
  have B0 : Blk W0 (w.heap.size) #[.int .i64 a.1, .int .i64 a.2] 23 := hW0 ▸ lay_blk _ w 0 _ _ rfl
  have B1 : Blk W0 (w.heap.size + 1) #[.int .i64 b.1, .int .i64 b.2] 23 := hW0 ▸ lay_blk _ w 1 _ _ rfl
  have BL : Blk W0 (w.heap.size + 1 + 1) #[.int .i64 a.1, .int .i64 a.2, .int .i64 b.1, .int .i64 b.2] 23 := hW0 ▸ lay_blk _ w 2 _ _ rfl
  rw [show (((w.alloc _).alloc _).alloc _) = W0 from hW0]
  clear hW0
  refine (M _ _ (HL _ _ BL) (by simp)).mono ?_
  rintro e w1 ⟨rfl, hb⟩
  have hb1 := below_next hB (Nat.le_refl _) hb
  have x0 := (B0.after hb).cell 0 rfl
  have y0 := (B0.after hb).cell 1 rfl
  have x1 := (B1.after hb).cell 0 rfl
  have y1 := (B1.after hb).cell 1 rfl
  clear B0 B1 BL hB hb M HL
  cases r
  · go_wp2_with fail
    go_ret2
    exact ⟨by simp, hb1⟩
  · obtain ⟨⟨a1, a2, a3, a4⟩, b1, b2, b3, b4⟩ := T rfl
    have m1 := dd_bound b1 b2 a1 a2 b1 b2 a1 a2
    have m2 := dd_bound b3 b4 a3 a4 b3 b4 a3 a4
    clear T
    go_wp2_with fail
    go_quiet (fail)
    go_wp2_with fail
    go_ret2
    exact ⟨by simp, below_drewN hb1 _⟩
end Go.Proofs.Ytohepelnbmojiaa
