/- ParamsRises. -/
import Derived.Test.YtfhcfngogfefjaaPaR
namespace Go.Proofs.Ytfhcfngogfefjaa
open Go.RowKit Go.Great

/-- a variable that holds a point -/
def Pt (w : World) (g : Nat) (x y : Int) : Prop := w.heap[g]? = some (.cells #[.int .i64 x, .int .i64 y] 48 (0, 0))
theorem Pt.c0 {w : World} {g : Nat} {x y : Int} (h : Pt w g x y) : w.cell? ⟨g, 0, none⟩ = some (.int .i64 x) := by unfold Pt at h; simp [World.cell?, h]
theorem Pt.c1 {w : World} {g : Nat} {x y : Int} (h : Pt w g x y) : w.cell? ⟨g, 1, none⟩ = some (.int .i64 y) := by unfold Pt at h; simp [World.cell?, h]
theorem Pt.below {w w' : World} {g : Nat} {x y : Int} (h : Pt w g x y) (hb : Below w.heap.size w w') : Pt w' g x y := by
  unfold Pt at h ⊢; rw [hb.block g (lt_of_block h), h]
/-- the world within ParamsRises -/
def RiW (w : World) (v : Value) (l : List Int) (N M : Nat) (lx ly hx hy : Int) (wx : World) : Prop := Below w.heap.size w wx ∧ Ints wx v l ∧ Pt wx N lx ly ∧ Pt wx M hx hy
theorem RiW.next {w : World} {v : Value} {l : List Int} {N M : Nat} {lx ly hx hy : Int} {wx wy : World} (h : RiW w v l N M lx ly hx hy wx) (hb : Below wx.heap.size wx wy) : RiW w v l N M lx ly hx hy wy :=
  ⟨below_next h.1 (Nat.le_refl _) hb, h.2.1.below hb, h.2.2.1.below hb, h.2.2.2.below hb⟩
set_option maxRecDepth 100000 in
set_option maxHeartbeats 8000000 in
theorem rises_walk (l : List Int) (v : Value) (lx ly hx hy : Int) (w : World) (hv : Ints w v l) : Calls Try.prog 8 #[v, .agg #[.int .i64 lx, .int .i64 ly], .agg #[.int .i64 hx, .int .i64 hy]] w fun e w' => e = .returned (.bool true) ∧ Below w.heap.size w w' := by
  have L1 := fun W hW => hide (landTicks_any l lx v W hW)
  have L2 := fun W hW => hide (landTicks_any l hx v W hW)
  have R1 := fun W hW => hide (returnTicks_any l lx ly v W hW)
  have R2 := fun W hW => hide (returnTicks_any l hx hy v W hW)
  have S1 := fun W hW => hide (slack_any l lx v W hW)
  have S2 := fun W hW => hide (slack_any l hx v W hW)
  have HA := hide awake_any
  have HW0 : Hid (RiW w v l w.heap.size (w.heap.size + 1) lx ly hx hy ((w.alloc (.cells #[.int .i64 lx, .int .i64 ly] 48)).alloc (.cells #[.int .i64 hx, .int .i64 hy] 48))) := by
    have b1 := below_alloc w (.cells #[.int .i64 lx, .int .i64 ly] 48)
    have b2 := below_alloc (w.alloc (.cells #[.int .i64 lx, .int .i64 ly] 48)) (.cells #[.int .i64 hx, .int .i64 hy] 48)
    refine ⟨below_next b1 (Nat.le_refl _) b2, (hv.below b1).below b2, Pt.below (show Pt (w.alloc (.cells #[.int .i64 lx, .int .i64 ly] 48)) _ _ _ from heap_alloc_new _ _) b2, ?_⟩
    exact heap_alloc_at _ _ _ (by rw [size_alloc])
  have HG1 := hide (land_rise l lx hx)
  have HG2 := hide (ret_rise l lx hx ly hy)
  have HG3 := hide (slack_rise l lx hx)
  generalize landE l lx = p1 at L1 HG1
  generalize landE l hx = p2 at L2 HG1
  generalize retE l lx ly = p3 at R1 HG2
  generalize retE l hx hy = p4 at R2 HG2
  generalize slackE l lx = p5 at S1 HG3
  generalize slackE l hx = p6 at S2 HG3
  obtain ⟨a, e1⟩ := p1
  obtain ⟨b, e2⟩ := p2
  obtain ⟨c, e3⟩ := p3
  obtain ⟨d, e4⟩ := p4
  obtain ⟨s, e5⟩ := p5
  obtain ⟨t, e6⟩ := p6
  unfold RiseOk at HG1 HG2 HG3
  simp only at L1 L2 R1 R2 S1 S2 HG1 HG2 HG3
  obtain ⟨av, cap, rfl, _⟩ := hv
  generalize l.length = n at L1 L2 R1 R2 S1 S2 HW0 ⊢
  go_enter Try.func8, Try.ntmps8
  go_upto_region 1 with fail
  generalize (w.alloc (.cells #[.int .i64 lx, .int .i64 ly] 48)).alloc (.cells #[.int .i64 hx, .int .i64 hy] 48) = w1 at HW0 ⊢
  generalize w.heap.size = N at HW0 ⊢
  have f0 := HW0.out.2.2.1.c0
  have f1 := HW0.out.2.2.1.c1
  have g0 := HW0.out.2.2.2.c0
  have g1 := HW0.out.2.2.2.c1
  go_wp2_with fail
  refine (L1 _ HW0.out.2.1).out.mono ?_
  rintro e w2 ⟨rfl, hB⟩
  have HW1 := hide (HW0.out.next hB)
  clear hB HW0 f0 f1 g0 g1
  have f0 := HW1.out.2.2.1.c0
  have f1 := HW1.out.2.2.1.c1
  have g0 := HW1.out.2.2.2.c0
  have g1 := HW1.out.2.2.2.c1
  go_wp2_with fail
  refine (L2 _ HW1.out.2.1).out.mono ?_
  rintro e w3 ⟨rfl, hB⟩
  have HW2 := hide (HW1.out.next hB)
  clear hB HW1 f0 f1 g0 g1
  have f0 := HW2.out.2.2.1.c0
  have f1 := HW2.out.2.2.1.c1
  have g0 := HW2.out.2.2.2.c0
  have g1 := HW2.out.2.2.2.c1
  go_wp2_with fail
  refine (R1 _ HW2.out.2.1).out.mono ?_
  rintro e w4 ⟨rfl, hB⟩
  have HW3 := hide (HW2.out.next hB)
  clear hB HW2 f0 f1 g0 g1
  have f0 := HW3.out.2.2.1.c0
  have f1 := HW3.out.2.2.1.c1
  have g0 := HW3.out.2.2.2.c0
  have g1 := HW3.out.2.2.2.c1
  go_wp2_with fail
  refine (R2 _ HW3.out.2.1).out.mono ?_
  rintro e w5 ⟨rfl, hB⟩
  have HW4 := hide (HW3.out.next hB)
  clear hB HW3 f0 f1 g0 g1
  have f0 := HW4.out.2.2.1.c0
  have f1 := HW4.out.2.2.1.c1
  have g0 := HW4.out.2.2.2.c0
  have g1 := HW4.out.2.2.2.c1
  go_wp2_with fail
  refine (S1 _ HW4.out.2.1).out.mono ?_
  rintro e w6 ⟨rfl, hB⟩
  have HW5 := hide (HW4.out.next hB)
  clear hB HW4 f0 f1 g0 g1
  have f0 := HW5.out.2.2.1.c0
  have f1 := HW5.out.2.2.1.c1
  have g0 := HW5.out.2.2.2.c0
  have g1 := HW5.out.2.2.2.c1
  go_wp2_with fail
  refine (S2 _ HW5.out.2.1).out.mono ?_
  rintro e w7 ⟨rfl, hB⟩
  have HW6 := hide (HW5.out.next hB)
  clear hB HW5 f0 f1 g0 g1
  have f0 := HW6.out.2.2.1.c0
  have f1 := HW6.out.2.2.1.c1
  have g0 := HW6.out.2.2.2.c0
  have g1 := HW6.out.2.2.2.c1
  by_cases hx1 : hx < lx
  · have d1 := decide_eq_true hx1
    clear hx1
    go_wp2_with fail
    refine (HA.out _).mono ?_
    rintro e w8 ⟨rfl, hB⟩
    have HW7 := hide (HW6.out.next hB)
    clear hB f0 f1 g0 g1
    go_wp2_with fail
    go_ret
    exact ⟨rfl, HW7.out.1⟩
  · by_cases hy1 : hy < ly
    · have d1 := decide_eq_false hx1
      have d2 := decide_eq_true hy1
      clear hx1 hy1
      go_wp2_with fail
      refine (HA.out _).mono ?_
      rintro e w8 ⟨rfl, hB⟩
      have HW7 := hide (HW6.out.next hB)
      clear hB f0 f1 g0 g1
      go_wp2_with fail
      go_ret
      exact ⟨rfl, HW7.out.1⟩
    · have d1 := decide_eq_false hx1
      have d2 := decide_eq_false hy1
      have K1 := hide (HG1.out (by omega))
      have K2 := hide (HG2.out (by omega) (by omega))
      have K3 := hide (HG3.out (by omega))
      clear hx1 hy1
      go_upto_region 9 with fail
      go_cut [19] (fun v wx => v = .bool true ∧ wx = w7)
      case first =>
        rcases K1.out with h | ⟨h, h2⟩ | ⟨h, h2, h3, h4⟩
        · go_wp2_with fail
          go_meet
          exact ⟨rfl, rfl⟩
        · go_wp2_with fail
          go_meet
          exact ⟨rfl, rfl⟩
        · go_wp2_with fail
          go_meet
          exact ⟨rfl, rfl⟩
      obtain ⟨rfl, hwc⟩ := hcut
      obtain rfl := hwc.symm
      clear hwc
      go_upto_region 10 with fail
      go_cut [20] (fun v wx => v = .bool true ∧ wx = w7)
      case first =>
        rcases K2.out with h | ⟨h, h2⟩ | ⟨h, h2, h3, h4⟩
        · go_wp2_with fail
          go_meet
          exact ⟨rfl, rfl⟩
        · go_wp2_with fail
          go_meet
          exact ⟨rfl, rfl⟩
        · go_wp2_with fail
          go_meet
          exact ⟨rfl, rfl⟩
      obtain ⟨rfl, hwc⟩ := hcut
      obtain rfl := hwc.symm
      clear hwc
      go_upto_region 11 with fail
      go_cut [21] (fun v wx => v = .bool true ∧ wx = w7)
      case first =>
        rcases K3.out with h | ⟨h, h2⟩ | ⟨h, h2, h3, h4⟩
        · go_wp2_with fail
          go_meet
          exact ⟨rfl, rfl⟩
        · go_wp2_with fail
          go_meet
          exact ⟨rfl, rfl⟩
        · go_wp2_with fail
          go_meet
          exact ⟨rfl, rfl⟩
      obtain ⟨rfl, hwc⟩ := hcut
      obtain rfl := hwc.symm
      clear hwc
      go_wp2_with fail
      refine (HA.out _).mono ?_
      rintro e w8 ⟨rfl, hB⟩
      have HW7 := hide (HW6.out.next hB)
      clear hB
      go_wp2_with fail
      go_ret
      exact ⟨rfl, HW7.out.1⟩
theorem ParamsRises_walk (v : Value) (lx ly hx hy : Int) (w : World) (h : ∃ l, IntsIn w v l) : Calls Try.prog 8 #[v, .agg #[.int .i64 lx, .int .i64 ly], .agg #[.int .i64 hx, .int .i64 hy]] w fun e w' => e = .returned (.bool true) ∧ Below w.heap.size w w' := by
  obtain ⟨l, hl⟩ := h
  exact rises_walk l v lx ly hx hy w hl.1
end Go.Proofs.Ytfhcfngogfefjaa
