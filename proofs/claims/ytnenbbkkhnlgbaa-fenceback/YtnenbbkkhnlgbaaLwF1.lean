/- FenceChecks, FenceHolds. -/
import Derived.Test.YtnenbbkkhnlgbaaFl3
import Derived.Test.YtnenbbkkhnlgbaaFf3
namespace Go.Proofs.Ytnenbbkkhnlgbaa
open Go.RowKit Go.Great

/-- a fence that came in -/
def FenIn (w : World) (v : Value) : Prop := ∃ (P R : List Pt) (fl ce : Int) (p r : Value), v = fV p fl ce r ∧ PtsIn w p P ∧ PtsIn w r R
theorem Lnt.slice {w : World} {v : Value} {l : List Pt} (h : Lnt w v l) : ∃ g c, v = .slice (some ⟨g, 0, none⟩) l.length c := by
  obtain ⟨g, c, e, _⟩ := h
  exact ⟨g, c, e⟩
theorem long_ok {w : World} {v : Value} {l : List Pt} (h : PtsIn w v l) : l.length ≤ 4611686018427387904 := by have := h.2.2; omega
set_option maxRecDepth 100000 in
set_option maxHeartbeats 4000000 in
theorem FenceChecks_walk (v : Value) (w : World) (h : FenIn w v) : Calls Try.prog 3 #[v] w fun e w' => e = .returned (.bool true) ∧ Below w.heap.size w w' := by
  obtain ⟨P, R, fl, ce, p, r, rfl, hp, hr⟩ := h
  have hP := long_ok hp
  have hR := long_ok hr
  have AW := awakeF_any
  have LE := fun W (hb : Below w.heap.size w W) => lentF_any P R fl ce p r W ⟨hp.1.below hb, hp.2⟩ ⟨hr.1.below hb, hr.2⟩
  have CO := fun W p' r' (h1 : Lnt W p' P) (h2 : Lnt W r' R) => check_any P R fl ce p' r' W h1.pts h2.pts hP hR
  have CR := fun W (hb : Below w.heap.size w W) => rcheck_any P R fl ce p r W (hp.1.below hb) (hr.1.below hb) hP hR
  have KE := fun W (hb : Below w.heap.size w W) p' r' (h1 : Lnt W p' P) (h2 : Lnt W r' R) => keptF_any P R fl ce p r p' r' W (hp.1.below hb) (hr.1.below hb) h1 h2 hP hR
  generalize chk P fl ce R = c at CO CR
  obtain ⟨ap, cp, rfl, hcl⟩ := hp.1
  obtain ⟨ar, cr, rfl, hcl'⟩ := hr.1
  clear hcl hcl' hp hr hP hR
  generalize hn1 : P.length = n1 at *
  generalize hn2 : R.length = n2 at *
  have HN1 := hide hn1
  have HN2 := hide hn2
  clear hn1 hn2
  have B0 := Blk.new w #[.slice ap n1 cp, .int .i64 fl, .int .i64 ce, .slice ar n2 cr] 24
  have hB := below_alloc w (.cells #[.slice ap n1 cp, .int .i64 fl, .int .i64 ce, .slice ar n2 cr] 24)
  simp only [fV] at *
  go_enter Try.func3, Try.ntmps3
  go_wp2_with fail
  refine (LE _ hB).mono ?_
  rintro e w1 ⟨p', r', rfl, h1, h2, hb1⟩
  replace B0 := B0.after hb1
  replace hB := below_next hB (Nat.le_refl _) hb1
  clear hb1 LE
  obtain ⟨g1, c1, e1⟩ := h1.slice
  obtain ⟨g2, c2, e2⟩ := h2.slice
  rw [HN1.out] at e1
  rw [HN2.out] at e2
  subst e1 e2
  have B1 := Blk.new w1 #[.slice (some ⟨g1, 0, none⟩) n1 c1, .int .i64 fl, .int .i64 ce, .slice (some ⟨g2, 0, none⟩) n2 c2] 24
  have hb2 := below_alloc w1 (.cells #[.slice (some ⟨g1, 0, none⟩) n1 c1, .int .i64 fl, .int .i64 ce, .slice (some ⟨g2, 0, none⟩) n2 c2] 24)
  obtain ⟨W0, hW0⟩ : ∃ W0, w1.alloc (.cells #[.slice (some ⟨g1, 0, none⟩) n1 c1, .int .i64 fl, .int .i64 ce, .slice (some ⟨g2, 0, none⟩) n2 c2] 24) = W0 := ⟨_, rfl⟩
  rw [hW0] at B1 hb2
  replace B0 := B0.after hb2
  replace hB := below_next hB (Nat.le_refl _) hb2
  replace h1 := h1.below hb2
  replace h2 := h2.below hb2
  clear hb2
  go_wp2_with fail
  try rw [hW0]
  clear hW0
  generalize w1.heap.size = G at *
  have M1 := fun z : BelowW W0 => AW z.q
  have M2 := fun z : BelowW W0 => CO z.q _ _ (h1.below z.h) (h2.below z.h)
  have M3 := fun z : BelowW W0 => CR z.q (below_next hB (Nat.le_refl _) z.h)
  have M4 := fun z : BelowW W0 => KE z.q (below_next hB (Nat.le_refl _) z.h) _ _ (h1.below z.h) (h2.below z.h)
  have a0 := B0.at 0 rfl
  have a1 := B0.at 1 rfl
  have a2 := B0.at 2 rfl
  have a3 := B0.at 3 rfl
  have b0 := B1.at 0 rfl
  have b1 := B1.at 1 rfl
  have b2' := B1.at 2 rfl
  have b3' := B1.at 3 rfl
  have hne : Nonempty (BelowW W0) := ⟨⟨W0, Below.refl _ _⟩⟩
  clear AW CO CR KE h1 h2
  have hcc : (c == c) = true := by simp
  refine wp_region_calm (by kernel_rfl) (by kernel_rfl) ?_
  repeat (go_big_quiet_step (first | (go_at_call 17; exact calm_of (M1 _)) | (go_at_call 18; exact calm_of (M2 _)) | (go_at_call 19; exact calm_of (M3 _)) | (go_at_call 20; exact calm_of (M4 _))))
  refine wpQuiet_nil ?_
  rintro w5 ⟨⟨q3, hq⟩, e3⟩
  have e4 : w5 = q3 := e3
  clear e3
  subst e4
  go_wp2_with fail
  go_ret
  exact ⟨by first | rfl | exact ret_bool (by simp), below_next hB (Nat.le_refl _) hq⟩
end Go.Proofs.Ytnenbbkkhnlgbaa
