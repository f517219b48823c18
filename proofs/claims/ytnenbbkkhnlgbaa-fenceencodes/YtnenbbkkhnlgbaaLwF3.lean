/- FenceEncodes. -/
import Derived.Test.YtnenbbkkhnlgbaaFlO
import Derived.Test.YtnenbbkkhnlgbaaFf4
namespace Go.Proofs.Ytnenbbkkhnlgbaa
open Go.RowKit Go.Great

set_option maxRecDepth 100000 in
set_option maxHeartbeats 4000000 in
theorem FenceEncodes_walk (v : Value)  (w : World) (h : FenIn w v) : Calls Try.prog 7 #[v] w fun e w' => e = .returned (.bool true) ∧ Below w.heap.size w w' := by
  obtain ⟨P, R, fl, ce, p, r, rfl, hp, hr⟩ := h
  have hP := long_ok hp
  have hR := long_ok hr
  have AW := awakeF_any
  have LE := fun W (hb : Below w.heap.size w W) => lentF_any P R fl ce p r W ⟨hp.1.below hb, hp.2⟩ ⟨hr.1.below hb, hr.2⟩
  have CO := fun W p' r' (h1 : Lnt W p' P) (h2 : Lnt W r' R) => encode_any P R fl ce p' r' W h1.pts h2.pts hP hR
  have CR := fun W (hb : Below w.heap.size w W) => rencode_any P R fl ce p r W (hp.1.below hb) (hr.1.below hb) hP hR
  have KE := fun W (hb : Below w.heap.size w W) p' r' (h1 : Lnt W p' P) (h2 : Lnt W r' R) => keptF_any P R fl ce p r p' r' W (hp.1.below hb) (hr.1.below hb) h1 h2 hP hR
  generalize bs (encI P fl ce R) = I at CO CR
  generalize chk P fl ce R = E at CO CR
  obtain ⟨ap, cp, rfl, hcl⟩ := hp.1
  obtain ⟨ar, cr, rfl, hcl'⟩ := hr.1
  clear hcl hcl' hp hr hP hR
  generalize hn1 : P.length = n1 at *
  generalize hn2 : R.length = n2 at *
  have HN1 := hide hn1
  have HN2 := hide hn2
  clear hn1 hn2
  have B0 := Blk.new w #[.slice ap n1 cp, .int .i64 fl, .int .i64 ce, .slice ar n2 cr] 24
  have hB := below_alloc w (.cells #[.slice ap n1 cp, .int .i64 fl, .int .i64 ce, .slice ar n2 cr] 24)
  simp only [fV] at *
  go_enter Try.func7, Try.ntmps7
  go_wp2_with fail
  refine (LE _ hB).mono ?_
  rintro e w1 ⟨p', r', rfl, h1, h2, hb1⟩
  replace B0 := B0.after hb1
  replace hB := below_next hB (Nat.le_refl _) hb1
  clear hb1 LE
  obtain ⟨g1, c1, e1⟩ := h1.slice
  obtain ⟨g2, c2, e2⟩ := h2.slice
  rw [HN1.out] at e1
  rw [HN2.out] at e2
  subst e1 e2
  have B1 := Blk.new w1 #[.slice (some ⟨g1, 0, none⟩) n1 c1, .int .i64 fl, .int .i64 ce, .slice (some ⟨g2, 0, none⟩) n2 c2] 24
  have hb2 := below_alloc w1 (.cells #[.slice (some ⟨g1, 0, none⟩) n1 c1, .int .i64 fl, .int .i64 ce, .slice (some ⟨g2, 0, none⟩) n2 c2] 24)
  obtain ⟨W0, hW0⟩ : ∃ W0, w1.alloc (.cells #[.slice (some ⟨g1, 0, none⟩) n1 c1, .int .i64 fl, .int .i64 ce, .slice (some ⟨g2, 0, none⟩) n2 c2] 24) = W0 := ⟨_, rfl⟩
  rw [hW0] at B1 hb2
  replace B0 := B0.after hb2
  replace hB := below_next hB (Nat.le_refl _) hb2
  replace h1 := h1.below hb2
  replace h2 := h2.below hb2
  clear hb2
  have b00 := B0.cell 0 rfl
  have b01 := B0.cell 1 rfl
  have b02 := B0.cell 2 rfl
  have b03 := B0.cell 3 rfl
  have b10 := B1.cell 0 rfl
  have b11 := B1.cell 1 rfl
  have b12 := B1.cell 2 rfl
  have b13 := B1.cell 3 rfl
  go_wp2_with fail
  try rw [hW0]
  clear hW0
  generalize w1.heap.size = G at *
  refine (CO _ _ _ h1 h2).mono ?_
  rintro e w2 ⟨rfl, hb⟩
  replace B0 := B0.after hb
  replace B1 := B1.after hb
  replace hB := below_next hB (Nat.le_refl _) hb
  replace h1 := h1.below hb
  replace h2 := h2.below hb
  clear hb CO b00 b10 b01 b11 b02 b12 b03 b13 
  have b00 := B0.cell 0 rfl
  have b01 := B0.cell 1 rfl
  have b02 := B0.cell 2 rfl
  have b03 := B0.cell 3 rfl
  go_wp2_with fail
  refine (CR _ hB).mono ?_
  rintro e w3 ⟨rfl, hb⟩
  replace B0 := B0.after hb
  replace B1 := B1.after hb
  replace hB := below_next hB (Nat.le_refl _) hb
  replace h1 := h1.below hb
  replace h2 := h2.below hb
  clear hb CR b00 b01 b02 b03 
  have hII : (I.toList == I.toList) = true := by simp
  have hEE : (E == E) = true := by simp
  go_wp2_with fail
  refine (AW _).mono ?_
  rintro e w4 ⟨rfl, hb⟩
  replace B0 := B0.after hb
  replace B1 := B1.after hb
  replace hB := below_next hB (Nat.le_refl _) hb
  replace h1 := h1.below hb
  replace h2 := h2.below hb
  clear hb AW
  have b00 := B0.cell 0 rfl
  have b01 := B0.cell 1 rfl
  have b02 := B0.cell 2 rfl
  have b03 := B0.cell 3 rfl
  have b10 := B1.cell 0 rfl
  have b11 := B1.cell 1 rfl
  have b12 := B1.cell 2 rfl
  have b13 := B1.cell 3 rfl
  go_wp2_with fail
  refine (KE _ hB _ _ h1 h2).mono ?_
  rintro e w5 ⟨rfl, hb⟩
  go_wp2_with fail
  go_ret
  exact ⟨by first | rfl | exact ret_bool (by simp), below_next hB (Nat.le_refl _) hb⟩
end Go.Proofs.Ytnenbbkkhnlgbaa
