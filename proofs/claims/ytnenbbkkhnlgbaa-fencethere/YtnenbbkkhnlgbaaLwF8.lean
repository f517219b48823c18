/- FenceThere. -/
import Derived.Test.YtnenbbkkhnlgbaaFl3
import Derived.Test.YtnenbbkkhnlgbaaFeQ
import Derived.Test.YtnenbbkkhnlgbaaGrE
namespace Go.Proofs.Ytnenbbkkhnlgbaa
open Go.RowKit Go.Great

set_option maxRecDepth 100000 in
set_option maxHeartbeats 4000000 in
theorem FenceThere_walk (s : ByteArray) (hs : s.size ≤ 140737488351232) (w : World) : Calls Try.prog 15 #[.string s] w fun e w' => e = .returned (.bool true) ∧ Below w.heap.size w w' := by
  have AW := awakeF_any
  have DE := decode_any s (by omega)
  have HOK : Hid (decE s.data.toList = 0 → encF (decA s.data.toList).P (decA s.data.toList).fl (decA s.data.toList).ce (decA s.data.toList).R = s.data.toList ∧ chk (decA s.data.toList).P (decA s.data.toList).fl (decA s.data.toList).ce (decA s.data.toList).R = 0) := dec_enc
  have HNO : Hid (decE s.data.toList ≠ 0 → decA s.data.toList = ⟨[], 0, 0, []⟩) := fun h => by unfold decA; rw [if_neg h]
  generalize decA s.data.toList = D at *
  generalize decE s.data.toList = E at *
  obtain ⟨P, fl, ce, R⟩ := D
  simp only at DE HOK
  go_enter Try.func15, Try.ntmps15
  go_wp2_with fail
  refine (DE _).mono ?_
  rintro e w1 ⟨p, r, rfl, hp, hr, _, hB⟩
  obtain ⟨ap, cp, e1⟩ := hp.form
  obtain ⟨ar, cr, e2⟩ := hr.form
  have hpp := hp.pts
  have hrr := hr.pts
  clear hp hr DE
  by_cases hE : E = 0
  · subst hE
    obtain ⟨henc, hchk⟩ := HOK.out (by trivial)
    obtain ⟨hsim, _, _, _, _, h8, _⟩ := chk_ok hchk
    have h64 := (sim_len hsim).2.1
    have EN := fun W (hb : Below w1.heap.size w1 W) => encode_any P R fl ce p r W (hpp.below hb) (hrr.below hb) (by omega) (by omega)
    have CK := fun W (hb : Below w1.heap.size w1 W) => check_any P R fl ce p r W (hpp.below hb) (hrr.below hb) (by omega) (by omega)
    have SM := fun W (hb : Below w1.heap.size w1 W) => rsimple_any P p W (hpp.below hb) (by omega)
    have hI : bs (encI P fl ce R) = s := by
      unfold encI
      rw [if_pos hchk, henc, bs_of]
    rw [hI, hchk] at EN
    rw [hchk] at CK
    rw [hsim] at SM
    clear hI hchk henc hsim h8 h64 HOK HNO
    subst e1 e2
    generalize P.length = n1 at *
    generalize R.length = n2 at *
    simp only [fV] at *
    have B0 := Blk.new w1 #[.slice ap n1 cp, .int .i64 fl, .int .i64 ce, .slice ar n2 cr] 24
    have hb1 := below_alloc w1 (.cells #[.slice ap n1 cp, .int .i64 fl, .int .i64 ce, .slice ar n2 cr] 24)
    have hss : (s.toList == s.toList) = true := by simp
    go_wp2_with fail
    refine (EN _ hb1).mono ?_
    rintro e w2 ⟨rfl, hb2⟩
    replace B0 := B0.after hb2
    replace hb1 := below_next hb1 (Nat.le_refl _) hb2
    clear hb2 EN
    go_wp2_with fail
    refine (AW _).mono ?_
    rintro e w3 ⟨rfl, hb3⟩
    replace B0 := B0.after hb3
    replace hb1 := below_next hb1 (Nat.le_refl _) hb3
    clear hb3
    have j0 := B0.cell 0 rfl
    have j1 := B0.cell 1 rfl
    have j2 := B0.cell 2 rfl
    have j3 := B0.cell 3 rfl
    go_wp2_with fail
    refine (CK _ hb1).mono ?_
    rintro e w4 ⟨rfl, hb4⟩
    replace B0 := B0.after hb4
    replace hb1 := below_next hb1 (Nat.le_refl _) hb4
    clear hb4 CK j0 j1 j2 j3
    have j0 := B0.cell 0 rfl
    go_wp2_with fail
    refine (SM _ hb1).mono ?_
    rintro e w5 ⟨rfl, hb5⟩
    replace hb1 := below_next hb1 (Nat.le_refl _) hb5
    go_wp2_with fail
    go_ret
    exact ⟨rfl, below_next hB (Nat.le_refl _) hb1⟩
  · have hD := HNO.out hE
    injection hD with d1 d2 d3 d4
    subst d1 d2 d3 d4
    clear HOK HNO
    subst e1 e2
    simp only [fV, List.length_nil] at *
    have B0 := Blk.new w1 #[.slice ap 0 cp, .int .i64 0, .int .i64 0, .slice ar 0 cr] 24
    have hb1 := below_alloc w1 (.cells #[.slice ap 0 cp, .int .i64 0, .int .i64 0, .slice ar 0 cr] 24)
    go_wp2_with fail
    all_goals refine (AW _).mono ?_
    all_goals rintro e w3 ⟨rfl, hb3⟩
    all_goals replace B0 := B0.after hb3
    all_goals have j0 := B0.cell 0 rfl
    all_goals have j3 := B0.cell 3 rfl
    all_goals go_wp2_with fail
    all_goals go_ret
    all_goals exact ⟨rfl, below_next hB (Nat.le_refl _) (below_next hb1 (Nat.le_refl _) hb3)⟩
end Go.Proofs.Ytnenbbkkhnlgbaa
