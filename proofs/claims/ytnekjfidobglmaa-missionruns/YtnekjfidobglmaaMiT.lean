/- The document's run: New, Goal, Step. -/
import Derived.Test.YtnekjfidobglmaaMiR
import Derived.Test.YtnekjfidobglmaaMiL
import Derived.Deep.OwnRows
namespace Go.Proofs.Ytnekjfidobglmaa
open Go.RowKit Go.Great Go.Maps

/-- how often was jumped, as cells -/
def jA (J : Nat → Int) (n : Nat) : Array Value := ((List.range n).map (fun i => Value.int .i64 (J i))).toArray
theorem jA_get (J : Nat → Int) (n i : Nat) (h : i < n) : (jA J n)[i]? = some (.int .i64 (J i)) := by
  unfold jA
  rw [List.getElem?_toArray, List.getElem?_map, List.getElem?_range h]
  rfl
theorem jA_set (J : Nat → Int) (n i : Nat) (v : Int) : (jA J n).setIfInBounds i (.int .i64 v) = jA (upJ J i v) n := by
  unfold jA upJ
  rw [List.setIfInBounds_toArray]
  congr 1
  refine List.ext_getElem? fun k => ?_
  rw [List.getElem?_set, List.getElem?_map, List.getElem?_map, List.length_map, List.length_range]
  by_cases hk : k < n
  · rw [List.getElem?_range hk]
    by_cases e : i = k
    · subst e; simp [hk]
    · have e2 : ¬ k = i := fun h => e h.symm
      simp [e, e2]
  · rw [List.getElem?_eq_none (l := List.range n) (by simpa using hk)]
    by_cases e : i = k
    · subst e; simp [hk]
    · simp [e]
theorem jA_zero (n : Nat) : madeCells #[Value.int .i64 0] n = jA (fun _ => 0) n := by
  unfold jA
  apply Array.ext'
  simp [madeCells, Nat.mod_one]
/-- a run's cells -/
abbrev xC (iv : Value) (p s l : Int) (jv : Value) : Array Value := #[iv, .int .i64 p, .int .i64 s, .int .i64 l, jv]
abbrev jV (b n : Nat) : Value := .slice (some ⟨b, 0, none⟩) n n
/-- what a run of the document's leads to -/
structure RefR (w : World) (iv : Value) (b : Nat) (r : Rn) : Prop where
  i : MRow w 0 iv r.L
  j : Blk w b (jA r.J r.L.length) 3
theorem RefR.below {w w' : World} {iv : Value} {b : Nat} {r : Rn} (h : RefR w iv b r) (hb : Below w.heap.size w w') : RefR w' iv b r := ⟨h.i.below hb, h.j.after hb⟩
theorem x_cells {w : World} {g : Nat} {iv jv : Value} {p s l : Int} {t : TypeId} (h : Blk w g (xC iv p s l jv) t) : w.cell? ⟨g, 0, none⟩ = some iv ∧ w.cell? ⟨g, 1, none⟩ = some (.int .i64 p) ∧ w.cell? ⟨g, 2, none⟩ = some (.int .i64 s) ∧ w.cell? ⟨g, 3, none⟩ = some (.int .i64 l) ∧ w.cell? ⟨g, 4, none⟩ = some jv := ⟨h.cell 0 rfl, h.cell 1 rfl, h.cell 2 rfl, h.cell 3 rfl, h.cell 4 rfl⟩
theorem x_back2 {fn : Func} (h : fn.results = #[.cell 4 43, .tmp 5]) (tmps : Array Value) (w : World) (g : Nat) (iv jv : Value) (p s l : Int) (z : Value) (hp : tmps.getD 4 undef = .pointer (some ⟨g, 0, none⟩)) (hq : tmps.getD 5 undef = z) (hg : Blk w g (xC iv p s l jv) 43) : (results fn tmps).run Try.prog w = .ok (.tuple #[.agg (xC iv p s l jv), z]) w :=
  res_back2 h Try.underlying43 (by kernel_rfl) tmps w g z hp hq hg
theorem x_back {fn : Func} (h : fn.results = #[.cell 4 43]) (tmps : Array Value) (w : World) (g : Nat) (iv jv : Value) (p s l : Int) (hp : tmps.getD 4 undef = .pointer (some ⟨g, 0, none⟩)) (hg : Blk w g (xC iv p s l jv) 43) : (results fn tmps).run Try.prog w = .ok (.agg (xC iv p s l jv)) w :=
  res_back h Try.underlying43 (by kernel_rfl) tmps w g hp hg
theorem grown_set5 (w1 : World) (g : Nat) (x y z u v : Value) : w1.grownBy (((((w1.setCell ⟨g, 0, none⟩ x).setCell ⟨g, 1, none⟩ y).setCell ⟨g, 2, none⟩ z).setCell ⟨g, 3, none⟩ u).setCell ⟨g, 4, none⟩ v) (some g) :=
  grown_more (grown_more (grown_more (grown_more (grown_set w1 g 0 x) (grown_set _ g 1 y)) (grown_set _ g 2 z)) (grown_set _ g 3 u)) (grown_set _ g 4 v)
set_option maxHeartbeats 4000000 in
set_option maxRecDepth 100000 in
theorem rnew_any (s : Int) (L : List It) (v : Value) (w : World) (hv : ItsN w v L) : Calls Try.prog 23 #[.int .i64 s, v] w fun e w' => Below w.heap.size w w' ∧ ((chk L ≠ 0 ∧ ∃ x, e = .returned (.tuple #[.agg (xC (.slice none 0 0) 0 0 0 (.slice none 0 0)), x]) ∧ x = .int .i64 (chk L)) ∨ (chk L = 0 ∧ ∃ iv b, e = .returned (.tuple #[.agg (xC iv 0 s 0 (jV b L.length)), .int .i64 0]) ∧ w.heap.size ≤ b ∧ (∀ g, iv.ownBlock = some g → w.heap.size ≤ g) ∧ RefR w' iv b (rn0 s L))) := by
  have HZ := hide (Blk.new w (xC (.slice none 0 0) 0 0 0 (.slice none 0 0)) 43)
  have Hb := hide (below_alloc w (.cells (xC (.slice none 0 0) 0 0 0 (.slice none 0 0)) 43))
  have HV := hide hv.1.1
  have hnil := hv.2
  have hlen := hv.1.2
  have CK := hide (fun W (hb : Below w.heap.size w W) => rcheck_any L v W (hv.1.1.below hb))
  obtain ⟨i0, hi, hz0, hz1, hz2⟩ := info_parts info_it
  obtain ⟨_, a, cap, rfl, _⟩ := hv.1.1
  have HALL := hide HV.out.all
  have HNIL : Hid (a = none → L.length = 0 ∧ cap = 0) := by
    intro e
    refine ⟨by rw [HALL.out.1 e]; rfl, ?_⟩
    subst e
    exact hnil _ _ rfl
  obtain ⟨n, hn⟩ : ∃ n, L.length = n := ⟨_, rfl⟩
  have HN := hide hn
  rw [hn] at hlen HNIL CK ⊢
  clear hn hnil HV hv
  by_cases hc : chk L = 0
  · have h64 : n ≤ 64 := by rw [← HN.out]; exact (chk_ok hc).1
    have HC := hide hc
    rw [hc] at CK
    clear hc
    have hmk := run_make_row' (P := Try.prog) 41 3 (.int .i64 0) 8 Try.underlying41 info_int rfl .i64 .i64 n (by omega) (by omega)
    rw [jA_zero] at hmk
    go_enter Try.func23, Try.ntmps23
    go_upto_region 1 with fail
    generalize w.alloc (.cells (xC (.slice none 0 0) 0 0 0 (.slice none 0 0)) 43) = W0 at *
    go_wp2_with fail
    refine (CK.out W0 Hb.out).mono ?_
    rintro e w1 ⟨rfl, hb1⟩
    replace HZ := hide (HZ.out.after hb1)
    replace Hb := hide (below_next Hb.out (Nat.le_refl _) hb1)
    have hs1 := Hb.out.size
    clear hb1 CK
    go_wp2_with (at_builtin; refine wpList_append_any rfl (.tmp 14) (.tmp 15) 22 rfl w1.heap.size 48 i0 _ 4 32 Try.underlying22 hi hz0 hz1 hz2 rfl (by decide) (.slice none 0 0) 0 [] rfl (World.ownsRow_nil _ _ _ _) a n cap (itsC L) rfl ?a1 HNIL.out ?a2 (itsC_one L) ?a3 ?a4 (Nat.le_refl _) ?_)
    case a1 => rw [itsC_len, HN.out]
    case a2 => exact fun ad e => HALL.out.2 ad e w1 Hb.out
    case a3 => unfold maxLen; omega
    case a4 => omega
    intro v1 w2 hown2 hgrow2
    have HM : Hid (MRow w2 w1.heap.size v1 L) := hide (by
      show World.ownsRow _ _ _ _ _ _ _
      rw [HN.out]
      exact hown2)
    have hb2 : Below w1.heap.size w1 w2 := (Below.refl _ _).grown hgrow2 (Nat.le_refl _) (fun k e => by cases e)
    replace HZ := hide (HZ.out.after hb2)
    replace Hb := hide (below_next Hb.out (Nat.le_refl _) hb2)
    have hs2 := hb2.size
    have hlt2 := HZ.out.lt
    obtain ⟨ao1, c1, rfl⟩ := HM.out.shape
    rw [HN.out] at HM ⊢
    clear hown2 hgrow2 hb2 HNIL HALL hi hz0 hz1 hz2
    have hJ := Blk.new w2 (jA (fun _ => 0) n) 3
    have hb3 := below_alloc w2 (.cells (jA (fun _ => 0) n) 3)
    replace HZ := hide (HZ.out.after hb3)
    replace HM := hide (HM.out.below hb3)
    replace Hb := hide (below_next Hb.out (Nat.le_refl _) hb3)
    have HJ := hide hJ
    clear hb3 hJ
    go_upto_region 6 with fail
    have hg : w2.heap.size ≠ w.heap.size := by omega
    have hHZ := HZ.out
    obtain ⟨z0, z1, z2, z3, z4⟩ := x_cells hHZ
    have fz := hHZ.frozen
    generalize hW3 : w2.alloc (.cells (jA (fun _ => 0) n) 3) = W3 at *
    clear hHZ
    go_wp2_with fail
    try rw [hW3]
    refine bodyPost_ret (x_back2 Try.results23 _ _ w.heap.size _ _ _ _ _ _ rfl rfl (HZ.out.set5 _ _ _ _ _)) rfl ?_
    have hgr := grown_set5 W3 w.heap.size (.slice ao1 n c1) (.int .i64 0) (.int .i64 s) (.int .i64 0) (jV w2.heap.size n)
    refine ⟨below_set5 Hb.out _ _ _ _ _ _ (Nat.le_refl _) Hb.out.size, .inr ⟨HC.out, .slice ao1 n c1, w2.heap.size, rfl, by omega, fun g hg => ?_, ⟨?_, ?_⟩⟩⟩
    · have := (HM.out.lt g hg).1
      omega
    · exact (HM.out.grown hgr (HM.out.noblk HZ.out (by decide))).lower (Nat.zero_le _)
    · have := HJ.out.grown hgr (by intro e; injection e with e; omega)
      show Blk _ _ (jA _ L.length) _
      rw [HN.out]
      exact this
  · have HC := hide hc
    have hne : (chk L != 0) = true := by simp [hc]
    generalize chk L = c at *
    clear hc HALL HNIL hi hz0 hz1 hz2
    go_enter Try.func23, Try.ntmps23
    go_upto_region 1 with fail
    generalize w.alloc (.cells (xC (.slice none 0 0) 0 0 0 (.slice none 0 0)) 43) = W0 at *
    go_wp2_with fail
    refine (CK.out W0 Hb.out).mono ?_
    rintro e w1 ⟨rfl, hb1⟩
    replace HZ := hide (HZ.out.after hb1)
    replace Hb := hide (below_next Hb.out (Nat.le_refl _) hb1)
    clear hb1 CK
    obtain ⟨z0, z1, z2, z3, z4⟩ := x_cells HZ.out
    have fz := HZ.out.frozen
    go_wp2_with fail
    refine bodyPost_ret (x_back2 Try.results23 _ _ w.heap.size _ _ _ _ _ _ rfl rfl (HZ.out.set5 _ _ _ _ _)) rfl ?_
    exact ⟨below_set5 Hb.out _ _ _ _ _ _ (Nat.le_refl _) Hb.out.size, .inl ⟨HC.out, _, rfl, rfl⟩⟩
end Go.Proofs.Ytnekjfidobglmaa
