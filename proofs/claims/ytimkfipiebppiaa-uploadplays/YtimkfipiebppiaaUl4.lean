/- The statements of layer 21: awake. -/
import Derived.Test.YtimkfipiebppiaaUl3
namespace Go.Proofs.Ytimkfipiebppiaa
open Go.RowKit Go.Great

set_option maxHeartbeats 8000000 in
set_option maxRecDepth 100000 in
theorem awakeUp (w : World) : Calls Try.prog 10 #[] w fun e w' => e = .returned (.bool true) ∧ Below w.heap.size w w' := by
  go_enter Try.func10, Try.ntmps10
  go_wp2_with fail
  refine (newD_any 1 3 (by decide) _).mono ?_
  rintro e w1 ⟨D, rfl, hD, hDw, hb⟩
  have HD := hide hD
  have HDw := hide hDw
  have Hb := hide hb
  have hlt := hD.lt
  clear hD hDw hb
  have HAA : Hid (∀ (W W' : World) (n : Nat) (v : Value) (a : An), Ans W n v a → W.grownBy W' (some D) → D < n → Ans W' n v a) := hide (fun _ _ _ _ _ h1 h2 h3 => h1.grown h2 h3)
  have HB1 := hide (Blk.new w1 #[.int .i64 1, .int .i64 2] 3)
  have Hbb1 := hide (below_alloc w1 (.cells #[.int .i64 1, .int .i64 2] 3))
  go_wp2_with (go_at_call 23; refine (sayL_any _ _ _ _ _).mono ?_; rintro e x1 ⟨rfl, hb⟩; have HX1 := hide (HB1.out.after hb); have Hxx1 := hide (below_next Hbb1.out (Nat.le_refl _) hb); clear hb)
  refine (on_is x1 D 1 3 ls0 _ (HD.out.after Hxx1.out) (LOk.zero (by omega)) (by omega) 7 (by omega) [1, 2] _ (ints_row (l := [1, 2]) HX1.out 2 2 rfl) (slice_cap (Nat.le_refl _)) (by simp) 10 aw1).mono ?_
  rintro e w2 ⟨v2, ks2, rfl, hD, hA, hg⟩
  have hg := grown_then (grown_below Hxx1.out (some D)) hg (fun k e => .inl (by injection e with e; exact e.symm))
  replace HD := hide hD
  replace Hb := hide (below_desk Hb.out hg HDw.out)
  have HA2 := hide hA
  have HN2 : Hid (D < x1.heap.size) := hide (by have := Hxx1.out.size; omega)
  have hlt2 : D < w2.heap.size := hD.lt
  obtain ⟨p2, c2, rfl⟩ := hA.one
  clear hD hA hg
  have HB2 := hide (Blk.new w2 #[.int .i64 1, .int .i64 0, .int .i64 2, .int .i64 5, .int .i64 6, .int .i64 7, .int .i64 8] 3)
  have Hbb2 := hide (below_alloc w2 (.cells #[.int .i64 1, .int .i64 0, .int .i64 2, .int .i64 5, .int .i64 6, .int .i64 7, .int .i64 8] 3))
  go_wp2_with (go_at_call 23; refine (sayL_any _ _ _ _ _).mono ?_; rintro e x2 ⟨rfl, hb⟩; have HX2 := hide (HB2.out.after hb); have Hxx2 := hide (below_next Hbb2.out (Nat.le_refl _) hb); clear hb)
  refine (on_is x2 D 1 3 ⟨2, 10, 0, []⟩ _ (HD.out.after Hxx2.out) awk1 (by omega) 9 (by omega) [1, 0, 2, 5, 6, 7, 8] _ (ints_row (l := [1, 0, 2, 5, 6, 7, 8]) HX2.out 7 7 rfl) (slice_cap (Nat.le_refl _)) (by simp) 10 aw2).mono ?_
  rintro e w3 ⟨v3, ks3, rfl, hD, hA, hg⟩
  have hg := grown_then (grown_below Hxx2.out (some D)) hg (fun k e => .inl (by injection e with e; exact e.symm))
  replace HA2 := hide (HAA.out _ _ _ _ _ HA2.out hg HN2.out)
  replace HD := hide hD
  replace Hb := hide (below_desk Hb.out hg HDw.out)
  have HA3 := hide hA
  have HN3 : Hid (D < x2.heap.size) := hide (by have := Hxx2.out.size; omega)
  have hlt3 : D < w3.heap.size := hD.lt
  obtain ⟨p3, c3, rfl⟩ := hA.one
  clear hD hA hg
  have Hxx3 := hide (Below.refl w3.heap.size w3)
  go_wp2_with fail
  refine (tick_is w3 D 1 3 ⟨2, 10, 0, [[2, 5, 6, 7, 8]]⟩ _ HD.out awk2 210 (by unfold I64; omega) aw3).mono ?_
  rintro e w4 ⟨v4, ks4, rfl, hD, hA, hg⟩
  replace HA2 := hide (HAA.out _ _ _ _ _ HA2.out hg HN2.out)
  replace HA3 := hide (HAA.out _ _ _ _ _ HA3.out hg HN3.out)
  replace HD := hide hD
  replace Hb := hide (below_desk Hb.out hg HDw.out)
  have HA4 := hide hA
  have HN4 : Hid (D < w3.heap.size) := hide (by have := Hxx3.out.size; omega)
  have hlt4 : D < w4.heap.size := hD.lt
  obtain ⟨p4, c4, rfl⟩ := hA.one
  clear hD hA hg
  have HB4 := hide (Blk.new w4 #[.int .i64 1, .int .i64 1, .int .i64 4, .int .i64 0, .int .i64 0, .int .i64 0, .int .i64 (-1)] 3)
  have Hbb4 := hide (below_alloc w4 (.cells #[.int .i64 1, .int .i64 1, .int .i64 4, .int .i64 0, .int .i64 0, .int .i64 0, .int .i64 (-1)] 3))
  go_wp2_with (go_at_call 23; refine (sayL_any _ _ _ _ _).mono ?_; rintro e x4 ⟨rfl, hb⟩; have HX4 := hide (HB4.out.after hb); have Hxx4 := hide (below_next Hbb4.out (Nat.le_refl _) hb); clear hb)
  refine (on_is x4 D 1 3 ⟨2, 210, 1, [[2, 5, 6, 7, 8]]⟩ _ (HD.out.after Hxx4.out) awk3 (by omega) 9 (by omega) [1, 1, 4, 0, 0, 0, -1] _ (ints_row (l := [1, 1, 4, 0, 0, 0, -1]) HX4.out 7 7 rfl) (slice_cap (Nat.le_refl _)) (by simp) 211 aw4).mono ?_
  rintro e w5 ⟨v5, ks5, rfl, hD, hA, hg⟩
  have hg := grown_then (grown_below Hxx4.out (some D)) hg (fun k e => .inl (by injection e with e; exact e.symm))
  replace HA2 := hide (HAA.out _ _ _ _ _ HA2.out hg HN2.out)
  replace HA3 := hide (HAA.out _ _ _ _ _ HA3.out hg HN3.out)
  replace HA4 := hide (HAA.out _ _ _ _ _ HA4.out hg HN4.out)
  replace HD := hide hD
  replace Hb := hide (below_desk Hb.out hg HDw.out)
  have HA5 := hide hA
  have HN5 : Hid (D < x4.heap.size) := hide (by have := Hxx4.out.size; omega)
  have hlt5 : D < w5.heap.size := hD.lt
  obtain rfl := hA.zero
  clear hD hA hg
  go_wp2_with fail
  refine (ready_is w5 D 1 3 _ _ HD.out awk4 (by omega) (b := true) (L := [[2, 5, 6, 7, 8], [4, 0, 0, 0, -1]]) rfl rfl).mono ?_
  rintro e w6 ⟨v6, rfl, hO, hb6⟩
  have HO := hide hO
  obtain ⟨va6, vc6, rfl⟩ := HO.out.shape
  replace HD := hide (HD.out.after hb6)
  replace Hb := hide (below_next Hb.out (Nat.le_refl _) hb6)
  replace HA2 := hide (HA2.out.below hb6)
  replace HA3 := hide (HA3.out.below hb6)
  replace HA4 := hide (HA4.out.below hb6)
  replace HA5 := hide (HA5.out.below hb6)
  have hlt6 : D < w6.heap.size := by have := hb6.size; omega
  clear hO hb6
  have Hxx6 := hide (Below.refl w6.heap.size w6)
  go_wp2_with fail
  refine (keep_is w6 D 1 3 _ _ HD.out 0 aw5).mono ?_
  rintro e w7 ⟨v7, ks7, rfl, hD, hA, hg⟩
  have HO7 := hide (HO.out.grown hg hlt5).lsts
  replace HA2 := hide (HAA.out _ _ _ _ _ HA2.out hg HN2.out)
  replace HA3 := hide (HAA.out _ _ _ _ _ HA3.out hg HN3.out)
  replace HA4 := hide (HAA.out _ _ _ _ _ HA4.out hg HN4.out)
  replace HA5 := hide (HAA.out _ _ _ _ _ HA5.out hg HN5.out)
  replace HD := hide hD
  replace Hb := hide (below_desk Hb.out hg HDw.out)
  have HA7 := hide hA
  have HN7 : Hid (D < w6.heap.size) := hide (by have := Hxx6.out.size; omega)
  have hlt7 : D < w7.heap.size := hD.lt
  obtain ⟨p7, c7, rfl⟩ := hA.one
  clear hD hA hg
  obtain ⟨W0, HW0, hb0, hB1, hB2, hB3, hz0⟩ := three_boxes w7 #[.int .i64 2, .int .i64 5, .int .i64 6, .int .i64 7, .int .i64 8] #[.int .i64 4, .int .i64 0, .int .i64 0, .int .i64 0, .int .i64 (-1)] #[.slice (some ⟨w7.heap.size, 0, none⟩) 5 5, .slice (some ⟨w7.heap.size + 1, 0, none⟩) 5 5] 3 3 36
  have HL2 := hide (two_rows hB3 hB1 hB2)
  have Hb0 := hide hb0
  clear hB1 hB2 hB3 hz0 hb0
  go_wp2_with fail
  clear HW0
  refine (sameLists_true [[2, 5, 6, 7, 8], [4, 0, 0, 0, -1]] _ _ W0 (HO7.out.below Hb0.out) HL2.out (by simp) two_len).mono ?_
  rintro e w8 ⟨rfl, hb⟩
  replace HD := hide (HD.out.after (below_next Hb0.out (Nat.le_refl _) hb))
  replace Hb := hide (below_next Hb.out (Nat.le_refl _) (below_next Hb0.out (Nat.le_refl _) hb))
  replace HA2 := hide (HA2.out.below (below_next Hb0.out (Nat.le_refl _) hb))
  replace HA3 := hide (HA3.out.below (below_next Hb0.out (Nat.le_refl _) hb))
  replace HA4 := hide (HA4.out.below (below_next Hb0.out (Nat.le_refl _) hb))
  replace HA5 := hide (HA5.out.below (below_next Hb0.out (Nat.le_refl _) hb))
  replace HA7 := hide (HA7.out.below (below_next Hb0.out (Nat.le_refl _) hb))
  clear hb HO7 HL2 Hb0 HO
  have HB8 := hide (Blk.new w8 #[.int .i64 1, .int .i64 0] 3)
  have Hbb8 := hide (below_alloc w8 (.cells #[.int .i64 1, .int .i64 0] 3))
  go_wp2_with (go_at_call 23; refine (sayL_any _ _ _ _ _).mono ?_; rintro e x8 ⟨rfl, hb⟩; have HX8 := hide (HB8.out.after hb); have Hxx8 := hide (below_next Hbb8.out (Nat.le_refl _) hb); clear hb)
  refine (told_true 8 1 0 _ _ x8 _ (HA2.out.below Hxx8.out) (ints_row (l := [1, 0]) HX8.out 2 2 rfl)).mono ?_
  rintro e w9 ⟨rfl, hb⟩
  have hb := below_next Hxx8.out (Nat.le_refl _) hb
  replace HD := hide (HD.out.after hb)
  replace Hb := hide (below_next Hb.out (Nat.le_refl _) hb)
  replace HA2 := hide (HA2.out.below hb)
  replace HA3 := hide (HA3.out.below hb)
  replace HA4 := hide (HA4.out.below hb)
  replace HA5 := hide (HA5.out.below hb)
  replace HA7 := hide (HA7.out.below hb)
  clear hb HB8 HX8 Hbb8 Hxx8
  have HB9 := hide (Blk.new w9 #[.int .i64 1, .int .i64 1] 3)
  have Hbb9 := hide (below_alloc w9 (.cells #[.int .i64 1, .int .i64 1] 3))
  go_wp2_with (go_at_call 23; refine (sayL_any _ _ _ _ _).mono ?_; rintro e x9 ⟨rfl, hb⟩; have HX9 := hide (HB9.out.after hb); have Hxx9 := hide (below_next Hbb9.out (Nat.le_refl _) hb); clear hb)
  refine (told_true 8 1 1 _ _ x9 _ (HA3.out.below Hxx9.out) (ints_row (l := [1, 1]) HX9.out 2 2 rfl)).mono ?_
  rintro e w10 ⟨rfl, hb⟩
  have hb := below_next Hxx9.out (Nat.le_refl _) hb
  replace HD := hide (HD.out.after hb)
  replace Hb := hide (below_next Hb.out (Nat.le_refl _) hb)
  replace HA2 := hide (HA2.out.below hb)
  replace HA3 := hide (HA3.out.below hb)
  replace HA4 := hide (HA4.out.below hb)
  replace HA5 := hide (HA5.out.below hb)
  replace HA7 := hide (HA7.out.below hb)
  clear hb HB9 HX9 Hbb9 Hxx9
  have HB10 := hide (Blk.new w10 #[.int .i64 1, .int .i64 1] 3)
  have Hbb10 := hide (below_alloc w10 (.cells #[.int .i64 1, .int .i64 1] 3))
  go_wp2_with (go_at_call 23; refine (sayL_any _ _ _ _ _).mono ?_; rintro e x10 ⟨rfl, hb⟩; have HX10 := hide (HB10.out.after hb); have Hxx10 := hide (below_next Hbb10.out (Nat.le_refl _) hb); clear hb)
  refine (told_true 8 1 1 _ _ x10 _ (HA4.out.below Hxx10.out) (ints_row (l := [1, 1]) HX10.out 2 2 rfl)).mono ?_
  rintro e w11 ⟨rfl, hb⟩
  have hb := below_next Hxx10.out (Nat.le_refl _) hb
  replace HD := hide (HD.out.after hb)
  replace Hb := hide (below_next Hb.out (Nat.le_refl _) hb)
  replace HA2 := hide (HA2.out.below hb)
  replace HA3 := hide (HA3.out.below hb)
  replace HA4 := hide (HA4.out.below hb)
  replace HA5 := hide (HA5.out.below hb)
  replace HA7 := hide (HA7.out.below hb)
  clear hb HB10 HX10 Hbb10 Hxx10
  have HB11 := hide (Blk.new w11 #[.int .i64 1, .int .i64 0] 3)
  have Hbb11 := hide (below_alloc w11 (.cells #[.int .i64 1, .int .i64 0] 3))
  go_wp2_with (go_at_call 23; refine (sayL_any _ _ _ _ _).mono ?_; rintro e x11 ⟨rfl, hb⟩; have HX11 := hide (HB11.out.after hb); have Hxx11 := hide (below_next Hbb11.out (Nat.le_refl _) hb); clear hb)
  refine (told_true 10 1 0 _ _ x11 _ (HA7.out.below Hxx11.out) (ints_row (l := [1, 0]) HX11.out 2 2 rfl)).mono ?_
  rintro e w12 ⟨rfl, hb⟩
  have hb := below_next Hxx11.out (Nat.le_refl _) hb
  replace HD := hide (HD.out.after hb)
  replace Hb := hide (below_next Hb.out (Nat.le_refl _) hb)
  replace HA2 := hide (HA2.out.below hb)
  replace HA3 := hide (HA3.out.below hb)
  replace HA4 := hide (HA4.out.below hb)
  replace HA5 := hide (HA5.out.below hb)
  replace HA7 := hide (HA7.out.below hb)
  clear hb HB11 HX11 Hbb11 Hxx11
  have BU := hide (busy_any w12 D 1 3 ls0 _ HD.out)
  go_wp2_with (go_at_call 13; refine BU.out.mono ?_; rintro e x ⟨rfl, hx⟩; obtain rfl := hx.symm)
  go_ret
  exact ⟨rfl, Hb.out⟩
end Go.Proofs.Ytimkfipiebppiaa
