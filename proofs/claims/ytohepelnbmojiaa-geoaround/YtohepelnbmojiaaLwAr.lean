/- GeoAround, but for a simple polygon's area that is not 0. -/
import Derived.Test.YtohepelnbmojiaaGeV
import Derived.Test.YtohepelnbmojiaaLwSt
namespace Go.Proofs.Ytohepelnbmojiaa
open Go.RowKit Go.Great

theorem simple_own (l : List Pt) (hl : l.length ≤ 4611686018427387904) {W : World} {g n cap : Nat} (h : Pts W (.slice (some ⟨g, 0, none⟩) n cap) (l ++ [mark])) : Calls Try.prog 22 #[.slice (some ⟨g, 0, none⟩) l.length cap] W fun e w' => e = .returned (.int .i64 (simE l)) ∧ Below W.heap.size W w' := simple_any l _ W h.own hl
theorem area_own (l : List Pt) (hl : l.length ≤ 4611686018427387904) {W : World} {g n cap : Nat} (h : Pts W (.slice (some ⟨g, 0, none⟩) n cap) (l ++ [mark])) : Calls Try.prog 23 #[.slice (some ⟨g, 0, none⟩) l.length cap] W fun e w' => e = .returned (.tuple #[.int .i64 (araI l), .int .i64 (simE l)]) ∧ Below W.heap.size W w' := callsIn_wide.1 (area_any l _ W h.own hl)
theorem trn_all (l : List Pt) (k : Nat) (back : Bool) : simE (trnL l k back l.length) = simE l ∧ (∀ p, sdI (trnL l k back l.length) p = sdI l p) ∧ (∀ p, sdE (trnL l k back l.length) p = sdE l p) ∧ araI (trnL l k back l.length) = if back then wrap64 (- araI l) else araI l := by
  have hn := trnL_len l k back l.length
  cases back
  · exact ⟨(same_on l k).sim hn, (same_on l k).sdI hn, (same_on l k).sdE hn, (same_on l k).ara hn⟩
  · exact ⟨(same_back l k).sim hn, (same_back l k).sdI hn, (same_back l k).sdE hn, (same_back l k).ara hn⟩
theorem ara_wrap (l : List Pt) : wrap64 (araI l) = araI l := by
  unfold araI
  rw [arS_eq]
  split <;> (unfold wrap64; omega)
set_option maxRecDepth 100000 in
set_option maxHeartbeats 8000000 in
theorem around_walk (HA : ∀ l, simE l = 0 → araI l ≠ 0) (l : List Pt) (v : Value) (p0 p1 k : Int) (back : Bool) (w : World) (hv : PtsIn w v l) : Calls Try.prog 10 #[v, .agg #[.int .i64 p0, .int .i64 p1], .agg #[.int .i64 k, .bool back]] w fun e w' => e = .returned (.bool true) ∧ Below w.heap.size w w' := by
  have AW := awake_any
  have LE := fun W' (hb : Below w.heap.size w W') => lent_any l v W' ⟨hv.1.below hb, hv.2⟩
  have hl : l.length ≤ 4611686018427387904 := by have := hv.2.2; omega
  have SM := fun (W : World) (g n cap : Nat) (h : Pts W (.slice (some ⟨g, 0, none⟩) n cap) (l ++ [mark])) => simple_own l hl h
  have SP := fun (W : World) (g n cap : Nat) (h : Pts W (.slice (some ⟨g, 0, none⟩) n cap) (l ++ [mark])) => side_own l p0 p1 hl h
  have AP := fun (W : World) (g n cap : Nat) (h : Pts W (.slice (some ⟨g, 0, none⟩) n cap) (l ++ [mark])) => area_own l hl h
  have TU := fun W' (hb : Below w.heap.size w W') (kn : Nat) (h1 : l.length ≤ 1000) (h2 : kn ≤ 1000) => turned_any l v kn back W' (hv.1.below hb) h1 h2
  have HN : Hid (simE l = 0 → araI l ≠ 0) := HA l
  have HW : Hid (wrap64 (araI l) = araI l) := ara_wrap l
  clear HA
  obtain ⟨a, cap, rfl, hc⟩ := hv.1
  clear hv hc
  go_enter Try.func10, Try.ntmps10
  go_wp2_with fail
  rotate_left
  · rename_i h0 h1 h2 _ _ _ _
    obtain ⟨kn, rfl⟩ : ∃ kn : Nat, k = kn := ⟨k.toNat, by omega⟩
    obtain ⟨W0, hW0, hB, B0, B1, hz⟩ := two_boxes w #[.int .i64 p0, .int .i64 p1] #[.int .i64 kn, .bool back] 23 52
    rw [hW0]
    clear hW0 hz
    have X := TU W0 hB kn (by omega) (by omega)
    refine X.mono ?_
    rintro e w1 ⟨v', rfl, hR, hb1⟩
    clear X TU
    obtain ⟨t1, t2, t3, t4⟩ := trn_all l kn back
    have hln : (trnL l kn back l.length).length ≤ 4611686018427387904 := by rw [trnL_len]; omega
    have hO := hR.pts
    generalize trnL l kn back l.length = l' at *
    have SM' := fun W' (h : Pts W' v' l') => simple_any l' v' W' h hln
    have SP' := fun W' (h : Pts W' v' l') => callsIn_wide.1 (side_any l' v' (p0, p1) W' h hln)
    have AP' := fun W' (h : Pts W' v' l') => callsIn_wide.1 (area_any l' v' W' h hln)
    rw [t1] at SM'
    rw [t2, t3] at SP'
    rw [t1, t4] at AP'
    clear t1 t2 t3 t4 hln hR h0 h1 h2
    replace B0 := B0.after hb1
    replace B1 := B1.after hb1
    replace hB := below_next hB (Nat.le_refl _) hb1
    clear hb1
    generalize sdI l (p0, p1) = S at *
    generalize sdE l (p0, p1) = E at *
    generalize simE l = Q at *
    generalize araI l = A at *
    obtain ⟨N, hNN⟩ : ∃ N, (if back then wrap64 (-A) else A) = N := ⟨_, rfl⟩
    rw [hNN] at AP'
    have HT1 : Hid (back = true → wrap64 (-N) = A) := fun h => by
      have := HW.out
      rw [if_pos h] at hNN
      rw [← hNN]
      unfold wrap64 at *
      omega
    have HT2 : Hid (back = false → N = A) := fun h => by
      rw [← hNN, h]; rfl
    clear hNN HW
    obtain ⟨m, hm⟩ : ∃ m, l.length = m := ⟨_, rfl⟩
    rw [hm] at LE SM SP AP ⊢
    clear hm hl
    obtain ⟨a', cap', rfl, _⟩ := id hO
    generalize l'.length = m' at *
    go_wp2_with fail
    refine (LE _ hB).mono ?_
    rintro e w2 ⟨g2, c2, rfl, hP, _, hb2⟩
    replace B0 := B0.after hb2
    replace B1 := B1.after hb2
    replace hO := hO.below hb2
    replace hB := below_next hB (Nat.le_refl _) hb2
    clear hb2
    go_wp2_with fail
    refine (SM _ _ _ _ hP).mono ?_
    rintro e w3 ⟨rfl, hb3⟩
    replace B0 := B0.after hb3
    replace B1 := B1.after hb3
    replace hO := hO.below hb3
    replace hB := below_next hB (Nat.le_refl _) hb3
    clear hb3 hP SM
    go_wp2_with fail
    refine (SM' _ hO).mono ?_
    rintro e w4 ⟨rfl, hb4⟩
    replace B0 := B0.after hb4
    replace B1 := B1.after hb4
    replace hO := hO.below hb4
    replace hB := below_next hB (Nat.le_refl _) hb4
    clear hb4 SM'
    go_wp2_with fail
    go_cut [10, 11] (fun x y wx => x = .int .i64 S ∧ y = .int .i64 E ∧ Below w4.heap.size w4 wx)
    case first =>
      have c0 := B0.cell 0 rfl
      have c1 := B0.cell 1 rfl
      have lB := B0.lt
      go_region_with (first
        | (go_at_call 21; refine (LE _ (by first | exact hB.drew | exact hB)).mono ?_; rintro e w1 ⟨g1, c1', rfl, hP1, _, hb1⟩; have hb1' : Below w4.heap.size w4 w1 := below_next (Below.refl _ _).drew (Nat.le_refl _) hb1; have kk0 := (B0.after hb1').cell 0 rfl; have kk1 := (B0.after hb1').cell 1 rfl)
        | (go_at_call 27; refine (SP _ _ _ _ hP1).mono ?_; rintro e w2 ⟨rfl, hb2⟩))
      all_goals go_wp2_with fail
      all_goals go_meet
      all_goals exact ⟨rfl, rfl, below_next hb1' (Nat.le_refl _) hb2⟩
    case rest =>
      obtain ⟨rfl, rfl, hb⟩ := hcut
      replace B0 := B0.after hb
      replace B1 := B1.after hb
      replace hO := hO.below hb
      replace hB := below_next hB (Nat.le_refl _) hb
      clear hb SP
      have k0 := B0.cell 0 rfl
      have k1 := B0.cell 1 rfl
      have lB := B0.lt
      go_wp2_with fail
      refine (SP' _ hO).mono ?_
      rintro e w5 ⟨rfl, hb5⟩
      replace B1 := B1.after hb5
      replace hO := hO.below hb5
      replace hB := below_next hB (Nat.le_refl _) hb5
      clear hb5 SP' B0 k0 k1 lB
      go_wp2_with fail
      refine (LE _ hB).mono ?_
      rintro e w6 ⟨g6, c6, rfl, hP, _, hb6⟩
      replace B1 := B1.after hb6
      replace hO := hO.below hb6
      replace hB := below_next hB (Nat.le_refl _) hb6
      clear hb6 LE
      go_wp2_with fail
      refine (AP _ _ _ _ hP).mono ?_
      rintro e w7 ⟨rfl, hb7⟩
      replace B1 := B1.after hb7
      replace hO := hO.below hb7
      replace hB := below_next hB (Nat.le_refl _) hb7
      clear hb7 hP AP
      go_wp2_with fail
      refine (AP' _ hO).mono ?_
      rintro e w8 ⟨rfl, hb8⟩
      replace B1 := B1.after hb8
      replace hB := below_next hB (Nat.le_refl _) hb8
      clear hb8 AP' hO
      have k0 := B1.cell 0 rfl
      have k1 := B1.cell 1 rfl
      have lB := B1.lt
      go_wp2_with fail
      all_goals
        refine (AW _).mono ?_
        rintro e w9 ⟨rfl, hb9⟩
        replace hB := below_next hB (Nat.le_refl _) hb9
        clear hb9 k0 k1 lB B1
        go_wp2_with fail
      all_goals
        go_ret
        have hN := HN.out
        have f1 := HT1.out
        have f2 := HT2.out
        refine ⟨?_, hB⟩
        clear HN HT1 HT2 AW hB
        first
          | rfl
          | (refine ret_bool ?_; simp_all; done)
          | (exfalso; simp_all; done)
  all_goals
    obtain ⟨W0, hW0, hB, B0, B1, hz⟩ := two_boxes w #[.int .i64 p0, .int .i64 p1] #[.int .i64 k, .bool back] 23 52
    rw [hW0]
    clear hW0 hz
    refine (AW _).mono ?_
    rintro e w4 ⟨rfl, hb4⟩
    replace hB := below_next hB (Nat.le_refl _) hb4
    go_wp2_with fail
    go_ret
    exact ⟨rfl, hB⟩
end Go.Proofs.Ytohepelnbmojiaa
