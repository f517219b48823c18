/- FenceOfs. -/
import Derived.Test.YtnenbbkkhnlgbaaFlL
namespace Go.Proofs.Ytnenbbkkhnlgbaa
open Go.RowKit Go.Great

def sel4 {α : Type} (a b c d : α) : Nat → α
  | 0 => a
  | 1 => b
  | 2 => c
  | _ => d
theorem apart_mid {a b : Value} {mid : Nat} (h1 : ∀ g, a.ownBlock = some g → g < mid) (h2 : ∀ g, b.ownBlock = some g → mid ≤ g) : ∀ g, a.ownBlock = some g → b.ownBlock ≠ some g := fun g e e2 => by
  have := h1 g e
  have := h2 g e2
  omega
theorem apart_symm {a b : Value} (h : ∀ g, a.ownBlock = some g → b.ownBlock ≠ some g) : ∀ g, b.ownBlock = some g → a.ownBlock ≠ some g := fun g e e2 => h g e2 e
theorem owns_two {w : World} {base mid : Nat} {p1 r1 p2 r2 : Value} {P1 R1 P2 R2 : List Pt} (fl ce fl' ce' : Int) (h1 : PRow w base p1 P1) (h2 : PRow w base r1 R1) (h3 : PRow w base p2 P2) (h4 : PRow w base r2 R2) (l1 : P1.length ≤ 255) (l2 : R1.length ≤ 255) (l3 : P2.length ≤ 255) (l4 : R2.length ≤ 255)
    (a12 : ∀ g, p1.ownBlock = some g → r1.ownBlock ≠ some g) (a34 : ∀ g, p2.ownBlock = some g → r2.ownBlock ≠ some g) (m1 : ∀ g, p1.ownBlock = some g → g < mid) (m2 : ∀ g, r1.ownBlock = some g → g < mid) (m3 : ∀ g, p2.ownBlock = some g → mid ≤ g) (m4 : ∀ g, r2.ownBlock = some g → mid ≤ g) (hb : base ≤ w.heap.size) : Calls Try.prog 32 #[fV p1 fl ce r1, fV p2 fl' ce' r2] w fun e w' => e = .returned (.bool true) ∧ Below base w w' := by
  refine owns_true (sel4 P1.length R1.length P2.length R2.length) ?_ (sel4 p1 r1 p2 r2) fl ce fl' ce' w base ?_ ?_ hb
  · intro j hj
    rcases lt4 hj with rfl | rfl | rfl | rfl
    · exact l1
    · exact l2
    · exact l3
    · exact l4
  · intro j hj
    rcases lt4 hj with rfl | rfl | rfl | rfl
    · exact ⟨P1, h1, rfl⟩
    · exact ⟨R1, h2, rfl⟩
    · exact ⟨P2, h3, rfl⟩
    · exact ⟨R2, h4, rfl⟩
  · intro i j hi hj hij
    rcases lt4 hi with rfl | rfl | rfl | rfl <;> rcases lt4 hj with rfl | rfl | rfl | rfl
    · exact absurd rfl hij
    · exact a12
    · exact apart_mid m1 m3
    · exact apart_mid m1 m4
    · exact apart_symm a12
    · exact absurd rfl hij
    · exact apart_mid m2 m3
    · exact apart_mid m2 m4
    · exact apart_symm (apart_mid m1 m3)
    · exact apart_symm (apart_mid m2 m3)
    · exact absurd rfl hij
    · exact a34
    · exact apart_symm (apart_mid m1 m4)
    · exact apart_symm (apart_mid m2 m4)
    · exact apart_symm a34
    · exact absurd rfl hij
theorem ofA_len (L : List (List Int)) : (ofA L).P.length ≤ 255 ∧ (ofA L).R.length ≤ 255 := by
  by_cases h : ofE L = 0
  · unfold ofA
    rw [if_pos h]
    unfold ofE at h
    cases hs : ofL L os0 with
    | none => exact ⟨Nat.zero_le _, Nat.zero_le _⟩
    | some s =>
      rw [hs] at h
      simp only at h ⊢
      split at h
      · have h1 := (sim_len (chk_ok h).1).2.1
        have h2 := (chk_ok h).2.2.2.2.2.1
        exact ⟨by omega, by omega⟩
      · omega
  · unfold ofA
    rw [if_neg h]
    exact ⟨Nat.zero_le _, Nat.zero_le _⟩
theorem info_lsts : (Try.prog.info? 53).map (fun i => (i.zero, i.size, i.bytes)) = some (some (.slice none 0 0), 1, 24) := by kernel_rfl
theorem take_lst {l : List (List Int)} {k : Nat} (h : k < l.length) : l.take (k + 1) = l.take k ++ [l.getD k []] := by
  rw [List.take_add_one, List.getD, List.getElem?_eq_getElem h]
  rfl
set_option maxRecDepth 100000 in
set_option maxHeartbeats 8000000 in
theorem FenceOfs_walk (v : Value) (w : World) (h : ∃ L, LstsIn w v L) : Calls Try.prog 9 #[v] w fun e w' => e = .returned (.bool true) ∧ Below w.heap.size w w' := by
  obtain ⟨i0, hi, hz0, hz1, hz2⟩ := info_parts info_lsts
  obtain ⟨L, hL⟩ := h
  have AW := awakeF_any
  have HLI := hide hL.lsts
  have hlen := hL.1
  obtain ⟨_, a, cap, rfl, hc⟩ := hL
  have HC := hide hc
  have HLL : Hid (∀ i, i < L.length → (L.getD i []).length ≤ 4611686018427387904) := fun i hi => by
    obtain ⟨g, o, _, _, hcc⟩ := hc (by omega)
    obtain ⟨u, _, _, _, hl⟩ := hcc i hi
    omega
  clear hc
  have HOFX := hide (fun (vo : Value) (W : World) (h : Lsts W vo L) => of_any L vo W h hlen)
  have HROX := hide (fun (W : World) (h : Lsts W (.slice a L.length cap) L) => rof_any L _ W h hlen)
  have HSLX := hide (fun (vo : Value) (W : World) (h1 : Lsts W vo L) (h2 : Lsts W (.slice a L.length cap) L) => sameLists_true L vo _ W h1 h2 (by omega) HLL.out)
  have hal := ofA_len L
  generalize ofA L = D at *
  generalize ofE L = E at *
  obtain ⟨P, fl, ce, R⟩ := D
  simp only at HOFX HROX hal
  have HSA := hide (fun W p r p' r' h1 h2 h3 h4 => same_true P R fl ce p r p' r' W h1 h2 h3 h4 (by omega) (by omega))
  have HOW := hide (fun (W : World) (base mid : Nat) (p1 r1 p2 r2 : Value) h1 h2 h3 h4 a12 a34 m1 m2 m3 m4 hb => owns_two (w := W) (base := base) (mid := mid) (p1 := p1) (r1 := r1) (p2 := p2) (r2 := r2) (P1 := P) (R1 := R) (P2 := P) (R2 := R) fl ce fl ce h1 h2 h3 h4 hal.1 hal.2 hal.1 hal.2 a12 a34 m1 m2 m3 m4 hb)
  have HTK := hide (fun k (h : k < L.length) => take_lst (l := L) h)
  have HTL : Hid (L.take L.length = L) := List.take_length
  have HTN : Hid (∀ k, k ≤ L.length → (L.take k).length = k) := fun k hk => by rw [List.length_take]; omega
  obtain ⟨n, hn⟩ : ∃ n, L.length = n := ⟨_, rfl⟩
  obtain ⟨n1, hn1⟩ : ∃ n, P.length = n := ⟨_, rfl⟩
  obtain ⟨n2, hn2⟩ : ∃ n, R.length = n := ⟨_, rfl⟩
  have HN := hide hn
  have HN1 := hide hn1
  have HN2 := hide hn2
  have hEE : (E != E) = false := by simp
  have hnn : ((n : Int) != (n : Int)) = false := by simp
  rw [hn] at HLI HC HLL HROX HSLX HTK HTL HTN hlen ⊢
  clear hn hn1 hn2 hal
  simp only [fV] at HOFX HROX HSA HOW
  go_enter Try.func9, Try.ntmps9
  go_wp2_with fail
  go_loopw [3, 4] (fun v i wx => ∃ k : Nat, k ≤ n ∧ i = .int .i64 k ∧ Hid (Own wx w.heap.size v (L.take k)) ∧ Hid (Below w.heap.size w wx)) (fun _ i _ => n - (intOf i).toNat)
  case atStart => exact ⟨0, by omega, rfl, hide (Own.nil _ _), hide (Below.refl _ _)⟩
  case round =>
    obtain ⟨k, hk, rfl, hO, hb⟩ := hrel
    have gs := hb.out.size
    by_cases hlt : k < n
    · obtain ⟨g, o, rfl, hg, hcc⟩ := HC.out (by omega)
      obtain ⟨u, hu, hI, hnil, hl8⟩ := hcc k hlt
      have d0 := (hb.out.cell (p := ⟨g, o + k, none⟩) hg).trans hu
      have LN := lentI_any (L.getD k []) u wr (hI.below hb.out) hnil hl8
      have HTK2 := hide (HTK.out k hlt)
      obtain ⟨us, h1, h2, h3⟩ := hO.out
      obtain ⟨va, vc, rfl⟩ := hO.out.form
      rw [HTN.out k hk] at h2
      obtain ⟨ua, uc, rfl⟩ : ∃ a c, u = .slice a (L.getD k []).length c := by obtain ⟨a, c, e, _⟩ := hI; exact ⟨a, c, e⟩
      generalize hl9 : L.getD k [] = l at *
      have H3 := hide h3
      have HTNk := hide (HTN.out k hk)
      generalize hTk : L.take k = Lk at *
      rw [HTNk.out] at h1 ⊢
      obtain ⟨xl, hxl⟩ : ∃ xl, l.length = xl := ⟨_, rfl⟩
      have HXL := hide hxl
      rw [hxl] at LN d0
      clear hcc hu hI hnil hl8 hl9 hTk h3 hxl
      go_wp2_with fail
      refine LN.mono ?_
      rintro e w2 ⟨rfl, hR2, hb2⟩
      have HR2 : Hid (LRow w2 wr.heap.size l) := hide (LRow.of (base := wr.heap.size) (by rw [HXL.out]; exact hR2))
      have hb3 := below_next hb.out (Nat.le_refl _) hb2
      have hX : Below w2.heap.size w2 (w2.alloc (.cells #[.slice (some ⟨wr.heap.size, 0, none⟩) xl (xl + 4)] 53)) := below_alloc w2 _
      have hb4 := below_next hb2 (Nat.le_refl _) hX
      have h1' := World.ownsRow.kept h1 (grown_below hb4 none) (by cases va <;> simp [Value.ownBlock])
      have HH1 := hide h1'
      have HB4 := hide (below_next hb3 (Nat.le_refl _) hX)
      have HR4 := hide (HR2.out.below hX)
      have H34 := hide (fun i hi => (let ⟨q, qa, qb⟩ := H3.out i hi; (⟨q, qa, qb.below hb4⟩ : ∃ q, us.getD i undef = lenV q (Lk.getD i []) ∧ LRow (w2.alloc (.cells #[.slice (some ⟨wr.heap.size, 0, none⟩) xl (xl + 4)] 53)) q (Lk.getD i []))))
      have hs2 := hb3.size
      have h2' : us.length ≤ n := by omega
      clear h1 h1' hX hb2 hb3 hb4 hR2 HR2 H3 d0 LN
      go_wp2_with (at_builtin; refine wpList_append_own _ rfl (.tmp 18) (.tmp 24) 52 rfl w.heap.size 53 i0 _ 1 24 Try.underlying52 hi hz0 hz1 hz2 rfl (by decide) _ _ _ rfl HH1.out ⟨w2.heap.size, 0, none⟩ 1 1 [.slice (some ⟨wr.heap.size, 0, none⟩) xl (xl + 4)] rfl rfl ?c1 ?c2 ?c3 ?c4 ?c5 ?_)
      try (case c1 => exact new_cell1 _ _ rfl _ _)
      case c2 => first | rfl | (intro u hu; simp at hu; subst hu; rfl)
      case c3 => unfold maxLen; omega
      case c4 => omega
      case c5 => first | omega | (rw [size_alloc]; omega)
      intro v9 w9 hown9 hgrow9 _
      have HO9 : Hid (Own w9 w.heap.size v9 (L.take (k + 1))) := hide (by
        rw [HTK2.out]
        refine Own.more HH1.out (by rw [HTNk.out]; exact h2) H34.out HR4.out ?_ hgrow9
        unfold lenV
        rw [HXL.out, h2]
        exact hown9)
      have HB9 : Hid (Below w.heap.size w w9) := hide (HB4.out.grown hgrow9 (by have := HB4.out.size; omega) (fun j e => (HH1.out.lt j e).1))
      obtain ⟨va9, vc9, rfl⟩ := HO9.out.form
      generalize (L.take (k + 1)).length = l9 at *
      clear hown9 hgrow9 HH1 H34 HR4 HB4 hi hz0 hz1 hz2
      go_wp2_with fail
      go_roundw
      case rel => exact ⟨k + 1, by omega, by go_num, HO9, HB9⟩
      case measure => simp [intOf]; omega
    · have HO : Hid (Own wr w.heap.size u3 L) := hide (by
        have e : k = n := by omega
        have := hO.out
        rw [e, HTL.out] at this
        exact this)
      obtain ⟨va, vc, e3⟩ := HO.out.form
      rw [HN.out] at e3
      subst e3
      clear hO hi hz0 hz1 hz2
      have HLO : Hid (∀ W, Below wr.heap.size wr W → Lsts W (.slice va n vc) L) := fun W hb => HO.out.lsts.below hb
      have HLJ : Hid (∀ W, Below wr.heap.size wr W → Lsts W (.slice a n cap) L) := fun W hb2 => HLI.out.below (below_next hb.out (Nat.le_refl _) hb2)
      have HBo := hide hb.out
      obtain ⟨wo, rfl⟩ : ∃ wo, wo = wr := ⟨_, rfl⟩
      obtain ⟨ko, rfl⟩ : ∃ ko, ko = k := ⟨_, rfl⟩
      clear hb
      go_wp2_with fail
      refine (HOFX.out _ _ (HLO.out _ (Below.refl _ _))).mono ?_
      rintro e w1 ⟨p1, r1, rfl, hp1, hr1, ha1, HB⟩
      obtain ⟨ap1, cp1, e1⟩ := hp1.form
      obtain ⟨ar1, cr1, e2⟩ := hr1.form
      rw [HN1.out] at e1
      rw [HN2.out] at e2
      subst e1 e2
      have mp1 := fun g e => (World.ownsRow.lt hp1 g e).2
      have mr1 := fun g e => (World.ownsRow.lt hr1 g e).2
      obtain ⟨W1, hW1⟩ : ∃ W1, w1.alloc (.cells #[.slice ap1 n1 cp1, .int .i64 fl, .int .i64 ce, .slice ar1 n2 cr1] 24) = W1 := ⟨_, rfl⟩
      have B1 : Blk W1 w1.heap.size #[.slice ap1 n1 cp1, .int .i64 fl, .int .i64 ce, .slice ar1 n2 cr1] 24 := hW1 ▸ Blk.new w1 _ _
      have hx1 : Below w1.heap.size w1 W1 := hW1 ▸ below_alloc w1 _
      replace hp1 := hp1.below hx1
      replace hr1 := hr1.below hx1
      replace HB := below_next HB (Nat.le_refl _) hx1
      have hs1 := hx1.size
      have hs0 := HB.size
      clear hx1
      go_wp2_with fail
      try rw [hW1]
      clear hW1
      generalize w1.heap.size = G1 at *
      refine (HOFX.out _ _ (HLO.out _ HB)).mono ?_
      rintro e w2 ⟨p2, r2, rfl, hp2, hr2, ha2, hb2⟩
      obtain ⟨ap2, cp2, e1⟩ := hp2.form
      obtain ⟨ar2, cr2, e2⟩ := hr2.form
      rw [HN1.out] at e1
      rw [HN2.out] at e2
      subst e1 e2
      have mp2 := fun g e => (World.ownsRow.lt hp2 g e).1
      have mr2 := fun g e => (World.ownsRow.lt hr2 g e).1
      replace B1 := B1.after hb2
      replace hp1 := hp1.below hb2
      replace hr1 := hr1.below hb2
      replace HB := below_next HB (Nat.le_refl _) hb2
      clear hb2
      obtain ⟨W2, hW2⟩ : ∃ W2, w2.alloc (.cells #[.slice ap2 n1 cp2, .int .i64 fl, .int .i64 ce, .slice ar2 n2 cr2] 24) = W2 := ⟨_, rfl⟩
      have B2 : Blk W2 w2.heap.size #[.slice ap2 n1 cp2, .int .i64 fl, .int .i64 ce, .slice ar2 n2 cr2] 24 := hW2 ▸ Blk.new w2 _ _
      have hx2 : Below w2.heap.size w2 W2 := hW2 ▸ below_alloc w2 _
      replace B1 := B1.after hx2
      replace hp1 := hp1.below hx2
      replace hr1 := hr1.below hx2
      replace hp2 := hp2.below hx2
      replace hr2 := hr2.below hx2
      replace HB := below_next HB (Nat.le_refl _) hx2
      clear hx2
      go_wp2_with fail
      try rw [hW2]
      clear hW2
      generalize w2.heap.size = G2 at *
      refine (HROX.out _ (HLJ.out _ HB)).mono ?_
      rintro e w3 ⟨p3, r3, rfl, hp3r, hr3r, _, hb3⟩
      have hp3 := hp3r.pts
      have hr3 := hr3r.pts
      obtain ⟨ap3, cp3, e1⟩ := hp3r.form
      obtain ⟨ar3, cr3, e2⟩ := hr3r.form
      rw [HN1.out] at e1
      rw [HN2.out] at e2
      subst e1 e2
      clear hp3r hr3r
      replace B1 := B1.after hb3
      replace B2 := B2.after hb3
      replace hp1 := hp1.below hb3
      replace hr1 := hr1.below hb3
      replace hp2 := hp2.below hb3
      replace hr2 := hr2.below hb3
      replace HB := below_next HB (Nat.le_refl _) hb3
      clear hb3
      obtain ⟨W3, hW3⟩ : ∃ W3, w3.alloc (.cells #[.slice ap3 n1 cp3, .int .i64 fl, .int .i64 ce, .slice ar3 n2 cr3] 24) = W3 := ⟨_, rfl⟩
      have B3 : Blk W3 w3.heap.size #[.slice ap3 n1 cp3, .int .i64 fl, .int .i64 ce, .slice ar3 n2 cr3] 24 := hW3 ▸ Blk.new w3 _ _
      have hx3 : Below w3.heap.size w3 W3 := hW3 ▸ below_alloc w3 _
      replace B1 := B1.after hx3
      replace B2 := B2.after hx3
      replace hp1 := hp1.below hx3
      replace hr1 := hr1.below hx3
      replace hp2 := hp2.below hx3
      replace hr2 := hr2.below hx3
      replace hp3 := hp3.below hx3
      replace hr3 := hr3.below hx3
      replace HB := below_next HB (Nat.le_refl _) hx3
      clear hx3
      have a0 := B1.cell 0 rfl
      have a1 := B1.cell 1 rfl
      have a2 := B1.cell 2 rfl
      have a3 := B1.cell 3 rfl
      have d0 := B3.cell 0 rfl
      have d1 := B3.cell 1 rfl
      have d2 := B3.cell 2 rfl
      have d3 := B3.cell 3 rfl
      go_wp2_with fail
      clear a0 a1 a2 a3 d0 d1 d2 d3
      try rw [hW3]
      clear hW3
      generalize w3.heap.size = G3 at *
      refine (HSA.out _ _ _ _ _ hp1.pts hr1.pts hp3 hr3).mono ?_
      rintro e w4 ⟨rfl, hb4⟩
      replace B1 := B1.after hb4
      replace B2 := B2.after hb4
      replace B3 := B3.after hb4
      replace hp1 := hp1.below hb4
      replace hr1 := hr1.below hb4
      replace hp2 := hp2.below hb4
      replace hr2 := hr2.below hb4
      replace hp3 := hp3.below hb4
      replace hr3 := hr3.below hb4
      replace HB := below_next HB (Nat.le_refl _) hb4
      clear hb4
      have a0 := B2.cell 0 rfl
      have a1 := B2.cell 1 rfl
      have a2 := B2.cell 2 rfl
      have a3 := B2.cell 3 rfl
      have d0 := B3.cell 0 rfl
      have d1 := B3.cell 1 rfl
      have d2 := B3.cell 2 rfl
      have d3 := B3.cell 3 rfl
      go_wp2_with fail
      clear a0 a1 a2 a3 d0 d1 d2 d3
      refine (HSA.out _ _ _ _ _ hp2.pts hr2.pts hp3 hr3).mono ?_
      rintro e w5 ⟨rfl, hb5⟩
      replace B1 := B1.after hb5
      replace B2 := B2.after hb5
      replace hp1 := hp1.below hb5
      replace hr1 := hr1.below hb5
      replace hp2 := hp2.below hb5
      replace hr2 := hr2.below hb5
      replace HB := below_next HB (Nat.le_refl _) hb5
      clear hb5
      clear B3 hp3 hr3
      have HOC : Hid (0 < n → ∃ g, va = some ⟨g, 0, none⟩ ∧ g < w5.heap.size ∧ ∀ i, i < n → ∃ q, w5.cell? ⟨g, i, none⟩ = some (lenV q (L.getD i [])) ∧ LRow w5 q (L.getD i [])) := fun h0 => by
        obtain ⟨a9, c9, e9, h9⟩ := (HO.out.below HB).cells
        rw [HN.out] at h9
        injection e9 with e9 _ _
        subst e9
        exact h9 h0
      have HIC : Hid (0 < n → ∃ g o, a = some ⟨g, o, none⟩ ∧ g < w5.heap.size ∧ ∀ i, i < n → ∃ u, w5.cell? ⟨g, o + i, none⟩ = some u ∧ Ints w5 u (L.getD i [])) := fun h0 => by
        obtain ⟨a9, c9, e9, h9⟩ := HLJ.out _ HB
        rw [HN.out] at h9
        injection e9 with e9 _ _
        subst e9
        exact h9 h0
      go_wp2_with fail
      go_loopw [11] (fun i wx => ∃ k : Nat, k ≤ n ∧ i = .int .i64 k ∧ Hid (Below w5.heap.size w5 wx)) (fun i _ => n - (intOf i).toNat)
      case atStart => exact ⟨0, by omega, rfl, hide (Below.refl _ _)⟩
      case round =>
        obtain ⟨k, hk, rfl, hb⟩ := hrel
        have gs := hb.out.size
        by_cases hlt2 : k < n
        · obtain ⟨ga, rfl, hga, hca⟩ := HOC.out (by omega)
          obtain ⟨gb, ob, rfl, hgb, hcb⟩ := HIC.out (by omega)
          obtain ⟨q, hx, hxi⟩ := hca k hlt2
          obtain ⟨y, hy, hyi⟩ := hcb k hlt2
          have c0 := fun z : BelowW wr => z.cell ((hb.out.cell (p := ⟨ga, k, none⟩) hga).trans hx) (by omega)
          have c1 := fun z : BelowW wr => z.cell ((hb.out.cell (p := ⟨gb, ob + k, none⟩) hgb).trans hy) (by omega)
          have hne : Nonempty (BelowW wr) := ⟨⟨wr, Below.refl _ _⟩⟩
          have SI := fun z : BelowW wr => kept_below (L.getD k []) y z.q q ((hxi.below hb.out).below z.h) ((hyi.below hb.out).below z.h) (HLL.out k hlt2)
          obtain ⟨y1, y2, rfl⟩ : ∃ a c, y = .slice a (L.getD k []).length c := by obtain ⟨a, c, e, _⟩ := hyi; exact ⟨a, c, e⟩
          unfold lenV at c0 SI
          generalize (L.getD k []).length = xl at *
          clear hca hcb hx hy hxi hyi HOC HIC
          go_wp2_with fail
          refine wp_region_calm (by kernel_rfl) (by kernel_rfl) ?_
          repeat (go_big_quiet_step (first | (go_at_call 36; exact calm_of (SI _))))
          refine wpQuiet_nil ?_
          rintro w6 ⟨⟨q3, hq⟩, e3⟩
          have e4 : w6 = q3 := e3
          clear e3
          subst e4
          have hb5 := below_next hb.out (Nat.le_refl _) hq
          clear c0 c1 hne SI
          go_wp2_with fail
          go_roundw
          case rel => exact ⟨k + 1, by omega, by go_num, hide hb5⟩
          case measure => simp [intOf]; omega
        · have hb6 := hb.out
          clear hb HOC HIC
          replace B1 := B1.after hb6
          replace B2 := B2.after hb6
          replace hp1 := hp1.below hb6
          replace hr1 := hr1.below hb6
          replace hp2 := hp2.below hb6
          replace hr2 := hr2.below hb6
          replace HB := below_next HB (Nat.le_refl _) hb6
          clear hb6
          go_wp2_with fail
          refine (AW _).mono ?_
          rintro e w7 ⟨rfl, hb7⟩
          replace B1 := B1.after hb7
          replace B2 := B2.after hb7
          replace hp1 := hp1.below hb7
          replace hr1 := hr1.below hb7
          replace hp2 := hp2.below hb7
          replace hr2 := hr2.below hb7
          replace HB := below_next HB (Nat.le_refl _) hb7
          clear hb7
          have a0 := B1.cell 0 rfl
          have a1 := B1.cell 1 rfl
          have a2 := B1.cell 2 rfl
          have a3 := B1.cell 3 rfl
          have d0 := B2.cell 0 rfl
          have d1 := B2.cell 1 rfl
          have d2 := B2.cell 2 rfl
          have d3 := B2.cell 3 rfl
          have hsz := HB.size
          go_wp2_with fail
          clear a0 a1 a2 a3 d0 d1 d2 d3
          refine (HOW.out _ wo.heap.size W1.heap.size _ _ _ _ hp1 hr1 (hp2.mono hs0) (hr2.mono hs0) ha1 ha2 (fun g e => by have := mp1 g e; omega) (fun g e => by have := mr1 g e; omega) mp2 mr2 hsz).mono ?_
          rintro e w8 ⟨rfl, hb8⟩
          have HB8 := HB.trans hb8
          go_wp2_with fail
          refine (HSLX.out _ _ (HLO.out _ HB8) (HLJ.out _ HB8)).mono ?_
          rintro e w9 ⟨rfl, hb9⟩
          go_wp2_with fail
          go_ret
          exact ⟨rfl, below_next HBo.out (Nat.le_refl _) (below_next HB8 (Nat.le_refl _) hb9)⟩
end Go.Proofs.Ytnenbbkkhnlgbaa
