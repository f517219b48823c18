/- The document's polygons: the corner behind one, sides that share too much. -/
import Derived.Test.YtohepelnbmojiaaGeT
namespace Go.Proofs.Ytohepelnbmojiaa
open Go.RowKit Go.Great

set_option maxHeartbeats 1000000 in
theorem rnext_any (g o m cap k : Nat) (l : List Pt) (w : World) (hp : Poly w g o m cap l) (hk : k < m) : Calls Try.prog 46 #[slc g o m cap, .int .i64 (k : Int)] w fun e w' => e = .returned (.agg #[.int .i64 (ptx l (nxt m k)), .int .i64 (pty l (nxt m k))]) ∧ Below w.heap.size w w' := by
  have h0 : (m : Int) ≠ 0 := by omega
  have hrem : ((k : Int) + 1) % (m : Int) = ((nxt m k : Nat) : Int) := rfl
  have hnl : ((nxt m k : Nat) : Int) < m := by have := nxt_lt (k := k) hp.pos; omega
  obtain ⟨c0, c1⟩ := hp.at' _ (nxt_lt (k := k) hp.pos)
  have hm := hp.most
  have hg := hp.lt
  clear hp
  generalize ptx l (nxt m k) = x at *
  generalize pty l (nxt m k) = y at *
  generalize nxt m k = kn at *
  go_enter Try.func46, Try.ntmps46
  go_wp2_with fail
  exact bodyPost_ret (pt_back (p := 4) (by kernel_rfl) _ _ w.heap.size _ _ rfl (Blk.new _ _ _)) rfl ⟨rfl, below_alloc _ _⟩
/-- two sides share more than they may, as the document looks -/
def rtanB (l : List Pt) (m i j : Nat) : Bool :=
  if j = i + 1 then onB (pt l i) (pt l (nxt m i)) (pt l (nxt m j)) || onB (pt l j) (pt l (nxt m j)) (pt l i)
  else if i = 0 ∧ j + 1 = m then onB (pt l i) (pt l (nxt m i)) (pt l j) || onB (pt l j) (pt l (nxt m j)) (pt l (nxt m i))
  else comB (pt l i) (pt l (nxt m i)) (pt l j) (pt l (nxt m j))
set_option maxRecDepth 100000 in
set_option maxHeartbeats 4000000 in
theorem tangled_any (g o m cap i j : Nat) (l : List Pt) (hfit : ∀ k, k < m → Fit (pt l k)) (hi : i < j) (hj : j < m) (w : World) (hp : Poly w g o m cap l) : Calls Try.prog 47 #[slc g o m cap, .int .i64 (i : Int), .int .i64 (j : Int)] w fun e w' => e = .returned (.bool (rtanB l m i j)) ∧ Below w.heap.size w w' := by
  have NX := fun k (hk : k < m) W' (hb : Below w.heap.size w W') => rnext_any g o m cap k l W' (hp.below hb) hk
  have NI := NX i (by omega)
  have NJ := NX j hj
  have fi := hfit i (by omega)
  have fni := hfit _ (nxt_lt (k := i) hp.pos)
  have fj := hfit j hj
  have fnj := hfit _ (nxt_lt (k := j) hp.pos)
  have O1 := ron_any (pt l i) (pt l (nxt m i)) (pt l (nxt m j)) fi fni fnj
  have O2 := ron_any (pt l j) (pt l (nxt m j)) (pt l i) fj fnj fi
  have O3 := ron_any (pt l i) (pt l (nxt m i)) (pt l j) fi fni fj
  have O4 := ron_any (pt l j) (pt l (nxt m j)) (pt l (nxt m i)) fj fnj fni
  have CO := rcommon_any (pt l i) (pt l (nxt m i)) (pt l j) (pt l (nxt m j)) fi fni fj fnj
  obtain ⟨R, hR⟩ : ∃ R, rtanB l m i j = R := ⟨_, rfl⟩
  have HR := hide hR
  rw [hR]
  clear hR
  unfold rtanB at HR
  generalize onB (pt l i) (pt l (nxt m i)) (pt l (nxt m j)) = x1 at *
  generalize onB (pt l j) (pt l (nxt m j)) (pt l i) = x2 at *
  generalize onB (pt l i) (pt l (nxt m i)) (pt l j) = x3 at *
  generalize onB (pt l j) (pt l (nxt m j)) (pt l (nxt m i)) = x4 at *
  generalize comB (pt l i) (pt l (nxt m i)) (pt l j) (pt l (nxt m j)) = x5 at *
  obtain ⟨ci0, ci1⟩ := hp.at' i (by omega)
  have HJ := hide (hp.at' j hj)
  have hm := hp.most
  have hg := hp.lt
  clear hp hfit fi fni fj fnj NX
  simp only [pV, pt] at O1 O2 O3 O4 CO
  generalize ptx l i = ax at *
  generalize pty l i = ay at *
  generalize ptx l (nxt m i) = bx at *
  generalize pty l (nxt m i) = bz at *
  generalize ptx l j = cx at *
  generalize pty l j = cy at *
  generalize ptx l (nxt m j) = dx at *
  generalize pty l (nxt m j) = dy at *
  have hB : Below w.heap.size w w := Below.refl _ _
  go_enter Try.func47, Try.ntmps47
  go_wp2_with fail
  have A0 : Blk (w.alloc (.cells #[.int .i64 ax, .int .i64 ay] 23)) w.heap.size #[.int .i64 ax, .int .i64 ay] 23 := Blk.new _ _ _
  refine (NI _ (below_alloc _ _)).mono ?_
  rintro e w1 ⟨rfl, hb1⟩
  replace A0 := A0.after hb1
  replace hB := below_over hb1
  have hs1 := hB.size
  have cj0 := (hB.cell (p := ⟨g, o + j * 2, none⟩) hg).trans HJ.out.1
  have cj1 := (hB.cell (p := ⟨g, o + j * 2 + 1, none⟩) hg).trans HJ.out.2
  clear hb1
  have hg1 : g < w1.heap.size := by omega
  go_wp2_with fail
  clear hg1
  obtain ⟨W1, hW1, hb, B0, C0, hz⟩ := two_boxes w1 #[.int .i64 bx, .int .i64 bz] #[.int .i64 cx, .int .i64 cy] 23 23
  rw [hW1]
  clear hW1 hz
  replace A0 := A0.after hb
  replace hB := below_next hB (Nat.le_refl _) hb
  clear hb
  refine (NJ _ hB).mono ?_
  rintro e w2 ⟨rfl, hb2⟩
  replace A0 := (A0.after hb2).alloc (.cells #[.int .i64 dx, .int .i64 dy] 23)
  replace B0 := (B0.after hb2).alloc (.cells #[.int .i64 dx, .int .i64 dy] 23)
  replace C0 := (C0.after hb2).alloc (.cells #[.int .i64 dx, .int .i64 dy] 23)
  have D0 : Blk (w2.alloc (.cells #[.int .i64 dx, .int .i64 dy] 23)) w2.heap.size #[.int .i64 dx, .int .i64 dy] 23 := Blk.new _ _ _
  replace hB := below_next (below_next hB (Nat.le_refl _) hb2) (Nat.le_refl _) (below_alloc w2 (.cells #[.int .i64 dx, .int .i64 dy] 23))
  clear hb2 NI NJ cj0 cj1
  obtain ⟨W3, hW3⟩ : ∃ W3, w2.alloc (.cells #[.int .i64 dx, .int .i64 dy] 23) = W3 := ⟨_, rfl⟩
  rw [hW3] at A0 B0 C0 D0 hB
  have a0 := A0.cell 0 rfl
  have a1 := A0.cell 1 rfl
  have b0 := B0.cell 0 rfl
  have b1 := B0.cell 1 rfl
  have c0 := C0.cell 0 rfl
  have c1 := C0.cell 1 rfl
  have d0 := D0.cell 0 rfl
  have d1 := D0.cell 1 rfl
  by_cases e1 : j = i + 1
  · have HR2 := HR.out
    rw [if_pos e1] at HR2
    clear HR
    have HR := hide HR2
    clear HR2
    subst e1
    go_wp2_with fail
    try rw [hW3]
    refine (O1 _).mono ?_
    rintro e w4 ⟨rfl, hb4⟩
    have HR' := HR.out
    clear a0 a1 b0 b1 c0 c1 d0 d1 HR
    have HR := hide HR'
    clear HR'
    have a0 := (A0.after hb4).cell 0 rfl
    have a1 := (A0.after hb4).cell 1 rfl
    have b0 := (B0.after hb4).cell 0 rfl
    have b1 := (B0.after hb4).cell 1 rfl
    have c0 := (C0.after hb4).cell 0 rfl
    have c1 := (C0.after hb4).cell 1 rfl
    have d0 := (D0.after hb4).cell 0 rfl
    have d1 := (D0.after hb4).cell 1 rfl
    replace hB := below_next hB (Nat.le_refl _) hb4
    clear hb4
    cases x1
    · go_wp2_with fail
      refine (O2 _).mono ?_
      rintro e w5 ⟨rfl, hb5⟩
      go_wp2_with fail
      go_ret
      exact ⟨ret_bool (by have := HR.out; simpa using this), below_next hB (Nat.le_refl _) hb5⟩
    · go_wp2_with fail
      go_ret
      exact ⟨ret_bool (by have := HR.out; simpa using this), hB⟩
  · have hne1 : ¬ (j : Int) = (i : Int) + 1 := by omega
    by_cases e2 : i = 0 ∧ j + 1 = m
    · have HR2 := HR.out
      rw [if_neg e1, if_pos e2] at HR2
      clear HR
      have HR := hide HR2
      clear HR2
      obtain ⟨rfl, e3⟩ := e2
      have he3 : (j : Int) = (m : Int) - 1 := by omega
      go_wp2_with fail
      try rw [hW3]
      refine (O3 _).mono ?_
      rintro e w4 ⟨rfl, hb4⟩
      have HR' := HR.out
      clear a0 a1 b0 b1 c0 c1 d0 d1 HR
      have HR := hide HR'
      clear HR'
      have a0 := (A0.after hb4).cell 0 rfl
      have a1 := (A0.after hb4).cell 1 rfl
      have b0 := (B0.after hb4).cell 0 rfl
      have b1 := (B0.after hb4).cell 1 rfl
      have c0 := (C0.after hb4).cell 0 rfl
      have c1 := (C0.after hb4).cell 1 rfl
      have d0 := (D0.after hb4).cell 0 rfl
      have d1 := (D0.after hb4).cell 1 rfl
      replace hB := below_next hB (Nat.le_refl _) hb4
      clear hb4
      cases x3
      · go_wp2_with fail
        refine (O4 _).mono ?_
        rintro e w5 ⟨rfl, hb5⟩
        go_wp2_with fail
        go_ret
        exact ⟨ret_bool (by have := HR.out; simpa using this), below_next hB (Nat.le_refl _) hb5⟩
      · go_wp2_with fail
        go_ret
        exact ⟨ret_bool (by have := HR.out; simpa using this), hB⟩
    · have HR2 := HR.out
      rw [if_neg e1, if_neg e2] at HR2
      clear HR
      have HR := hide HR2
      clear HR2
      by_cases e3 : i = 0
      · subst e3
        have hne3 : ¬ (j : Int) = (m : Int) - 1 := by omega
        go_wp2_with fail
        try rw [hW3]
        refine (CO _).mono ?_
        rintro e w5 ⟨rfl, hb5⟩
        go_wp2_with fail
        go_ret
        exact ⟨ret_bool HR.out, below_next hB (Nat.le_refl _) hb5⟩
      · have hne3 : ¬ (i : Int) = 0 := by omega
        go_wp2_with fail
        try rw [hW3]
        refine (CO _).mono ?_
        rintro e w5 ⟨rfl, hb5⟩
        go_wp2_with fail
        go_ret
        exact ⟨ret_bool HR.out, below_next hB (Nat.le_refl _) hb5⟩
end Go.Proofs.Ytohepelnbmojiaa
