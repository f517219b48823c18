/- ParamsSets. -/
import Derived.Test.YtfhcfngogfefjaaPa9
namespace Go.Proofs.Ytfhcfngogfefjaa
open Go.RowKit Go.Great

/-- a list that was lent, as a row of its own -/
theorem IRow.lent {w : World} {base g : Nat} {l : List Int} (h : IRow w base (.slice (some ⟨g, 0, none⟩) (l.length + 4) (l.length + 4)) (mk4 l 4)) : IRow w base (.slice (some ⟨g, 0, none⟩) l.length (l.length + 4)) l := by
  refine ⟨by rw [List.length_map, Nat.mul_one], .inr ?_⟩
  rcases h.2 with ⟨h1, _⟩ | ⟨g', cap, cur, h1, h2, h3, h4, h5, h6, h7⟩
  · cases h1
  · injection h1 with e1 e2 e3
    injection e1 with e1
    injection e1 with e1 _ _
    subst e1 e3
    refine ⟨g, l.length + 4, cur, rfl, h2, h3, by omega, h5, h6, ?_⟩
    have h8 : (cur.toList.take ((mk4 l 4).length * 1)).take (l.length * 1) = ((mk4 l 4).map (Value.int .i64)).take (l.length * 1) := by rw [h7]
    rw [List.take_take, mk4_len, Nat.mul_one, Nat.mul_one, Nat.min_eq_left (by omega)] at h8
    rw [Nat.mul_one, h8]
    unfold mk4
    rw [List.map_append, List.take_append_of_le_length (by rw [List.length_map]; omega), List.take_of_length_le (by rw [List.length_map]; omega)]
/-- the world within ParamsSets -/
def SeW (w : World) (v : Value) (l : List Int) (out : Value) (D : List Int) (wx : World) : Prop := Below w.heap.size w wx ∧ Ints wx v l ∧ IRow wx w.heap.size out D ∧ IRow wx w.heap.size (.slice (some ⟨w.heap.size, 0, none⟩) (l.length + 4) (l.length + 4)) (mk4 l 4)
theorem SeW.next {w : World} {v : Value} {l : List Int} {out : Value} {D : List Int} {wx wy : World} (h : SeW w v l out D wx) (hb : Below wx.heap.size wx wy) : SeW w v l out D wy :=
  ⟨below_next h.1 (Nat.le_refl _) hb, h.2.1.below hb, h.2.2.1.below hb, h.2.2.2.below hb⟩
theorem SeW.drewN {w : World} {v : Value} {l : List Int} {out : Value} {D : List Int} {wx : World} (h : SeW w v l out D wx) (q : Nat) : SeW w v l out D (wx.drewN q) :=
  ⟨below_drewN h.1 q, h.2.1.drewN q, h.2.2.1.drewN q, h.2.2.2.drewN q⟩
theorem setE_len (l : List Int) (i x : Int) : (setE l i x).1.length ≤ 24 := by
  rcases setE_cases l i x with ⟨_, hE⟩ | ⟨_, _, hE⟩ | ⟨k, hs, _, _, hE⟩
  · rw [hE]; simp
  · rw [hE]; simp
  · rw [hE]
    simp only
    unfold souE
    split
    · rw [List.length_set, hs.len]; omega
    · simp
set_option maxRecDepth 100000 in
set_option maxHeartbeats 600000 in
theorem sets_no (l : List Int) (i x : Int) (v : Value) (w : World) (hi : IntsIn w v l) (hne0 : (setE l i x).2 ≠ 0) : Calls Try.prog 5 #[v, .int .i64 i, .int .i64 x] w fun e w' => e = .returned (.bool true) ∧ Below w.heap.size w w' := by
  obtain ⟨hv, hn, hlen⟩ := hi
  have HV := hide hv
  have HL := hide (lent_any l v w hv hn hlen)
  have H1 := hide (pset_any l i x)
  have H2 := hide (rset_any l i x)
  have HK := hide (fun v w base g hR hv => kept_true l v w base g hR hv (by omega))
  have HA := hide awake_any
  have hsl := setE_len l i x
  generalize setE l i x = d at H1 H2 hne0 hsl
  obtain ⟨D, c⟩ := d
  simp only at H1 H2 hne0 hsl
  have HSm := hide (fun u v W hu hv => sameInts_true D u v W hu hv (by omega))
  have hcc : (c != c) = false := by simp
  have hne : (c != 0) = true := by simp [hne0]
  obtain ⟨av, cap, rfl, _⟩ := hv
  obtain ⟨n, HN⟩ : ∃ n, Hid (l.length = n) := ⟨_, rfl⟩
  rw [HN.out] at HL HV HK ⊢
  clear hn hlen hne0 hsl
  go_enter Try.func5, Try.ntmps5
  go_wp2_with fail
  refine HL.out.mono ?_
  rintro e w1 ⟨rfl, hR1, hB1⟩
  have HB1 := hide hB1
  have HR1 := hide hR1
  have HI1 : Hid (Ints w1 (.slice (some ⟨w.heap.size, 0, none⟩) n (n + 4)) l) := by
    have := lent_ints (l := l) (w := w1) (base := w.heap.size) (g := w.heap.size) (c := n + 4) (by rw [HN.out]; exact hR1)
    rw [HN.out] at this
    exact this
  clear hR1 hB1 HL
  go_wp2_with fail
  refine (H1.out _ _ HI1.out).mono ?_
  rintro e w2 ⟨u2, rfl, hR2, hB2⟩
  have HW2 : Hid (SeW w (.slice av n cap) l u2 D w2) := ⟨below_next HB1.out (Nat.le_refl _) hB2, (HV.out.below HB1.out).below hB2, hR2.lower HB1.out.size, by rw [HN.out]; exact HR1.out.below hB2⟩
  obtain ⟨a2, c2, hu2⟩ := hR2.shape
  obtain ⟨m, HM⟩ : ∃ m, Hid (D.length = m) := ⟨_, rfl⟩
  rw [HM.out] at hu2
  subst hu2
  clear hR2 hB2 HB1 HR1 HI1 HV H1
  go_wp2_with fail
  refine (H2.out _ _ HW2.out.2.1).mono ?_
  rintro e w3 ⟨u3, rfl, hR3, hB3⟩
  have HW3 := hide (HW2.out.next hB3)
  have HR3 := hide hR3
  obtain ⟨a3, c3, hu3⟩ := hR3.shape
  rw [HM.out] at hu3
  subst hu3
  clear hR3 hB3 HW2 H2
  go_wp2_with fail
  refine (HK.out _ _ _ _ (by have := HW3.out.2.2.2; rw [HN.out] at this; exact this) HW3.out.2.1).mono ?_
  rintro e w4 ⟨rfl, q, hw4⟩
  have HW4 : Hid (SeW w (.slice av n cap) l (.slice a2 m c2) D w4) := by rw [hw4]; exact HW3.out.drewN q
  have HI4 : Hid (Ints w4 (.slice a3 m c3) D) := by rw [hw4]; exact HR3.out.ints.drewN q
  clear hw4 HW3 HR3 HK
  go_wp2_with fail
  refine (HSm.out _ _ _ HW4.out.2.2.1.ints HI4.out).mono ?_
  rintro e w5 ⟨rfl, q, hw5⟩
  have HW5 : Hid (SeW w (.slice av n cap) l (.slice a2 m c2) D w5) := by rw [hw5]; exact HW4.out.drewN q
  clear hw5 HW4 HI4
  go_wp2_with fail
  refine (HA.out _).mono ?_
  rintro e w6 ⟨rfl, hB6⟩
  have HW6 := hide (HW5.out.next hB6)
  clear hB6
  go_wp2_with fail
  go_ret
  exact ⟨rfl, HW6.out.1⟩
set_option maxRecDepth 100000 in
set_option maxHeartbeats 1000000 in
theorem sets_ok (l : List Int) (k0 : Nat) (hk0 : k0 < 24) (x : Int) (hs : Sound l) (hD : Sound (l.set k0 x)) (v : Value) (w : World) (hi : IntsIn w v l) (hE : setE l (k0 : Int) x = (l.set k0 x, 0)) : Calls Try.prog 5 #[v, .int .i64 (k0 : Int), .int .i64 x] w fun e w' => e = .returned (.bool true) ∧ Below w.heap.size w w' := by
  obtain ⟨hv, hn, hlen⟩ := hi
  have HV := hide hv
  have HL := hide (lent_any l v w hv hn hlen)
  have H1 := hide (pset_any l k0 x)
  have H2 := hide (rset_any l k0 x)
  have HK := hide (fun v w base g hR hv => kept_true l v w base g hR hv (by omega))
  have HA := hide awake_any
  have HC := hide (check_any (l.set k0 x))
  rw [hD.chk] at HC
  rw [hE] at H1 H2
  simp only at H1 H2
  have HSet : Hid (∀ t, (l.set k0 x).getD t 0 = if t = k0 then x else l.getD t 0) := fun t => set_at l k0 t x (by rw [hs.len]; exact hk0)
  have HDL : Hid ((l.set k0 x).length = 24) := hD.len
  obtain ⟨D, HDD⟩ : ∃ D, Hid (l.set k0 x = D) := ⟨_, rfl⟩
  rw [HDD.out] at H1 H2 HC HSet HDL
  have HSm := hide (fun u v W hu hv => sameInts_true D u v W hu hv (by have := HDL.out; omega))
  have HLL := hide hs.len
  obtain ⟨av, cap, rfl, _⟩ := hv
  rw [HLL.out] at HL HV HK ⊢
  clear hn hlen hs hD hE
  go_enter Try.func5, Try.ntmps5
  go_wp2_with fail
  refine HL.out.mono ?_
  rintro e w1 ⟨rfl, hR1, hB1⟩
  have HB1 := hide hB1
  have HR1 := hide hR1
  have HI1 : Hid (Ints w1 (.slice (some ⟨w.heap.size, 0, none⟩) 24 28) l) := by
    have := lent_ints (l := l) (w := w1) (base := w.heap.size) (g := w.heap.size) (c := 28) (by rw [HLL.out]; exact hR1)
    rw [HLL.out] at this
    exact this
  have hlt1 : w.heap.size < w1.heap.size := hR1.lt0
  clear hR1 hB1 HL
  go_wp2_with fail
  refine (H1.out _ _ HI1.out).mono ?_
  rintro e w2 ⟨u2, rfl, hR2, hB2⟩
  have HW2 : Hid (SeW w (.slice av 24 cap) l u2 D w2) := ⟨below_next HB1.out (Nat.le_refl _) hB2, (HV.out.below HB1.out).below hB2, hR2.lower HB1.out.size, by rw [HLL.out]; exact HR1.out.below hB2⟩
  have HAP : Hid (∀ g, u2.ownBlock = some g → (Value.slice (some ⟨w.heap.size, 0, none⟩) 24 28).ownBlock ≠ some g) := by
    intro g e1 e2
    have h1 := (World.ownsRow.lt hR2 g e1).1
    have h2 : w.heap.size = g := by cases e2; rfl
    omega
  obtain ⟨a2, c2, hu2⟩ := hR2.shape
  rw [HDL.out] at hu2
  subst hu2
  clear hR2 hB2 HB1 HR1 HI1 HV H1 hlt1
  go_wp2_with fail
  refine (H2.out _ _ HW2.out.2.1).mono ?_
  rintro e w3 ⟨u3, rfl, hR3, hB3⟩
  have HW3 := hide (HW2.out.next hB3)
  have HR3 := hide hR3
  obtain ⟨a3, c3, hu3⟩ := hR3.shape
  rw [HDL.out] at hu3
  subst hu3
  clear hR3 hB3 HW2 H2
  go_wp2_with fail
  refine (HK.out _ _ _ _ (by have := HW3.out.2.2.2; rw [HLL.out] at this; exact this) HW3.out.2.1).mono ?_
  rintro e w4 ⟨rfl, q, hw4⟩
  have HW4 : Hid (SeW w (.slice av 24 cap) l (.slice a2 24 c2) D w4) := by rw [hw4]; exact HW3.out.drewN q
  have HI4 : Hid (Ints w4 (.slice a3 24 c3) D) := by rw [hw4]; exact HR3.out.ints.drewN q
  clear hw4 HW3 HR3 HK
  go_wp2_with fail
  refine (HSm.out _ _ _ HW4.out.2.2.1.ints HI4.out).mono ?_
  rintro e w5 ⟨rfl, q, hw5⟩
  have HW5 : Hid (SeW w (.slice av 24 cap) l (.slice a2 24 c2) D w5) := by rw [hw5]; exact HW4.out.drewN q
  clear hw5 HW4 HI4 HSm
  go_wp2_with fail
  go_loopw [13] (fun i wx => ∃ k : Nat, k ≤ 24 ∧ i = .int .i64 k ∧ SeW w (.slice av 24 cap) l (.slice a2 24 c2) D wx) (fun i _ => 24 - (intOf i).toNat)
  case atStart => exact ⟨0, by omega, rfl, HW5.out⟩
  case round =>
    obtain ⟨k, hk, rfl, hW⟩ := hrel
    have HW := hide hW
    clear hW HW5
    by_cases hlt : k < 24
    · obtain ⟨g1, o1, cp1, e1, _, hc1⟩ := HW.out.2.1.open24 HLL.out
      obtain ⟨g2, o2, cp2, e2, _, hc2⟩ := HW.out.2.2.1.ints.open24 HDL.out
      injection e1 with e1 _ e3
      injection e2 with e2 _ e4
      subst e1 e3 e2 e4
      have x1 := hc1 k hlt
      have x2 := hc2 k hlt
      rw [HSet.out k] at x2
      clear hc1 hc2
      by_cases hkk : k = k0
      · rw [if_pos hkk] at x2
        have f1 : ((k : Int) == (k0 : Int)) = true := by simp [hkk]
        have f2 : ((k : Int) != (k0 : Int)) = false := by simp [hkk]
        have f3 : (x != x) = false := by simp
        clear hkk
        go_wp2_with fail
        go_quiet (fail)
        have HWn := hide (HW.out.drewN nq)
        go_wp2_with fail
        go_roundw
        case rel => exact ⟨k + 1, by omega, by go_num, HWn.out⟩
        case measure => simp [intOf]; omega
      · rw [if_neg hkk] at x2
        generalize l.getD k 0 = y at x1 x2
        have f1 : ((k : Int) == (k0 : Int)) = false := by simp; omega
        have f2 : ((k : Int) != (k0 : Int)) = true := by simp; omega
        have f3 : (y != y) = false := by simp
        clear hkk
        go_wp2_with fail
        go_quiet (fail)
        have HWn := hide (HW.out.drewN nq)
        go_wp2_with fail
        go_roundw
        case rel => exact ⟨k + 1, by omega, by go_num, HWn.out⟩
        case measure => simp [intOf]; omega
    · obtain rfl : k = 24 := by omega
      go_wp2_with fail
      refine (HC.out _ _ HW.out.2.2.1.ints).mono ?_
      rintro e w6 ⟨rfl, hB6⟩
      have HW6 := hide (HW.out.next hB6)
      clear hB6
      go_wp2_with fail
      have ha := below_alloc w6 (.cells #[.slice a2 24 c2, .slice (some ⟨w.heap.size, 0, none⟩) 24 28] 22)
      have HRo : Hid (IRow w6 w.heap.size (.slice (some ⟨w.heap.size, 0, none⟩) 24 28) l) := by
        have := IRow.lent HW6.out.2.2.2
        rw [HLL.out] at this
        exact this
      refine (apart_true 24 (by omega) (.slice a2 24 c2) (.slice (some ⟨w.heap.size, 0, none⟩) 24 28) D l HDL.out HLL.out _ w.heap.size (HW6.out.2.2.1.below ha) (HRo.out.below ha) HAP.out w6.heap.size (heap_alloc_new _ _) HW6.out.1.size).mono ?_
      rintro e w7 ⟨rfl, hB7⟩
      have HB7 : Hid (Below w.heap.size w w7) := (HW6.out.1.alloc HW6.out.1.size _).trans hB7
      clear hB7 ha
      go_wp2_with fail
      refine (HA.out _).mono ?_
      rintro e w8 ⟨rfl, hB8⟩
      have HB8 : Hid (Below w.heap.size w w8) := below_next HB7.out (Nat.le_refl _) hB8
      clear hB8
      go_wp2_with fail
      go_ret
      exact ⟨rfl, HB8.out⟩
theorem ParamsSets_walk (v : Value) (i x : Int) (w : World) (h : ∃ l, IntsIn w v l) : Calls Try.prog 5 #[v, .int .i64 i, .int .i64 x] w fun e w' => e = .returned (.bool true) ∧ Below w.heap.size w w' := by
  obtain ⟨l, hl⟩ := h
  by_cases hz : (setE l i x).2 = 0
  · rcases setE_cases l i x with ⟨hc, hE⟩ | ⟨hs, hin, hE⟩ | ⟨k, hs, rfl, hk, hE⟩
    · rw [hE] at hz; exact absurd hz hc
    · rw [hE] at hz; exact absurd hz (by decide)
    · rw [hE] at hz
      simp only at hz
      exact sets_ok l k hk x hs (sound_of hz) v w hl (by rw [hE]; unfold souE; rw [if_pos hz, hz])
  · exact sets_no l i x v w hl hz
end Go.Proofs.Ytfhcfngogfefjaa
