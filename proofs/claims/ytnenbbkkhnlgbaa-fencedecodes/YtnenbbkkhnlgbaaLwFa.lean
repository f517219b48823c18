/- FenceDecodes. -/
import Derived.Test.YtnenbbkkhnlgbaaFlW
import Derived.Test.YtnenbbkkhnlgbaaFf6
import Derived.Test.YtnenbbkkhnlgbaaFl3
namespace Go.Proofs.Ytnenbbkkhnlgbaa
open Go.RowKit Go.Great

def sel4 {α : Type} (a b c d : α) : Nat → α
  | 0 => a
  | 1 => b
  | 2 => c
  | _ => d
theorem apart_mid {a b : Value} {mid : Nat} (h1 : ∀ g, a.ownBlock = some g → g < mid) (h2 : ∀ g, b.ownBlock = some g → mid ≤ g) : ∀ g, a.ownBlock = some g → b.ownBlock ≠ some g := fun g e e2 => by
  have := h1 g e
  have := h2 g e2
  omega
theorem apart_symm {a b : Value} (h : ∀ g, a.ownBlock = some g → b.ownBlock ≠ some g) : ∀ g, b.ownBlock = some g → a.ownBlock ≠ some g := fun g e e2 => h g e2 e
theorem owns_two {w : World} {base mid : Nat} {p1 r1 p2 r2 : Value} {P1 R1 P2 R2 : List Pt} (fl ce fl' ce' : Int) (h1 : PRow w base p1 P1) (h2 : PRow w base r1 R1) (h3 : PRow w base p2 P2) (h4 : PRow w base r2 R2) (l1 : P1.length ≤ 255) (l2 : R1.length ≤ 255) (l3 : P2.length ≤ 255) (l4 : R2.length ≤ 255)
    (a12 : ∀ g, p1.ownBlock = some g → r1.ownBlock ≠ some g) (a34 : ∀ g, p2.ownBlock = some g → r2.ownBlock ≠ some g) (m1 : ∀ g, p1.ownBlock = some g → g < mid) (m2 : ∀ g, r1.ownBlock = some g → g < mid) (m3 : ∀ g, p2.ownBlock = some g → mid ≤ g) (m4 : ∀ g, r2.ownBlock = some g → mid ≤ g) (hb : base ≤ w.heap.size) : Calls Try.prog 32 #[fV p1 fl ce r1, fV p2 fl' ce' r2] w fun e w' => e = .returned (.bool true) ∧ Below base w w' := by
  refine owns_true (sel4 P1.length R1.length P2.length R2.length) ?_ (sel4 p1 r1 p2 r2) fl ce fl' ce' w base ?_ ?_ hb
  · intro j hj
    rcases lt4 hj with rfl | rfl | rfl | rfl
    · exact l1
    · exact l2
    · exact l3
    · exact l4
  · intro j hj
    rcases lt4 hj with rfl | rfl | rfl | rfl
    · exact ⟨P1, h1, rfl⟩
    · exact ⟨R1, h2, rfl⟩
    · exact ⟨P2, h3, rfl⟩
    · exact ⟨R2, h4, rfl⟩
  · intro i j hi hj hij
    rcases lt4 hi with rfl | rfl | rfl | rfl <;> rcases lt4 hj with rfl | rfl | rfl | rfl
    · exact absurd rfl hij
    · exact a12
    · exact apart_mid m1 m3
    · exact apart_mid m1 m4
    · exact apart_symm a12
    · exact absurd rfl hij
    · exact apart_mid m2 m3
    · exact apart_mid m2 m4
    · exact apart_symm (apart_mid m1 m3)
    · exact apart_symm (apart_mid m2 m3)
    · exact absurd rfl hij
    · exact a34
    · exact apart_symm (apart_mid m1 m4)
    · exact apart_symm (apart_mid m2 m4)
    · exact apart_symm a34
    · exact absurd rfl hij
theorem decA_len (l : List UInt8) : (decA l).P.length ≤ 255 ∧ (decA l).R.length ≤ 255 := by
  unfold decA
  split
  · exact ⟨(rd1_len _).1, (rd1_len _).1⟩
  · exact ⟨Nat.zero_le _, Nat.zero_le _⟩
set_option maxRecDepth 100000 in
set_option maxHeartbeats 8000000 in
theorem FenceDecodes_walk (s : ByteArray) (hs : s.size ≤ 140737488351232) (w : World) : Calls Try.prog 8 #[.string s] w fun e w' => e = .returned (.bool true) ∧ Below w.heap.size w w' := by
  have AW := awakeF_any
  have DE := decode_any s (by omega)
  have RD := rdecode_any s (by omega)
  have hl := decA_len s.data.toList
  generalize decA s.data.toList = D at *
  generalize decE s.data.toList = E at *
  obtain ⟨P, fl, ce, R⟩ := D
  simp only at DE RD hl
  have SA := fun W p r p' r' h1 h2 h3 h4 => same_true P R fl ce p r p' r' W h1 h2 h3 h4 (by omega) (by omega)
  have OW := fun (W : World) (base mid : Nat) (p1 r1 p2 r2 : Value) h1 h2 h3 h4 a12 a34 m1 m2 m3 m4 hb => owns_two (w := W) (base := base) (mid := mid) (p1 := p1) (r1 := r1) (p2 := p2) (r2 := r2) (P1 := P) (R1 := R) (P2 := P) (R2 := R) fl ce fl ce h1 h2 h3 h4 hl.1 hl.2 hl.1 hl.2 a12 a34 m1 m2 m3 m4 hb
  obtain ⟨n1, hn1⟩ : ∃ n, P.length = n := ⟨_, rfl⟩
  obtain ⟨n2, hn2⟩ : ∃ n, R.length = n := ⟨_, rfl⟩
  have HN1 := hide hn1
  have HN2 := hide hn2
  have hEE : (E != E) = false := by simp
  clear hn1 hn2 hl
  go_enter Try.func8, Try.ntmps8
  go_wp2_with fail
  refine (DE _).mono ?_
  rintro e w1 ⟨p1, r1, rfl, hp1, hr1, ha1, hb1⟩
  obtain ⟨ap1, cp1, e1⟩ := hp1.form
  obtain ⟨ar1, cr1, e2⟩ := hr1.form
  rw [HN1.out] at e1
  rw [HN2.out] at e2
  subst e1 e2
  have HB := hb1
  have mp1 := fun g e => (World.ownsRow.lt hp1 g e).2
  have mr1 := fun g e => (World.ownsRow.lt hr1 g e).2
  clear hb1
  simp only [fV] at DE RD SA OW ⊢
  obtain ⟨W1, hW1⟩ : ∃ W1, w1.alloc (.cells #[.slice ap1 n1 cp1, .int .i64 fl, .int .i64 ce, .slice ar1 n2 cr1] 24) = W1 := ⟨_, rfl⟩
  have B1 : Blk W1 w1.heap.size #[.slice ap1 n1 cp1, .int .i64 fl, .int .i64 ce, .slice ar1 n2 cr1] 24 := hW1 ▸ Blk.new w1 _ _
  have hx1 : Below w1.heap.size w1 W1 := hW1 ▸ below_alloc w1 _
  replace hp1 := hp1.below hx1
  replace hr1 := hr1.below hx1
  replace HB := below_next HB (Nat.le_refl _) hx1
  have hs1 := hx1.size
  have hs0 := HB.size
  clear hx1
  go_wp2_with fail
  try rw [hW1]
  clear hW1
  generalize w1.heap.size = G1 at *
  refine (DE _).mono ?_
  rintro e w2 ⟨p2, r2, rfl, hp2, hr2, ha2, hb2⟩
  obtain ⟨ap2, cp2, e1⟩ := hp2.form
  obtain ⟨ar2, cr2, e2⟩ := hr2.form
  rw [HN1.out] at e1
  rw [HN2.out] at e2
  subst e1 e2
  replace B1 := B1.after hb2
  replace hp1 := hp1.below hb2
  replace hr1 := hr1.below hb2
  replace HB := below_next HB (Nat.le_refl _) hb2
  have mp2 := fun g e => (World.ownsRow.lt hp2 g e).1
  have mr2 := fun g e => (World.ownsRow.lt hr2 g e).1
  clear hb2 DE
  obtain ⟨W2, hW2⟩ : ∃ W2, w2.alloc (.cells #[.slice ap2 n1 cp2, .int .i64 fl, .int .i64 ce, .slice ar2 n2 cr2] 24) = W2 := ⟨_, rfl⟩
  have B2 : Blk W2 w2.heap.size #[.slice ap2 n1 cp2, .int .i64 fl, .int .i64 ce, .slice ar2 n2 cr2] 24 := hW2 ▸ Blk.new w2 _ _
  have hx2 : Below w2.heap.size w2 W2 := hW2 ▸ below_alloc w2 _
  replace B1 := B1.after hx2
  replace hp1 := hp1.below hx2
  replace hr1 := hr1.below hx2
  replace hp2 := hp2.below hx2
  replace hr2 := hr2.below hx2
  replace HB := below_next HB (Nat.le_refl _) hx2
  clear hx2
  go_wp2_with fail
  try rw [hW2]
  clear hW2
  generalize w2.heap.size = G2 at *
  refine (RD _).mono ?_
  rintro e w3 ⟨p3, r3, rfl, hp3, hr3, hb3⟩
  obtain ⟨ap3, cp3, e1⟩ : ∃ a c, p3 = .slice a n1 c := by obtain ⟨a, c, e, _⟩ := hp3; exact ⟨a, c, by rw [e, HN1.out]⟩
  obtain ⟨ar3, cr3, e2⟩ : ∃ a c, r3 = .slice a n2 c := by obtain ⟨a, c, e, _⟩ := hr3; exact ⟨a, c, by rw [e, HN2.out]⟩
  subst e1 e2
  replace B1 := B1.after hb3
  replace B2 := B2.after hb3
  replace hp1 := hp1.below hb3
  replace hr1 := hr1.below hb3
  replace hp2 := hp2.below hb3
  replace hr2 := hr2.below hb3
  replace HB := below_next HB (Nat.le_refl _) hb3
  clear hb3 RD
  obtain ⟨W3, hW3⟩ : ∃ W3, w3.alloc (.cells #[.slice ap3 n1 cp3, .int .i64 fl, .int .i64 ce, .slice ar3 n2 cr3] 24) = W3 := ⟨_, rfl⟩
  have B3 : Blk W3 w3.heap.size #[.slice ap3 n1 cp3, .int .i64 fl, .int .i64 ce, .slice ar3 n2 cr3] 24 := hW3 ▸ Blk.new w3 _ _
  have hx3 : Below w3.heap.size w3 W3 := hW3 ▸ below_alloc w3 _
  replace B1 := B1.after hx3
  replace B2 := B2.after hx3
  replace hp1 := hp1.below hx3
  replace hr1 := hr1.below hx3
  replace hp2 := hp2.below hx3
  replace hr2 := hr2.below hx3
  replace hp3 := hp3.below hx3
  replace hr3 := hr3.below hx3
  replace HB := below_next HB (Nat.le_refl _) hx3
  clear hx3
  have a0 := B1.cell 0 rfl
  have a1 := B1.cell 1 rfl
  have a2 := B1.cell 2 rfl
  have a3 := B1.cell 3 rfl
  have d0 := B3.cell 0 rfl
  have d1 := B3.cell 1 rfl
  have d2 := B3.cell 2 rfl
  have d3 := B3.cell 3 rfl
  go_wp2_with fail
  clear a0 a1 a2 a3 d0 d1 d2 d3
  try rw [hW3]
  clear hW3
  generalize w3.heap.size = G3 at *
  refine (SA _ _ _ _ _ hp1.pts hr1.pts hp3 hr3).mono ?_
  rintro e w4 ⟨rfl, hb4⟩
  replace B1 := B1.after hb4
  replace B2 := B2.after hb4
  replace B3 := B3.after hb4
  replace hp1 := hp1.below hb4
  replace hr1 := hr1.below hb4
  replace hp2 := hp2.below hb4
  replace hr2 := hr2.below hb4
  replace hp3 := hp3.below hb4
  replace hr3 := hr3.below hb4
  replace HB := below_next HB (Nat.le_refl _) hb4
  clear hb4
  have a0 := B2.cell 0 rfl
  have a1 := B2.cell 1 rfl
  have a2 := B2.cell 2 rfl
  have a3 := B2.cell 3 rfl
  have d0 := B3.cell 0 rfl
  have d1 := B3.cell 1 rfl
  have d2 := B3.cell 2 rfl
  have d3 := B3.cell 3 rfl
  go_wp2_with fail
  clear a0 a1 a2 a3 d0 d1 d2 d3
  refine (SA _ _ _ _ _ hp2.pts hr2.pts hp3 hr3).mono ?_
  rintro e w5 ⟨rfl, hb5⟩
  replace B1 := B1.after hb5
  replace B2 := B2.after hb5
  replace hp1 := hp1.below hb5
  replace hr1 := hr1.below hb5
  replace hp2 := hp2.below hb5
  replace hr2 := hr2.below hb5
  replace HB := below_next HB (Nat.le_refl _) hb5
  clear hb5 SA B3 hp3 hr3
  go_wp2_with fail
  refine (AW _).mono ?_
  rintro e w6 ⟨rfl, hb6⟩
  replace B1 := B1.after hb6
  replace B2 := B2.after hb6
  replace hp1 := hp1.below hb6
  replace hr1 := hr1.below hb6
  replace hp2 := hp2.below hb6
  replace hr2 := hr2.below hb6
  replace HB := below_next HB (Nat.le_refl _) hb6
  clear hb6 AW
  have a0 := B1.cell 0 rfl
  have a1 := B1.cell 1 rfl
  have a2 := B1.cell 2 rfl
  have a3 := B1.cell 3 rfl
  have d0 := B2.cell 0 rfl
  have d1 := B2.cell 1 rfl
  have d2 := B2.cell 2 rfl
  have d3 := B2.cell 3 rfl
  have hsz := HB.size
  go_wp2_with fail
  clear a0 a1 a2 a3 d0 d1 d2 d3
  refine (OW _ w.heap.size W1.heap.size _ _ _ _ hp1 hr1 (hp2.mono hs0) (hr2.mono hs0) ha1 ha2 (fun g e => by have := mp1 g e; omega) (fun g e => by have := mr1 g e; omega) mp2 mr2 hsz).mono ?_
  rintro e w7 ⟨rfl, hb7⟩
  go_wp2_with fail
  go_ret
  exact ⟨rfl, HB.trans hb7⟩
end Go.Proofs.Ytnenbbkkhnlgbaa
