/- FrameTurned. -/
import Derived.Test.YtijdobhdjmmgmaaFrSa
import Derived.Test.YtijdobhdjmmgmaaFrQ
namespace Go.Proofs.Ytijdobhdjmmgmaa
open Go.RowKit Go.Great

theorem xor_ne (a b : UInt8) (h : b ≠ 0) : a ≠ a ^^^ b := by
  intro e
  apply h
  have : a ^^^ a = a ^^^ (a ^^^ b) := by rw [← e]
  rw [UInt8.xor_self, ← UInt8.xor_assoc, UInt8.xor_self, UInt8.zero_xor] at this
  exact this.symm
set_option maxHeartbeats 1000000 in
/-- the arms that look at nothing -/
theorem turned_idle (f : Fr) (a : Int) (b : UInt8) (hidle : ¬ Right f ∨ a < 2 ∨ a = 3 ∨ ((encF f).length : Int) ≤ a ∨ b = 0) (w : World) : Calls Try.prog 8 #[.agg #[.int .i64 f.1, .int .i64 f.2.1, .string f.2.2], .int .i64 a, .int .u8 (b.toNat : Int)] w fun e w' => e = .returned (.bool true) ∧ Below w.heap.size w w' := by
  have he := fun w => encode_any f w
  by_cases hr : Right f
  · rw [encV_right hr] at he
    simp only [] at he
    have hz := bs_size (encF f)
    generalize bs (encF f) = t at he hz
    generalize (encF f).length = n at hz hidle
    by_cases h2 : a < 2
    · clear hidle
      go_enter Try.func8, Try.ntmps8
      go_wp2_with fail
      refine (he _).mono ?_
      rintro e w1 ⟨rfl, h1⟩
      go_wp2_with fail
      refine (awake_any _).mono ?_
      rintro e w3 ⟨rfl, h3⟩
      go_wp2_with fail
      go_ret
      exact ⟨rfl, below_next (below_over h1) (Nat.le_refl _) h3⟩
    · by_cases h3 : a = 3
      · subst h3
        clear hidle
        go_enter Try.func8, Try.ntmps8
        go_wp2_with fail
        refine (he _).mono ?_
        rintro e w1 ⟨rfl, h1⟩
        go_wp2_with fail
        refine (awake_any _).mono ?_
        rintro e w3 ⟨rfl, h3⟩
        go_wp2_with fail
        go_ret
        exact ⟨rfl, below_next (below_over h1) (Nat.le_refl _) h3⟩
      · have h3' : (a == 3) = false := by simpa using h3
        by_cases h4 : (n : Int) ≤ a
        · clear hidle
          go_enter Try.func8, Try.ntmps8
          go_wp2_with fail
          refine (he _).mono ?_
          rintro e w1 ⟨rfl, h1⟩
          go_wp2_with fail
          refine (awake_any _).mono ?_
          rintro e w3 ⟨rfl, h3⟩
          go_wp2_with fail
          go_ret
          exact ⟨rfl, below_next (below_over h1) (Nat.le_refl _) h3⟩
        · have hb : b = 0 := by
            rcases hidle with h | h | h | h | h
            · exact absurd hr h
            · exact absurd h h2
            · exact absurd h h3
            · exact absurd h h4
            · exact h
          subst hb
          clear hidle
          go_enter Try.func8, Try.ntmps8
          go_wp2_with fail
          refine (he _).mono ?_
          rintro e w1 ⟨rfl, h1⟩
          go_wp2_with fail
          refine (awake_any _).mono ?_
          rintro e w3 ⟨rfl, h3⟩
          go_wp2_with fail
          go_ret
          exact ⟨rfl, below_next (below_over h1) (Nat.le_refl _) h3⟩
  · have hne := (encV_wrong hr).2
    generalize encV f = q at he hne
    obtain ⟨t, c⟩ := q
    simp only [] at hne he
    have hne' : (c == 0) = false := by simpa using hne
    clear hidle
    go_enter Try.func8, Try.ntmps8
    go_wp2_with fail
    refine (he _).mono ?_
    rintro e w1 ⟨rfl, h1⟩
    go_wp2_with fail
    refine (awake_any _).mono ?_
    rintro e w3 ⟨rfl, h3⟩
    go_wp2_with fail
    go_ret
    exact ⟨rfl, below_next (below_over h1) (Nat.le_refl _) h3⟩
set_option maxHeartbeats 4000000 in
theorem turned_main (f : Fr) (p : Nat) (b : UInt8) (hr : Right f) (h2 : 2 ≤ p) (h3 : p ≠ 3) (hp : p < (encF f).length) (hb : b ≠ 0) (w : World) : Calls Try.prog 8 #[.agg #[.int .i64 f.1, .int .i64 f.2.1, .string f.2.2], .int .i64 (p : Int), .int .u8 (b.toNat : Int)] w fun e w' => e = .returned (.bool true) ∧ Below w.heap.size w w' := by
  have he := fun w => encode_any f w
  rw [encV_right hr] at he
  simp only [] at he
  have hel := encF_length f
  have h64 := hr.2.2.2.2
  obtain ⟨l, hl⟩ : ∃ l, l = encF f := ⟨_, rfl⟩
  rw [← hl] at hp hel he
  have hgd : l.getD p 0 = l[p] := by rw [List.getD, List.getElem?_eq_getElem hp]; rfl
  have htu := rd_turned hr p (l[p] ^^^ b) h2 h3 (by rw [← hl]; exact hp) (by rw [← hl, hgd]; exact xor_ne _ _ hb)
  rw [← hl] at htu
  have hxor := xor8 l[p] b
  have hlt8 := l[p].toNat_lt
  have hb8 := b.toNat_lt
  obtain ⟨y, hy⟩ : ∃ y, y = l[p] ^^^ b := ⟨_, rfl⟩
  rw [← hy] at htu hxor
  have hz := bs_size l
  have hc := rd_count (l.set p y)
  rw [List.length_set] at hc
  have hbn : ((b.toNat : Int) == 0) = false := by
    have : b.toNat ≠ 0 := fun e => hb (UInt8.toNat_inj.1 e)
    simp; omega
  have hp3 : ((p : Int) == 3) = false := by simp; omega
  have hbl := bs_list l
  have HY := hide hy
  have HTU := hide htu
  clear hl hgd hb h3 hr hy htu
  generalize bs l = t at he hz hbl
  go_enter Try.func8, Try.ntmps8
  go_wp2_with fail
  refine (he _).mono ?_
  rintro e w1 ⟨rfl, h1⟩
  have hF1 := (frm_new w (.int .i64 f.1) (.int .i64 f.2.1) (.string f.2.2)).below h1
  have HB1 := hide (below_over h1)
  obtain ⟨w2, cap, hrun, hrow, hB2, hlt2⟩ := bytes_new t w1
  rw [hbl] at hrow
  have hcp := (hrow p hp).1
  have hfp := (hrow p hp).2
  have HROW := hide hrow
  have HB2 := hide hB2
  clear h1 he hrow hB2
  go_wp2_with fail
  have hrow3 := row_set w2 w1.heap.size l HROW.out p y
  have hF3 : Frm (w2.setCell ⟨w1.heap.size, p, none⟩ (.int .u8 (y.toNat : Int))) w.heap.size (.int .i64 f.1) (.int .i64 f.2.1) (.string f.2.2) := (Below.heap_setCell _ _ _ _ (Nat.ne_of_lt hF1.lt)).trans (hF1.below HB2.out)
  have HB3 : Hid (Below w.heap.size w (w2.setCell ⟨w1.heap.size, p, none⟩ (.int .u8 (y.toNat : Int)))) := (below_next HB1.out (Nat.le_refl _) HB2.out).setCell (p := ⟨w1.heap.size, p, none⟩) HB1.out.size _
  have hs3 : w1.heap.size < (w2.setCell ⟨w1.heap.size, p, none⟩ (.int .u8 (y.toNat : Int))).heap.size := by simpa [World.setCell] using hlt2
  generalize w2.setCell ⟨w1.heap.size, p, none⟩ (.int .u8 (y.toNat : Int)) = w3 at hrow3 hF3 HB3 hs3 ⊢
  clear hcp hfp hrun HROW HB2 HB1 hF1 hlt2 hxor
  refine (new_any _).mono ?_
  rintro e w4 ⟨rfl, hw4⟩
  have hB4 : Below w3.heap.size w3 w4 := by rw [hw4]; exact below_alloc _ _
  have hR4 : Rdr w4 w3.heap.size (bs []) 0 := by rw [hw4]; exact heap_alloc_new _ _
  have hrow4 := row_below hrow3 hB4 hs3
  have hF4 := hF3.below hB4
  have hbk := row_back w4 w1.heap.size cap (l.set p y) hrow4 (6 + f.2.2.size) (by rw [List.length_set]; exact hel.symm)
  have hfd := feed_any w4 w3.heap.size (bs []) (bs (l.set p y)) 0 hR4 (by omega) (by omega) (by rw [bs_size, bs_size, List.length_set]; simp; omega) (by rw [bs_list, bs_list, List.nil_append]; omega)
  rw [bs_list, bs_list, List.nil_append, Int.zero_add] at hfd
  have HB4 : Hid (Below w.heap.size w w4) := below_next HB3.out (Nat.le_refl _) hB4
  have hne4 : w.heap.size ≠ w3.heap.size := Nat.ne_of_lt hF3.lt
  have hws := HB3.out.size
  change (convert 32 9 (.slice (some ⟨w1.heap.size, 0, none⟩) (6 + f.2.2.size) cap)).run Try.prog w4 = .ok (.string (bs (l.set p y))) w4 at hbk
  generalize bs (l.set p y) = x at hbk hfd
  generalize rd (l.set p y) = r at hfd hc HTU
  clear hw4 hB4 hR4 hrow3 hrow4 hF3 HB3 HY
  go_wp2_with fail
  refine hfd.mono ?_
  rintro e w5 ⟨v, rfl, hO5, hR5, hK5⟩
  obtain ⟨ad, cp, hv, hcl⟩ := frs_own hO5
  subst hv
  have HC := hide hcl
  have HR5 := hide hR5
  have HF5 := hide (hF4.kept hK5 hne4)
  have HB5 : Hid (Below w.heap.size w w5) := hK5.toBelow HB4.out HB4.out.size hws
  clear hcl hO5 hR5 hK5 hF4 HB4 hfd hbk
  go_wp2_with fail
  go_loopw [12] (fun i wx => ∃ k q : Nat, k ≤ r.1.length ∧ i = .int .i64 k ∧ wx = w5.drewN q) (fun i _ => r.1.length - (intOf i).toNat)
  case atStart => exact ⟨0, 0, by omega, rfl, rfl⟩
  case round =>
    obtain ⟨k, q, hk, rfl, rfl⟩ := hrel
    by_cases hlt : k < r.1.length
    · obtain ⟨g, o, rfl, hcc⟩ := HC.out (by omega)
      obtain ⟨_, _, c2⟩ := hcc k hlt
      have hsm := HTU.out.2 r.1[k] (List.getElem_mem hlt)
      generalize r.1[k] = f2 at c2 hsm
      have d2 := HF5.out.c2
      clear hcc HC
      go_wp2_with fail
      go_quiet (fail)
      go_wp2_with fail
      go_roundw
      case rel => exact ⟨k + 1, q + nq, by omega, by go_num, rfl⟩
      case measure => simp [intOf]; omega
    · have hm : 1 ≤ min (r.2.1 : Int) 65535 := by have := HTU.out.1; omega
      generalize min (r.2.1 : Int) 65535 = m at hm HR5
      clear HC
      go_wp2_with fail
      refine (awake_any _).mono ?_
      rintro e w6 ⟨rfl, h6⟩
      have hR6 := (HR5.out.drewN q).below h6
      have HB6 : Hid (Below w.heap.size w w6) := below_next (below_drewN HB5.out q) (Nat.le_refl _) h6
      clear h6
      go_wp2_with fail
      refine (bad_any _ _ _ _ hR6).mono ?_
      rintro e w7 ⟨rfl, hw7⟩
      obtain rfl : w6 = w7 := hw7.symm
      go_wp2_with fail
      go_ret
      exact ⟨rfl, HB6.out⟩
theorem FrameTurned_walk (a b : Int) (p : ByteArray) (at' : Int) (turn : Int) (ht : (Lit.int .u8 turn).wf = true) (w : World) : Calls Try.prog 8 #[.agg #[.int .i64 a, .int .i64 b, .string p], .int .i64 at', .int .u8 turn] w fun e w' => e = .returned (.bool true) ∧ Below w.heap.size w w' := by
  obtain ⟨t, rfl⟩ := wf_u8 ht
  clear ht
  by_cases hidle : ¬ Right (a, b, p) ∨ at' < 2 ∨ at' = 3 ∨ ((encF (a, b, p)).length : Int) ≤ at' ∨ t = 0
  · exact turned_idle (a, b, p) at' t hidle w
  · obtain ⟨q, rfl⟩ : ∃ q : Nat, at' = q := ⟨at'.toNat, by omega⟩
    have hr : Right (a, b, p) := Classical.byContradiction fun h => hidle (.inl h)
    exact turned_main (a, b, p) q t hr (by omega) (by omega) (by omega) (fun h => hidle (by simp [h])) w
end Go.Proofs.Ytijdobhdjmmgmaa
