/- Package fence: lists of points that are read; sound. -/
import Derived.Test.YtnenbbkkhnlgbaaFe8
import Derived.Test.YtnenbbkkhnlgbaaGeP
namespace Go.Proofs.Ytnenbbkkhnlgbaa
open Go.RowKit Go.Great

/-- a reader's state, and one number that is read -/
abbrev RS := List UInt8 × Bool
def stp (s : RS) : Int × RS := (numL (tkT s.1 s.2 4), (tkL s.1 s.2 4, tkS s.1 s.2 4))
def stN : Nat → RS → RS
  | 0, s => s
  | k + 1, s => (stp (stp (stN k s)).2).2
def ptN : Nat → RS → List Pt
  | 0, _ => []
  | k + 1, s => ptN k s ++ [((stp (stN k s)).1, (stp (stp (stN k s)).2).1)]
theorem tkL_len (l : List UInt8) (sh : Bool) (n : Nat) : (tkL l sh n).length ≤ l.length := by
  unfold tkL
  split
  · rw [List.length_drop]; omega
  · exact Nat.le_refl _
theorem stN_len (s : RS) : ∀ k, (stN k s).1.length ≤ s.1.length
  | 0 => Nat.le_refl _
  | k + 1 => Nat.le_trans (Nat.le_trans (tkL_len _ _ _) (tkL_len _ _ _)) (stN_len s k)
theorem ptN_len (s : RS) : ∀ k, (ptN k s).length = k
  | 0 => rfl
  | k + 1 => by rw [ptN, List.length_append, ptN_len s k]; rfl
theorem grown_then {w w1 w2 : World} {B : Nat} {row : Option Nat} (h1 : w.grownBy w1 (some B)) (h2 : w1.grownBy w2 row) (hr : ∀ k, row = some k → k = B ∨ w.heap.size ≤ k) : w.grownBy w2 (some B) :=
  ⟨h2.os.trans h1.os, h2.tape.trans h1.tape, h2.output.trans h1.output, Nat.le_trans h1.size h2.size, fun k hk hne => (h2.block k (Nat.lt_of_lt_of_le hk h1.size) (fun e => by
    rcases hr k e.symm with e2 | e2
    · exact hne (by rw [e2])
    · omega)).trans (h1.block k hk hne)⟩
theorem grown_alloc (w : World) (o : Obj) (row : Option Nat) : w.grownBy (w.alloc o) row := grown_below (below_alloc w o) row
theorem PRow.form {w : World} {base : Nat} {v : Value} {l : List Pt} (h : PRow w base v l) : ∃ a cap, v = .slice a l.length cap := by
  rcases h.2 with ⟨h1, h2⟩ | ⟨g, cap, cur, h1, _⟩
  · exact ⟨none, 0, by rw [h1, h2]⟩
  · exact ⟨_, cap, h1⟩
theorem PRow.below {w w' : World} {base : Nat} {v : Value} {l : List Pt} (h : PRow w base v l) (hb : Below w.heap.size w w') : PRow w' base v l := World.ownsRow.kept h (grown_below hb none) (by cases v.ownBlock <;> simp)
theorem PRow.grown {w w' : World} {base : Nat} {v : Value} {l : List Pt} {row : Option Nat} (h : PRow w base v l) (g : w.grownBy w' row) (hne : v.ownBlock = none ∨ v.ownBlock ≠ row) : PRow w' base v l := World.ownsRow.kept h g hne
theorem PRow.mono {w : World} {base base' : Nat} {v : Value} {l : List Pt} (h : PRow w base v l) (hb : base' ≤ base) : PRow w base' v l := by
  refine ⟨h.1, ?_⟩
  rcases h.2 with q | ⟨g2, cap2, cur2, q1, q2, q3⟩
  · exact .inl q
  · exact .inr ⟨g2, cap2, cur2, q1, Nat.le_trans hb q2, q3⟩
theorem PRow.nil (w : World) (base : Nat) : PRow w base (.slice none 0 0) [] := World.ownsRow_nil _ _ _ _
theorem PRow.noblk {w : World} {base : Nat} {v : Value} {l : List Pt} {g : Nat} {cs : Array Value} {t : TypeId} (h : PRow w base v l) (hG : Blk w g cs t) (hne : 39 ≠ t) : v.ownBlock = none ∨ v.ownBlock ≠ some g := Or.inr (blk_apart h hG hne)
set_option maxRecDepth 100000 in
set_option maxHeartbeats 4000000 in
theorem points_any (l : List UInt8) (sh : Bool) (hl : l.length ≤ 4611686018427387904) (B : Nat) (w : World) (hR : Rd w B l sh) : Calls Try.prog 62 #[.pointer (some ⟨B, 0, none⟩)] w fun e w' => ∃ v, e = .returned v ∧ PRow w' w.heap.size v (ptN ((tkT l sh 1).getD 0 0).toNat (tkL l sh 1, tkS l sh 1)) ∧ Rd w' B (stN ((tkT l sh 1).getD 0 0).toNat (tkL l sh 1, tkS l sh 1)).1 (stN ((tkT l sh 1).getD 0 0).toNat (tkL l sh 1, tkS l sh 1)).2 ∧ w.grownBy w' (some B) := by
  obtain ⟨i0, hi, hz0, hz1, hz2⟩ := info_parts info_pt
  have TK := take_any l sh 1 hl B w hR
  have hlen : (tkT l sh 1).length ≤ 1 := by
    unfold tkT
    split
    · rw [List.length_take]; omega
    · simp
  have hl' : (tkL l sh 1).length ≤ 4611686018427387904 := Nat.le_trans (tkL_len _ _ _) hl
  have lB := hR.lt
  generalize tkT l sh 1 = t at TK hlen ⊢
  generalize tkL l sh 1 = l' at TK hl' ⊢
  generalize tkS l sh 1 = sh' at TK ⊢
  clear hR
  cases t with
  | nil =>
    clear hi hz0 hz1 hz2
    have hbs : bs [] = ⟨#[]⟩ := rfl
    rw [hbs] at TK
    go_enter Try.func62, Try.ntmps62
    go_wp2_with fail
    refine TK.mono ?_
    rintro e w1 ⟨rfl, hR1, hg1⟩
    go_wp2_with fail
    go_ret
    exact ⟨_, rfl, PRow.nil _ _, hR1, hg1⟩
  | cons c t =>
    have ht : t = [] := List.eq_nil_of_length_eq_zero (Nat.le_zero.1 (Nat.le_of_succ_le_succ hlen))
    subst ht
    have hc1 : (bs [c]).size = 1 := rfl
    have hc2 : ∀ h, (bs [c])[0]'h = c := fun _ => rfl
    have hne : (bs [c]).toList.isEmpty = false := by rw [ByteArray.toList_eq, bs_list]; rfl
    have hc := c.toNat_lt
    simp only [List.getD_cons_zero]
    obtain ⟨n, hn⟩ : ∃ n, c.toNat = n := ⟨_, rfl⟩
    rw [hn] at hc ⊢
    go_enter Try.func62, Try.ntmps62
    go_wp2_with fail
    refine TK.mono ?_
    rintro e w1 ⟨rfl, hR1, hg1⟩
    clear TK
    go_wp2_with fail
    generalize bs [c] = cs at *
    go_loopw [3, 11] (fun v i wx => ∃ k : Nat, k ≤ n ∧ i = .int .u8 k ∧ Hid (PRow wx w.heap.size v (ptN k (l', sh'))) ∧ Hid (Rd wx B (stN k (l', sh')).1 (stN k (l', sh')).2) ∧ Hid (w.grownBy wx (some B))) (fun _ i _ => n - (intOf i).toNat)
    case atStart => exact ⟨0, Nat.zero_le _, rfl, hide (PRow.nil _ _), hide hR1, hide hg1⟩
    case round =>
      clear hR1 hg1
      obtain ⟨k, hk, rfl, hP, hR, hG⟩ := hrel
      have hzr := hG.out.size
      by_cases hlt : k < n
      · have HPN : Hid (ptN (k + 1) (l', sh') = ptN k (l', sh') ++ [((stp (stN k (l', sh'))).1, (stp (stp (stN k (l', sh'))).2).1)]) := rfl
        have HSN : Hid (stN (k + 1) (l', sh') = (stp (stp (stN k (l', sh'))).2).2) := rfl
        have hln := stN_len (l', sh') k
        have HPL := hide (ptN_len (l', sh') k)
        generalize stN k (l', sh') = st at *
        generalize ptN k (l', sh') = pl at *
        have N1 := number_any st.1 st.2 (by simp only at hln; omega) B wr hR.out
        have N2 := fun w2 h => number_any (tkL st.1 st.2 4) (tkS st.1 st.2 4) (by have := tkL_len st.1 st.2 4; simp only at hln; omega) B w2 h
        have HX : Hid ((stp st).1 = numL (tkT st.1 st.2 4)) := rfl
        have HY : Hid ((stp (stp st).2).1 = numL (tkT (tkL st.1 st.2 4) (tkS st.1 st.2 4) 4)) := rfl
        have HZ : Hid ((stp (stp st).2).2 = (tkL (tkL st.1 st.2 4) (tkS st.1 st.2 4) 4, tkS (tkL st.1 st.2 4) (tkS st.1 st.2 4) 4)) := rfl
        generalize numL (tkT st.1 st.2 4) = x at *
        generalize numL (tkT (tkL st.1 st.2 4) (tkS st.1 st.2 4) 4) = y at *
        generalize tkL (tkL st.1 st.2 4) (tkS st.1 st.2 4) 4 = l2 at *
        generalize tkS (tkL st.1 st.2 4) (tkS st.1 st.2 4) 4 = s2 at *
        generalize tkL st.1 st.2 4 = l1 at *
        generalize tkS st.1 st.2 4 = s1 at *
        obtain ⟨ao, cap, rfl⟩ := hP.out.form
        generalize hpl : pl.length = len at *
        have HLE := hide hpl
        clear hpl hln hl' hl
        go_wp2_with fail
        refine N1.mono ?_
        rintro e w2 ⟨rfl, hR2, hg2⟩
        have HP2 := hide (hP.out.grown hg2 (hP.out.noblk hR.out (by decide)))
        have HG2 := hide (grown_then hG.out hg2 (fun k e => by injection e with e; exact Or.inl e.symm))
        have N3 := N2 w2 hR2
        clear N1 N2 hP hG hR hg2
        go_wp2_with fail
        refine N3.mono ?_
        rintro e w3 ⟨rfl, hR3, hg3⟩
        have HP3 := hide (HP2.out.grown hg3 (HP2.out.noblk hR2 (by decide)))
        have HG3 := hide (grown_then HG2.out hg3 (fun k e => by injection e with e; exact Or.inl e.symm))
        have HR3 := hide hR3
        have hz3 := HG3.out.size
        have HO : ∀ o, Hid ((w3.alloc o).ownsRow w.heap.size 39 2 (.slice ao len cap) len (ptC pl)) := fun o => by
          have := HP3.out.alloc o
          rw [HLE.out] at this
          exact this
        have HPL2 : Hid (len ≤ 255) := hide (by have := HPL.out; have := HLE.out; omega)
        clear N3 HP2 HG2 hR2 hg3 HP3 hR3
        go_wp2_with (at_builtin; refine wpList_append_own _ rfl (.tmp 13) (.tmp 19) 22 rfl w.heap.size 39 i0 _ 2 16 Try.underlying22 hi hz0 hz1 hz2 rfl (by decide) _ _ _ rfl (HO _).out ⟨w3.heap.size, 0, none⟩ 1 1 [.int .i64 x, .int .i64 y] rfl rfl ?c1 ?c2 ?c3 ?c4 ?c5 ?_)
        case c1 => exact new_cell2 _ _ rfl _ _ _
        case c2 => intro u hu; simp at hu; rcases hu with rfl | rfl <;> rfl
        case c3 => have := HPL2.out; unfold maxLen; omega
        case c4 => have := HPL2.out; omega
        case c5 => rw [size_alloc]; omega
        intro v' w5 hown5 hgrow5 _
        have HR5 : Hid (PRow w5 w.heap.size v' (ptN (k + 1) (l', sh'))) := by
          show World.ownsRow _ _ _ _ _ _ _
          rw [HPN.out, HX.out, HY.out, List.length_append, ptC_app, HLE.out]
          exact hown5
        have HD5 : Hid (Rd w5 B (stN (k + 1) (l', sh')).1 (stN (k + 1) (l', sh')).2) := hide (by
          rw [HSN.out, HZ.out]
          exact blk_grown (HO (.cells #[.int .i64 x, .int .i64 y] 39)).out (Blk.alloc HR3.out _) (by decide) hgrow5)
        have HG5 : Hid (w.grownBy w5 (some B)) := hide (grown_then (grown_then HG3.out (grown_alloc w3 (.cells #[.int .i64 x, .int .i64 y] 39) none) (fun k e => by cases e)) hgrow5 (fun k e => Or.inr ((HO (.cells #[] 5)).out.lt k e).1))
        obtain ⟨ao5, cap5, rfl⟩ := HR5.out.form
        generalize (ptN (k + 1) (l', sh')).length = len5 at *
        clear hown5 hgrow5 HO hi hz0 hz1 hz2
        go_wp2_with fail
        go_roundw
        case rel => exact ⟨k + 1, by omega, by go_num, HR5, HD5, HG5⟩
        case measure => simp [intOf]; omega
      · go_wp2_with fail
        go_ret
        obtain rfl : k = n := by omega
        exact ⟨_, rfl, hP.out, hR.out, hG.out⟩
end Go.Proofs.Ytnenbbkkhnlgbaa
