/- The document's Decode. -/
import Derived.Test.YtnenbbkkhnlgbaaFeR
import Derived.Test.YtnenbbkkhnlgbaaFf1
import Derived.BigQuiet
namespace Go.Proofs.Ytnenbbkkhnlgbaa
open Go.RowKit Go.Great

theorem byte_at (s : ByteArray) (i : Nat) (h : i < s.size) : s[i] = s.data.toList.getD i 0 := by
  have h2 : i < s.data.toList.length := by simpa using h
  rw [List.getD, List.getElem?_eq_getElem h2]
  rfl
theorem str_ix (s : ByteArray) (i : Int) (k : Nat) (hi : i = (k : Int)) (h : k < s.size) (wx : World) : (Instr.index 9 (.string s) (.int .i64 i)).run Try.prog wx = .ok (.int .u8 ((s.data.toList.getD k 0).toNat : Int)) wx := by
  subst hi
  rw [run_index_string wx 9 s .i64 _ Try.underlying9, dif_pos ⟨by omega, by omega⟩]
  simp only [Int.toNat_natCast]
  rw [byte_at s k h]
set_option maxRecDepth 100000 in
set_option maxHeartbeats 4000000 in
theorem rnumber_any (s : ByteArray) (o : Nat) (h : o + 4 ≤ s.size) (hs : s.size ≤ 4611686018427387904) (w : World) : Calls Try.prog 66 #[.string s, .int .i64 (o : Int)] w fun e w' => e = .returned (.int .i64 (nAt s.data.toList o)) ∧ Below w.heap.size w w' := by
  have g0 : o < s.size := by omega
  have g1 : o + 1 < s.size := by omega
  have g2 : o + 2 < s.size := by omega
  have g3 : o + 3 < s.size := by omega
  have b0 := str_ix s (o : Int) o rfl g0
  have b1 := str_ix s ((o : Int) + 1) (o + 1) (by omega) g1
  have b2 := str_ix s ((o : Int) + 2) (o + 2) (by omega) g2
  have b3 := str_ix s ((o : Int) + 3) (o + 3) (by omega) g3
  have HN : Hid (nAt s.data.toList o = num (s.data.toList.getD o 0) (s.data.toList.getD (o + 1) 0) (s.data.toList.getD (o + 2) 0) (s.data.toList.getD (o + 3) 0)) := rfl
  have l0 := (s.data.toList.getD o 0).toNat_lt
  have l1 := (s.data.toList.getD (o + 1) 0).toNat_lt
  have l2 := (s.data.toList.getD (o + 2) 0).toNat_lt
  have l3 := (s.data.toList.getD (o + 3) 0).toNat_lt
  generalize s.data.toList.getD o 0 = c0 at *
  generalize s.data.toList.getD (o + 1) 0 = c1 at *
  generalize s.data.toList.getD (o + 2) 0 = c2 at *
  generalize s.data.toList.getD (o + 3) 0 = c3 at *
  rw [HN.out]
  clear HN
  unfold num
  have i1 : IntKind.i64.wrap ((o : Int) + 1) = (o : Int) + 1 := by rw [IntKind.wrap_i64] <;> omega
  have i2 : IntKind.i64.wrap ((o : Int) + 2) = (o : Int) + 2 := by rw [IntKind.wrap_i64] <;> omega
  have i3 : IntKind.i64.wrap ((o : Int) + 3) = (o : Int) + 3 := by rw [IntKind.wrap_i64] <;> omega
  have j0 : IntKind.i64.wrap (c0.toNat : Int) = (c0.toNat : Int) := by rw [IntKind.wrap_i64] <;> omega
  have j1 : IntKind.i64.wrap (c1.toNat : Int) = (c1.toNat : Int) := by rw [IntKind.wrap_i64] <;> omega
  have j2 : IntKind.i64.wrap (c2.toNat : Int) = (c2.toNat : Int) := by rw [IntKind.wrap_i64] <;> omega
  have j3 : IntKind.i64.wrap (c3.toNat : Int) = (c3.toNat : Int) := by rw [IntKind.wrap_i64] <;> omega
  have m1 : IntKind.i64.wrap (256 * (c1.toNat : Int)) = 256 * (c1.toNat : Int) := by rw [IntKind.wrap_i64] <;> omega
  have m2 : IntKind.i64.wrap (65536 * (c2.toNat : Int)) = 65536 * (c2.toNat : Int) := by rw [IntKind.wrap_i64] <;> omega
  have m3 : IntKind.i64.wrap (16777216 * (c3.toNat : Int)) = 16777216 * (c3.toNat : Int) := by rw [IntKind.wrap_i64] <;> omega
  have s1 : IntKind.i64.wrap ((c0.toNat : Int) + 256 * (c1.toNat : Int)) = (c0.toNat : Int) + 256 * (c1.toNat : Int) := by rw [IntKind.wrap_i64] <;> omega
  have s2 : IntKind.i64.wrap ((c0.toNat : Int) + 256 * (c1.toNat : Int) + 65536 * (c2.toNat : Int)) = (c0.toNat : Int) + 256 * (c1.toNat : Int) + 65536 * (c2.toNat : Int) := by rw [IntKind.wrap_i64] <;> omega
  obtain ⟨n, hn⟩ : ∃ n, (c0.toNat : Int) + 256 * (c1.toNat : Int) + 65536 * (c2.toNat : Int) + 16777216 * (c3.toNat : Int) = n := ⟨_, rfl⟩
  have hbd : 0 ≤ n ∧ n < 4294967296 := by omega
  have s3 : IntKind.i64.wrap ((c0.toNat : Int) + 256 * (c1.toNat : Int) + 65536 * (c2.toNat : Int) + 16777216 * (c3.toNat : Int)) = n := by rw [hn, IntKind.wrap_i64] <;> omega
  rw [hn]
  obtain ⟨r, HR1, HR2⟩ : ∃ r, Hid (r = if 2147483648 ≤ n then n - 4294967296 else n) ∧ Hid (IntKind.i64.wrap (n - 4294967296) = n - 4294967296) := ⟨_, rfl, hide (by rw [IntKind.wrap_i64] <;> omega)⟩
  rw [← HR1.out]
  clear hn
  go_enter Try.func66, Try.ntmps66
  go_wp2_with fail
  go_quiet (fail)
  clear i1 i2 i3 j0 j1 j2 j3 m1 m2 m3 s1 s2 s3 b0 b1 b2 b3 g0 g1 g2 g3 l0 l1 l2 l3
  by_cases hn : 2147483648 ≤ n
  · have e1 := HR1.out
    rw [if_pos hn] at e1
    have e2 := HR2.out
    clear HR1 HR2
    go_wp2_with fail
    go_ret
    exact ⟨by rw [e1]; rfl, below_drewN (Below.refl _ _) _⟩
  · have e1 := HR1.out
    rw [if_neg hn] at e1
    subst e1
    clear HR1 HR2
    go_wp2_with fail
    go_ret
    exact ⟨rfl, below_drewN (Below.refl _ _) _⟩
set_option maxRecDepth 100000 in
set_option maxHeartbeats 4000000 in
theorem rlist_any (s : ByteArray) (o n : Nat) (h : o + 8 * n ≤ s.size) (hn : n ≤ 255) (hs : s.size ≤ 4611686018427387904) (w : World) : Calls Try.prog 65 #[.string s, .int .i64 (o : Int), .int .i64 (n : Int)] w fun e w' => ∃ v, e = .returned v ∧ PRow w' w.heap.size v (lAt s.data.toList o n) ∧ Below w.heap.size w w' := by
  obtain ⟨i0, hi, hz0, hz1, hz2⟩ := info_parts info_pt
  have NN : Hid (∀ k W, k < n → Calls Try.prog 66 #[.string s, .int .i64 ((o : Int) + 8 * (k : Int))] W fun e w' => e = .returned (.int .i64 (nAt s.data.toList (o + 8 * k))) ∧ Below W.heap.size W w') := fun k W hk => by
    have := rnumber_any s (o + 8 * k) (by omega) hs W
    rw [show ((o + 8 * k : Nat) : Int) = (o : Int) + 8 * (k : Int) by omega] at this
    exact this
  have NM : Hid (∀ k W, k < n → Calls Try.prog 66 #[.string s, .int .i64 ((o : Int) + 8 * (k : Int) + 4)] W fun e w' => e = .returned (.int .i64 (nAt s.data.toList (o + 8 * k + 4))) ∧ Below W.heap.size W w') := fun k W hk => by
    have := rnumber_any s (o + 8 * k + 4) (by omega) hs W
    rw [show ((o + 8 * k + 4 : Nat) : Int) = (o : Int) + 8 * (k : Int) + 4 by omega] at this
    exact this
  go_enter Try.func65, Try.ntmps65
  go_wp2_with fail
  go_loopw [7, 8] (fun v i wx => ∃ k : Nat, k ≤ n ∧ i = .int .i64 k ∧ Hid (PRow wx w.heap.size v (lAt s.data.toList o k)) ∧ Hid (Below w.heap.size w wx)) (fun _ i _ => n - (intOf i).toNat)
  case atStart => exact ⟨0, Nat.zero_le _, rfl, hide (PRow.nil _ _), hide (Below.refl _ _)⟩
  case round =>
    obtain ⟨k, hk, rfl, hP, hG⟩ := hrel
    have hzr := hG.out.size
    by_cases hlt : k < n
    · have HPN : Hid (lAt s.data.toList o (k + 1) = lAt s.data.toList o k ++ [(nAt s.data.toList (o + 8 * k), nAt s.data.toList (o + 8 * k + 4))]) := rfl
      have HPL := hide (lAt_len s.data.toList o k)
      have N1 := NN.out k wr hlt
      have N2 := fun W => NM.out k W hlt
      generalize nAt s.data.toList (o + 8 * k) = x at *
      generalize nAt s.data.toList (o + 8 * k + 4) = y at *
      generalize lAt s.data.toList o k = pl at *
      obtain ⟨ao, cap, rfl⟩ := hP.out.form
      rw [HPL.out]
      have f1 : IntKind.i64.wrap (8 * (k : Int)) = 8 * (k : Int) := by rw [IntKind.wrap_i64] <;> omega
      have f2 : IntKind.i64.wrap ((o : Int) + 8 * (k : Int)) = (o : Int) + 8 * (k : Int) := by rw [IntKind.wrap_i64] <;> omega
      have f3 : IntKind.i64.wrap ((o : Int) + 8 * (k : Int) + 4) = (o : Int) + 8 * (k : Int) + 4 := by rw [IntKind.wrap_i64] <;> omega
      have hkn : (k : Int) < (n : Int) := by omega
      go_wp2_with fail
      refine N1.mono ?_
      rintro e w2 ⟨rfl, hb2⟩
      clear N1
      go_wp2_with fail
      refine (N2 w2).mono ?_
      rintro e w3 ⟨rfl, hb3⟩
      have hb4 := below_next hb2 (Nat.le_refl _) hb3
      have HP3 := hide (hP.out.below hb4)
      have HG3 := hide (below_next hG.out (Nat.le_refl _) hb4)
      have hz3 := HG3.out.size
      have HO : ∀ o, Hid ((w3.alloc o).ownsRow w.heap.size 39 2 (.slice ao k cap) k (ptC pl)) := fun o => by
        have := HP3.out.alloc o
        rw [HPL.out] at this
        exact this
      clear N2 hb2 hb3 hb4 f1 f2 f3
      go_wp2_with (at_builtin; refine wpList_append_own _ rfl (.tmp 14) (.tmp 29) 22 rfl w.heap.size 39 i0 _ 2 16 Try.underlying22 hi hz0 hz1 hz2 rfl (by decide) _ _ _ rfl (HO _).out ⟨w3.heap.size, 0, none⟩ 1 1 [.int .i64 x, .int .i64 y] rfl rfl ?c1 ?c2 ?c3 ?c4 ?c5 ?_)
      case c1 => exact new_cell2 _ _ rfl _ _ _
      case c2 => intro u hu; simp at hu; rcases hu with rfl | rfl <;> rfl
      case c3 => unfold maxLen; omega
      case c4 => omega
      case c5 => rw [size_alloc]; omega
      intro v' w5 hown5 hgrow5 _
      have HR5 : Hid (PRow w5 w.heap.size v' (lAt s.data.toList o (k + 1))) := by
        show World.ownsRow _ _ _ _ _ _ _
        rw [HPN.out, List.length_append, ptC_app, HPL.out]
        exact hown5
      have HG5 : Hid (Below w.heap.size w w5) := hide ((below_next HG3.out (Nat.le_refl _) (below_alloc w3 (.cells #[.int .i64 x, .int .i64 y] 39))).grown hgrow5 (by rw [size_alloc]; omega) (fun j e => ((HO (.cells #[] 5)).out.lt j e).1))
      obtain ⟨ao5, cap5, rfl⟩ := HR5.out.form
      generalize (lAt s.data.toList o (k + 1)).length = len5 at *
      clear hown5 hgrow5 HO hi hz0 hz1 hz2
      go_wp2_with fail
      go_roundw
      case rel => exact ⟨k + 1, by omega, by go_num, HR5, HG5⟩
      case measure => simp [intOf]; omega
    · go_wp2_with fail
      go_ret
      obtain rfl : k = n := by omega
      exact ⟨_, rfl, hP.out, hG.out⟩
end Go.Proofs.Ytnenbbkkhnlgbaa
