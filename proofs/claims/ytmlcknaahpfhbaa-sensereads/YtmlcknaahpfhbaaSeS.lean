/- SenseStands. -/
import Derived.Test.YtmlcknaahpfhbaaSeA
namespace Go.Proofs.Ytmlcknaahpfhbaa
open Go.RowKit Go.Great

theorem cut_run (s : ByteArray) (a b : Nat) (h1 : a ≤ b) (h2 : b ≤ s.size) (wx : World) : (Instr.slice 9 (.string s) (some (.int .i64 a)) (some (.int .i64 b)) none).run Try.prog wx = .ok (.string (s.extract a b)) wx := by
  rw [run_slice_string wx 9 s .i64 .i64 a b Try.underlying9 (by omega) (by omega) (by omega)]
  simp
theorem find_yes (d s : ByteArray) (k : Nat) (hk : k + s.size ≤ d.size) (hd : d.size ≤ 4611686018427387904) (ho : d.extract k (k + s.size) = s) (w : World) : Calls Try.prog 19 #[.string d, .string s] w fun e w' => e = .returned (.bool true) ∧ w' = w := by
  go_enter Try.func19, Try.ntmps19
  go_wp2_with fail
  go_loop [5] (fun i => ∃ j : Nat, j ≤ k ∧ i = .int .i64 j) (fun i => k + 1 - (intOf i).toNat)
  case atStart => exact ⟨0, by omega, rfl⟩
  case round =>
    obtain ⟨j, h2, rfl⟩ := hrel
    have hsl : ∀ wx, (Instr.slice 9 (.string d) (some (.int .i64 j)) (some (.int .i64 ((j : Int) + (s.size : Int)))) none).run Try.prog wx = .ok (.string (d.extract j (j + s.size))) wx := fun wx => cut_run d j (j + s.size) (by omega) (by omega) wx
    by_cases hq : d.extract j (j + s.size) = s
    · rw [hq] at hsl
      clear ho hq
      go_wp2_with fail
      go_ret
      exact ⟨rfl, rfl⟩
    · have hjk : j < k := by
        refine Nat.lt_of_le_of_ne h2 fun e => hq ?_
        rw [e]; exact ho
      have hqq : ((d.extract j (j + s.size)).toList == s.toList) = false := by
        refine Bool.eq_false_iff.2 fun h => hq (bs_ext ?_)
        have := eq_of_beq h
        rw [ByteArray.toList_eq, ByteArray.toList_eq] at this
        exact this
      generalize d.extract j (j + s.size) = x at hsl hqq
      clear ho hq
      go_wp2_with fail
      go_round
      case rel => exact ⟨j + 1, by omega, by go_num⟩
      case measure => simp [intOf]; omega
theorem reS_out (s : Nat) : ∀ (n : Nat) (l : List UInt8) (r : RdS), l.length ≤ n → (r.is = false → r.out = []) → (reS s l r).is = false → (reS s l r).out = []
  | _, [], r, _, h => by rw [reS_nil]; exact h
  | 0, b :: l, r, hn, _ => by simp at hn
  | n + 1, b :: l, r, hn, h => by
    rw [List.length_cons] at hn
    by_cases hb : b = 165
    · subst hb
      cases hg : goS s (165 :: l) with
      | false => rw [reS_bad s l r hg]; exact reS_out s n l _ (by omega) h
      | true => rw [reS_good s l r hg]; exact reS_out s n _ _ (by simp only [List.length_drop, List.length_cons]; omega) (fun e => by cases e)
    · rw [reS_other s b l r hb]; exact reS_out s n l r (by omega) h
/-- what Read's answer says -/
theorem rdR_says (s : Nat) (l : List UInt8) : (rdR s l).bad ≤ marks l ∧ ((rdR s l).is = true → (rdR s l).bad < marks l) ∧ ((rdR s l).is = false → (rdR s l).out = []) ∧ ((rdR s l).is = true → (wsS s).length ≠ 0 ∧ ∃ pre b post, l = pre ++ frS s b ++ post ∧ b.length = toS s ∧ (rdR s l).out = fieK (wsS s) b (wsS s).length) := by
  unfold rdR
  by_cases h : (wsS s).length = 0
  · rw [if_pos h]
    exact ⟨Nat.zero_le _, fun e => (by cases e), fun _ => rfl, fun e => (by cases e)⟩
  · rw [if_neg h]
    obtain ⟨h1, h2, h3⟩ := reS_stands s l l.length [] l ⟨[], false, 0⟩ (Nat.le_refl _) rfl (fun e => by cases e)
    refine ⟨by simpa using h2, fun e => ?_, ?_, fun e => ⟨h, h1 e⟩⟩
    · rcases h3 e with h3 | h3
      · cases h3
      · simpa using h3
    · exact reS_out s l.length l ⟨[], false, 0⟩ (Nat.le_refl _) (fun _ => rfl)
/-- what was read is written as it stands -/
theorem wr_read (s : Nat) (b : List UInt8) (h : (wsS s).length ≠ 0) (hb : b.length = toS s) : wrE s (fieK (wsS s) b (wsS s).length) = 0 ∧ wrB s (fieK (wsS s) b (wsS s).length) = frS s b := by
  obtain ⟨h1, h2⟩ := wrE_ok (s := s) (ns := fieK (wsS s) b (wsS s).length) h (fieK_len _ _ _) (fits_fie _ (wsS_wid s) b _ (Nat.le_refl _) _ (Nat.le_refl _))
  refine ⟨h1, ?_⟩
  rw [h2, pay_fie _ b _ (by rw [hb]; exact Nat.le_refl _) _ (Nat.le_refl _)]
  rw [List.take_of_length_le (by rw [hb]; exact Nat.le_refl _)]
theorem marks_take (l : List UInt8) (k : Nat) (h : k < l.length) : marks (l.take (k + 1)) = marks (l.take k) + (if l.getD k 0 = 165 then 1 else 0) := by
  rw [List.take_add_one, List.getElem?_eq_getElem h]
  unfold marks
  rw [List.filter_append, List.length_append]
  have e : l.getD k 0 = l[k] := by rw [List.getD, List.getElem?_eq_getElem h]; rfl
  rw [e]
  show _ + ([l[k]].filter _).length = _
  rw [List.filter_cons, List.filter_nil]
  by_cases hh : l[k] = 165
  · rw [if_pos (by simpa using hh), if_pos hh]; rfl
  · rw [if_neg (by simpa using hh), if_neg hh]; rfl
theorem marks_le (l : List UInt8) : marks l ≤ l.length := List.length_filter_le _ _
set_option maxRecDepth 100000 in
set_option maxHeartbeats 4000000 in
theorem SenseStands_walk (s0 : Int) (d : ByteArray) (hw : (Lit.int .u8 s0).wf = true) (hd : d.size ≤ 140737488351232) (w : World) : Calls Try.prog 6 #[.int .u8 s0, .string d] w fun e w' => e = .returned (.bool true) ∧ Below w.heap.size w w' := by
  obtain ⟨c, rfl⟩ := wf_u8 hw
  have hs := c.toNat_lt
  generalize c.toNat = s at *
  clear hw c
  obtain ⟨l, HDL⟩ : ∃ l, Hid (bs l = d) := ⟨_, hide (bs_of d)⟩
  have hsz := hd
  rw [← HDL.out, bs_size] at hd
  have RD := fun W => read_any s hs l (by omega) W
  rw [HDL.out] at RD
  obtain ⟨h1, h2, h3, h4⟩ := rdR_says s l
  have hml := marks_le l
  have HMT := hide (marks_take l)
  have HGA : Hid (∀ k, k < l.length → ∃ h : k < d.size, d[k] = l.getD k 0) := hide (by
    rw [← HDL.out]
    exact fun k hk => ⟨by rw [bs_size]; exact hk, by rw [← getD_at (bs l) k (by rw [bs_size]; exact hk), bs_list]⟩)
  have HSZ : Hid (d.size = l.length) := hide (by rw [← HDL.out]; exact bs_size l)
  have HT : Hid (marks (l.take l.length) = marks l) := hide (by rw [List.take_length])
  generalize hR : rdR s l = R at *
  have AW := fun W => awakeS_any W
  have H2 := hide h2
  have H3 := hide h3
  have H4 := hide h4
  have H1 := hide h1
  clear h1 h2 h3 h4 hR
  go_enter Try.func6, Try.ntmps6
  go_wp2_with fail
  refine (RD _).mono ?_
  rintro e w1 ⟨v, rfl, hr1, hb1⟩
  have HR1 := hide hr1
  have HB1 := hide hb1
  obtain ⟨va, vc, hve⟩ := IRow.shape hr1
  subst hve
  clear hr1 hb1 RD
  go_wp2_with fail
  go_loopw [8, 9] (fun mk i wx => ∃ k : Nat, k ≤ l.length ∧ i = .int .i64 k ∧ mk = .int .i64 (marks (l.take k) : Int) ∧ wx = w1) (fun _ i _ => l.length - (intOf i).toNat)
  case atStart => exact ⟨0, Nat.zero_le _, rfl, rfl, rfl⟩
  case round =>
    obtain ⟨k, hk, rfl, rfl, hwx⟩ := hrel
    obtain rfl := hwx.symm
    have hmk : marks (l.take k) ≤ k := Nat.le_trans (marks_le _) (by rw [List.length_take]; omega)
    by_cases hlt : k < l.length
    · obtain ⟨hkb, he⟩ := HGA.out k hlt
      have HN := hide (HMT.out k hlt)
      have hlt2 : (k : Int) < (d.size : Int) := by rw [HSZ.out]; omega
      have HE := hide he
      clear he
      by_cases hb : l.getD k 0 = 165
      · have hx : ((d[k].toNat : Int) == 165) = true := by rw [HE.out, hb]; rfl
        have HN2 : Hid (marks (l.take (k + 1)) = marks (l.take k) + 1) := hide (by rw [HN.out, if_pos hb])
        generalize marks (l.take k) = mm at *
        clear hb HN
        go_wp2_with fail
        go_roundw
        case rel => exact ⟨k + 1, by omega, by go_num, by rw [HN2.out]; go_num, trivial⟩
        case measure => simp [intOf]; omega
      · have hx : ((d[k].toNat : Int) == 165) = false := by
          rw [HE.out, beq_eq_false_iff_ne]
          intro e
          apply hb
          apply UInt8.toNat_inj.1
          show _ = 165
          exact Int.ofNat.inj e
        have HN2 : Hid (marks (l.take (k + 1)) = marks (l.take k)) := hide (by rw [HN.out, if_neg hb, Nat.add_zero])
        generalize marks (l.take k) = mm at *
        clear hb HN
        go_wp2_with fail
        go_roundw
        case rel => exact ⟨k + 1, by omega, by go_num, by rw [HN2.out], trivial⟩
        case measure => simp [intOf]; omega
    · have e : k = l.length := by omega
      have HMM : Hid (marks (l.take k) = marks l) := hide (by rw [e]; exact HT.out)
      have hlt2 : ¬ (k : Int) < (d.size : Int) := by rw [HSZ.out]; omega
      rw [HMM.out] at hmk ⊢
      have h1 := H1.out
      cases his : R.is with
      | false =>
        have HO : Hid (R.out.length = 0) := hide (by rw [H3.out his]; rfl)
        rw [HO.out]
        generalize R.bad = bb at *
        generalize marks l = mm at *
        clear his
        go_wp2_with fail
        refine (AW _).mono ?_
        rintro e w2 ⟨rfl, hb2⟩
        have HB2 := hide hb2
        clear hb2 AW
        go_wp2_with fail
        go_ret
        exact ⟨rfl, below_next HB1.out (Nat.le_refl _) HB2.out⟩
      | true =>
        have h2 := H2.out his
        obtain ⟨hn0, pre, b, post, hl3, hb3, ho⟩ := H4.out his
        obtain ⟨g1, g2⟩ := wr_read s b hn0 hb3
        have hol : R.out.length ≤ 5 := by rw [ho, fieK_len]; exact wsS_len s
        have WR := fun W hv => write_any s hs R.out (.slice va R.out.length vc) W hv (by omega)
        rw [← ho] at g1 g2
        rw [g1, g2] at WR
        have hfl : (bs (frS s b)).size = toS s + 4 := by rw [bs_size, frS_len, hb3]
        have hll : l.length = pre.length + (toS s + 4) + post.length := by rw [hl3, List.length_append, List.length_append, frS_len, hb3]
        have FD := fun W => find_yes d (bs (frS s b)) pre.length (by rw [hfl, HSZ.out]; omega) (by omega) (by
          apply bs_ext
          rw [← HDL.out, extract_list, bs_list, bs_list, hl3, hfl, List.append_assoc, List.drop_left' rfl, List.take_left' (by rw [frS_len]; omega)]) W
        have HI := hide HR1.out.ints
        generalize bs (frS s b) = fr at *
        generalize R.out.length = ol at *
        generalize R.bad = bb at *
        generalize marks l = mm at *
        clear his hl3 hfl hll g1 g2 ho hb3 hn0
        go_wp2_with fail
        refine (WR _ HI.out).mono ?_
        rintro e w2 ⟨rfl, hb2⟩
        have HB2 := hide (below_next HB1.out (Nat.le_refl _) hb2)
        clear hb2 WR
        go_wp2_with fail
        refine (AW _).mono ?_
        rintro e w3 ⟨rfl, hb3⟩
        have HB3 := hide (below_next HB2.out (Nat.le_refl _) hb3)
        clear hb3 AW
        go_wp2_with fail
        refine (FD _).mono ?_
        rintro e w4 ⟨rfl, hw4⟩
        obtain rfl := hw4.symm
        go_wp2_with fail
        go_ret
        exact ⟨rfl, HB3.out⟩
end Go.Proofs.Ytmlcknaahpfhbaa
