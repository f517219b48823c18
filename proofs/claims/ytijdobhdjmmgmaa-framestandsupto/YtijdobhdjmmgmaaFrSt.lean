/- FrameStands. -/
import Derived.Test.YtijdobhdjmmgmaaFrSa
import Derived.Test.YtijdobhdjmmgmaaFrP
namespace Go.Proofs.Ytijdobhdjmmgmaa
open Go.RowKit Go.Great

theorem find_yes (d s : ByteArray) (a k : Nat) (hak : a ≤ k) (hk : k + s.size ≤ d.size) (hd : d.size ≤ 1048576) (ho : d.extract k (k + s.size) = s) (w : World) : Calls Try.prog 21 #[.string d, .string s, .int .i64 a] w fun e w' => ∃ j : Nat, e = .returned (.int .i64 j) ∧ a ≤ j ∧ j ≤ k ∧ w' = w := by
  go_enter Try.func21, Try.ntmps21
  go_wp2_with fail
  go_loop [7] (fun i => ∃ j : Nat, a ≤ j ∧ j ≤ k ∧ i = .int .i64 j) (fun i => k + 1 - (intOf i).toNat)
  case atStart => exact ⟨a, by omega, hak, rfl⟩
  case round =>
    obtain ⟨j, h1, h2, rfl⟩ := hrel
    have hsl : ∀ wx, (Instr.slice 9 (.string d) (some (.int .i64 j)) (some (.int .i64 ((j : Int) + (s.size : Int)))) none).run Try.prog wx = .ok (.string (d.extract j (j + s.size))) wx := fun wx => cut_run d j (j + s.size) (by omega) (by omega) wx
    by_cases hq : d.extract j (j + s.size) = s
    · rw [hq] at hsl
      clear ho hq
      go_wp2_with fail
      go_ret
      exact ⟨j, rfl, h1, h2, rfl⟩
    · have hjk : j < k := by
        refine Nat.lt_of_le_of_ne h2 fun e => hq ?_
        rw [e]; exact ho
      have hqq : ((d.extract j (j + s.size)).toList == s.toList) = false := by
        refine Bool.eq_false_iff.2 fun h => hq (bs_ext ?_)
        have := eq_of_beq h
        rw [ByteArray.toList_eq, ByteArray.toList_eq] at this
        exact this
      generalize d.extract j (j + s.size) = x at hsl hqq
      clear ho hq
      go_wp2_with fail
      go_round
      case rel => exact ⟨j + 1, by omega, by omega, by go_num⟩
      case measure => simp [intOf]; omega
set_option maxHeartbeats 4000000 in
theorem FrameStands_walk (d : ByteArray) (hd : d.size ≤ 1048576) (w : World) : Calls Try.prog 7 #[.string d] w fun e w' => e = .returned (.bool true) ∧ Below w.heap.size w w' := by
  have hdl := list_size d
  have hcount := rd_count d.data.toList
  obtain ⟨hpos, hright⟩ := rd_pos d.data.toList d.data.toList 0 (by omega) rfl
  have HP := hide hpos
  have HG := hide hright
  clear hpos hright
  go_enter Try.func7, Try.ntmps7
  go_wp2_with fail
  refine (new_any _).mono ?_
  rintro e w1 ⟨rfl, hw1⟩
  have hR1 : Rdr w1 w.heap.size (bs []) 0 := by rw [hw1]; exact heap_alloc_new _ _
  have HB1 : Hid (Below w.heap.size w w1) := by show Below _ _ _; rw [hw1]; exact below_alloc _ _
  have hf := feed_any w1 w.heap.size (bs []) d 0 hR1 (by omega) (by omega) (by rw [bs_size]; simp; omega) (by rw [bs_list, List.nil_append]; omega)
  rw [bs_list, List.nil_append, Int.zero_add] at hf
  generalize rd d.data.toList = r at hf HP HG hcount
  clear hw1
  go_wp2_with fail
  refine hf.mono ?_
  rintro e w3 ⟨v1, rfl, hO3, hR3, hK3⟩
  have HO3 := hide hO3
  have HR3 := hide hR3
  have HB3 : Hid (Below w.heap.size w w3) := hK3.toBelow HB1.out HB1.out.size (Nat.le_refl _)
  obtain ⟨ad, cap, hv1, hcl⟩ := frs_own hO3
  subst hv1
  have HC := hide hcl
  clear hO3 hR3 hK3 hf hR1 HB1 hcl
  go_wp2_with fail
  go_loopw [5, 6] (fun at' i wx => ∃ k a : Nat, k ≤ r.1.length ∧ i = .int .i64 k ∧ at' = .int .i64 a ∧ Pos d.data.toList r.2.2.length (r.1.drop k) a ∧ a ≤ d.size ∧ Below w3.heap.size w3 wx) (fun _ i _ => r.1.length - (intOf i).toNat)
  case atStart => exact ⟨0, 0, Nat.zero_le _, rfl, rfl, HP.out, by omega, Below.refl _ _⟩
  case round =>
    obtain ⟨k, a, hk, rfl, rfl, hpos, had, hB⟩ := hrel
    have HB := hide hB
    by_cases hlt : k < r.1.length
    · obtain ⟨g, o, rfl, hcc⟩ := HC.out (by omega)
      obtain ⟨c0, c1, c2⟩ := hcc k hlt
      rw [List.drop_eq_getElem_cons hlt] at hpos
      obtain ⟨q, hq1, hq2, hq3, hq4⟩ := hpos
      have hrt := HG.out r.1[k] (List.getElem_mem hlt)
      generalize r.1[k] = f at c0 c1 c2 hq2 hq3 hq4 hrt
      have hg : g < w3.heap.size := (HO3.out.lt g rfl).2
      have d0 := (hB.cell (p := ⟨g, o + k * 3, none⟩) hg).trans c0
      have d1 := (hB.cell (p := ⟨g, o + k * 3 + 1, none⟩) hg).trans c1
      have d2 := (hB.cell (p := ⟨g, o + k * 3 + 2, none⟩) hg).trans c2
      have hen := fun wx => encode_any f wx
      rw [encV_right hrt] at hen
      simp only [] at hen
      have ht : (bs (encF f)).size = (encF f).length := bs_size _
      have ho : d.extract q (q + (bs (encF f)).size) = bs (encF f) := by
        apply bs_ext
        rw [extract_list, bs_list, bs_size, show q + (encF f).length - q = (encF f).length by omega]
        exact hq3
      have hfi := fun wx => find_yes d (bs (encF f)) a q hq1 (by omega) hd ho wx
      have H4 := hide hq4
      generalize (encF f).length = n at ht hq2 H4
      generalize bs (encF f) = t at hen hfi ht
      clear hcc c0 c1 c2 hB hq3 hq4 ho HC HP
      go_wp2_with fail
      refine (hen _).mono ?_
      rintro e w5 ⟨rfl, h5⟩
      have HB5 : Hid (Below w3.heap.size w3 w5) := below_next HB.out (Nat.le_refl _) h5
      clear h5 hen
      go_wp2_with fail
      refine (hfi _).mono ?_
      rintro e w6 ⟨j, rfl, hj1, hj2, hw6⟩
      obtain rfl : w5 = w6 := hw6.symm
      clear hfi
      go_wp2_with fail
      go_roundw
      case rel => exact ⟨k + 1, j + n, by omega, by go_num, by rw [← ht]; go_num, H4.out.mono (by omega), by omega, HB5.out⟩
      case measure => simp [intOf]; omega
    · have hkd : r.1.drop k = [] := List.drop_of_length_le (by omega)
      rw [hkd] at hpos
      have hpp : a + r.2.2.length ≤ d.data.toList.length := hpos
      have hzz : (bs r.2.2).size = r.2.2.length := bs_size _
      have hR := HR3.out.below hB
      have HBr : Hid (Below w.heap.size w wr) := below_next HB3.out (Nat.le_refl _) hB
      clear hB hpos HC HP HG HO3 hkd
      go_wp2_with fail
      refine (awake_any _).mono ?_
      rintro e w5 ⟨rfl, h5⟩
      have hR5 := hR.below h5
      have HB5 : Hid (Below w.heap.size w w5) := below_next HBr.out (Nat.le_refl _) h5
      clear h5 hR
      go_wp2_with fail
      refine (held_any _ _ _ _ hR5).mono ?_
      rintro e w6 ⟨rfl, hw6⟩
      obtain rfl : w5 = w6 := hw6.symm
      have hwr : IntKind.i64.wrap ((d.size : Int) - (a : Int)) = (d.size : Int) - (a : Int) := by rw [IntKind.wrap_i64]; omega
      go_wp2_with fail
      go_ret
      exact ⟨ret_bool (by simp; omega), HB5.out⟩
end Go.Proofs.Ytijdobhdjmmgmaa
