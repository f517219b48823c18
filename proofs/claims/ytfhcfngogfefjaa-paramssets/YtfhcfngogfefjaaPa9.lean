/- Set of package params and of the reference. -/
import Derived.Test.YtfhcfngogfefjaaLwRg
import Derived.Test.YtfhcfngogfefjaaPaG
namespace Go.Proofs.Ytfhcfngogfefjaa
open Go.RowKit Go.Great

/-- a row that is stored into -/
theorem IRow.put {w : World} {base : Nat} {v : Value} {l : List Int} (h : IRow w base v l) (k : Nat) (hk : k < l.length) (x : Int) : ∃ g c, v = .slice (some ⟨g, 0, none⟩) l.length c ∧ base ≤ g ∧ (∃ y, w.cell? ⟨g, k, none⟩ = some (.int .i64 y)) ∧ w.frozen? ⟨g, k, none⟩ = false ∧ IRow (w.setCell ⟨g, k, none⟩ (.int .i64 x)) base v (l.set k x) := by
  have h0 := h
  rcases h.2 with ⟨_, h1⟩ | ⟨g, c, cur, hv, hbg, hh, _⟩
  · omega
  subst hv
  have hst := World.ownsRow.stored h0 k (.int .i64 x)
  refine ⟨g, c, rfl, hbg, ⟨_, h0.cell k hk⟩, World.ownsRow.frozenAt h0 k, ?_⟩
  unfold IRow
  rw [List.length_set, List.map_set]
  exact hst.1
set_option maxHeartbeats 1000000 in
theorem rints_any (l : List Int) (hl : l.length = 24) (v : Value) (w : World) (hv : Ints w v l) : Calls Try.prog 45 #[v] w fun e w' => ∃ u, e = .returned u ∧ IRow w' w.heap.size u l ∧ Below w.heap.size w w' := by
  obtain ⟨i0, hi, hz0, hz1, hz2⟩ := info_parts info_int
  obtain ⟨g, o, cap, rfl, hg, hcc⟩ := hv.open24 hl
  have HV := hide hv
  have HL := hide hl
  clear hcc hv hl
  go_enter Try.func45, Try.ntmps45
  go_wp2_with (at_builtin; refine wpList_append_own _ rfl (.tmp 4) (.tmp 5) 22 rfl w.heap.size 3 i0 _ 1 8 Try.underlying22 hi hz0 hz1 hz2 rfl (by decide) (.slice none 0 0) 0 [] rfl (IRow.nil w w.heap.size) ⟨g, o, none⟩ 24 cap (l.map (Value.int .i64)) rfl ?c0 ?c1 ?c2 ?c3 ?c4 ?c5 ?_)
  case c0 => rw [List.length_map, HL.out]
  case c1 => exact ints_news (w := w) (ao := some ⟨g, o, none⟩) (cap := cap) (by rw [HL.out]; exact HV.out) _ rfl
  case c2 => exact map_one l
  case c3 => unfold maxLen; omega
  case c4 => omega
  case c5 => exact Nat.le_refl _
  intro v' w5 hown5 hgrow5 _
  have HR5 : Hid (IRow w5 w.heap.size v' l) := by
    show World.ownsRow _ _ _ _ _ _ _
    rw [HL.out]; exact hown5
  have HB5 : Hid (Below w.heap.size w w5) := (Below.refl _ _).grown hgrow5 (Nat.le_refl _) (fun j e => by cases e)
  clear hown5 hgrow5 hi hz0 hz1 hz2
  go_wp2_with fail
  go_ret
  exact ⟨_, rfl, HR5.out, HB5.out⟩
theorem not_nil (ad : Addr) (n cap : Nat) (w : World) : (binOp .eql 22 (.slice (some ad) n cap) (.slice none 0 0)).run Try.prog w = .ok (.bool false) w := by kernel_rfl
set_option maxHeartbeats 1000000 in
theorem clone_any (l : List Int) (hl : l.length = 24) (v : Value) (w : World) (hv : Ints w v l) : Calls Try.prog 43 #[v] w fun e w' => ∃ u, e = .returned u ∧ IRow w' w.heap.size u l ∧ Below w.heap.size w w' := by
  obtain ⟨i0, hi, hz0, hz1, hz2⟩ := info_parts info_int
  obtain ⟨g, o, cap, rfl, hg, hcc⟩ := hv.open24 hl
  have HV := hide hv
  have HL := hide hl
  have hnn := not_nil ⟨g, o, none⟩ 24 cap
  clear hcc hv hl
  go_enter Try.func43, Try.ntmps43
  have HO : Hid ((w.alloc (.cells #[] 3)).ownsRow w.heap.size 3 1 (.slice (some ⟨w.heap.size, 0, none⟩) 0 0) 0 []) := by
    refine ⟨rfl, .inr ⟨w.heap.size, 0, #[], rfl, Nat.le_refl _, heap_alloc_new _ _, ?_⟩⟩
    simp
  have HVa := hide (HV.out.below (below_alloc w (.cells #[] 3)))
  go_wp2_with (at_builtin; refine wpList_append_own _ rfl (.tmp 5) (.tmp 6) 22 rfl w.heap.size 3 i0 _ 1 8 Try.underlying22 hi hz0 hz1 hz2 rfl (by decide) (.slice (some ⟨w.heap.size, 0, none⟩) 0 0) 0 [] rfl HO.out ⟨g, o, none⟩ 24 cap (l.map (Value.int .i64)) rfl ?c0 ?c1 ?c2 ?c3 ?c4 ?c5 ?_)
  case c0 => rw [List.length_map, HL.out]
  case c1 => exact ints_news (ao := some ⟨g, o, none⟩) (cap := cap) (by rw [HL.out]; exact HVa.out) _ rfl
  case c2 => exact map_one l
  case c3 => unfold maxLen; omega
  case c4 => omega
  case c5 => rw [size_alloc]; omega
  intro v' w5 hown5 hgrow5 _
  have HR5 : Hid (IRow w5 w.heap.size v' l) := by
    show World.ownsRow _ _ _ _ _ _ _
    rw [HL.out]; exact hown5
  have HB5 : Hid (Below w.heap.size w w5) := (below_alloc w (.cells #[] 3)).grown hgrow5 (by rw [size_alloc]; omega) (fun j e => by cases e; exact Nat.le_refl _)
  clear hown5 hgrow5 hi hz0 hz1 hz2
  go_wp2_with fail
  go_ret
  exact ⟨_, rfl, HR5.out, HB5.out⟩
/-- what Set answers -/
def setE (l : List Int) (i x : Int) : List Int × Int := if chk l = 0 then (if 0 ≤ i ∧ i ≤ 23 then (souE (l.set i.toNat x), chk (l.set i.toNat x)) else ([], 1)) else ([], chk l)
theorem setE_cases (l : List Int) (i x : Int) : (chk l ≠ 0 ∧ setE l i x = ([], chk l)) ∨ (Sound l ∧ ¬ (0 ≤ i ∧ i ≤ 23) ∧ setE l i x = ([], 1)) ∨ (∃ k : Nat, Sound l ∧ i = (k : Int) ∧ k < 24 ∧ setE l i x = (souE (l.set k x), chk (l.set k x))) := by
  unfold setE
  by_cases hc : chk l = 0
  · rw [if_pos hc]
    by_cases hin : 0 ≤ i ∧ i ≤ 23
    · rw [if_pos hin]; exact .inr (.inr ⟨i.toNat, sound_of hc, by omega, by omega, rfl⟩)
    · rw [if_neg hin]; exact .inr (.inl ⟨sound_of hc, hin, rfl⟩)
  · rw [if_neg hc]; exact .inl ⟨hc, rfl⟩
theorem par_no (i : Int) (hi : ¬ (0 ≤ i ∧ i ≤ 23)) : (decide (0 ≤ i) && decide (i ≤ 23)) = false := by
  by_cases h1 : 0 ≤ i
  · simp; omega
  · simp; omega
set_option maxHeartbeats 600000 in
theorem pset_any (l : List Int) (i x : Int) (v : Value) (w : World) (hv : Ints w v l) : Calls Try.prog 22 #[v, .int .i64 i, .int .i64 x] w fun e w' => ∃ u, e = .returned (.tuple #[u, .int .i64 (setE l i x).2]) ∧ IRow w' w.heap.size u (setE l i x).1 ∧ Below w.heap.size w w' := by
  have hm := check_any l v w hv
  have HP := hide (isParam_any i)
  rcases setE_cases l i x with ⟨hc, hE⟩ | ⟨hs, hin, hE⟩ | ⟨k, hs, rfl, hk, hE⟩
  · rw [hE]
    simp only
    obtain ⟨a, cap, rfl, _⟩ := hv
    generalize chk l = c at hm hc ⊢
    generalize l.length = n at hm ⊢
    have hne : (c != 0) = true := by simp [hc]
    clear hc hE
    go_enter Try.func22, Try.ntmps22
    go_wp2_with fail
    refine hm.mono ?_
    rintro e w1 ⟨rfl, hB1⟩
    have HB1 := hide hB1
    clear hB1 hm
    go_wp2_with fail
    go_ret2
    exact ⟨_, rfl, IRow.nil _ _, HB1.out⟩
  · rw [hE]
    simp only
    rw [hs.chk] at hm
    rw [par_no i hin] at HP
    obtain ⟨a, cap, rfl, _⟩ := hv
    generalize l.length = n at hm ⊢
    clear hE hs hin
    go_enter Try.func22, Try.ntmps22
    go_wp2_with fail
    refine hm.mono ?_
    rintro e w1 ⟨rfl, hB1⟩
    have HB1 := hide hB1
    clear hB1 hm
    go_wp2_with fail
    refine (HP.out _).mono ?_
    rintro e w2 ⟨rfl, hw2⟩
    obtain rfl := hw2.symm
    go_wp2_with fail
    go_ret2
    exact ⟨_, rfl, IRow.nil _ _, HB1.out⟩
  · rw [hE]
    simp only
    rw [hs.chk] at hm
    rw [decide_eq_true (show 0 ≤ (k : Int) by omega), decide_eq_true (show (k : Int) ≤ 23 by omega)] at HP
    have HV := hide hv
    have HCl := hide (fun W hW => clone_any l hs.len v W hW)
    have HSo := hide (sound_any (l.set k x))
    have HLn := hide hs.len
    obtain ⟨a, cap, rfl, _⟩ := hv
    obtain ⟨D, HD⟩ : ∃ D, Hid (l.set k x = D) := ⟨_, rfl⟩
    rw [HD.out] at HSo ⊢
    generalize souE D = DL at HSo ⊢
    generalize chk D = dc at HSo ⊢
    rw [HLn.out] at hm HV HCl ⊢
    clear hE hs
    go_enter Try.func22, Try.ntmps22
    go_wp2_with fail
    refine hm.mono ?_
    rintro e w1 ⟨rfl, hB1⟩
    have HB1 := hide hB1
    have HV1 := hide (HV.out.below hB1)
    clear hB1 hm HV
    go_wp2_with fail
    refine (HP.out _).mono ?_
    rintro e w2 ⟨rfl, hw2⟩
    obtain rfl := hw2.symm
    clear hw2 HP
    go_wp2_with fail
    refine (HCl.out _ HV1.out).mono ?_
    rintro e w3 ⟨u3, rfl, hR3, hB3⟩
    have HB3 : Hid (Below w.heap.size w w3) := below_next HB1.out (Nat.le_refl _) hB3
    obtain ⟨g3, c3, hu3, hbg, ⟨y, hy⟩, hfz, hset⟩ := hR3.put k (by rw [HLn.out]; exact hk) x
    rw [HLn.out] at hu3
    subst hu3
    rw [HD.out] at hset
    have hws := HB1.out.size
    have HR4 := hide (hset.lower hws)
    have HB4 : Hid (Below w.heap.size w (w3.setCell ⟨g3, k, none⟩ (.int .i64 x))) := HB3.out.setCell (p := ⟨g3, k, none⟩) (show w.heap.size ≤ g3 by omega) _
    clear hset hR3 hB3 HB3
    have hki : (k : Int) < 24 := by omega
    go_wp2_with fail
    refine (HSo.out _ _ _ HR4.out).mono ?_
    rintro e w5 ⟨u5, rfl, _, hR5, hB5⟩
    have HR5 := hide hR5
    have HB5 : Hid (Below w.heap.size w w5) := below_next HB4.out (Nat.le_refl _) hB5
    clear hR5 hB5
    go_wp2_with fail
    go_ret2
    exact ⟨_, rfl, HR5.out, HB5.out⟩
set_option maxHeartbeats 600000 in
theorem rset_any (l : List Int) (i x : Int) (v : Value) (w : World) (hv : Ints w v l) : Calls Try.prog 23 #[v, .int .i64 i, .int .i64 x] w fun e w' => ∃ u, e = .returned (.tuple #[u, .int .i64 (setE l i x).2]) ∧ IRow w' w.heap.size u (setE l i x).1 ∧ Below w.heap.size w w' := by
  have hm := rcheck_any l v w hv
  rcases setE_cases l i x with ⟨hc, hE⟩ | ⟨hs, hin, hE⟩ | ⟨k, hs, rfl, hk, hE⟩
  · rw [hE]
    simp only
    obtain ⟨a, cap, rfl, _⟩ := hv
    generalize chk l = c at hm hc ⊢
    generalize l.length = n at hm ⊢
    have hne : (c != 0) = true := by simp [hc]
    clear hc hE
    go_enter Try.func23, Try.ntmps23
    go_wp2_with fail
    refine hm.mono ?_
    rintro e w1 ⟨rfl, hB1⟩
    have HB1 := hide hB1
    clear hB1 hm
    go_wp2_with fail
    go_ret2
    exact ⟨_, rfl, IRow.nil _ _, HB1.out⟩
  · rw [hE]
    simp only
    rw [hs.chk] at hm
    obtain ⟨a, cap, rfl, _⟩ := hv
    generalize l.length = n at hm ⊢
    by_cases h1 : i < 0
    · have d1 := decide_eq_true h1
      clear hE hs hin h1
      go_enter Try.func23, Try.ntmps23
      go_wp2_with fail
      refine hm.mono ?_
      rintro e w1 ⟨rfl, hB1⟩
      have HB1 := hide hB1
      clear hB1 hm
      go_wp2_with fail
      go_ret2
      exact ⟨_, rfl, IRow.nil _ _, HB1.out⟩
    · have d1 := decide_eq_false h1
      have d2 : decide (24 ≤ i) = true := decide_eq_true (by omega)
      clear hE hs hin h1
      go_enter Try.func23, Try.ntmps23
      go_wp2_with fail
      refine hm.mono ?_
      rintro e w1 ⟨rfl, hB1⟩
      have HB1 := hide hB1
      clear hB1 hm
      go_wp2_with fail
      go_ret2
      exact ⟨_, rfl, IRow.nil _ _, HB1.out⟩
  · rw [hE]
    simp only
    rw [hs.chk] at hm
    have HV := hide hv
    have HCl := hide (fun W hW => rints_any l hs.len v W hW)
    have HSo := hide (rcheck_any (l.set k x))
    have HLn := hide hs.len
    obtain ⟨a, cap, rfl, _⟩ := hv
    obtain ⟨D, HD⟩ : ∃ D, Hid (l.set k x = D) := ⟨_, rfl⟩
    have HDn : Hid (D.length = 24) := by show _ = _; rw [← HD.out, List.length_set, HLn.out]
    rw [HD.out] at HSo ⊢
    have HSU : Hid ((chk D = 0 → souE D = D) ∧ (chk D ≠ 0 → souE D = [])) := ⟨fun h => by unfold souE; rw [if_pos h], fun h => by unfold souE; rw [if_neg h]⟩
    generalize souE D = DL at HSU ⊢
    generalize chk D = dc at HSo HSU ⊢
    rw [HLn.out] at hm HV HCl ⊢
    have d1 : decide ((k : Int) < 0) = false := decide_eq_false (by omega)
    have d2 : decide (24 ≤ (k : Int)) = false := decide_eq_false (by omega)
    clear hE hs
    go_enter Try.func23, Try.ntmps23
    go_wp2_with fail
    refine hm.mono ?_
    rintro e w1 ⟨rfl, hB1⟩
    have HB1 := hide hB1
    have HV1 := hide (HV.out.below hB1)
    clear hB1 hm HV
    go_wp2_with fail
    refine (HCl.out _ HV1.out).mono ?_
    rintro e w3 ⟨u3, rfl, hR3, hB3⟩
    have HB3 : Hid (Below w.heap.size w w3) := below_next HB1.out (Nat.le_refl _) hB3
    obtain ⟨g3, c3, hu3, hbg, ⟨y, hy⟩, hfz, hset⟩ := hR3.put k (by rw [HLn.out]; exact hk) x
    rw [HLn.out] at hu3
    subst hu3
    rw [HD.out] at hset
    have hws := HB1.out.size
    have HR4 := hide (hset.lower hws)
    have HB4 : Hid (Below w.heap.size w (w3.setCell ⟨g3, k, none⟩ (.int .i64 x))) := HB3.out.setCell (p := ⟨g3, k, none⟩) (show w.heap.size ≤ g3 by omega) _
    clear hset hR3 hB3 HB3
    have hki : (k : Int) < 24 := by omega
    go_wp2_with fail
    refine (HSo.out _ _ HR4.out.ints).mono ?_
    rintro e w5 ⟨rfl, hB5⟩
    have HR5 := hide (HR4.out.below hB5)
    have HB5 : Hid (Below w.heap.size w w5) := below_next HB4.out (Nat.le_refl _) hB5
    clear hB5
    by_cases hd : dc = 0
    · have hne : (dc != 0) = false := by simp [hd]
      have HDL := hide (HSU.out.1 hd)
      have HD0 := hide hd
      clear hd
      go_wp2_with fail
      go_ret2
      rw [HD0.out]
      exact ⟨_, rfl, by rw [HDL.out]; exact HR5.out, HB5.out⟩
    · have hne : (dc != 0) = true := by simp [hd]
      have HDL := hide (HSU.out.2 hd)
      clear hd
      go_wp2_with fail
      go_ret2
      exact ⟨_, rfl, by rw [HDL.out]; exact IRow.nil _ _, HB5.out⟩
end Go.Proofs.Ytfhcfngogfefjaa
