/- MsgsThere. -/
import Derived.Test.YtgdjphiicgiegaaMs11
namespace Go.Proofs.Ytgdjphiicgiegaa
open Go.RowKit Go.Great

theorem decM_cases (id : Int) (p : ByteArray) : decM id p = ((0, []), 6) ∨ decM id p = ((0, []), 3) ∨ (∃ fl, decM id p = ((id, fl), 0) ∧ fl.length ≤ 7 ∧ 1 ≤ id ∧ id ≤ 11) := by
  by_cases h1 : (wsK id).length = 0
  · exact .inl (decM_kind id p h1)
  · by_cases h2 : p.size = totK (wsK id) (wsK id).length
    · exact .inr (.inr ⟨_, decM_ok id p h1 h2, by rw [fieK_len]; exact wsK_len id, (wsK_some h1).1, (wsK_some h1).2⟩)
    · exact .inr (.inl (decM_size id p h1 h2))
set_option maxHeartbeats 2000000 in
theorem there_err (s id : Int) (p : ByteArray) (w : World) (de : Int) (hde : de = 6 ∨ de = 3) (hD : decM id p = ((0, []), de)) : Calls Try.prog 6 #[.agg #[.int .i64 s, .int .i64 id, .string p]] w fun e w' => e = .returned (.bool true) ∧ Below w.heap.size w w' := by
  have hd := fun w => mdecode_any s id p w
  simp only [hD] at hd
  have hne : (de != 0) = true := by rcases hde with rfl | rfl <;> rfl
  clear hD hde
  go_enter Try.func6, Try.ntmps6
  go_wp2_with fail
  refine (hd _).mono ?_
  rintro e w1 ⟨u, rfl, hR1, hB1⟩
  have HB1 : Hid (Below w.heap.size w w1) := below_over hB1
  obtain ⟨ua, uc, rfl⟩ := hR1.shape
  clear hB1 hR1 hd
  have HM2 := hide (msg_new w1 (.int .u8 0) (.slice ua ([] : List Int).length uc))
  have HB2 := hide (below_next HB1.out (Nat.le_refl _) (below_alloc w1 (.cells #[.int .u8 0, .slice ua ([] : List Int).length uc] 25)))
  go_wp2_with fail
  refine (awake5_any _).mono ?_
  rintro e w3 ⟨rfl, hB3⟩
  have hM3 := HM2.out.below hB3
  have c0 := hM3.c0
  have c1 := hM3.c1
  have HB3 := hide (below_next HB2.out (Nat.le_refl _) hB3)
  clear hB3 hM3 HM2 HB2 HB1
  go_wp2_with fail
  go_ret
  exact ⟨rfl, HB3.out⟩
set_option maxHeartbeats 2000000 in
theorem there_ok (s id : Int) (p : ByteArray) (w : World) (fl : List Int) (hD : decM id p = ((id, fl), 0)) (hf : fl.length ≤ 7) (h1 : 1 ≤ id) (h11 : id ≤ 11) : Calls Try.prog 6 #[.agg #[.int .i64 s, .int .i64 id, .string p]] w fun e w' => e = .returned (.bool true) ∧ Below w.heap.size w w' := by
  have hd := fun w => mdecode_any s id p w
  have hE := (enc_dec s id p (by rw [hD])).2
  simp only [hD] at hd hE
  have hen := fun v w hv => mencode_any s id (by omega) (by omega) fl v w hv (by omega)
  clear hD
  by_cases hs : 0 ≤ s ∧ s ≤ 255
  · rw [if_pos hs] at hE
    simp only [hE] at hen
    obtain ⟨hs0, hs1⟩ := hs
    have heq := fun wx => frame_eq s id s id p p wx
    simp only [decide_true] at heq
    clear hE
    go_enter Try.func6, Try.ntmps6
    go_wp2_with fail
    refine (hd _).mono ?_
    rintro e w1 ⟨u, rfl, hR1, hB1⟩
    have HF1 := hide ((frm_new w (.int .i64 s) (.int .i64 id) (.string p)).below hB1)
    have HB1 : Hid (Below w.heap.size w w1) := below_over hB1
    have HI1 := hide hR1.ints
    obtain ⟨ua, uc, rfl⟩ := hR1.shape
    clear hB1 hR1 hd
    have HM2 := hide (msg_new w1 (.int .u8 id) (.slice ua fl.length uc))
    have HF2 := hide (HF1.out.below (below_alloc w1 (.cells #[.int .u8 id, .slice ua fl.length uc] 25)))
    have HI2 := hide (HI1.out.below (below_alloc w1 (.cells #[.int .u8 id, .slice ua fl.length uc] 25)))
    have HB2 := hide (below_next HB1.out (Nat.le_refl _) (below_alloc w1 (.cells #[.int .u8 id, .slice ua fl.length uc] 25)))
    have f0 := HF2.out.c0
    clear HF1 HI1 HB1
    go_wp2_with fail
    refine (hen _ _ HI2.out).mono ?_
    rintro e w3 ⟨rfl, hB3⟩
    have HF3 := hide (HF2.out.below hB3)
    have HB3 := hide (below_next HB2.out (Nat.le_refl _) hB3)
    clear hB3 HF2 HB2 HI2 f0 hen
    have hG4 := frm_new w3 (.int .i64 s) (.int .i64 id) (.string p)
    have hF4 := HF3.out.below (below_alloc w3 (.cells #[.int .i64 s, .int .i64 id, .string p] 28))
    have HB4 := hide (below_next HB3.out (Nat.le_refl _) (below_alloc w3 (.cells #[.int .i64 s, .int .i64 id, .string p] 28)))
    have f0 := hF4.c0
    have HG4 := hide hG4
    have HF4 := hide hF4
    clear hG4 hF4 HF3 HB3
    go_wp2_with fail
    refine (awake5_any _).mono ?_
    rintro e w5 ⟨rfl, hB5⟩
    have hG5 := HG4.out.below hB5
    have hF5 := HF4.out.below hB5
    have a0 := hG5.c0
    have a1 := hG5.c1
    have a2 := hG5.c2
    have b0 := hF5.c0
    have b1 := hF5.c1
    have b2 := hF5.c2
    have HB5 := hide (below_next HB4.out (Nat.le_refl _) hB5)
    clear hB5 hG5 hF5 f0
    go_wp2_with fail
    go_ret
    exact ⟨rfl, HB5.out⟩
  · rw [if_neg hs] at hE
    simp only [hE] at hen
    have hs2 : s < 0 ∨ (0 ≤ s ∧ 255 < s) := by omega
    clear hE hs
    rcases hs2 with hs | ⟨hs, hs2⟩
    all_goals
      go_enter Try.func6, Try.ntmps6
      go_wp2_with fail
      refine (hd _).mono ?_
      rintro e w1 ⟨u, rfl, hR1, hB1⟩
      have HF1 := hide ((frm_new w (.int .i64 s) (.int .i64 id) (.string p)).below hB1)
      have HB1 : Hid (Below w.heap.size w w1) := below_over hB1
      have HI1 := hide hR1.ints
      obtain ⟨ua, uc, rfl⟩ := hR1.shape
      clear hB1 hR1 hd
      have HF2 := hide (HF1.out.below (below_alloc w1 (.cells #[.int .u8 id, .slice ua fl.length uc] 25)))
      have HI2 := hide (HI1.out.below (below_alloc w1 (.cells #[.int .u8 id, .slice ua fl.length uc] 25)))
      have HB2 := hide (below_next HB1.out (Nat.le_refl _) (below_alloc w1 (.cells #[.int .u8 id, .slice ua fl.length uc] 25)))
      have f0 := HF2.out.c0
      clear HF1 HI1 HB1
      go_wp2_with fail
      refine (hen _ _ HI2.out).mono ?_
      rintro e w3 ⟨rfl, hB3⟩
      have HF3 := hide (HF2.out.below hB3)
      have HB3 := hide (below_next HB2.out (Nat.le_refl _) hB3)
      clear hB3 HF2 HB2 HI2 f0 hen
      have hF4 := HF3.out.below (below_alloc w3 (.cells #[.int .i64 0, .int .i64 0, .string ⟨#[]⟩] 28))
      have HB4 := hide (below_next HB3.out (Nat.le_refl _) (below_alloc w3 (.cells #[.int .i64 0, .int .i64 0, .string ⟨#[]⟩] 28)))
      have f0 := hF4.c0
      clear hF4 HF3 HB3
      go_wp2_with fail
      refine (awake5_any _).mono ?_
      rintro e w5 ⟨rfl, hB5⟩
      have HB5 := hide (below_next HB4.out (Nat.le_refl _) hB5)
      clear hB5 f0
      go_wp2_with fail
      go_ret
      exact ⟨rfl, HB5.out⟩
theorem MsgsThere_walk (s id : Int) (p : ByteArray) (w : World) : Calls Try.prog 6 #[.agg #[.int .i64 s, .int .i64 id, .string p]] w fun e w' => e = .returned (.bool true) ∧ Below w.heap.size w w' := by
  rcases decM_cases id p with h | h | ⟨fl, h, h1, h2, h3⟩
  · exact there_err s id p w 6 (.inl rfl) h
  · exact there_err s id p w 3 (.inr rfl) h
  · exact there_ok s id p w fl h h1 h2 h3
end Go.Proofs.Ytgdjphiicgiegaa
