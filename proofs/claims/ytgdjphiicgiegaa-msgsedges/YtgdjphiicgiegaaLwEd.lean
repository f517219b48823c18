/- MsgsEdges. -/
import Derived.Test.YtgdjphiicgiegaaMs11
import Derived.OwnWalk
namespace Go.Proofs.Ytgdjphiicgiegaa
open Go.RowKit Go.Great

/-- all fields 0 but one -/
def oneL (m a : Nat) (n : Int) : List Int := (List.replicate m 0).set a n
theorem oneL_len (m a : Nat) (n : Int) : (oneL m a n).length = m := by simp [oneL]
theorem oneL_at (m a : Nat) (n : Int) (i : Nat) (h : i < m) : (oneL m a n).getD i 0 = if i = a then n else 0 := by
  unfold oneL
  simp only [List.getD]
  rw [List.getElem?_set]
  by_cases e : i = a
  · subst e
    simp [h]
  · rw [if_neg (fun h => e h.symm), if_neg e]
    simp [h]
theorem fit_zero {w : Int} (h : Wid w) : fitB w 0 = true := by
  rcases h with rfl | rfl | rfl | rfl | rfl <;> decide
theorem fits_one (ws : List Int) (hw : ∀ w ∈ ws, Wid w) (a : Nat) (n : Int) : ∀ k, k ≤ ws.length → fitsK ws (oneL ws.length a n) k = (decide (a < k) == false || fitB (ws.getD a 0) n) := by
  intro k
  induction k with
  | zero => intro _; simp [fitsK]
  | succ k ih =>
    intro hk
    rw [fitsK, ih (by omega), oneL_at _ _ _ _ (by omega)]
    by_cases e : k = a
    · subst e
      simp
    · rw [if_neg e, fit_zero (widD hw k (by omega)), Bool.and_true]
      congr 2
      by_cases h2 : a < k
      · simp [h2, show a < k + 1 by omega]
      · simp [h2, show ¬ a < k + 1 by omega]
theorem edges_enc (k : Int) (a : Nat) (n : Int) (h : a < (wsK k).length) : (encM 0 k (oneL (wsK k).length a n)).2 = if fitB ((wsK k).getD a 0) n = true then 0 else 5 := by
  have hf := fits_one (wsK k) (wsK_wid k) a n (wsK k).length (Nat.le_refl _)
  simp only [h, decide_true] at hf
  have hf2 : fitsK (wsK k) (oneL (wsK k).length a n) (wsK k).length = fitB ((wsK k).getD a 0) n := by rw [hf]; rfl
  by_cases hb : fitB ((wsK k).getD a 0) n = true
  · rw [if_pos hb, encM_ok 0 k _ (by omega) (oneL_len _ _ _) (by omega) (by rw [hf2, hb])]
  · rw [if_neg hb, encM_range 0 k _ (by omega) (oneL_len _ _ _) (.inr (by rw [hf2]; simpa using hb))]
set_option maxHeartbeats 2000000 in
theorem edges_in (k : Int) (h0 : 0 ≤ k) (h1 : k ≤ 255) (a : Nat) (n : Int) (ha : a < (wsK k).length) (w : World) : Calls Try.prog 8 #[.int .u8 k, .int .i64 (a : Int), .int .i64 n] w fun e w' => e = .returned (.bool true) ∧ Below w.heap.size w w' := by
  obtain ⟨i0, hi, hz0, hz1, hz2⟩ := info_parts info_int
  have hWI := fun W => rwidths_any k h0 h1 W
  have hl7 := wsK_len k
  have hwa := widD (wsK_wid k) a ha
  have hen := fun v w hv => mencode_any 0 k h0 h1 (oneL (wsK k).length a n) v w hv (by rw [oneL_len]; omega)
  have HE := hide (edges_enc k a n ha)
  generalize encM 0 k (oneL (wsK k).length a n) = E at hen HE
  obtain ⟨⟨fa, fb, fp⟩, fe⟩ := E
  simp only [] at hen HE
  generalize wsK k = ws at hWI hl7 hwa hen HE ha
  obtain ⟨m, hm⟩ : ∃ m, ws.length = m := ⟨_, rfl⟩
  rw [hm] at ha hl7 hen
  have HM := hide hm
  clear hm
  have ha2 : (a : Int) < (m : Int) := by omega
  have ha0 : (0 : Int) ≤ (a : Int) := by omega
  go_enter Try.func8, Try.ntmps8
  go_wp2_with fail
  refine (hWI _).mono ?_
  rintro e w1 ⟨v, rfl, hI1, hB1⟩
  have HI1 := hide hI1
  obtain ⟨av, cv, rfl, _⟩ := hI1
  rw [HM.out] at HI1 ⊢
  have HB1 := hide hB1
  clear hB1 hWI
  go_wp2_with (at_make; refine wpList_make_full _ rfl (.tmp 24) (.tmp 24) 23 rfl w.heap.size 3 i0 _ 1 Try.underlying23 hi hz0 hz1 .i64 .i64 _ _ m rfl rfl rfl rfl ?b1 ?b2 ?b3 ?_)
  case b1 => rw [hz2]; omega
  case b2 => unfold maxLen; omega
  case b3 => exact HB1.out.size
  intro w2 hown2 hgrow2
  rw [toList_madeCells_one] at hown2
  have hI2 : IRow w2 w.heap.size (.slice (some ⟨w1.heap.size, 0, none⟩) m m) (List.replicate m 0) := by
    unfold IRow
    rw [List.length_replicate, List.map_replicate]
    exact hown2
  have HB2 : Hid (Below w.heap.size w w2) := HB1.out.grown hgrow2 HB1.out.size (fun k e => by cases e)
  have HW2 : Hid (Ints w2 (.slice av m cv) ws) := HI1.out.below ((Below.refl w1.heap.size w1).grown hgrow2 (Nat.le_refl _) (fun k e => by cases e))
  have c0 := hI2.cell a (by rw [List.length_replicate]; exact ha)
  have cz := World.ownsRow.frozenAt hown2 a
  have hst := (World.ownsRow.stored hown2 a (.int .i64 n))
  have HI3 : Hid (Ints (w2.setCell ⟨w1.heap.size, a, none⟩ (.int .i64 n)) (.slice (some ⟨w1.heap.size, 0, none⟩) m m) (oneL m a n)) := by
    have : IRow (w2.setCell ⟨w1.heap.size, a, none⟩ (.int .i64 n)) w.heap.size (.slice (some ⟨w1.heap.size, 0, none⟩) m m) (oneL m a n) := by
      unfold IRow oneL
      rw [List.length_set, List.length_replicate, List.map_set, List.map_replicate]
      exact hst.1
    exact this.ints
  have HB3 : Hid (Below w.heap.size w (w2.setCell ⟨w1.heap.size, a, none⟩ (.int .i64 n))) := HB2.out.setCell (p := ⟨w1.heap.size, a, none⟩) HB1.out.size _
  have HW3 : Hid (∀ g o i x, g < w1.heap.size → w1.cell? ⟨g, o, none⟩ = some x → i = o → (w2.setCell ⟨w1.heap.size, a, none⟩ (.int .i64 n)).cell? ⟨g, i, none⟩ = some x) := by
    rintro g o i x hg hc rfl
    rw [World.cell?_of_block (a := ⟨g, i, none⟩) (Below.heap_setCell _ _ _ _ (by show g ≠ w1.heap.size; omega)), ← hc]
    exact World.cell?_of_block (a := ⟨g, i, none⟩) (hgrow2.block g hg (by simp))
  have HX : Hid (∃ g o, av = some ⟨g, o, none⟩ ∧ g < (w2.setCell ⟨w1.heap.size, a, none⟩ (.int .i64 n)).heap.size ∧ (w2.setCell ⟨w1.heap.size, a, none⟩ (.int .i64 n)).cell? ⟨g, o + a, none⟩ = some (.int .i64 (ws.getD a 0))) := by
    obtain ⟨av', cv', ev, hcc⟩ := HI1.out
    injection ev with ev1 _ _
    rw [HM.out] at hcc
    obtain ⟨g, o, e, hg, hc⟩ := hcc (by omega)
    refine ⟨g, o, by rw [ev1, e], ?_, HW3.out g (o + a) (o + a) _ hg (hc a ha) rfl⟩
    have := hgrow2.size
    have h2 : (w2.setCell ⟨w1.heap.size, a, none⟩ (.int .i64 n)).heap.size = w2.heap.size := by simp [World.setCell]
    omega
  clear hown2 hgrow2 hI2 hst HW2 HW3 HB2 HI1 hi hz0 hz1 hz2
  go_wp2_with fail
  refine (hen _ _ HI3.out).mono ?_
  rintro e w4 ⟨rfl, hB4⟩
  obtain ⟨g, o, rfl, hg, hxc⟩ := HX.out
  have d1 := (hB4.cell (p := ⟨g, o + a, none⟩) hg).trans hxc
  have hg4 : g < w4.heap.size := Nat.lt_of_lt_of_le hg hB4.size
  have HB4 := hide (below_next HB3.out (Nat.le_refl _) hB4)
  have d2 := ((below_alloc w4 (.cells #[.int .i64 fa, .int .i64 fb, .string fp] 28)).cell (p := ⟨g, o + a, none⟩) hg4).trans d1
  have HB5 := hide (below_next HB4.out (Nat.le_refl _) (below_alloc w4 (.cells #[.int .i64 fa, .int .i64 fb, .string fp] 28)))
  generalize ws.getD a 0 = x at hwa d2 HE
  have HF := hide (fitB_iff x n)
  clear hB4 hxc d1 c0 cz hen HX HI3 HB3 HB4 hg hg4
  have hcase : ((leW x ≤ n ∧ n ≤ grW x) ∧ fe = 0) ∨ (n < leW x ∧ fe = 5) ∨ ((leW x ≤ n ∧ grW x < n) ∧ fe = 5) := by
    have h1 := HE.out
    by_cases hfit : fitB x n = true
    · rw [if_pos hfit] at h1
      exact .inl ⟨HF.out.1 hfit, h1⟩
    · rw [if_neg hfit] at h1
      have h2 : ¬ (leW x ≤ n ∧ n ≤ grW x) := fun h => hfit (HF.out.2 h)
      by_cases h3 : n < leW x
      · exact .inr (.inl ⟨h3, h1⟩)
      · exact .inr (.inr ⟨⟨by omega, by omega⟩, h1⟩)
  clear HE HF
  rcases hwa with rfl | rfl | rfl | rfl | rfl
  all_goals
    simp only [show leW 1 = 0 from rfl, show leW 2 = 0 from rfl, show leW 4 = 0 from rfl, show leW (-2) = -32768 from rfl, show leW (-4) = -2147483648 from rfl, show grW 1 = 255 from rfl, show grW 2 = 65535 from rfl, show grW 4 = 4294967295 from rfl, show grW (-2) = 32767 from rfl, show grW (-4) = 2147483647 from rfl] at hcase
    rcases hcase with ⟨⟨n1, n2⟩, rfl⟩ | ⟨n1, rfl⟩ | ⟨⟨n1, n2⟩, rfl⟩
  all_goals
    go_wp2_with fail
    refine (awake5_any _).mono ?_
    rintro e w6 ⟨rfl, hB6⟩
    have HB6 := hide (below_next HB5.out (Nat.le_refl _) hB6)
    clear hB6
    go_wp2_with fail
    go_ret
    exact ⟨(by first | rfl | exact ret_bool (by simp; omega)), HB6.out⟩
set_option maxHeartbeats 1000000 in
theorem edges_out (k : Int) (h0 : 0 ≤ k) (h1 : k ≤ 255) (a n : Int) (ha : a < 0 ∨ (0 ≤ a ∧ ((wsK k).length : Int) ≤ a)) (w : World) : Calls Try.prog 8 #[.int .u8 k, .int .i64 a, .int .i64 n] w fun e w' => e = .returned (.bool true) ∧ Below w.heap.size w w' := by
  have hWI := fun W => rwidths_any k h0 h1 W
  have hl7 := wsK_len k
  generalize wsK k = ws at hWI hl7 ha
  rcases ha with ha | ⟨ha, ha2⟩
  all_goals
    go_enter Try.func8, Try.ntmps8
    go_wp2_with fail
    refine (hWI _).mono ?_
    rintro e w1 ⟨v, rfl, hI1, hB1⟩
    obtain ⟨av, cv, rfl, _⟩ := hI1
    have HB1 := hide hB1
    clear hB1 hWI
    go_wp2_with fail
    refine (awake5_any _).mono ?_
    rintro e w6 ⟨rfl, hB6⟩
    have HB6 := hide (below_next HB1.out (Nat.le_refl _) hB6)
    clear hB6
    go_wp2_with fail
    go_ret
    exact ⟨rfl, HB6.out⟩
theorem MsgsEdges_walk (k a n : Int) (hk : (Lit.int .u8 k).wf = true) (w : World) : Calls Try.prog 8 #[.int .u8 k, .int .i64 a, .int .i64 n] w fun e w' => e = .returned (.bool true) ∧ Below w.heap.size w w' := by
  obtain ⟨c, hc⟩ := wf_u8 hk
  have hcl := c.toNat_lt
  by_cases ha : 0 ≤ a ∧ a < ((wsK k).length : Int)
  · obtain ⟨b, rfl⟩ : ∃ b : Nat, a = (b : Int) := ⟨a.toNat, by omega⟩
    exact edges_in k (by omega) (by omega) b n (by omega) w
  · exact edges_out k (by omega) (by omega) a n (by omega) w
end Go.Proofs.Ytgdjphiicgiegaa
