/- The chapter's examples: awake. -/
import Derived.Test.YtijdobhdjmmgmaaFr6
import Derived.Laws.StructEq
namespace Go.Proofs.Ytijdobhdjmmgmaa
open Go.RowKit Go.Great

theorem frame_eq (a b a' b' : Int) (p p' : ByteArray) (wx : World) : (binOp .eql 23 (.agg #[.int .i64 a, .int .i64 b, .string p]) (.agg #[.int .i64 a', .int .i64 b', .string p'])).run Try.prog wx = .ok (.bool (decide ((a, b, p) = (a', b', p')))) wx := by
  have e : p.toList = p'.toList ↔ p = p' := ⟨fun h => bs_ext (by rw [ByteArray.toList_eq, ByteArray.toList_eq] at h; exact h), fun h => by rw [h]⟩
  by_cases h1 : a = a'
  · by_cases h2 : b = b'
    · by_cases h3 : p = p' <;> simp [go_sem, h1, h2, h3, e]
    · simp [go_sem, h1, h2]
  · simp [go_sem, h1]
theorem frame_neq (a b a' b' : Int) (p p' : ByteArray) (wx : World) : (binOp .neq 23 (.agg #[.int .i64 a, .int .i64 b, .string p]) (.agg #[.int .i64 a', .int .i64 b', .string p'])).run Try.prog wx = .ok (.bool (!decide ((a, b, p) = (a', b', p')))) wx := by
  have e : p.toList = p'.toList ↔ p = p' := ⟨fun h => bs_ext (by rw [ByteArray.toList_eq, ByteArray.toList_eq] at h; exact h), fun h => by rw [h]⟩
  by_cases h1 : a = a'
  · by_cases h2 : b = b'
    · by_cases h3 : p = p' <;> simp [go_sem, h1, h2, h3, e]
    · simp [go_sem, h1, h2]
  · simp [go_sem, h1]
theorem own_shape {w : World} {base n : Nat} {v : Value} {fs : List Fr} (h : w.ownsRow base 23 3 v n (cellsF fs)) : ∃ a cap, v = .slice a n cap := by
  rcases h.2 with ⟨rfl, rfl⟩ | ⟨g, cap, cur, rfl, _⟩
  · exact ⟨none, 0, rfl⟩
  · exact ⟨_, cap, rfl⟩
theorem own_row {w : World} {base n : Nat} {v : Value} {xs : List Value} (h : w.ownsRow base 23 3 v n xs) (hn : 0 < n) : ∃ g cap, v = .slice (some ⟨g, 0, none⟩) n cap ∧ base ≤ g ∧ g < w.heap.size ∧ (∀ j, j < n * 3 → w.cell? ⟨g, j, none⟩ = xs[j]?) ∧ ∀ j, w.frozen? ⟨g, j, none⟩ = false := by
  have h0 := h
  rcases h.2 with ⟨rfl, rfl⟩ | ⟨g, cap, cur, rfl, hb, hh, _⟩
  · omega
  · exact ⟨g, cap, rfl, hb, lt_of_block hh, fun j hj => h0.cellAt j hj, fun j => h0.frozenAt j⟩
theorem Frm.kept {w w' : World} {R g : Nat} {x y z : Value} (h : Frm w g x y z) (hk : Kept R w w') (hne : g ≠ R) : Frm w' g x y z :=
  (World.grownBy.block hk g (lt_of_block h) (fun e => hne (by injection e))).trans h
theorem Rdr.drewN {w : World} {R : Nat} {s : ByteArray} {n : Int} (h : Rdr w R s n) (k : Nat) : Rdr (w.drewN k) R s n := by
  induction k with
  | zero => exact h
  | succ k ih => exact ih
theorem aw_enc : encV (1, 2, ⟨#[97, 98]⟩) = (bs [253, 2, 1, 2, 97, 98, 135, 193], 0) := by
  rw [encV_right (by refine ⟨?_, ?_, ?_, ?_, ?_⟩ <;> decide)]
  rw [show encF (1, 2, ⟨#[97, 98]⟩) = [253, 2, 1, 2, 97, 98, 135, 193] by decide +kernel]
theorem aw_1 : rd [253, 65, 0, 253, 2, 1, 2, 97] = ([], 1, [253, 2, 1, 2, 97]) := by kernel_rfl
theorem aw_2 : rd [253, 2, 1, 2, 97, 98, 135, 193] = ([(1, 2, ⟨#[97, 98]⟩)], 0, []) := by kernel_rfl
theorem to_run (s : ByteArray) (b : Nat) (h2 : b ≤ s.size) (wx : World) : (Instr.slice 9 (.string s) none (some (.int .i64 b)) none).run Try.prog wx = .ok (.string (s.extract 0 b)) wx := by
  rw [run_slice_string_to_if wx 9 s .i64 b Try.underlying9]
  rw [if_pos (by omega)]
  simp
theorem from_run (s : ByteArray) (a : Nat) (h2 : a ≤ s.size) (wx : World) : (Instr.slice 9 (.string s) (some (.int .i64 a)) none none).run Try.prog wx = .ok (.string (s.extract a s.size)) wx := by
  rw [run_slice_string_from_if wx 9 s .i64 a Try.underlying9]
  rw [if_pos (by omega)]
  simp
set_option maxHeartbeats 2000000 in
theorem awake_any (w : World) : Calls Try.prog 13 #[] w fun e w' => e = .returned (.bool true) ∧ Below w.heap.size w w' := by
  have hen := fun wx => encode_any (1, 2, ⟨#[97, 98]⟩) wx
  rw [aw_enc] at hen
  obtain ⟨t, ht⟩ : ∃ t, t = bs [253, 2, 1, 2, 97, 98, 135, 193] := ⟨_, rfl⟩
  have h8 : t.size = 8 := by rw [ht]; rfl
  have e6 : t.extract 0 6 = ⟨#[253, 2, 1, 2, 97, 98]⟩ := by rw [ht]; kernel_rfl
  have e5 : t.extract 0 5 = bs [253, 2, 1, 2, 97] := by rw [ht]; kernel_rfl
  have e8 : t.extract 5 t.size = bs [98, 135, 193] := by rw [ht]; kernel_rfl
  have s6 : ∀ wx, (Instr.slice 9 (.string t) none (some (.int .i64 6)) none).run Try.prog wx = .ok (.string ⟨#[253, 2, 1, 2, 97, 98]⟩) wx := fun wx => by rw [← e6]; exact to_run t 6 (by omega) wx
  have s5 : ∀ wx, (Instr.slice 9 (.string t) none (some (.int .i64 5)) none).run Try.prog wx = .ok (.string (bs [253, 2, 1, 2, 97])) wx := fun wx => by rw [← e5]; exact to_run t 5 (by omega) wx
  have s8 : ∀ wx, (Instr.slice 9 (.string t) (some (.int .i64 5)) none none).run Try.prog wx = .ok (.string (bs [98, 135, 193])) wx := fun wx => by rw [← e8]; exact from_run t 5 (by omega) wx
  have ha : ∀ wx, (Op.stringOp .add ⟨#[253, 65, 0]⟩ (bs [253, 2, 1, 2, 97])).run Try.prog wx = .ok (.string (bs [253, 65, 0, 253, 2, 1, 2, 97])) wx := fun wx => by
    rw [run_string_add_sum wx _ _ (by decide)]; rfl
  have hf1 := fun (wx : World) (R : Nat) (h : Rdr wx R (bs []) 0) => feed_any wx R (bs []) (bs [253, 65, 0, 253, 2, 1, 2, 97]) 0 h (by omega) (by omega) (by decide) (by rw [bs_list, bs_list, List.nil_append, aw_1]; decide)
  have hf2 := fun (wx : World) (R : Nat) (h : Rdr wx R (bs [253, 2, 1, 2, 97]) 1) => feed_any wx R (bs [253, 2, 1, 2, 97]) (bs [98, 135, 193]) 1 h (by omega) (by omega) (by decide) (by rw [bs_list, bs_list]; exact (by rw [show [253, 2, 1, 2, 97] ++ [98, 135, 193] = ([253, 2, 1, 2, 97, 98, 135, 193] : List UInt8) from rfl, aw_2]; decide))
  simp only [bs_list, List.nil_append, aw_1] at hf1
  simp only [bs_list, List.cons_append, List.nil_append, aw_2] at hf2
  rw [← ht] at hen
  clear ht e6 e5 e8
  generalize bs [253, 65, 0, 253, 2, 1, 2, 97] = z at ha hf1
  have h5 : (bs [253, 2, 1, 2, 97]).size = 5 := rfl
  generalize bs [253, 2, 1, 2, 97] = y at ha hf1 hf2 s5 h5
  generalize bs [98, 135, 193] = x at hf2 s8
  go_enter Try.func13, Try.ntmps13
  go_wp2_with fail
  refine (hen _).mono ?_
  rintro e w1 ⟨rfl, hB1⟩
  have hF1 := (frm_new w (.int .i64 1) (.int .i64 2) (.string ⟨#[97, 98]⟩)).below hB1
  have HB1 : Hid (Below w.heap.size w w1) := below_over hB1
  clear hB1 hen
  go_wp2_with fail
  refine (new_any _).mono ?_
  rintro e w2 ⟨rfl, hw2⟩
  have hR2 : Rdr w2 w1.heap.size (bs []) 0 := by rw [hw2]; exact heap_alloc_new _ _
  have hB2 : Below w1.heap.size w1 w2 := by rw [hw2]; exact below_alloc _ _
  clear hw2
  go_wp2_with fail
  refine (hf1 _ _ hR2).mono ?_
  rintro e w3 ⟨v1, rfl, hO3, hR3, hK3⟩
  obtain ⟨a1, c1, rfl⟩ := own_shape hO3
  have HK3 := hide hK3
  replace hR3 : Rdr w3 w1.heap.size y 1 := hR3
  clear hO3 hK3 hf1
  go_wp2_with fail
  refine (held_any _ _ _ _ hR3).mono ?_
  rintro e w4 ⟨rfl, hw4⟩
  obtain rfl : w3 = w4 := hw4.symm
  go_wp2_with fail
  refine (hf2 _ _ hR3).mono ?_
  rintro e w5 ⟨v2, rfl, hO5, hR5, hK5⟩
  have hF5 := ((hF1.below hB2).kept HK3.out (Nat.ne_of_lt hF1.lt)).kept hK5 (Nat.ne_of_lt hF1.lt)
  have HB5 : Hid (Below w.heap.size w w5) := by
    have h2 := below_next HB1.out (Nat.le_refl _) hB2
    have h3 := HK3.out.toBelow h2 h2.size HB1.out.size
    exact hK5.toBelow h3 h3.size HB1.out.size
  obtain ⟨g, cap, rfl, hg, hgs, hcl, _⟩ := own_row hO5 (by decide)
  have d0 : w5.cell? ⟨g, 0, none⟩ = some (.int .i64 1) := hcl 0 (by decide)
  have d1 : w5.cell? ⟨g, 1, none⟩ = some (.int .i64 2) := hcl 1 (by decide)
  have d2 : w5.cell? ⟨g, 2, none⟩ = some (.string ⟨#[97, 98]⟩) := hcl 2 (by decide)
  have k0 := hF5.c0
  have k1 := hF5.c1
  have k2 := hF5.c2
  have hbd := fun k => bad_any (w5.drewN k) w1.heap.size (bs []) 1 (hR5.drewN k)
  have hhd := fun k => held_any (w5.drewN k) w1.heap.size (bs []) 1 (hR5.drewN k)
  rw [show ((bs []).size : Int) = 0 from rfl] at hhd
  clear hO5 hR5 hK5 hcl hF5 hf2 HK3 hB2 hR2 hF1 s5 s6 s8 ha
  go_wp2_with fail
  go_quiet (first | (go_at_call 18; exact Calls.quiet_of_same (hbd _)) | (go_at_call 19; exact Calls.quiet_of_same (hhd _)))
  go_wp2_with fail
  go_ret
  exact ⟨rfl, below_drewN HB5.out _⟩
end Go.Proofs.Ytijdobhdjmmgmaa
