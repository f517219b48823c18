/- The defaults, and what each parameter may be: package params. -/
import Derived.Test.YthldohfjkjhdcaaPa5
import Derived.Test.YthldohfjkjhdcaaKq2
namespace Go.Proofs.Ythldohfjkjhdcaa
open Go.RowKit Go.Great

theorem take_deL (k : Nat) (h : k < 24) : deL.take (k + 1) = deL.take k ++ [deL.getD k 0] := by
  have hl : k < deL.length := h
  rw [List.take_add_one, List.getElem?_eq_getElem hl, List.getD, List.getElem?_eq_getElem hl]
  rfl
set_option maxHeartbeats 2000000 in
theorem defaults_any (w : World) : Calls Try.prog 25 #[] w fun e w' => ∃ v, e = .returned v ∧ IRow w' w.heap.size v deL ∧ Below w.heap.size w w' := by
  obtain ⟨i0, hi, hz0, hz1, hz2⟩ := info_parts info_int
  have HR := hide rows_any
  have HX := hide tab_ix
  go_enter Try.func25, Try.ntmps25
  go_wp2_with (at_make; refine wpList_make_own _ rfl (.const (.int .i64 0)) (.const (.int .i64 24)) 25 rfl w.heap.size 3 i0 _ 1 Try.underlying25 hi hz0 hz1 .i64 .i64 _ 24 rfl rfl (by rfl) ?b1 ?b2 ?b3 ?_)
  case b1 => rw [hz2]; omega
  case b2 => unfold maxLen; omega
  case b3 => exact Nat.le_refl _
  intro w1 hown1 hgrow1
  have HB1 : Hid (Below w.heap.size w w1) := (Below.refl w.heap.size w).grown hgrow1 (Nat.le_refl _) (fun k e => by cases e)
  have HO1 : Hid (IRow w1 w.heap.size (.slice (some ⟨w.heap.size, 0, none⟩) 0 24) []) := hown1
  clear hown1 hgrow1
  go_wp2_with fail
  refine (HR.out _).mono ?_
  rintro e w2 ⟨rfl, hw2⟩
  have HB2 : Hid (Below w.heap.size w w2) := by rw [hw2]; exact HB1.out.alloc HB1.out.size _
  have HO2 : Hid (IRow w2 w.heap.size (.slice (some ⟨w.heap.size, 0, none⟩) 0 24) []) := by rw [hw2]; exact HO1.out.alloc _
  clear hw2 HR HB1 HO1
  obtain ⟨T, HTab⟩ : ∃ T, Hid (tabC = T) := ⟨_, rfl⟩
  rw [HTab.out] at HX ⊢
  go_wp2_with fail
  go_loopw [1, 6] (fun v i wx => ∃ k : Nat, k ≤ 24 ∧ i = .int .i64 k ∧ v = .slice (some ⟨w.heap.size, 0, none⟩) k 24 ∧ IRow wx w.heap.size v (deL.take k) ∧ Below w.heap.size w wx) (fun _ i _ => 24 - (intOf i).toNat)
  case atStart => exact ⟨0, by omega, rfl, rfl, HO2.out, HB2.out⟩
  case round =>
    obtain ⟨k, hk, rfl, rfl, hR, hB⟩ := hrel
    have HB := hide hB
    have HRr := hide hR
    clear hR hB HO2 HB2
    by_cases hlt : k < 24
    · have hx := HX.out k hlt
      unfold rowC at hx
      have HT := hide (take_deL k hlt)
      generalize loL.getD k 0 = x at hx
      generalize hiL.getD k 0 = y at hx
      generalize deL.getD k 0 = z at hx HT
      have hlen : (deL.take k).length = k := by rw [List.length_take]; show min k 24 = k; omega
      have HLE := hide hlen
      clear hlen
      generalize deL.take k = L at HT HLE HRr
      have HO3 : Hid (((wr.alloc (.cells #[.int .i64 x, .int .i64 y, .int .i64 z] 36)).alloc (.cells #[.int .i64 z] 3)).ownsRow w.heap.size 3 1 (.slice (some ⟨w.heap.size, 0, none⟩) k 24) k (L.map (Value.int .i64))) := by
        have := (HRr.out.alloc (.cells #[.int .i64 x, .int .i64 y, .int .i64 z] 36)).alloc (.cells #[.int .i64 z] 3)
        unfold IRow at this
        rw [HLE.out] at this
        exact this
      have hws := HB.out.size
      go_wp2_with (at_builtin; refine wpList_append_fits _ rfl (.tmp 9) (.tmp 12) 25 rfl w.heap.size 3 i0 1 Try.underlying25 hi hz1 w.heap.size k 24 _ rfl HO3.out ⟨wr.heap.size + 1, 0, none⟩ 1 1 [.int .i64 z] rfl rfl ?c1 ?c2 ?c3 ?_)
      case c1 => exact new_cell1 _ _ (by rw [size_alloc]) _ _
      case c2 => intro u hu; simp at hu; subst hu; rfl
      case c3 => omega
      intro w5 hown5 hgrow5
      have HR5 : Hid (IRow w5 w.heap.size (.slice (some ⟨w.heap.size, 0, none⟩) (k + 1) 24) (deL.take (k + 1))) := by
        show World.ownsRow _ _ _ _ _ _ _
        rw [HT.out, List.length_append, HLE.out, List.map_append]; exact hown5
      have HB5 : Hid (Below w.heap.size w w5) := ((HB.out.alloc hws _).alloc (by rw [size_alloc]; omega) _).grown hgrow5 (by rw [size_alloc, size_alloc]; omega) (fun k e => by injection e with e; omega)
      clear hown5 hgrow5 HO3 hi hz0 hz1 hz2
      go_wp2_with fail
      go_roundw
      case rel => exact ⟨k + 1, by omega, by go_num, rfl, HR5.out, HB5.out⟩
      case measure => simp [intOf]; omega
    · obtain rfl : k = 24 := by omega
      clear hi hz0 hz1 hz2
      go_wp2_with fail
      go_ret
      exact ⟨_, rfl, HRr.out, HB.out⟩
theorem deL_sound : Sound deL := sound_of (by decide)
end Go.Proofs.Ythldohfjkjhdcaa
