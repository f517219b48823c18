/- The document's modes (windhoverref20): its table, Next, Armed, Flying, Has. -/
import Derived.Test.YthheekneanhmkaaMoA
namespace Go.Proofs.Ythheekneanhmkaa
open Go.RowKit Go.Great

theorem rflying_any (m : Int) (w : World) : Calls Try.prog 13 #[.int .u8 m] w fun e w' => e = .returned (.bool (flyB m)) ∧ w' = w := by
  unfold flyB
  by_cases h1 : 3 ≤ m
  · go_enter Try.func13, Try.ntmps13
    go_wp2_with fail
    go_ret
    exact ⟨ret_bool (by simp [h1]), rfl⟩
  · go_enter Try.func13, Try.ntmps13
    go_wp2_with fail
    go_ret
    exact ⟨ret_bool (by simp; omega), rfl⟩
theorem rarmed_any (m : Int) (w : World) : Calls Try.prog 11 #[.int .u8 m] w fun e w' => e = .returned (.bool (armB m)) ∧ w' = w := by
  unfold armB
  by_cases h1 : 2 ≤ m
  · go_enter Try.func11, Try.ntmps11
    go_wp2_with fail
    go_ret
    exact ⟨ret_bool (by simp [h1]), rfl⟩
  · go_enter Try.func11, Try.ntmps11
    go_wp2_with fail
    go_ret
    exact ⟨ret_bool (by simp; omega), rfl⟩
theorem rhas_any (ev : Int) (i : Nat) (hi : i ≤ 17) (w : World) : Calls Try.prog 25 #[.int .i64 ev, .int .i64 (i : Int)] w fun e w' => e = .returned (.bool (hasE ev i)) ∧ w' = w := by
  have HE : Hid (hasE ev i = (bits BinOp.and IntKind.i64 (ev / 2 ^ i) 1 == 1)) := hide rfl
  rw [HE.out]
  clear HE
  go_enter Try.func25, Try.ntmps25
  go_wp2_with fail
  go_ret
  exact ⟨rfl, rfl⟩
set_option maxRecDepth 100000 in
theorem rrows_any (w : World) : Calls Try.prog 22 #[] w fun e w' => e = .returned (.slice (some ⟨w.heap.size, 0, none⟩) 29 29) ∧ w' = w.alloc (.cells tabC 48) := by
  go_enter Try.func22, Try.ntmps22
  apply wp_seq_k; intro K0 hK0
  apply wp_region_lit
  refine wpList_same rfl (some 0) rfl (.slice none 0 0) (by kernel_rfl) ?_
  refine wpList_frame (a' := { tmps := #[.slice none 0 0, undef, undef, undef, undef, undef, undef, undef, undef, undef, undef, undef, undef, undef, undef, undef, undef, undef, undef, undef, undef, undef, undef, undef, undef, undef, undef, undef, undef, undef, undef], defers := [] }) (by kernel_rfl) ?_
  apply wpList_nil
  refine hK0 _ _ ?_
  clear hK0 K0
  apply wp_seq_k; intro K0 hK0
  apply wp_region_lit
  refine wpList_same rfl (some 1) rfl (rA 0) (by kernel_rfl) ?_
  refine wpList_frame (a' := { tmps := #[.slice none 0 0, rA 0, undef, undef, undef, undef, undef, undef, undef, undef, undef, undef, undef, undef, undef, undef, undef, undef, undef, undef, undef, undef, undef, undef, undef, undef, undef, undef, undef, undef, undef], defers := [] }) (by kernel_rfl) ?_
  refine wpList_same rfl (some 2) rfl (rA 1) (by kernel_rfl) ?_
  refine wpList_frame (a' := { tmps := #[.slice none 0 0, rA 0, rA 1, undef, undef, undef, undef, undef, undef, undef, undef, undef, undef, undef, undef, undef, undef, undef, undef, undef, undef, undef, undef, undef, undef, undef, undef, undef, undef, undef, undef], defers := [] }) (by kernel_rfl) ?_
  refine wpList_same rfl (some 3) rfl (rA 2) (by kernel_rfl) ?_
  refine wpList_frame (a' := { tmps := #[.slice none 0 0, rA 0, rA 1, rA 2, undef, undef, undef, undef, undef, undef, undef, undef, undef, undef, undef, undef, undef, undef, undef, undef, undef, undef, undef, undef, undef, undef, undef, undef, undef, undef, undef], defers := [] }) (by kernel_rfl) ?_
  refine wpList_same rfl (some 4) rfl (rA 3) (by kernel_rfl) ?_
  refine wpList_frame (a' := { tmps := #[.slice none 0 0, rA 0, rA 1, rA 2, rA 3, undef, undef, undef, undef, undef, undef, undef, undef, undef, undef, undef, undef, undef, undef, undef, undef, undef, undef, undef, undef, undef, undef, undef, undef, undef, undef], defers := [] }) (by kernel_rfl) ?_
  refine wpList_same rfl (some 5) rfl (rA 4) (by kernel_rfl) ?_
  refine wpList_frame (a' := { tmps := #[.slice none 0 0, rA 0, rA 1, rA 2, rA 3, rA 4, undef, undef, undef, undef, undef, undef, undef, undef, undef, undef, undef, undef, undef, undef, undef, undef, undef, undef, undef, undef, undef, undef, undef, undef, undef], defers := [] }) (by kernel_rfl) ?_
  refine wpList_same rfl (some 6) rfl (rA 5) (by kernel_rfl) ?_
  refine wpList_frame (a' := { tmps := #[.slice none 0 0, rA 0, rA 1, rA 2, rA 3, rA 4, rA 5, undef, undef, undef, undef, undef, undef, undef, undef, undef, undef, undef, undef, undef, undef, undef, undef, undef, undef, undef, undef, undef, undef, undef, undef], defers := [] }) (by kernel_rfl) ?_
  refine wpList_same rfl (some 7) rfl (rA 6) (by kernel_rfl) ?_
  refine wpList_frame (a' := { tmps := #[.slice none 0 0, rA 0, rA 1, rA 2, rA 3, rA 4, rA 5, rA 6, undef, undef, undef, undef, undef, undef, undef, undef, undef, undef, undef, undef, undef, undef, undef, undef, undef, undef, undef, undef, undef, undef, undef], defers := [] }) (by kernel_rfl) ?_
  refine wpList_same rfl (some 8) rfl (rA 7) (by kernel_rfl) ?_
  refine wpList_frame (a' := { tmps := #[.slice none 0 0, rA 0, rA 1, rA 2, rA 3, rA 4, rA 5, rA 6, rA 7, undef, undef, undef, undef, undef, undef, undef, undef, undef, undef, undef, undef, undef, undef, undef, undef, undef, undef, undef, undef, undef, undef], defers := [] }) (by kernel_rfl) ?_
  refine wpList_same rfl (some 9) rfl (rA 8) (by kernel_rfl) ?_
  refine wpList_frame (a' := { tmps := #[.slice none 0 0, rA 0, rA 1, rA 2, rA 3, rA 4, rA 5, rA 6, rA 7, rA 8, undef, undef, undef, undef, undef, undef, undef, undef, undef, undef, undef, undef, undef, undef, undef, undef, undef, undef, undef, undef, undef], defers := [] }) (by kernel_rfl) ?_
  refine wpList_same rfl (some 10) rfl (rA 9) (by kernel_rfl) ?_
  refine wpList_frame (a' := { tmps := #[.slice none 0 0, rA 0, rA 1, rA 2, rA 3, rA 4, rA 5, rA 6, rA 7, rA 8, rA 9, undef, undef, undef, undef, undef, undef, undef, undef, undef, undef, undef, undef, undef, undef, undef, undef, undef, undef, undef, undef], defers := [] }) (by kernel_rfl) ?_
  refine wpList_same rfl (some 11) rfl (rA 10) (by kernel_rfl) ?_
  refine wpList_frame (a' := { tmps := #[.slice none 0 0, rA 0, rA 1, rA 2, rA 3, rA 4, rA 5, rA 6, rA 7, rA 8, rA 9, rA 10, undef, undef, undef, undef, undef, undef, undef, undef, undef, undef, undef, undef, undef, undef, undef, undef, undef, undef, undef], defers := [] }) (by kernel_rfl) ?_
  refine wpList_same rfl (some 12) rfl (rA 11) (by kernel_rfl) ?_
  refine wpList_frame (a' := { tmps := #[.slice none 0 0, rA 0, rA 1, rA 2, rA 3, rA 4, rA 5, rA 6, rA 7, rA 8, rA 9, rA 10, rA 11, undef, undef, undef, undef, undef, undef, undef, undef, undef, undef, undef, undef, undef, undef, undef, undef, undef, undef], defers := [] }) (by kernel_rfl) ?_
  refine wpList_same rfl (some 13) rfl (rA 12) (by kernel_rfl) ?_
  refine wpList_frame (a' := { tmps := #[.slice none 0 0, rA 0, rA 1, rA 2, rA 3, rA 4, rA 5, rA 6, rA 7, rA 8, rA 9, rA 10, rA 11, rA 12, undef, undef, undef, undef, undef, undef, undef, undef, undef, undef, undef, undef, undef, undef, undef, undef, undef], defers := [] }) (by kernel_rfl) ?_
  refine wpList_same rfl (some 14) rfl (rA 13) (by kernel_rfl) ?_
  refine wpList_frame (a' := { tmps := #[.slice none 0 0, rA 0, rA 1, rA 2, rA 3, rA 4, rA 5, rA 6, rA 7, rA 8, rA 9, rA 10, rA 11, rA 12, rA 13, undef, undef, undef, undef, undef, undef, undef, undef, undef, undef, undef, undef, undef, undef, undef, undef], defers := [] }) (by kernel_rfl) ?_
  refine wpList_same rfl (some 15) rfl (rA 14) (by kernel_rfl) ?_
  refine wpList_frame (a' := { tmps := #[.slice none 0 0, rA 0, rA 1, rA 2, rA 3, rA 4, rA 5, rA 6, rA 7, rA 8, rA 9, rA 10, rA 11, rA 12, rA 13, rA 14, undef, undef, undef, undef, undef, undef, undef, undef, undef, undef, undef, undef, undef, undef, undef], defers := [] }) (by kernel_rfl) ?_
  refine wpList_same rfl (some 16) rfl (rA 15) (by kernel_rfl) ?_
  refine wpList_frame (a' := { tmps := #[.slice none 0 0, rA 0, rA 1, rA 2, rA 3, rA 4, rA 5, rA 6, rA 7, rA 8, rA 9, rA 10, rA 11, rA 12, rA 13, rA 14, rA 15, undef, undef, undef, undef, undef, undef, undef, undef, undef, undef, undef, undef, undef, undef], defers := [] }) (by kernel_rfl) ?_
  refine wpList_same rfl (some 17) rfl (rA 16) (by kernel_rfl) ?_
  refine wpList_frame (a' := { tmps := #[.slice none 0 0, rA 0, rA 1, rA 2, rA 3, rA 4, rA 5, rA 6, rA 7, rA 8, rA 9, rA 10, rA 11, rA 12, rA 13, rA 14, rA 15, rA 16, undef, undef, undef, undef, undef, undef, undef, undef, undef, undef, undef, undef, undef], defers := [] }) (by kernel_rfl) ?_
  refine wpList_same rfl (some 18) rfl (rA 17) (by kernel_rfl) ?_
  refine wpList_frame (a' := { tmps := #[.slice none 0 0, rA 0, rA 1, rA 2, rA 3, rA 4, rA 5, rA 6, rA 7, rA 8, rA 9, rA 10, rA 11, rA 12, rA 13, rA 14, rA 15, rA 16, rA 17, undef, undef, undef, undef, undef, undef, undef, undef, undef, undef, undef, undef], defers := [] }) (by kernel_rfl) ?_
  refine wpList_same rfl (some 19) rfl (rA 18) (by kernel_rfl) ?_
  refine wpList_frame (a' := { tmps := #[.slice none 0 0, rA 0, rA 1, rA 2, rA 3, rA 4, rA 5, rA 6, rA 7, rA 8, rA 9, rA 10, rA 11, rA 12, rA 13, rA 14, rA 15, rA 16, rA 17, rA 18, undef, undef, undef, undef, undef, undef, undef, undef, undef, undef, undef], defers := [] }) (by kernel_rfl) ?_
  refine wpList_same rfl (some 20) rfl (rA 19) (by kernel_rfl) ?_
  refine wpList_frame (a' := { tmps := #[.slice none 0 0, rA 0, rA 1, rA 2, rA 3, rA 4, rA 5, rA 6, rA 7, rA 8, rA 9, rA 10, rA 11, rA 12, rA 13, rA 14, rA 15, rA 16, rA 17, rA 18, rA 19, undef, undef, undef, undef, undef, undef, undef, undef, undef, undef], defers := [] }) (by kernel_rfl) ?_
  refine wpList_same rfl (some 21) rfl (rA 20) (by kernel_rfl) ?_
  refine wpList_frame (a' := { tmps := #[.slice none 0 0, rA 0, rA 1, rA 2, rA 3, rA 4, rA 5, rA 6, rA 7, rA 8, rA 9, rA 10, rA 11, rA 12, rA 13, rA 14, rA 15, rA 16, rA 17, rA 18, rA 19, rA 20, undef, undef, undef, undef, undef, undef, undef, undef, undef], defers := [] }) (by kernel_rfl) ?_
  refine wpList_same rfl (some 22) rfl (rA 21) (by kernel_rfl) ?_
  refine wpList_frame (a' := { tmps := #[.slice none 0 0, rA 0, rA 1, rA 2, rA 3, rA 4, rA 5, rA 6, rA 7, rA 8, rA 9, rA 10, rA 11, rA 12, rA 13, rA 14, rA 15, rA 16, rA 17, rA 18, rA 19, rA 20, rA 21, undef, undef, undef, undef, undef, undef, undef, undef], defers := [] }) (by kernel_rfl) ?_
  refine wpList_same rfl (some 23) rfl (rA 22) (by kernel_rfl) ?_
  refine wpList_frame (a' := { tmps := #[.slice none 0 0, rA 0, rA 1, rA 2, rA 3, rA 4, rA 5, rA 6, rA 7, rA 8, rA 9, rA 10, rA 11, rA 12, rA 13, rA 14, rA 15, rA 16, rA 17, rA 18, rA 19, rA 20, rA 21, rA 22, undef, undef, undef, undef, undef, undef, undef], defers := [] }) (by kernel_rfl) ?_
  refine wpList_same rfl (some 24) rfl (rA 23) (by kernel_rfl) ?_
  refine wpList_frame (a' := { tmps := #[.slice none 0 0, rA 0, rA 1, rA 2, rA 3, rA 4, rA 5, rA 6, rA 7, rA 8, rA 9, rA 10, rA 11, rA 12, rA 13, rA 14, rA 15, rA 16, rA 17, rA 18, rA 19, rA 20, rA 21, rA 22, rA 23, undef, undef, undef, undef, undef, undef], defers := [] }) (by kernel_rfl) ?_
  refine wpList_same rfl (some 25) rfl (rA 24) (by kernel_rfl) ?_
  refine wpList_frame (a' := { tmps := #[.slice none 0 0, rA 0, rA 1, rA 2, rA 3, rA 4, rA 5, rA 6, rA 7, rA 8, rA 9, rA 10, rA 11, rA 12, rA 13, rA 14, rA 15, rA 16, rA 17, rA 18, rA 19, rA 20, rA 21, rA 22, rA 23, rA 24, undef, undef, undef, undef, undef], defers := [] }) (by kernel_rfl) ?_
  refine wpList_same rfl (some 26) rfl (rA 25) (by kernel_rfl) ?_
  refine wpList_frame (a' := { tmps := #[.slice none 0 0, rA 0, rA 1, rA 2, rA 3, rA 4, rA 5, rA 6, rA 7, rA 8, rA 9, rA 10, rA 11, rA 12, rA 13, rA 14, rA 15, rA 16, rA 17, rA 18, rA 19, rA 20, rA 21, rA 22, rA 23, rA 24, rA 25, undef, undef, undef, undef], defers := [] }) (by kernel_rfl) ?_
  refine wpList_same rfl (some 27) rfl (rA 26) (by kernel_rfl) ?_
  refine wpList_frame (a' := { tmps := #[.slice none 0 0, rA 0, rA 1, rA 2, rA 3, rA 4, rA 5, rA 6, rA 7, rA 8, rA 9, rA 10, rA 11, rA 12, rA 13, rA 14, rA 15, rA 16, rA 17, rA 18, rA 19, rA 20, rA 21, rA 22, rA 23, rA 24, rA 25, rA 26, undef, undef, undef], defers := [] }) (by kernel_rfl) ?_
  refine wpList_same rfl (some 28) rfl (rA 27) (by kernel_rfl) ?_
  refine wpList_frame (a' := { tmps := #[.slice none 0 0, rA 0, rA 1, rA 2, rA 3, rA 4, rA 5, rA 6, rA 7, rA 8, rA 9, rA 10, rA 11, rA 12, rA 13, rA 14, rA 15, rA 16, rA 17, rA 18, rA 19, rA 20, rA 21, rA 22, rA 23, rA 24, rA 25, rA 26, rA 27, undef, undef], defers := [] }) (by kernel_rfl) ?_
  refine wpList_same rfl (some 29) rfl (rA 28) (by kernel_rfl) ?_
  refine wpList_frame (a' := { tmps := #[.slice none 0 0, rA 0, rA 1, rA 2, rA 3, rA 4, rA 5, rA 6, rA 7, rA 8, rA 9, rA 10, rA 11, rA 12, rA 13, rA 14, rA 15, rA 16, rA 17, rA 18, rA 19, rA 20, rA 21, rA 22, rA 23, rA 24, rA 25, rA 26, rA 27, rA 28, undef], defers := [] }) (by kernel_rfl) ?_
  refine wpList_run rfl (some 30) rfl (.slice (some ⟨w.heap.size, 0, none⟩) 29 29) (w.alloc (.cells tabC 48)) (by kernel_rfl) ?_
  refine wpList_frame (a' := { tmps := #[.slice none 0 0, rA 0, rA 1, rA 2, rA 3, rA 4, rA 5, rA 6, rA 7, rA 8, rA 9, rA 10, rA 11, rA 12, rA 13, rA 14, rA 15, rA 16, rA 17, rA 18, rA 19, rA 20, rA 21, rA 22, rA 23, rA 24, rA 25, rA 26, rA 27, rA 28, .slice (some ⟨w.heap.size, 0, none⟩) 29 29], defers := [] }) (by kernel_rfl) ?_
  refine wpList_same rfl (some 0) rfl (.slice (some ⟨w.heap.size, 0, none⟩) 29 29) (by kernel_rfl) ?_
  refine wpList_frame (a' := { tmps := #[.slice (some ⟨w.heap.size, 0, none⟩) 29 29, rA 0, rA 1, rA 2, rA 3, rA 4, rA 5, rA 6, rA 7, rA 8, rA 9, rA 10, rA 11, rA 12, rA 13, rA 14, rA 15, rA 16, rA 17, rA 18, rA 19, rA 20, rA 21, rA 22, rA 23, rA 24, rA 25, rA 26, rA 27, rA 28, .slice (some ⟨w.heap.size, 0, none⟩) 29 29], defers := [] }) (by kernel_rfl) ?_
  apply wpList_nil
  refine hK0 _ _ ?_
  clear hK0 K0
  go_wp2_with fail
  go_ret
  exact ⟨rfl, rfl⟩
theorem tab_at : ∀ i : Nat, i < 29 → tabC[i * 4]? = some (.int .i64 (rAt i).e) ∧ tabC[i * 4 + 1]? = some (.int .u8 (rAt i).f) ∧ tabC[i * 4 + 2]? = some (.int .u8 (rAt i).l) ∧ tabC[i * 4 + 3]? = some (.int .u8 (rAt i).t)
  | 0, _ => ⟨by kernel_rfl, by kernel_rfl, by kernel_rfl, by kernel_rfl⟩
  | 1, _ => ⟨by kernel_rfl, by kernel_rfl, by kernel_rfl, by kernel_rfl⟩
  | 2, _ => ⟨by kernel_rfl, by kernel_rfl, by kernel_rfl, by kernel_rfl⟩
  | 3, _ => ⟨by kernel_rfl, by kernel_rfl, by kernel_rfl, by kernel_rfl⟩
  | 4, _ => ⟨by kernel_rfl, by kernel_rfl, by kernel_rfl, by kernel_rfl⟩
  | 5, _ => ⟨by kernel_rfl, by kernel_rfl, by kernel_rfl, by kernel_rfl⟩
  | 6, _ => ⟨by kernel_rfl, by kernel_rfl, by kernel_rfl, by kernel_rfl⟩
  | 7, _ => ⟨by kernel_rfl, by kernel_rfl, by kernel_rfl, by kernel_rfl⟩
  | 8, _ => ⟨by kernel_rfl, by kernel_rfl, by kernel_rfl, by kernel_rfl⟩
  | 9, _ => ⟨by kernel_rfl, by kernel_rfl, by kernel_rfl, by kernel_rfl⟩
  | 10, _ => ⟨by kernel_rfl, by kernel_rfl, by kernel_rfl, by kernel_rfl⟩
  | 11, _ => ⟨by kernel_rfl, by kernel_rfl, by kernel_rfl, by kernel_rfl⟩
  | 12, _ => ⟨by kernel_rfl, by kernel_rfl, by kernel_rfl, by kernel_rfl⟩
  | 13, _ => ⟨by kernel_rfl, by kernel_rfl, by kernel_rfl, by kernel_rfl⟩
  | 14, _ => ⟨by kernel_rfl, by kernel_rfl, by kernel_rfl, by kernel_rfl⟩
  | 15, _ => ⟨by kernel_rfl, by kernel_rfl, by kernel_rfl, by kernel_rfl⟩
  | 16, _ => ⟨by kernel_rfl, by kernel_rfl, by kernel_rfl, by kernel_rfl⟩
  | 17, _ => ⟨by kernel_rfl, by kernel_rfl, by kernel_rfl, by kernel_rfl⟩
  | 18, _ => ⟨by kernel_rfl, by kernel_rfl, by kernel_rfl, by kernel_rfl⟩
  | 19, _ => ⟨by kernel_rfl, by kernel_rfl, by kernel_rfl, by kernel_rfl⟩
  | 20, _ => ⟨by kernel_rfl, by kernel_rfl, by kernel_rfl, by kernel_rfl⟩
  | 21, _ => ⟨by kernel_rfl, by kernel_rfl, by kernel_rfl, by kernel_rfl⟩
  | 22, _ => ⟨by kernel_rfl, by kernel_rfl, by kernel_rfl, by kernel_rfl⟩
  | 23, _ => ⟨by kernel_rfl, by kernel_rfl, by kernel_rfl, by kernel_rfl⟩
  | 24, _ => ⟨by kernel_rfl, by kernel_rfl, by kernel_rfl, by kernel_rfl⟩
  | 25, _ => ⟨by kernel_rfl, by kernel_rfl, by kernel_rfl, by kernel_rfl⟩
  | 26, _ => ⟨by kernel_rfl, by kernel_rfl, by kernel_rfl, by kernel_rfl⟩
  | 27, _ => ⟨by kernel_rfl, by kernel_rfl, by kernel_rfl, by kernel_rfl⟩
  | 28, _ => ⟨by kernel_rfl, by kernel_rfl, by kernel_rfl, by kernel_rfl⟩
  | n + 29, h => absurd h (by omega)
set_option maxHeartbeats 2000000 in
set_option maxRecDepth 100000 in
theorem rnext_any (m ev : Int) (w : World) : Calls Try.prog 9 #[.int .u8 m, .int .i64 ev] w fun e w' => e = .returned (.int .u8 (nx m ev)) ∧ Below w.heap.size w w' := by
  obtain ⟨R, HR⟩ : ∃ R, Hid (nx m ev = R) := ⟨_, hide rfl⟩
  have HE : Hid (R = nxL (tabR.drop 0) m ev) := hide HR.out.symm
  rw [HR.out]
  clear HR
  have HB := hide (Blk.new w tabC 48)
  have Hb := hide (below_alloc w (.cells tabC 48))
  have RO := hide (rrows_any w)
  go_enter Try.func9, Try.ntmps9
  go_wp2_with (go_at_call 22; refine RO.out.mono ?_; rintro e w1 ⟨rfl, hw1⟩; rw [← hw1] at HB Hb; clear hw1)
  clear RO
  go_loopw [6] (fun vi wx => ∃ i : Nat, i ≤ 29 ∧ vi = .int .i64 (i : Int) ∧ Hid (R = nxL (tabR.drop i) m ev) ∧ Hid (Blk wx w.heap.size tabC 48) ∧ Hid (Below w.heap.size w wx)) (fun vi _ => 29 - (intOf vi).toNat)
  case atStart => exact ⟨0, by omega, rfl, HE, HB, Hb⟩
  case round =>
    clear HE HB Hb
    obtain ⟨i, hi, rfl, HE, HB, Hb⟩ := hrel
    by_cases hl : i < 29
    · have HD : Hid (R = if fitR (rAt i) m ev = true then (rAt i).t else nxL (tabR.drop (i + 1)) m ev) := hide (by rw [HE.out, drop_row i hl]; rfl)
      obtain ⟨t0, t1, t2, t3⟩ := tab_at i hl
      have c0 := HB.out.cell (i * 4) t0
      have c1 := HB.out.cell (i * 4 + 1) t1
      have c2 := HB.out.cell (i * 4 + 2) t2
      have c3 := HB.out.cell (i * 4 + 3) t3
      clear HE t0 t1 t2 t3
      generalize rAt i = r at *
      obtain ⟨re, rf, rl, rt⟩ := r
      simp only at *
      by_cases he : re = ev
      · subst he
        have HD2 : Hid (R = if (decide (rf ≤ m) && decide (m ≤ rl)) = true then rt else nxL (tabR.drop (i + 1)) m re) := hide (by rw [HD.out]; simp [fitR])
        clear HD
        by_cases h1 : rf ≤ m
        · by_cases h2 : m ≤ rl
          · have HC : Hid (R = rt) := hide (by rw [HD2.out, if_pos (by simp [h1, h2])])
            clear HD2
            go_wp2_with fail
            go_ret
            exact ⟨ret_int HC.out.symm, Hb.out⟩
          · have HC : Hid (R = nxL (tabR.drop (i + 1)) m re) := hide (by rw [HD2.out, if_neg (by simp [h2])])
            clear HD2
            go_wp2_with fail
            go_roundw
            case rel => exact ⟨i + 1, by omega, by go_num, HC, HB, Hb⟩
            case measure => simp [intOf]; omega
        · have HC : Hid (R = nxL (tabR.drop (i + 1)) m re) := hide (by rw [HD2.out, if_neg (by simp [h1])])
          clear HD2
          go_wp2_with fail
          go_roundw
          case rel => exact ⟨i + 1, by omega, by go_num, HC, HB, Hb⟩
          case measure => simp [intOf]; omega
      · have HC : Hid (R = nxL (tabR.drop (i + 1)) m ev) := hide (by rw [HD.out, if_neg (by simp [fitR, he])])
        clear HD
        have hd : (re == ev) = false := by simpa using he
        go_wp2_with fail
        go_roundw
        case rel => exact ⟨i + 1, by omega, by go_num, HC, HB, Hb⟩
        case measure => simp [intOf]; omega
    · have e0 : i = 29 := by omega
      have HC : Hid (R = m) := hide (by rw [HE.out, e0]; rfl)
      clear HE e0
      go_wp2_with fail
      go_ret
      exact ⟨ret_int HC.out.symm, Hb.out⟩
end Go.Proofs.Ythheekneanhmkaa
