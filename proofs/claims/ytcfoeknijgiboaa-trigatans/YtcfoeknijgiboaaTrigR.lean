/- What the reference's tables, its lines between two numbers, its Sin and its Cos answer; TrigSins: at every input. -/
import Derived.Test.YtcfoeknijgiboaaTrigL
namespace Go.Proofs.Ytcfoeknijgiboaa
open Go.RowKit Go.Great

set_option maxRecDepth 100000 in
theorem refsines_any (w : World) : Calls Try.prog 51 #[] w fun e w' => e = .returned (.slice (some ⟨w.heap.size, 0, none⟩) 65 65) ∧ w' = (w.alloc (.cells (cellsZ sZ) 3)) := by
  go_enter Try.func51, Try.ntmps51
  apply wp_seq_k; intro K0 hK0
  apply wp_region_lit
  refine wpList_run rfl (some 0) rfl (.slice none 0 0) w (by kernel_rfl) ?_
  refine wpList_frame (a' := { tmps := #[.slice none 0 0, undef], defers := [] }) (by kernel_rfl) ?_
  apply wpList_nil
  refine hK0 _ _ ?_
  clear hK0 K0
  apply wp_seq_k; intro K0 hK0
  apply wp_region_lit
  refine wpList_buildFlatAt rfl 26 3 65 _ rfl .i64 sZ w.heap.size rfl (some 1) rfl (by kernel_rfl) (by kernel_rfl) (by kernel_rfl) (by kernel_rfl) (by decide) (by decide) (by kernel_rfl) ?_
  refine wpList_frame (a' := { tmps := #[.slice none 0 0, .slice (some ⟨w.heap.size, 0, none⟩) 65 65], defers := [] }) (by kernel_rfl) ?_
  refine wpList_run rfl (some 0) rfl (.slice (some ⟨w.heap.size, 0, none⟩) 65 65) (w.alloc (.cells (cellsZ sZ) 3)) (by kernel_rfl) ?_
  refine wpList_frame (a' := { tmps := #[.slice (some ⟨w.heap.size, 0, none⟩) 65 65, .slice (some ⟨w.heap.size, 0, none⟩) 65 65], defers := [] }) (by kernel_rfl) ?_
  apply wpList_nil
  refine hK0 _ _ ?_
  clear hK0 K0
  refine wp_ret ?_
  go_ret
  exact ⟨rfl, rfl⟩
set_option maxRecDepth 100000 in
theorem refangles_any (w : World) : Calls Try.prog 55 #[] w fun e w' => e = .returned (.slice (some ⟨w.heap.size, 0, none⟩) 65 65) ∧ w' = (w.alloc (.cells (cellsZ aZ) 3)) := by
  go_enter Try.func55, Try.ntmps55
  apply wp_seq_k; intro K0 hK0
  apply wp_region_lit
  refine wpList_run rfl (some 0) rfl (.slice none 0 0) w (by kernel_rfl) ?_
  refine wpList_frame (a' := { tmps := #[.slice none 0 0, undef], defers := [] }) (by kernel_rfl) ?_
  apply wpList_nil
  refine hK0 _ _ ?_
  clear hK0 K0
  apply wp_seq_k; intro K0 hK0
  apply wp_region_lit
  refine wpList_buildFlatAt rfl 26 3 65 _ rfl .i64 aZ w.heap.size rfl (some 1) rfl (by kernel_rfl) (by kernel_rfl) (by kernel_rfl) (by kernel_rfl) (by decide) (by decide) (by kernel_rfl) ?_
  refine wpList_frame (a' := { tmps := #[.slice none 0 0, .slice (some ⟨w.heap.size, 0, none⟩) 65 65], defers := [] }) (by kernel_rfl) ?_
  refine wpList_run rfl (some 0) rfl (.slice (some ⟨w.heap.size, 0, none⟩) 65 65) (w.alloc (.cells (cellsZ aZ) 3)) (by kernel_rfl) ?_
  refine wpList_frame (a' := { tmps := #[.slice (some ⟨w.heap.size, 0, none⟩) 65 65, .slice (some ⟨w.heap.size, 0, none⟩) 65 65], defers := [] }) (by kernel_rfl) ?_
  apply wpList_nil
  refine hK0 _ _ ?_
  clear hK0 K0
  refine wp_ret ?_
  go_ret
  exact ⟨rfl, rfl⟩
theorem at_at (c : Array Value) (g : Nat) (r x y : Int) (h0 : 0 ≤ r) (h1 : r ≤ 16384) (w : World) (hg : w.heap[g]? = some (.cells c 3)) (hx : c[(r / 256).toNat]? = some (.int .i64 x)) (hy : r % 256 ≠ 0 → c[(r / 256 + 1).toNat]? = some (.int .i64 y)) (x0 : 0 ≤ x) (xy : r % 256 ≠ 0 → x ≤ y ∧ y ≤ 16384) :
    Calls Try.prog 50 #[.slice (some ⟨g, 0, none⟩) 65 65, .int .i64 r] w fun e w' => e = .returned (.int .i64 (x + ((y - x) * (r % 256) + 128) / 256)) ∧ ∃ n, w' = w.drewN n := by
  have hcell : ∀ i v, c[i]? = some v → w.cell? ⟨g, i, none⟩ = some v := by
    intro i v hv
    rw [cell_of_row _ _ i c 3 (0, 0) hg]
    exact hv
  obtain ⟨i, hi⟩ : ∃ i : Nat, r / 256 = i := ⟨(r / 256).toNat, by omega⟩
  obtain ⟨f, hf⟩ : ∃ f, r % 256 = f := ⟨_, rfl⟩
  rw [hi] at hx hy
  rw [hf] at hy xy ⊢
  have k0 := hcell i _ (by simpa using hx)
  have hf0 : 0 ≤ f ∧ f ≤ 255 := by omega
  have hi0 : (i : Int) ≤ 64 := by omega
  have hi2 : (i : Int) < 65 := by omega
  by_cases z : f = 0
  · have zz : (f == 0) = true := by simp [z]
    have e : x = x + ((y - x) * f + 128) / 256 := by rw [z, Int.mul_zero]; omega
    rw [← e]
    clear e hcell hx hy z hg
    go_enter Try.func50, Try.ntmps50
    go_wp2
    go_ret
    exact ⟨rfl, 0, rfl⟩
  · have zz : (f == 0) = false := by simp [z]
    have k1 := hcell (i + 1) _ (by simpa using hy z)
    have hq := xy z
    have hp := lin_in x y f x0 hq.1 hq.2 hf0.1 hf0.2
    have hi1 : (i : Int) ≤ 63 := by omega
    obtain ⟨p, hP⟩ : ∃ p, (y - x) * f = p := ⟨_, rfl⟩
    rw [hP] at hp ⊢
    clear hcell hx hy z hg
    go_enter Try.func50, Try.ntmps50
    go_wp2
    go_quiet (fail)
    go_wp2
    go_ret
    exact ⟨rfl, _, rfl⟩
theorem at_tab {l : List Nat} (T : Tab l) (r : Int) (h0 : 0 ≤ r) (h1 : r ≤ 16384) (g : Nat) (w : World) (hg : w.heap[g]? = some (.cells (cellsZ (l.map Int.ofNat)) 3)) :
    Calls Try.prog 50 #[.slice (some ⟨g, 0, none⟩) 65 65, .int .i64 r] w fun e w' => e = .returned (.int .i64 ((tab l r.toNat : Nat) : Int)) ∧ ∃ n, w' = w.drewN n := by
  have hl := T.len
  obtain ⟨x, hx⟩ : ∃ x, l.getD (r / 256).toNat 0 = x := ⟨_, rfl⟩
  obtain ⟨y, hy⟩ : ∃ y, l.getD ((r / 256).toNat + 1) 0 = y := ⟨_, rfl⟩
  have hxy : r % 256 ≠ 0 → x ≤ y ∧ y ≤ 16384 := by
    intro z
    rw [← hx, ← hy]
    exact ⟨T.up _ (by omega), T.top _ (by omega)⟩
  refine (at_at (cellsZ (l.map Int.ofNat)) g r x y h0 h1 w hg ?_ ?_ (by omega) (fun z => ?_)).mono ?_
  · rw [cells_at _ (by omega), hx]
  · intro z
    rw [show (r / 256 + 1).toNat = (r / 256).toNat + 1 by omega, cells_at _ (by omega), hy]
  · have := hxy z; omega
  · rintro e w' ⟨rfl, n, rfl⟩
    refine ⟨ret_int ?_, n, rfl⟩
    unfold tab
    rw [show r.toNat / 256 = (r / 256).toNat by omega, show r.toNat % 256 = (r % 256).toNat by omega, hx, hy]
    by_cases z : r % 256 = 0
    · rw [z, Int.toNat_zero, lin_zero, Int.mul_zero]; omega
    · rw [tab_int x y _ (hxy z).1, show (((r % 256).toNat : Nat) : Int) = r % 256 by omega]
theorem below_table (w : World) (o : Obj) (n : Nat) : Below w.heap.size w ((w.alloc o).drewN n) := ((Below.refl _ _).alloc (Nat.le_refl _) _).trans ⟨rfl, rfl, rfl, Nat.le_refl _, fun _ _ => rfl⟩
set_option maxHeartbeats 1000000 in
theorem refsin_any (a : Int) (w : World) : Calls Try.prog 21 #[.int .i64 a] w fun e w' => e = .returned (.int .i64 (sinI a)) ∧ Below w.heap.size w w' := by
  have b := Int.emod_nonneg a (show (65536 : Int) ≠ 0 by decide)
  have c := Int.emod_lt_of_pos a (show (0 : Int) < 65536 by decide)
  unfold sinI
  obtain ⟨p, hp⟩ : ∃ p, a % 65536 = p := ⟨_, rfl⟩
  have P := refplace_any a
  rw [hp] at b c P ⊢
  have HP := hide P
  clear P
  by_cases q0 : p < 16384
  · rw [if_pos q0]
    obtain ⟨v, HV⟩ : ∃ v : Int, Hid (((tab sN (p).toNat : Nat) : Int) = v) := ⟨_, rfl⟩
    have hv : 0 ≤ v ∧ v ≤ 16384 := by
      have := tab_le sTab (p).toNat (by omega)
      rw [← HV.out]; omega
    rw [HV.out]
    have hq : p / 16384 = 0 := by omega
    have hr : p % 16384 = p - 0 := by omega
    have HT := hide (fun (W : World) => at_tab sTab (p) (by omega) (by omega) W.heap.size (W.alloc (.cells (cellsZ sZ) 3)) (heap_alloc_last _ _))
    rw [HV.out] at HT
    clear hp c
    go_enter Try.func21, Try.ntmps21
    go_wp2_with fail
    refine (HP.out _).mono ?_; rintro e w' ⟨rfl, rfl⟩
    go_wp2_with fail
    refine (refsines_any _).mono ?_; rintro e w' ⟨rfl, rfl⟩
    go_wp2_with fail
    refine (HT.out _).mono ?_; rintro e w' ⟨rfl, n, rfl⟩
    go_wp2_with fail
    go_ret
    exact ⟨rfl, below_table _ _ _⟩
  rw [if_neg q0]
  by_cases q1 : p < 32768
  · rw [if_pos q1]
    obtain ⟨v, HV⟩ : ∃ v : Int, Hid (((tab sN (32768 - p).toNat : Nat) : Int) = v) := ⟨_, rfl⟩
    have hv : 0 ≤ v ∧ v ≤ 16384 := by
      have := tab_le sTab (32768 - p).toNat (by omega)
      rw [← HV.out]; omega
    rw [HV.out]
    have hq : p / 16384 = 1 := by omega
    have hr : p % 16384 = p - 16384 := by omega
    have hs : 16384 - (p - 16384) = 32768 - p := by omega
    have HT := hide (fun (W : World) => at_tab sTab (32768 - p) (by omega) (by omega) W.heap.size (W.alloc (.cells (cellsZ sZ) 3)) (heap_alloc_last _ _))
    rw [HV.out] at HT
    clear hp c b
    go_enter Try.func21, Try.ntmps21
    go_wp2_with fail
    refine (HP.out _).mono ?_; rintro e w' ⟨rfl, rfl⟩
    go_wp2_with fail
    refine (refsines_any _).mono ?_; rintro e w' ⟨rfl, rfl⟩
    go_wp2_with fail
    refine (HT.out _).mono ?_; rintro e w' ⟨rfl, n, rfl⟩
    go_wp2_with fail
    go_ret
    exact ⟨rfl, below_table _ _ _⟩
  rw [if_neg q1]
  by_cases q2 : p < 49152
  · rw [if_pos q2]
    obtain ⟨v, HV⟩ : ∃ v : Int, Hid (((tab sN (p - 32768).toNat : Nat) : Int) = v) := ⟨_, rfl⟩
    have hv : 0 ≤ v ∧ v ≤ 16384 := by
      have := tab_le sTab (p - 32768).toNat (by omega)
      rw [← HV.out]; omega
    rw [HV.out]
    have hq : p / 16384 = 2 := by omega
    have hr : p % 16384 = p - 32768 := by omega
    have HT := hide (fun (W : World) => at_tab sTab (p - 32768) (by omega) (by omega) W.heap.size (W.alloc (.cells (cellsZ sZ) 3)) (heap_alloc_last _ _))
    rw [HV.out] at HT
    clear hp c b
    go_enter Try.func21, Try.ntmps21
    go_wp2_with fail
    refine (HP.out _).mono ?_; rintro e w' ⟨rfl, rfl⟩
    go_wp2_with fail
    refine (refsines_any _).mono ?_; rintro e w' ⟨rfl, rfl⟩
    go_wp2_with fail
    refine (HT.out _).mono ?_; rintro e w' ⟨rfl, n, rfl⟩
    go_wp2_with fail
    go_ret
    exact ⟨rfl, below_table _ _ _⟩
  · rw [if_neg q2]
    obtain ⟨v, HV⟩ : ∃ v : Int, Hid (((tab sN (65536 - p).toNat : Nat) : Int) = v) := ⟨_, rfl⟩
    have hv : 0 ≤ v ∧ v ≤ 16384 := by
      have := tab_le sTab (65536 - p).toNat (by omega)
      rw [← HV.out]; omega
    rw [HV.out]
    have hq : p / 16384 = 3 := by omega
    have hr : p % 16384 = p - 49152 := by omega
    have hs : 16384 - (p - 49152) = 65536 - p := by omega
    have HT := hide (fun (W : World) => at_tab sTab (65536 - p) (by omega) (by omega) W.heap.size (W.alloc (.cells (cellsZ sZ) 3)) (heap_alloc_last _ _))
    rw [HV.out] at HT
    clear hp b
    go_enter Try.func21, Try.ntmps21
    go_wp2_with fail
    refine (HP.out _).mono ?_; rintro e w' ⟨rfl, rfl⟩
    go_wp2_with fail
    refine (refsines_any _).mono ?_; rintro e w' ⟨rfl, rfl⟩
    go_wp2_with fail
    refine (HT.out _).mono ?_; rintro e w' ⟨rfl, n, rfl⟩
    go_wp2_with fail
    go_ret
    exact ⟨rfl, below_table _ _ _⟩
theorem refcos_any (a : Int) (w : World) : Calls Try.prog 23 #[.int .i64 a] w fun e w' => e = .returned (.int .i64 (cosI a)) ∧ Below w.heap.size w w' := by
  have b := Int.emod_nonneg a (show (65536 : Int) ≠ 0 by decide)
  have c := Int.emod_lt_of_pos a (show (0 : Int) < 65536 by decide)
  unfold cosI
  have P := refplace_any a
  obtain ⟨p, hp⟩ : ∃ p, a % 65536 = p := ⟨_, rfl⟩
  rw [hp] at b c P ⊢
  have HP := hide P
  clear P hp
  go_enter Try.func23, Try.ntmps23
  go_wp2_with (first
    | (go_at_call 49; refine (HP.out _).mono ?_; rintro e w' ⟨rfl, rfl⟩)
    | (go_at_call 21; refine (refsin_any _ _).mono ?_; rintro e w' ⟨rfl, h⟩))
  go_ret
  exact ⟨rfl, h⟩
set_option maxHeartbeats 1000000 in
theorem TrigSins_walk (a : Int) (_ : I64 a) (w : World) : Calls Try.prog 4 #[.int .i64 a] w fun e w' => e = .returned (.bool true) ∧ Below w.heap.size w w' := by
  have S0 := fun W => sin_any a W
  have S1 := fun W => refsin_any a W
  have C0 := fun W => cos_any a W
  have C1 := fun W => refcos_any a W
  obtain ⟨s, HS⟩ : ∃ s, Hid (sinI a = s) := ⟨_, rfl⟩
  obtain ⟨c, HC⟩ : ∃ c, Hid (cosI a = c) := ⟨_, rfl⟩
  rw [HS.out] at S0 S1
  rw [HC.out] at C0 C1
  have S0 := hide S0
  have S1 := hide S1
  have C0 := hide C0
  have C1 := hide C1
  have t1 : (s == s) = true := by simp
  have t2 : (c == c) = true := by simp
  clear HS HC
  go_enter Try.func4, Try.ntmps4
  go_wp2_with fail
  refine (awake2_any _).mono ?_; rintro e w1 ⟨rfl, h1⟩
  have H1 := hide h1; clear h1
  go_wp2_with fail
  refine (S0.out _).mono ?_; rintro e w2 ⟨rfl, h2⟩
  have H2 := hide h2; clear h2
  go_wp2_with fail
  refine (S1.out _).mono ?_; rintro e w3 ⟨rfl, h3⟩
  have H3 := hide h3; clear h3
  go_wp2_with fail
  refine (C0.out _).mono ?_; rintro e w4 ⟨rfl, h4⟩
  have H4 := hide h4; clear h4
  go_wp2_with fail
  refine (C1.out _).mono ?_; rintro e w5 ⟨rfl, h5⟩
  have H5 := hide h5; clear h5
  go_wp2_with fail
  go_ret
  exact ⟨rfl, (below_next (below_next (below_next (below_next H1.out (Nat.le_refl _) H2.out) (Nat.le_refl _) H3.out) (Nat.le_refl _) H4.out) (Nat.le_refl _) H5.out)⟩
end Go.Proofs.Ytcfoeknijgiboaa
