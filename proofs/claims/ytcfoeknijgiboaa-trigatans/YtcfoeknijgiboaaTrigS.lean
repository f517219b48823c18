/- What trig.Sin, trig.Cos and trig.Way answer: at every input. -/
import Derived.Test.YtcfoeknijgiboaaTrig
namespace Go.Proofs.Ytcfoeknijgiboaa
open Go.RowKit

theorem cells_at {l : List Nat} (i : Nat) (h : i < l.length) : (cellsZ (l.map Int.ofNat))[i]? = some (.int .i64 ((l.getD i 0 : Nat) : Int)) := by
  unfold cellsZ
  simp [h]
theorem tab_int (x y f : Nat) (h : x ≤ y) : ((lin x y f : Nat) : Int) = (x : Int) + (((y : Int) - (x : Int)) * (f : Int) + 128) / 256 := by
  unfold lin
  rw [← Int.ofNat_sub h, ← Int.natCast_mul]
  omega
theorem between_tab {l : List Nat} (T : Tab l) (r : Int) (h0 : 0 ≤ r) (h1 : r ≤ 16384) (w : World) :
    Calls Try.prog 47 #[.agg (cellsZ (l.map Int.ofNat)), .int .i64 r] w fun e w' => e = .returned (.int .i64 ((tab l r.toNat : Nat) : Int)) ∧ Below w.heap.size w w' := by
  have hl := T.len
  obtain ⟨x, hx⟩ : ∃ x, l.getD (r / 256).toNat 0 = x := ⟨_, rfl⟩
  obtain ⟨y, hy⟩ : ∃ y, l.getD ((r / 256).toNat + 1) 0 = y := ⟨_, rfl⟩
  have hxy : r % 256 ≠ 0 → x ≤ y ∧ y ≤ 16384 := by
    intro z
    rw [← hx, ← hy]
    exact ⟨T.up _ (by omega), T.top _ (by omega)⟩
  refine (between_at (cellsZ (l.map Int.ofNat)) r x y h0 h1 ?_ ?_ (by omega) (fun z => ?_) w).mono ?_
  · rw [cells_at _ (by omega), hx]
  · intro z
    rw [show (r / 256 + 1).toNat = (r / 256).toNat + 1 by omega, cells_at _ (by omega), hy]
  · have := hxy z; omega
  · rintro e w' ⟨rfl, n, rfl⟩
    refine ⟨ret_int ?_, ((Below.refl _ _).alloc (Nat.le_refl _) _).trans ⟨rfl, rfl, rfl, Nat.le_refl _, fun _ _ => rfl⟩⟩
    unfold tab
    rw [show r.toNat / 256 = (r / 256).toNat by omega, show r.toNat % 256 = (r % 256).toNat by omega, hx, hy]
    by_cases z : r % 256 = 0
    · rw [z, Int.toNat_zero, lin_zero, Int.mul_zero]; omega
    · rw [tab_int x y _ (hxy z).1, show (((r % 256).toNat : Nat) : Int) = r % 256 by omega]
theorem below_over {w w' : World} {o : Obj} (h : Below (w.alloc o).heap.size (w.alloc o) w') : Below w.heap.size w w' :=
  ((Below.refl w.heap.size w).alloc (Nat.le_refl _) o).trans (h.mono (by show w.heap.size ≤ (w.heap.push o).size; rw [Array.size_push]; omega))
theorem sin_any (a : Int) (w : World) : Calls Try.prog 20 #[.int .i64 a] w fun e w' => e = .returned (.int .i64 (sinI a)) ∧ Below w.heap.size w w' := by
  have b := Int.emod_nonneg a (show (65536 : Int) ≠ 0 by decide)
  have c := Int.emod_lt_of_pos a (show (0 : Int) < 65536 by decide)
  unfold sinI
  obtain ⟨p, hp⟩ : ∃ p, a % 65536 = p := ⟨_, rfl⟩
  have P := place_any a
  rw [hp] at b c P ⊢
  have HP := hide P
  clear P
  by_cases q0 : p < 16384
  · rw [if_pos q0]
    obtain ⟨v, HV⟩ : ∃ v : Int, Hid (((tab sN (p).toNat : Nat) : Int) = v) := ⟨_, rfl⟩
    have hv : 0 ≤ v ∧ v ≤ 16384 := by
      have := tab_le sTab (p).toNat (by omega)
      rw [← HV.out]; omega
    rw [HV.out]
    have hq : p / 16384 = 0 := by omega
    have hr : p % 16384 = p - 0 := by omega
    go_enter Try.func20, Try.ntmps20
    go_wp2_with (first
      | (go_at_call 46; refine (HP.out _).mono ?_; rintro e w' ⟨rfl, rfl⟩)
      | (go_at_call 48; refine (sines_any _).mono ?_; rintro e w' ⟨rfl, rfl⟩)
      | (go_at_call 47; refine (between_tab sTab (p) (by omega) (by omega) _).mono ?_; rintro e w' ⟨rfl, h⟩; rw [HV.out]))
    go_ret
    exact ⟨rfl, below_over h⟩
  rw [if_neg q0]
  by_cases q1 : p < 32768
  · rw [if_pos q1]
    obtain ⟨v, HV⟩ : ∃ v : Int, Hid (((tab sN (32768 - p).toNat : Nat) : Int) = v) := ⟨_, rfl⟩
    have hv : 0 ≤ v ∧ v ≤ 16384 := by
      have := tab_le sTab (32768 - p).toNat (by omega)
      rw [← HV.out]; omega
    rw [HV.out]
    have hq : p / 16384 = 1 := by omega
    have hr : p % 16384 = p - 16384 := by omega
    have hs : 16384 - (p - 16384) = 32768 - p := by omega
    go_enter Try.func20, Try.ntmps20
    go_wp2_with (first
      | (go_at_call 46; refine (HP.out _).mono ?_; rintro e w' ⟨rfl, rfl⟩)
      | (go_at_call 48; refine (sines_any _).mono ?_; rintro e w' ⟨rfl, rfl⟩)
      | (go_at_call 47; refine (between_tab sTab (32768 - p) (by omega) (by omega) _).mono ?_; rintro e w' ⟨rfl, h⟩; rw [HV.out]))
    go_ret
    exact ⟨rfl, below_over h⟩
  rw [if_neg q1]
  by_cases q2 : p < 49152
  · rw [if_pos q2]
    obtain ⟨v, HV⟩ : ∃ v : Int, Hid (((tab sN (p - 32768).toNat : Nat) : Int) = v) := ⟨_, rfl⟩
    have hv : 0 ≤ v ∧ v ≤ 16384 := by
      have := tab_le sTab (p - 32768).toNat (by omega)
      rw [← HV.out]; omega
    rw [HV.out]
    have hq : p / 16384 = 2 := by omega
    have hr : p % 16384 = p - 32768 := by omega
    go_enter Try.func20, Try.ntmps20
    go_wp2_with (first
      | (go_at_call 46; refine (HP.out _).mono ?_; rintro e w' ⟨rfl, rfl⟩)
      | (go_at_call 48; refine (sines_any _).mono ?_; rintro e w' ⟨rfl, rfl⟩)
      | (go_at_call 47; refine (between_tab sTab (p - 32768) (by omega) (by omega) _).mono ?_; rintro e w' ⟨rfl, h⟩; rw [HV.out]))
    go_ret
    exact ⟨rfl, below_over h⟩
  · rw [if_neg q2]
    obtain ⟨v, HV⟩ : ∃ v : Int, Hid (((tab sN (65536 - p).toNat : Nat) : Int) = v) := ⟨_, rfl⟩
    have hv : 0 ≤ v ∧ v ≤ 16384 := by
      have := tab_le sTab (65536 - p).toNat (by omega)
      rw [← HV.out]; omega
    rw [HV.out]
    have hq : p / 16384 = 3 := by omega
    have hr : p % 16384 = p - 49152 := by omega
    have hs : 16384 - (p - 49152) = 65536 - p := by omega
    go_enter Try.func20, Try.ntmps20
    go_wp2_with (first
      | (go_at_call 46; refine (HP.out _).mono ?_; rintro e w' ⟨rfl, rfl⟩)
      | (go_at_call 48; refine (sines_any _).mono ?_; rintro e w' ⟨rfl, rfl⟩)
      | (go_at_call 47; refine (between_tab sTab (65536 - p) (by omega) (by omega) _).mono ?_; rintro e w' ⟨rfl, h⟩; rw [HV.out]))
    go_ret
    exact ⟨rfl, below_over h⟩
theorem cos_any (a : Int) (w : World) : Calls Try.prog 22 #[.int .i64 a] w fun e w' => e = .returned (.int .i64 (cosI a)) ∧ Below w.heap.size w w' := by
  have b := Int.emod_nonneg a (show (65536 : Int) ≠ 0 by decide)
  have c := Int.emod_lt_of_pos a (show (0 : Int) < 65536 by decide)
  unfold cosI
  have P := place_any a
  obtain ⟨p, hp⟩ : ∃ p, a % 65536 = p := ⟨_, rfl⟩
  rw [hp] at b c P ⊢
  have HP := hide P
  clear P hp
  go_enter Try.func22, Try.ntmps22
  go_wp2_with (first
    | (go_at_call 46; refine (HP.out _).mono ?_; rintro e w' ⟨rfl, rfl⟩)
    | (go_at_call 20; refine (sin_any _ _).mono ?_; rintro e w' ⟨rfl, h⟩))
  go_ret
  exact ⟨rfl, h⟩
def wayI (a b : Int) : Int := (b - a + 32768) % 65536 - 32768
theorem way_any (a b : Int) (w : World) : Calls Try.prog 26 #[.int .i64 a, .int .i64 b] w fun e w' => e = .returned (.int .i64 (wayI a b)) ∧ w' = w := by
  have a0 := Int.emod_nonneg a (show (65536 : Int) ≠ 0 by decide)
  have a1 := Int.emod_lt_of_pos a (show (0 : Int) < 65536 by decide)
  have b0 := Int.emod_nonneg b (show (65536 : Int) ≠ 0 by decide)
  have b1 := Int.emod_lt_of_pos b (show (0 : Int) < 65536 by decide)
  have e : wayI a b = (b % 65536 - a % 65536 + 32768) % 65536 - 32768 := by unfold wayI; omega
  rw [e]
  have P := place_any a
  have Q := place_any b
  have R := place_any (b % 65536 - a % 65536 + 32768)
  obtain ⟨p, hp⟩ : ∃ p, a % 65536 = p := ⟨_, rfl⟩
  obtain ⟨q, hq⟩ : ∃ q, b % 65536 = q := ⟨_, rfl⟩
  rw [hp] at a0 a1 P R ⊢
  rw [hq] at b0 b1 Q R ⊢
  obtain ⟨d, hd⟩ : ∃ d, (q - p + 32768) % 65536 = d := ⟨_, rfl⟩
  have hb : 0 ≤ d ∧ d < 65536 := by omega
  rw [hd] at R ⊢
  have HP := hide P
  have HQ := hide Q
  have HR := hide R
  clear P Q R e
  go_enter Try.func26, Try.ntmps26
  go_wp2_with (first
    | (go_at_call 46; refine (HQ.out _).mono ?_; rintro e w' ⟨rfl, rfl⟩)
    | (go_at_call 46; refine (HP.out _).mono ?_; rintro e w' ⟨rfl, rfl⟩)
    | (go_at_call 46; refine (HR.out _).mono ?_; rintro e w' ⟨rfl, rfl⟩))
  go_ret
  exact ⟨rfl, rfl⟩
theorem refplace_any (a : Int) (w : World) : Calls Try.prog 49 #[.int .i64 a] w fun e w' => e = .returned (.int .i64 (a % 65536)) ∧ w' = w := by
  have h := tm_pos a 65536 (by decide)
  obtain ⟨m, hm⟩ : ∃ m, a.tmod 65536 = m := ⟨_, rfl⟩
  rw [hm] at h
  obtain ⟨h, hb⟩ := h
  rw [h]
  clear h
  go_enter Try.func49, Try.ntmps49
  go_wp2
  all_goals (go_ret; exact ⟨rfl, rfl⟩)
theorem refway_any (a b : Int) (w : World) : Calls Try.prog 27 #[.int .i64 a, .int .i64 b] w fun e w' => e = .returned (.int .i64 (wayI a b)) ∧ w' = w := by
  have a0 := Int.emod_nonneg a (show (65536 : Int) ≠ 0 by decide)
  have a1 := Int.emod_lt_of_pos a (show (0 : Int) < 65536 by decide)
  have b0 := Int.emod_nonneg b (show (65536 : Int) ≠ 0 by decide)
  have b1 := Int.emod_lt_of_pos b (show (0 : Int) < 65536 by decide)
  have e : wayI a b = (b % 65536 - a % 65536 + 32768) % 65536 - 32768 := by unfold wayI; omega
  rw [e]
  have P := refplace_any a
  have Q := refplace_any b
  obtain ⟨p, hp⟩ : ∃ p, a % 65536 = p := ⟨_, rfl⟩
  obtain ⟨q, hq⟩ : ∃ q, b % 65536 = q := ⟨_, rfl⟩
  rw [hp] at a0 a1 P ⊢
  rw [hq] at b0 b1 Q ⊢
  have HP := hide P
  have HQ := hide Q
  obtain ⟨d, HD⟩ : ∃ d, Hid ((q - p + 32768) % 65536 - 32768 = d) := ⟨_, rfl⟩
  rw [HD.out]
  clear P Q e hp hq
  have fin : ∀ x, x = q - p → (x < -32768 → x + 65536 = d) ∧ (¬ x < -32768 → 32767 < x → x - 65536 = d) ∧ (¬ x < -32768 → ¬ 32767 < x → x = d) := by
    intro x hx
    have hd := HD.out
    omega
  obtain ⟨x, hx⟩ : ∃ x, q - p = x := ⟨_, rfl⟩
  have hf := fin x hx.symm
  have hb : -65536 ≤ x ∧ x ≤ 65536 := by omega
  clear fin HD a0 a1 b0 b1
  by_cases c1 : x < -32768
  · have t1 : decide (x < -32768) = true := by simpa using c1
    have hh := hf.1 c1
    clear hf
    go_enter Try.func27, Try.ntmps27
    go_wp2_with fail
    refine (HQ.out _).mono ?_; rintro e w' ⟨rfl, rfl⟩
    go_wp2_with fail
    refine (HP.out _).mono ?_; rintro e w' ⟨rfl, rfl⟩
    go_wp2_with fail
    go_ret
    exact ⟨rfl, rfl⟩
  have t1 : decide (x < -32768) = false := by simpa using c1
  by_cases c2 : 32767 < x
  · have t2 : decide (32767 < x) = true := by simpa using c2
    have hh := hf.2.1 c1 c2
    clear hf
    go_enter Try.func27, Try.ntmps27
    go_wp2_with fail
    refine (HQ.out _).mono ?_; rintro e w' ⟨rfl, rfl⟩
    go_wp2_with fail
    refine (HP.out _).mono ?_; rintro e w' ⟨rfl, rfl⟩
    go_wp2_with fail
    go_ret
    exact ⟨rfl, rfl⟩
  · have t2 : decide (32767 < x) = false := by simpa using c2
    have hh := hf.2.2 c1 c2
    clear hf
    go_enter Try.func27, Try.ntmps27
    go_wp2_with fail
    refine (HQ.out _).mono ?_; rintro e w' ⟨rfl, rfl⟩
    go_wp2_with fail
    refine (HP.out _).mono ?_; rintro e w' ⟨rfl, rfl⟩
    go_wp2_with fail
    go_ret
    exact ⟨rfl, rfl⟩
end Go.Proofs.Ytcfoeknijgiboaa
