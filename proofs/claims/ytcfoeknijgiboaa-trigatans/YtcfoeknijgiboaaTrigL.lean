/- Four of the statements of layer 2: TrigThere, TrigMirrors, TrigCircle, TrigRises: at every input. -/
import Derived.Test.YtcfoeknijgiboaaTrigW
namespace Go.Proofs.Ytcfoeknijgiboaa
open Go.RowKit

theorem sin_q0 (a : Int) (k : Nat) (h : a % 65536 = k) (hk : k ≤ 16384) : sinI a = (tab sN k : Int) := by
  unfold sinI
  rw [h]
  by_cases e : k = 16384
  · subst e
    rw [if_neg (by omega), if_pos (by omega)]
    exact congrArg (fun n : Nat => ((tab sN n : Nat) : Int)) (by omega)
  · rw [if_pos (by omega), Int.toNat_natCast]
theorem tab_zero : tab sN 0 = 0 := by decide
theorem sin_q1 (a : Int) (k : Nat) (h : a % 65536 = 32768 - k) (hk : k ≤ 16384) : sinI a = (tab sN k : Int) := by
  unfold sinI
  rw [h]
  by_cases e : k = 0
  · subst e
    rw [if_neg (by omega), if_neg (by omega), if_pos (by omega), show (32768 - ((0 : Nat) : Int) - 32768).toNat = 0 by omega, tab_zero]
    rfl
  · rw [if_neg (by omega), if_pos (by omega)]
    exact congrArg (fun n : Nat => ((tab sN n : Nat) : Int)) (by omega)
theorem sin_q2 (a : Int) (k : Nat) (h : a % 65536 = 32768 + k) (hk : k ≤ 16384) : sinI a = -(tab sN k : Int) := by
  unfold sinI
  rw [h]
  by_cases e : k = 16384
  · subst e
    rw [if_neg (by omega), if_neg (by omega), if_neg (by omega)]
    exact congrArg (fun n : Nat => -((tab sN n : Nat) : Int)) (by omega)
  · rw [if_neg (by omega), if_neg (by omega), if_pos (by omega)]
    exact congrArg (fun n : Nat => -((tab sN n : Nat) : Int)) (by omega)
theorem sin_q3 (a : Int) (k : Nat) (h : (a + k) % 65536 = 0) (hk : k ≤ 16384) : sinI a = -(tab sN k : Int) := by
  by_cases e : k = 0
  · subst e
    rw [sin_q0 a 0 (by omega) (by omega), tab_zero]
    rfl
  · by_cases f : k = 16384
    · exact sin_q2 a k (by omega) hk
    · unfold sinI
      rw [show a % 65536 = 65536 - k by omega, if_neg (by omega), if_neg (by omega), if_neg (by omega)]
      exact congrArg (fun n : Nat => -((tab sN n : Nat) : Int)) (by omega)
theorem quad (a : Int) : ∃ k : Nat, k ≤ 16384 ∧ (a % 65536 = k ∨ a % 65536 = 32768 - k ∨ a % 65536 = 32768 + k ∨ (a + k) % 65536 = 0) := by
  have b := Int.emod_nonneg a (show (65536 : Int) ≠ 0 by decide)
  have c := Int.emod_lt_of_pos a (show (0 : Int) < 65536 by decide)
  by_cases q0 : a % 65536 < 16384
  · exact ⟨(a % 65536).toNat, by omega, by omega⟩
  · by_cases q1 : a % 65536 < 32768
    · exact ⟨(32768 - a % 65536).toNat, by omega, by omega⟩
    · by_cases q2 : a % 65536 < 49152
      · exact ⟨(a % 65536 - 32768).toNat, by omega, by omega⟩
      · exact ⟨(65536 - a % 65536).toNat, by omega, by omega⟩
theorem sin_neg (a : Int) : sinI (-a) = -sinI a := by
  obtain ⟨k, hk, h | h | h | h⟩ := quad a
  · rw [sin_q0 a k h hk, sin_q3 (-a) k (by omega) hk]
  · rw [sin_q1 a k h hk, sin_q2 (-a) k (by omega) hk]
  · rw [sin_q2 a k h hk, sin_q1 (-a) k (by omega) hk]; omega
  · rw [sin_q3 a k h hk, sin_q0 (-a) k (by omega) hk]; omega
theorem sin_half (a : Int) : sinI (a + 32768) = -sinI a := by
  obtain ⟨k, hk, h | h | h | h⟩ := quad a
  · rw [sin_q0 a k h hk, sin_q2 (a + 32768) k (by omega) hk]
  · rw [sin_q1 a k h hk, sin_q3 (a + 32768) k (by omega) hk]
  · rw [sin_q2 a k h hk, sin_q0 (a + 32768) k (by omega) hk]; omega
  · rw [sin_q3 a k h hk, sin_q1 (a + 32768) k (by omega) hk]; omega
theorem sin_fold (a : Int) : sinI (32768 - a) = sinI a := by
  rw [show 32768 - a = -a + 32768 by omega, sin_half, sin_neg]; omega
theorem sin_mod (a b : Int) (h : a % 65536 = b % 65536) : sinI a = sinI b := by unfold sinI; rw [h]
theorem cos_sin (a : Int) : cosI a = sinI (a + 16384) := by unfold cosI; exact sin_mod _ _ (by omega)
theorem cos_neg (a : Int) : cosI (-a) = cosI a := by
  rw [cos_sin, cos_sin, show -a + 16384 = 32768 - (a + 16384) by omega, sin_fold]
set_option maxHeartbeats 4000000 in
theorem TrigMirrors_walk (a : Int) (_ : I64 a) (w : World) : Calls Try.prog 7 #[.int .i64 a] w fun e w' => e = .returned (.bool true) ∧ Below w.heap.size w w' := by
  have tm := tm_pos a 65536 (by decide)
  obtain ⟨p, hp⟩ : ∃ p, a.tmod 65536 = p := ⟨_, rfl⟩
  rw [hp] at tm
  have hm : a % 65536 = p % 65536 := by rw [tm.1]; split <;> omega
  have S0 := fun W => sin_any p W
  have S1 := fun W => sin_any (-p) W
  have S2 := fun W => sin_any (p + 32768) W
  have S3 := fun W => sin_any (32768 - p) W
  have S4 := fun W => sin_any a W
  have C0 := fun W => cos_any p W
  have S5 := fun W => sin_any (p + 16384) W
  have C1 := fun W => cos_any (-p) W
  rw [sin_neg] at S1
  rw [sin_half] at S2
  rw [sin_fold] at S3
  rw [sin_mod a p hm] at S4
  rw [← cos_sin] at S5
  rw [cos_neg] at C1
  have hs := sinI_in p
  obtain ⟨s, HS⟩ : ∃ s, Hid (sinI p = s) := ⟨_, rfl⟩
  obtain ⟨c, HC⟩ : ∃ c, Hid (cosI p = c) := ⟨_, rfl⟩
  rw [HS.out] at S0 S1 S2 S3 S4 hs
  rw [HC.out] at C0 S5 C1
  have S0 := hide S0
  have S1 := hide S1
  have S2 := hide S2
  have S3 := hide S3
  have S4 := hide S4
  have S5 := hide S5
  have C0 := hide C0
  have C1 := hide C1
  have t1 : decide (s ≤ 16384) = true := by simpa using hs.2
  have t2 : decide (-16384 ≤ s) = true := by simpa using hs.1
  have t3 : (s == s) = true := by simp
  have t4 : (c == c) = true := by simp
  have t5 : (-s == -s) = true := by simp
  have hp2 := tm.2
  clear tm hm HS HC
  go_enter Try.func7, Try.ntmps7
  go_wp2_with fail
  refine (S0.out _).mono ?_; rintro e w1 ⟨rfl, h1⟩
  have H1 := hide h1; clear h1
  go_wp2_with fail
  refine (S1.out _).mono ?_; rintro e w2 ⟨rfl, h2⟩
  have H2 := hide h2; clear h2
  go_wp2_with fail
  refine (S2.out _).mono ?_; rintro e w3 ⟨rfl, h3⟩
  have H3 := hide h3; clear h3
  go_wp2_with fail
  refine (S3.out _).mono ?_; rintro e w4 ⟨rfl, h4⟩
  have H4 := hide h4; clear h4
  go_wp2_with fail
  refine (S4.out _).mono ?_; rintro e w5 ⟨rfl, h5⟩
  have H5 := hide h5; clear h5
  go_wp2_with fail
  refine (awake2_any _).mono ?_; rintro e w6 ⟨rfl, h6⟩
  have H6 := hide h6; clear h6
  go_wp2_with fail
  refine (C0.out _).mono ?_; rintro e w7 ⟨rfl, h7⟩
  have H7 := hide h7; clear h7
  go_wp2_with fail
  refine (S5.out _).mono ?_; rintro e w8 ⟨rfl, h8⟩
  have H8 := hide h8; clear h8
  go_wp2_with fail
  refine (C1.out _).mono ?_; rintro e w9 ⟨rfl, h9⟩
  have H9 := hide h9; clear h9
  go_wp2_with fail
  refine (C0.out _).mono ?_; rintro e w10 ⟨rfl, h10⟩
  have H10 := hide h10; clear h10
  go_wp2_with fail
  go_ret
  exact ⟨rfl, (below_next (below_next (below_next (below_next (below_next (below_next (below_next (below_next (below_next H1.out (Nat.le_refl _) H2.out) (Nat.le_refl _) H3.out) (Nat.le_refl _) H4.out) (Nat.le_refl _) H5.out) (Nat.le_refl _) H6.out) (Nat.le_refl _) H7.out) (Nat.le_refl _) H8.out) (Nat.le_refl _) H9.out) (Nat.le_refl _) H10.out)⟩
theorem way_in (a b : Int) : -32768 ≤ wayI a b ∧ wayI a b ≤ 32767 := by unfold wayI; omega
theorem way_back (a b : Int) : wayI a b + wayI b a = 0 ∨ wayI a b = -32768 ∧ wayI b a = -32768 := by unfold wayI; omega
set_option maxHeartbeats 4000000 in
theorem TrigThere_walk (a b : Int) (_ : I64 a) (_ : I64 b) (w : World) : Calls Try.prog 11 #[.int .i64 a, .int .i64 b] w fun e w' => e = .returned (.bool true) ∧ Below w.heap.size w w' := by
  have ta := tm_pos a 65536 (by decide)
  have tb := tm_pos b 65536 (by decide)
  have W1 := way_any a b
  have W2 := way_any b a
  have h1 := way_in a b
  have h2 := way_in b a
  have h3 := way_back a b
  have h4 : (a % 65536 + wayI a b - b % 65536) % 65536 = 0 := by unfold wayI; omega
  obtain ⟨p, hp⟩ : ∃ p, a.tmod 65536 = p := ⟨_, rfl⟩
  obtain ⟨q, hq⟩ : ∃ q, b.tmod 65536 = q := ⟨_, rfl⟩
  obtain ⟨d, HD⟩ : ∃ d, Hid (wayI a b = d) := ⟨_, rfl⟩
  obtain ⟨f, HF⟩ : ∃ f, Hid (wayI b a = f) := ⟨_, rfl⟩
  rw [HD.out] at W1 h1 h3 h4
  rw [HF.out] at W2 h2 h3
  rw [hp] at ta
  rw [hq] at tb
  have h5 : (p + d - q) % 65536 = 0 := by
    have e1 := ta.1
    have e2 := tb.1
    split at e1 <;> split at e2 <;> omega
  have h6 : (p + d - q).tmod 65536 = 0 := by
    have e := (tm_pos (p + d - q) 65536 (by decide))
    rw [h5] at e
    have e1 := e.1
    split at e1 <;> omega
  have pa := ta.2
  have pb := tb.2
  have W1 := hide W1
  have W2 := hide W2
  clear ta tb h4 h5
  have z0 : ((0 : Int) == 0) = true := by simp
  have t1 : decide (d ≤ 32767) = true := by simpa using h1.2
  have t2 : decide (-32768 ≤ d) = true := by simpa using h1.1
  rcases h3 with h3 | ⟨h3, h4⟩
  · clear HD HF
    go_enter Try.func11, Try.ntmps11
    go_wp2_with fail
    refine (W1.out _).mono ?_; rintro e wq ⟨rfl, rfl⟩
    go_wp2_with fail
    refine (W2.out _).mono ?_; rintro e wq ⟨rfl, rfl⟩
    go_wp2_with fail
    refine (awake2_any _).mono ?_; rintro e w1 ⟨rfl, h1⟩
    have H1 := hide h1; clear h1
    go_wp2_with fail
    go_ret
    exact ⟨rfl, H1.out⟩
  · have g0 : (d + f == 0) = false := by simp; omega
    have g1 : (d == -32768) = true := by simpa using h3
    have g2 : (f == -32768) = true := by simpa using h4
    clear HD HF h3 h4
    go_enter Try.func11, Try.ntmps11
    go_wp2_with fail
    refine (W1.out _).mono ?_; rintro e wq ⟨rfl, rfl⟩
    go_wp2_with fail
    refine (W2.out _).mono ?_; rintro e wq ⟨rfl, rfl⟩
    go_wp2_with fail
    refine (awake2_any _).mono ?_; rintro e w1 ⟨rfl, h1⟩
    have H1 := hide h1; clear h1
    go_wp2_with fail
    go_ret
    exact ⟨rfl, H1.out⟩
theorem circ_int (a : Int) : sinI a * sinI a + cosI a * cosI a - 268435456 ≤ 70000 ∧ -70000 ≤ sinI a * sinI a + cosI a * cosI a - 268435456 := by
  rw [cos_sin]
  have fin : ∀ k : Nat, k ≤ 16384 → ∀ s c : Int, (s = (tab sN k : Int) ∨ s = -(tab sN k : Int)) → (c = (tab sN (16384 - k) : Int) ∨ c = -(tab sN (16384 - k) : Int)) →
      s * s + c * c - 268435456 ≤ 70000 ∧ -70000 ≤ s * s + c * c - 268435456 := by
    intro k hk s c hs hc
    have g := circ_tab k hk
    have e1 : s * s = ((tab sN k * tab sN k : Nat) : Int) := by
      rw [Int.natCast_mul]; rcases hs with h | h <;> rw [h]
      rw [Int.neg_mul_neg]
    have e2 : c * c = ((tab sN (16384 - k) * tab sN (16384 - k) : Nat) : Int) := by
      rw [Int.natCast_mul]; rcases hc with h | h <;> rw [h]
      rw [Int.neg_mul_neg]
    rw [e1, e2]
    omega
  obtain ⟨k, hk, h | h | h | h⟩ := quad a
  · exact fin k hk _ _ (Or.inl (sin_q0 a k h hk)) (Or.inl (sin_q1 (a + 16384) (16384 - k) (by omega) (by omega)))
  · exact fin k hk _ _ (Or.inl (sin_q1 a k h hk)) (Or.inr (sin_q2 (a + 16384) (16384 - k) (by omega) (by omega)))
  · exact fin k hk _ _ (Or.inr (sin_q2 a k h hk)) (Or.inr (sin_q3 (a + 16384) (16384 - k) (by omega) (by omega)))
  · exact fin k hk _ _ (Or.inr (sin_q3 a k h hk)) (Or.inl (sin_q0 (a + 16384) (16384 - k) (by omega) (by omega)))
theorem sq_in (s : Int) (h : -16384 ≤ s ∧ s ≤ 16384) : 0 ≤ s * s ∧ s * s ≤ 268435456 := by
  have e : s * s = ((s.natAbs * s.natAbs : Nat) : Int) := by rw [Int.natAbs_mul_self]
  rw [e]
  have := Nat.mul_le_mul (show s.natAbs ≤ 16384 by omega) (show s.natAbs ≤ 16384 by omega)
  omega
set_option maxHeartbeats 4000000 in
theorem TrigCircle_walk (a : Int) (_ : I64 a) (w : World) : Calls Try.prog 8 #[.int .i64 a] w fun e w' => e = .returned (.bool true) ∧ Below w.heap.size w w' := by
  have S0 := fun W => sin_any a W
  have C0 := fun W => cos_any a W
  have hs := sinI_in a
  have hc : -16384 ≤ cosI a ∧ cosI a ≤ 16384 := by rw [cos_sin]; exact sinI_in _
  have h := circ_int a
  obtain ⟨s, HS⟩ : ∃ s, Hid (sinI a = s) := ⟨_, rfl⟩
  obtain ⟨c, HC⟩ : ∃ c, Hid (cosI a = c) := ⟨_, rfl⟩
  rw [HS.out] at S0 hs h
  rw [HC.out] at C0 hc h
  have q1 := sq_in s hs
  have q2 := sq_in c hc
  obtain ⟨x, hx⟩ : ∃ x, s * s = x := ⟨_, rfl⟩
  obtain ⟨y, hy⟩ : ∃ y, c * c = y := ⟨_, rfl⟩
  rw [hx] at q1 h
  rw [hy] at q2 h
  have S0 := hide S0
  have C0 := hide C0
  have t1 : decide (16384 < s) = false := by simp; omega
  have t2 : decide (s < -16384) = false := by simp; omega
  have t3 : decide (16384 < c) = false := by simp; omega
  have t4 : decide (c < -16384) = false := by simp; omega
  have t5 : decide (x + y - 268435456 ≤ 70000) = true := by simpa using h.1
  have t6 : decide (-70000 ≤ x + y - 268435456) = true := by simpa using h.2
  clear HS HC hs hc
  go_enter Try.func8, Try.ntmps8
  go_wp2_with fail
  refine (S0.out _).mono ?_; rintro e w1 ⟨rfl, h1⟩
  have H1 := hide h1; clear h1
  go_wp2_with fail
  refine (C0.out _).mono ?_; rintro e w2 ⟨rfl, h2⟩
  have H2 := hide h2; clear h2
  go_wp2_with fail
  refine (awake2_any _).mono ?_; rintro e w3 ⟨rfl, h3⟩
  have H3 := hide h3; clear h3
  go_wp2_with fail
  go_ret
  exact ⟨rfl, (below_next (below_next H1.out (Nat.le_refl _) H2.out) (Nat.le_refl _) H3.out)⟩
theorem rises_int (a b : Int) (h0 : 0 ≤ a) (h1 : a ≤ b) (h2 : b ≤ 16384) : sinI a ≤ sinI b ∧ cosI b ≤ cosI a ∧ b / 2 ≤ sinI b := by
  obtain ⟨A, rfl⟩ := Int.eq_ofNat_of_zero_le h0
  obtain ⟨B, rfl⟩ := Int.eq_ofNat_of_zero_le (show 0 ≤ b by omega)
  rw [cos_sin, cos_sin, sin_q0 _ A (by omega) (by omega), sin_q0 _ B (by omega) (by omega), sin_q1 _ (16384 - B) (by omega) (by omega), sin_q1 _ (16384 - A) (by omega) (by omega)]
  have e1 := tab_up sTab A (B - A) (by omega)
  have e2 := tab_up sTab (16384 - B) (B - A) (by omega)
  have e3 := half_tab B (by omega)
  rw [show A + (B - A) = B by omega] at e1
  rw [show 16384 - B + (B - A) = 16384 - A by omega] at e2
  omega
set_option maxHeartbeats 4000000 in
theorem TrigRises_walk (a b : Int) (_ : I64 a) (_ : I64 b) (w : World) : Calls Try.prog 9 #[.int .i64 a, .int .i64 b] w fun e w' => e = .returned (.bool true) ∧ Below w.heap.size w w' := by
  by_cases c : a < 0
  · have t1 : decide (a < 0) = true := by simpa using c
    go_enter Try.func9, Try.ntmps9
    go_wp2_with fail
    refine (awake2_any _).mono ?_; rintro e w1 ⟨rfl, h1⟩
    have H1 := hide h1; clear h1
    go_wp2_with fail
    go_ret
    exact ⟨rfl, H1.out⟩
  have t1 : decide (a < 0) = false := by simpa using c
  by_cases d : b < a
  · have t2 : decide (b < a) = true := by simpa using d
    go_enter Try.func9, Try.ntmps9
    go_wp2_with fail
    refine (awake2_any _).mono ?_; rintro e w1 ⟨rfl, h1⟩
    have H1 := hide h1; clear h1
    go_wp2_with fail
    go_ret
    exact ⟨rfl, H1.out⟩
  have t2 : decide (b < a) = false := by simpa using d
  by_cases f : 16384 < b
  · have t3 : decide (16384 < b) = true := by simpa using f
    go_enter Try.func9, Try.ntmps9
    go_wp2_with fail
    refine (awake2_any _).mono ?_; rintro e w1 ⟨rfl, h1⟩
    have H1 := hide h1; clear h1
    go_wp2_with fail
    go_ret
    exact ⟨rfl, H1.out⟩
  have t3 : decide (16384 < b) = false := by simpa using f
  have h := rises_int a b (by omega) (by omega) (by omega)
  have S0 := fun W => sin_any a W
  have S1 := fun W => sin_any b W
  have C0 := fun W => cos_any a W
  have C1 := fun W => cos_any b W
  obtain ⟨s, HS⟩ : ∃ s, Hid (sinI a = s) := ⟨_, rfl⟩
  obtain ⟨t, HT⟩ : ∃ t, Hid (sinI b = t) := ⟨_, rfl⟩
  obtain ⟨x, HX⟩ : ∃ x, Hid (cosI a = x) := ⟨_, rfl⟩
  obtain ⟨y, HY⟩ : ∃ y, Hid (cosI b = y) := ⟨_, rfl⟩
  rw [HS.out] at S0 h
  rw [HT.out] at S1 h
  rw [HX.out] at C0 h
  rw [HY.out] at C1 h
  have S0 := hide S0
  have S1 := hide S1
  have C0 := hide C0
  have C1 := hide C1
  have t4 : decide (s ≤ t) = true := by simpa using h.1
  have t5 : decide (y ≤ x) = true := by simpa using h.2.1
  have t6 : decide (b / 2 ≤ t) = true := by simpa using h.2.2
  clear HS HT HX HY h
  go_enter Try.func9, Try.ntmps9
  go_wp2_with fail
  refine (awake2_any _).mono ?_; rintro e w1 ⟨rfl, h1⟩
  have H1 := hide h1; clear h1
  go_wp2_with fail
  refine (S0.out _).mono ?_; rintro e w2 ⟨rfl, h2⟩
  have H2 := hide h2; clear h2
  go_wp2_with fail
  refine (S1.out _).mono ?_; rintro e w3 ⟨rfl, h3⟩
  have H3 := hide h3; clear h3
  go_wp2_with fail
  refine (C0.out _).mono ?_; rintro e w4 ⟨rfl, h4⟩
  have H4 := hide h4; clear h4
  go_wp2_with fail
  refine (C1.out _).mono ?_; rintro e w5 ⟨rfl, h5⟩
  have H5 := hide h5; clear h5
  go_wp2_with fail
  refine (S1.out _).mono ?_; rintro e w6 ⟨rfl, h6⟩
  have H6 := hide h6; clear h6
  go_wp2_with fail
  go_ret
  exact ⟨rfl, (below_next (below_next (below_next (below_next (below_next H1.out (Nat.le_refl _) H2.out) (Nat.le_refl _) H3.out) (Nat.le_refl _) H4.out) (Nat.le_refl _) H5.out) (Nat.le_refl _) H6.out)⟩
end Go.Proofs.Ytcfoeknijgiboaa
