/- What GuardCalms answers: true, at every velocity and noise. -/
import Derived.Test.YtjinfjibodoflaaGuO
namespace Go.Proofs.Ytjinfjibodoflaa
open Go.RowKit Go.Great Go.Deep Go.WideShapes Go.ChangeShapes

set_option maxHeartbeats 400000 in
theorem rclampU (x lo hi : Int) (w : World) : Calls Try.prog 21 #[.int .i64 x, .int .i64 lo, .int .i64 hi] w fun e w' => e = .returned (.int .i64 (clamp x lo hi)) ∧ w' = w := by
  go_enter Try.func21, Try.ntmps21
  go_wp2
  all_goals (go_ret; refine ⟨ret_int ?_, rfl⟩; unfold clamp; split <;> (try split) <;> omega)
theorem clampU_in (x : Int) {m : Int} (hm : 0 ≤ m) : -m ≤ clamp x (-m) m ∧ clamp x (-m) m ≤ m := by unfold clamp; split <;> (try split) <;> omega
/-- what is asked for against a velocity -/
theorem ask_is (z : Int) (h0 : -1000000000000000000 ≤ z) (h1 : z ≤ 1000000000000000000) : (64 < z ∧ ask 0 z = -64) ∨ (z < -64 ∧ ask 0 z = 64) ∨ (-64 ≤ z ∧ z ≤ 64 ∧ ask 0 z = -z) := by
  unfold ask clamp sat
  split <;> (try split) <;> (try split) <;> (try split) <;> omega
/-- a tick of calming -/
theorem calm_step {v t a o d X : Int} (ho : 0 ≤ o) (hd : 0 ≤ d) (hod : o + d < 64) (ht : -o ≤ t ∧ t ≤ o) (ha : -d ≤ a ∧ a ≤ d) (hX : X ≤ 1099511627776) (h1 : v ≤ max (o + d) X) (h2 : -v ≤ max (o + d) X) : (v + ask 0 (v + t) + a ≤ max (o + d) (X - (64 - d)) ∧ -(v + ask 0 (v + t) + a) ≤ max (o + d) (X - (64 - d))) ∧ (-64 ≤ ask 0 (v + t) ∧ ask 0 (v + t) ≤ 64) := by
  have hk := ask_is (v + t) (by omega) (by omega)
  generalize ask 0 (v + t) = s at *
  omega
/-- a step of calming, walked -/
theorem calm_any (z : Int) (hz : I64 z) (B : Nat) (W : World) (hB : Bup W B 0) : Calls Try.prog 17 #[bP B, .bool false, tV z 0 z, .int .i64 8000] W fun e w' => e = .returned (tV (ask 0 z) 0 (ask 0 z)) ∧ Bup w' B 0 ∧ W.grownBy w' (some B) := by
  have h := stepB_any W B 0 false z 0 z 8000 hB i64_0 hz i64_0 hz (i64_of (by decide))
  have e0 : fnx 0 false 8000 = 0 := by decide +kernel
  have e1 : ask 0 0 = 0 := by decide +kernel
  unfold BEnd at h
  rw [e0, e1] at h
  exact h
theorem div_step (k : Int) (sz D : Int) (hD : 1 ≤ D) (h : sz / D + 2 ≤ k) : sz - k * D ≤ 0 := by
  have e := Int.mul_ediv_add_emod sz D
  have m1 := Int.emod_lt_of_pos sz (show 0 < D by omega)
  have h2 : (sz / D + 2) * D ≤ k * D := Int.mul_le_mul_of_nonneg_right h (by omega)
  rw [Int.add_mul, Int.mul_comm (sz / D) D] at h2
  omega
set_option maxHeartbeats 4000000 in
set_option maxRecDepth 100000 in
theorem calms_any (x o d : Int) (u : Value) (L : List Int) (w : World) (hx : I64 x) (ho : I64 o) (hd : I64 d) (hR : Rws w u 1 cInt L) : Calls Try.prog 8 #[.agg #[.int .i64 x, .int .i64 o, .int .i64 d, u]] w fun e w' => e = .returned (.bool true) ∧ Below w.heap.size w w' := by
  have HR := hide hR
  have mN := hR.1
  unfold maxLen at mN
  obtain ⟨_, na, np, rfl, _⟩ := hR
  obtain ⟨nN, eN⟩ : ∃ n, Hid (L.length = n) := ⟨_, hide rfl⟩
  rw [eN.out] at mN
  rw [eN.out]
  unfold I64 at hx ho hd
  have AW := hide awakeU
  obtain ⟨W0, hW0, b0, X0, z0⟩ := one_box w #[.int .i64 x, .int .i64 o, .int .i64 d, .slice na nN np] 55
  have Hb := hide b0
  have x0 : W0.cell? ⟨w.heap.size, 0, none⟩ = some (.int .i64 x) := X0.cell 0 rfl
  have x1 : W0.cell? ⟨w.heap.size, 1, none⟩ = some (.int .i64 o) := X0.cell 1 rfl
  have x2 : W0.cell? ⟨w.heap.size, 2, none⟩ = some (.int .i64 d) := X0.cell 2 rfl
  have x3 : W0.cell? ⟨w.heap.size, 3, none⟩ = some (.slice na nN np) := X0.cell 3 rfl
  have hz := X0.lt
  clear b0 X0 z0
  go_enter Try.func8, Try.ntmps8
  go_upto_region 5 with fail
  go_wp2_with fail
  refine (newBk_any W0).mono ?_
  rintro e w1 ⟨B, rfl, hB, hb1, hBw⟩
  have HB := hide hB
  have hNB : w.heap.size < B := Nat.lt_of_lt_of_le hz hBw
  replace Hb := hide (below_next Hb.out (Nat.le_refl _) hb1)
  clear hB hb1 hBw x0 x1 x2 x3 hW0 hz
  go_upto_region 8 with fail
  rcases (show o < 0 ∨ (0 ≤ o ∧ d < 0) ∨ (0 ≤ o ∧ 0 ≤ d ∧ 63 < o) ∨ (0 ≤ o ∧ 0 ≤ d ∧ o ≤ 63 ∧ 63 < d) ∨ (0 ≤ o ∧ 0 ≤ d ∧ o ≤ 63 ∧ d ≤ 63 ∧ 64 ≤ o + d) ∨ (0 ≤ o ∧ 0 ≤ d ∧ o ≤ 63 ∧ d ≤ 63 ∧ o + d < 64 ∧ x < -1099511627776) ∨ (0 ≤ o ∧ 0 ≤ d ∧ o ≤ 63 ∧ d ≤ 63 ∧ o + d < 64 ∧ -1099511627776 ≤ x ∧ 1099511627776 < x) ∨ (0 ≤ o ∧ 0 ≤ d ∧ o ≤ 63 ∧ d ≤ 63 ∧ o + d < 64 ∧ -1099511627776 ≤ x ∧ x ≤ 1099511627776 ∧ 65536 < (nN : Int)) ∨ (0 ≤ o ∧ 0 ≤ d ∧ o ≤ 63 ∧ d ≤ 63 ∧ o + d < 64 ∧ -1099511627776 ≤ x ∧ x ≤ 1099511627776 ∧ (nN : Int) ≤ 65536) by omega) with h1 | ⟨h1, h2⟩ | ⟨h1, h2, h3⟩ | ⟨h1, h2, h3, h4⟩ | ⟨h1, h2, h3, h4, h5⟩ | ⟨h1, h2, h3, h4, h5, h6⟩ | ⟨h1, h2, h3, h4, h5, h6, h7⟩ | ⟨h1, h2, h3, h4, h5, h6, h7, h8⟩ | ⟨h1, h2, h3, h4, h5, h6, h7, h8⟩
  iterate 8
    · go_wp2_with (first | (go_at_call 12; refine (AW.out _).mono ?_; rintro e w4 ⟨rfl, b4⟩))
      go_ret
      exact ⟨rfl, below_next Hb.out (Nat.le_refl _) b4⟩
  have hs0 : 0 ≤ max x (-x) ∧ max x (-x) ≤ 1099511627776 ∧ x ≤ max x (-x) ∧ -x ≤ max x (-x) := by omega
  go_upto_region 11 with fail
  generalize max x (-x) = sz at *
  have HD := hide (fun k => div_step k sz (64 - d) (by omega))
  have hq : sz.tdiv (64 - d) = sz / (64 - d) := Int.tdiv_eq_ediv_of_nonneg (by omega)
  have q0 : 0 ≤ sz / (64 - d) := Int.ediv_nonneg (by omega) (by omega)
  have q1 : sz / (64 - d) ≤ sz := Int.ediv_le_self (64 - d) (by omega)
  have q2 : sz / (64 - d) ≤ 1099511627776 := by omega
  generalize sz / (64 - d) = q at *
  go_wp2_with fail
  go_loopw [3, 9] (fun vv vi wr => ∃ (k j : Nat) (y : Int), vv = .int .i64 y ∧ vi = .int .i64 (j : Int) ∧ Hid (j = 2 * k) ∧ (j : Int) ≤ 65536 ∧ Hid (y ≤ max (o + d) (sz - k * (64 - d)) ∧ -y ≤ max (o + d) (sz - k * (64 - d))) ∧ Bup wr B 0 ∧ Below w.heap.size w wr) (fun _ vi _ => 65538 - (intOf vi).toNat)
  case atStart => exact ⟨0, 0, x, rfl, rfl, hide rfl, by omega, hide (by simp; omega), HB.out, Hb.out⟩
  case round =>
    clear HB Hb
    obtain ⟨k, j, y, rfl, rfl, HJ, hj, HY, hB, hb⟩ := hrel
    have HB := hide hB
    have Hb := hide hb
    clear hB hb mN h6 h7 hx ho hd
    by_cases hl : (j : Int) + 1 < nN
    · obtain ⟨c, hc⟩ : ∃ c : Nat, (j : Int) + 1 = (c : Int) := ⟨j + 1, by simp⟩
      obtain ⟨g, og, cap, z1, e1, hg, _, cell1⟩ := HR.out.get j (by rw [eN.out]; omega)
      injection e1 with e1 e2 e3
      subst e1 e3
      obtain ⟨g', og', cap', z2, f1, _, _, cell2⟩ := HR.out.get c (by rw [eN.out]; omega)
      injection f1 with f1 f2 f3
      injection f1 with f1
      injection f1 with f1 f4 _
      subst f1 f3 f4
      have c1 : Hid (∀ W, Below w.heap.size w W → W.cell? ⟨g, og + j, none⟩ = some (.int .i64 z1)) := hide (fun W hW => by have := cell1 W hW 0 _ rfl; rw [Nat.mul_one] at this; exact this)
      have c2 : Hid (∀ W, Below w.heap.size w W → W.cell? ⟨g, og + c, none⟩ = some (.int .i64 z2)) := hide (fun W hW => by have := cell2 W hW 0 _ rfl; rw [Nat.mul_one] at this; exact this)
      clear cell1 cell2 e2 f2
      have CA := hide (fun W => rclampU z1 (-o) o W)
      have CB := hide (fun W => rclampU z2 (-d) d W)
      have ht := clampU_in z1 h1
      have ha := clampU_in z2 h2
      generalize clamp z1 (-o) o = t at *
      generalize clamp z2 (-d) d = a at *
      have hX : 0 ≤ (k : Int) * (64 - d) := Int.mul_nonneg (by omega) (by omega)
      obtain ⟨cs, ck⟩ := calm_step (v := y) (t := t) (a := a) (X := sz - k * (64 - d)) h1 h2 h5 ht ha (by omega) HY.out.1 HY.out.2
      have hyb : -1099511627776 ≤ y ∧ y ≤ 1099511627776 := by have := HY.out; omega
      have ST := hide (calm_any (y + t) (i64_of (by omega)) B)
      generalize ask 0 (y + t) = s at *
      have hkk : (j : Int).tdiv 2 = (k : Int) := by rw [Int.tdiv_eq_ediv_of_nonneg (by omega)]; have := HJ.out; omega
      have HJ2 : Hid (j + 2 = 2 * (k + 1)) := hide (by have := HJ.out; omega)
      have HY2 : Hid (y + s + a ≤ max (o + d) (sz - ((k + 1 : Nat) : Int) * (64 - d)) ∧ -(y + s + a) ≤ max (o + d) (sz - ((k + 1 : Nat) : Int) * (64 - d))) := hide (by rw [show ((k + 1 : Nat) : Int) * (64 - d) = (k : Int) * (64 - d) + (64 - d) by rw [Int.natCast_add, Int.add_mul]; simp]; omega)
      have hend : Hid (q + 2 ≤ (k : Int) + 1 → y + s + a ≤ o + d ∧ -(o + d) ≤ y + s + a) := hide (fun hh => by have := HD.out ((k : Int) + 1) hh; rw [Int.add_mul, Int.one_mul] at this; omega)
      have hk0 : 0 ≤ (k : Int) ∧ (k : Int) ≤ 32768 := by have := HJ.out; omega
      clear HY HJ HD cs hX hs0 q1
      have r1 := c1.out wr Hb.out
      have r2 := c2.out wr Hb.out
      go_upto_region 16 with (first
        | (go_at_call_of 21 (Value.int IntKind.i64 z1); refine (CA.out _).mono ?_; rintro e w3 ⟨rfl, hw⟩; obtain rfl := hw.symm)
        | (go_at_call_of 21 (Value.int IntKind.i64 z2); refine (CB.out _).mono ?_; rintro e w3 ⟨rfl, hw⟩; obtain rfl := hw.symm))
      clear r1 r2 CA CB c1 c2
      go_wp2_with fail
      refine (ST.out _ HB.out).mono ?_
      rintro e w5 ⟨rfl, hB5, hG5⟩
      have HK := hide (Blk.new w5 (tC s 0 s) 30)
      replace HB := hide (hB5.alloc (.cells (tC s 0 s) 30))
      replace Hb := hide (below_next (below_grown Hb.out hG5 (fun q e => by injection e with e; omega)) (Nat.le_refl _) (below_alloc w5 (.cells (tC s 0 s) 30)))
      clear hB5 hG5 ST
      go_upto_region 17 with fail
      generalize w5.heap.size = dk at *
      generalize w5.alloc (.cells (tC s 0 s) 30) = W5 at *
      obtain ⟨k0, k1, k2⟩ := three_cells HK.out
      have es : (s != s) = false := by simp
      clear HK
      go_upto_region 20 with fail
      generalize y + s + a = y' at *
      by_cases hh : q + 2 ≤ (k : Int) + 1
      · have hy := hend.out hh
        clear hend
        go_wp2_with fail
        go_roundw
        case rel => exact ⟨k + 1, j + 2, y', rfl, by go_num, HJ2, by omega, HY2, HB.out, Hb.out⟩
        case measure => simp [intOf]; omega
      · clear hend
        go_wp2_with fail
        go_roundw
        case rel => exact ⟨k + 1, j + 2, y', rfl, by go_num, HJ2, by omega, HY2, HB.out, Hb.out⟩
        case measure => simp [intOf]; omega
    · go_wp2_with (first | (go_at_call 12; refine (AW.out _).mono ?_; rintro e w4 ⟨rfl, b4⟩))
      go_ret
      exact ⟨rfl, below_next Hb.out (Nat.le_refl _) b4⟩
theorem GuardCalms_walk (v : Value) (w : World) (h : ∃ x o d u L, v = .agg #[.int .i64 x, .int .i64 o, .int .i64 d, u] ∧ (I64 x ∧ I64 o ∧ I64 d) ∧ (∀ y ∈ L, I64 y) ∧ Rws w u 1 cInt L) : Calls Try.prog 8 #[v] w fun e w' => e = .returned (.bool true) ∧ Below w.heap.size w w' := by
  obtain ⟨x, o, d, u, L, rfl, ⟨hx, ho, hd⟩, _, hR⟩ := h
  exact calms_any x o d u L w hx ho hd hR
end Go.Proofs.Ytjinfjibodoflaa
