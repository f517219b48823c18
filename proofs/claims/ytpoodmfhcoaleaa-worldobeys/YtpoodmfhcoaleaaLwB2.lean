/- WorldObeys. -/
import Derived.Test.YtpoodmfhcoaleaaWdO
namespace Go.Proofs.Ytpoodmfhcoaleaa
open Go.RowKit Go.Great

theorem sat_id {x : Int} (h : -9223372036854775808 ≤ x ∧ x ≤ 9223372036854775807) : sat x = x := by
  unfold sat
  rw [if_neg (by omega), if_neg (by omega)]
theorem obey_mix (d L X Y T : Int) (hd : 0 ≤ d ∧ d ≤ 8) (hL : 328 ≤ L ∧ L ≤ 456) (hX : -64 ≤ X ∧ X ≤ 64) (hY : -64 ≤ Y ∧ Y ≤ 64) (hT : -100 ≤ T ∧ T ≤ 100) : ∃ a0 a1 a2 a3 a4 a5 a6 a7 T' : Int, mxV d L X Y T = eV a0 a1 a2 a3 a4 a5 a6 a7 ∧ wkV (clamp (kil d 1 a0) 0 600) (clamp (kil d 2 a1) 0 600) (clamp (kil d 3 a2) 0 600) (clamp (kil d 4 a3) 0 600) (clamp (kil d 5 a4) 0 600) (clamp (kil d 6 a5) 0 600) (clamp (kil d 7 a6) 0 600) (clamp (kil d 8 a7) 0 600) = wV L X Y T' := by
  by_cases h0 : d = 0
  · subst h0
    obtain ⟨a0, a1, a2, a3, a4, a5, a6, a7, T', h1, _, _, _, _, _, _, _, _, _, h2, _⟩ := mx_zero L X Y T hL hX hY hT
    refine ⟨a0, a1, a2, a3, a4, a5, a6, a7, T', h1, ?_⟩
    unfold kil
    simpa using h2
  · obtain ⟨k, rfl⟩ : ∃ k : Nat, d = (k : Int) + 1 := ⟨(d - 1).toNat, by omega⟩
    obtain ⟨a0, a1, a2, a3, a4, a5, a6, a7, T', h1, _, _, _, _, _, _, _, _, _, h2, h3⟩ := mx_dead k (by omega) L X Y T hL hX hY
    refine ⟨a0, a1, a2, a3, a4, a5, a6, a7, T', h1, ?_⟩
    have key : ∀ (j : Nat) (m : Int), (eC a0 a1 a2 a3 a4 a5 a6 a7)[j]? = some (.int .i64 m) → kil ((k : Int) + 1) ((j : Int) + 1) m = m := by
      intro j m hj
      unfold kil
      split
      · rename_i e
        have e : k = j := by omega
        subst e
        rw [h3] at hj
        injection hj with hj
        injection hj with _ hj
      · rfl
    have e0 := key 0 a0 rfl
    have e1 := key 1 a1 rfl
    have e2 := key 2 a2 rfl
    have e3 := key 3 a3 rfl
    have e4 := key 4 a4 rfl
    have e5 := key 5 a5 rfl
    have e6 := key 6 a6 rfl
    have e7 := key 7 a7 rfl
    rw [show ((0 : Nat) : Int) + 1 = 1 from rfl] at e0
    rw [show ((1 : Nat) : Int) + 1 = 2 from rfl] at e1
    rw [show ((2 : Nat) : Int) + 1 = 3 from rfl] at e2
    rw [show ((3 : Nat) : Int) + 1 = 4 from rfl] at e3
    rw [show ((4 : Nat) : Int) + 1 = 5 from rfl] at e4
    rw [show ((5 : Nat) : Int) + 1 = 6 from rfl] at e5
    rw [show ((6 : Nat) : Int) + 1 = 7 from rfl] at e6
    rw [show ((7 : Nat) : Int) + 1 = 8 from rfl] at e7
    rw [e0, e1, e2, e3, e4, e5, e6, e7]
    exact h2
/-- an axis far from an int's ends, in no great wind -/
def inB (p v a : Int) : Prop := ((-1125899906842624 ≤ p ∧ p ≤ 1125899906842624) ∧ (-1125899906842624 ≤ v ∧ v ≤ 1125899906842624)) ∧ (-1000 ≤ a ∧ a ≤ 1000)
theorem inB_not {p v a : Int} (h : ¬ inB p v a) : p < -1125899906842624 ∨ (¬ p < -1125899906842624 ∧ 1125899906842624 < p) ∨ (¬ p < -1125899906842624 ∧ ¬ 1125899906842624 < p ∧ v < -1125899906842624) ∨ (¬ p < -1125899906842624 ∧ ¬ 1125899906842624 < p ∧ ¬ v < -1125899906842624 ∧ 1125899906842624 < v) ∨ (¬ p < -1125899906842624 ∧ ¬ 1125899906842624 < p ∧ ¬ v < -1125899906842624 ∧ ¬ 1125899906842624 < v ∧ a < -1000) ∨ (¬ p < -1125899906842624 ∧ ¬ 1125899906842624 < p ∧ ¬ v < -1125899906842624 ∧ ¬ 1125899906842624 < v ∧ ¬ a < -1000 ∧ 1000 < a) := by
  unfold inB at h
  omega
theorem step_free (o : Wo) (L X Y T a b c : Int) (ho : WOk o) (h0 : inB o.p0 o.v0 a) (h1 : inB o.p1 o.v1 b) (h2 : inB o.p2 o.v2 c) (hL : 328 ≤ L ∧ L ≤ 456) (hX : -64 ≤ X ∧ X ≤ 64) (hY : -64 ≤ Y ∧ Y ≤ 64) : ∃ H R H2 : Int, stepS o L X Y T a b c 0 = if o.p2 + (o.v2 + L - 392 + c) ≤ 0 then ⟨o.p0, o.p1, 0, 0, 0, 0, H, 0, o.c⟩ else ⟨o.p0 + (o.v0 + X + a), o.p1 + (o.v1 + Y + b), o.p2 + (o.v2 + L - 392 + c), o.v0 + X + a, o.v1 + Y + b, o.v2 + L - 392 + c, H2, R, o.c⟩ := by
  unfold inB at h0 h1 h2
  have hc := ho.c
  unfold I64 at hc
  have g0 : gov o.v0 X a = o.v0 + X + a := by unfold gov; rw [sat_id (x := o.v0 + X) (by omega), sat_id (by omega)]
  have g1 : gov o.v1 Y b = o.v1 + Y + b := by unfold gov; rw [sat_id (x := o.v1 + Y) (by omega), sat_id (by omega)]
  have g2 : goz o.v2 L c = o.v2 + L - 392 + c := by unfold goz gov; rw [sat_id (x := o.v2 + L) (by omega), sat_id (x := o.v2 + L + c) (by omega), sat_id (by omega)]; omega
  refine ⟨o.h % 1048576, sat (o.r + T), (o.h + sat (o.r + T)) % 1048576, ?_⟩
  unfold stepS flyS
  simp only []
  rw [g0, g1, g2, sat_id (x := o.p2 + (o.v2 + L - 392 + c)) (by omega), sat_id (x := o.p0 + (o.v0 + X + a)) (by omega), sat_id (x := o.p1 + (o.v1 + Y + b)) (by omega), sat_id (x := o.c - 0) (by omega), Int.sub_zero]
theorem eqlT (a b c : Int) (w : World) : (binOp .eql 22 (tV a b c) (tV a b c)).run Try.prog w = .ok (.bool true) w := by
  have h := eql_arr a b c a b c w
  rw [show (a == a && (b == b && c == c)) = true by simp] at h
  exact h
set_option maxHeartbeats 2000000 in
set_option maxRecDepth 100000 in
theorem obeys_bad (o : Wo) (l x y t : Int) (k : Tk) (w : World) (hd : k.d < 0 ∨ 8 < k.d) : Calls Try.prog 6 #[woV o, wV l x y t, .agg (tkC k)] w fun e w' => e = .returned (.bool true) ∧ Below w.heap.size w w' := by
  have MX := hide (fun W => mix_bad l x y t k.d W hd)
  obtain ⟨W0, hW0, b0, A0, X0, K0, hz0⟩ := three_boxes w (woA o) (wC l x y t) (tkC k) 24 46 28
  have HA := hide A0
  have HX := hide X0
  have HK := hide K0
  have Hb := hide b0
  clear b0 A0 X0 K0
  have kd : W0.cell? ⟨w.heap.size + 1 + 1, 8, none⟩ = some (.int .i64 k.d) := HK.out.cell 8 rfl
  obtain ⟨m0, m1, m2, m3⟩ := four_cells HX.out
  rcases hd with h1 | h1
  · go_enter Try.func6, Try.ntmps6
    go_upto_region 2 with (go_at_call 18; refine (MX.out _).mono ?_; rintro e w2 ⟨rfl, hb2⟩; have Hb2 := hide hb2; clear hb2)
    have HK2 := hide ((HK.out.after Hb2.out).alloc (.cells (eC 0 0 0 0 0 0 0 0) 26))
    have Hb3 := hide (below_next (below_next Hb.out (Nat.le_refl _) Hb2.out) (Nat.le_refl _) (below_alloc w2 (.cells (eC 0 0 0 0 0 0 0 0) 26)))
    clear kd m0 m1 m2 m3
    generalize w2.alloc (.cells (eC 0 0 0 0 0 0 0 0) 26) = W3 at *
    have kd : W3.cell? ⟨w.heap.size + 1 + 1, 8, none⟩ = some (.int .i64 k.d) := HK2.out.cell 8 rfl
    go_wp2_with (go_at_call 9; refine (awakeW _).mono ?_; rintro e w5 ⟨rfl, hb5⟩; have Hb5 := hide hb5; clear hb5)
    go_ret
    exact ⟨rfl, below_next Hb3.out (Nat.le_refl _) Hb5.out⟩
  · have h2 : ¬ k.d < 0 := by omega
    go_enter Try.func6, Try.ntmps6
    go_upto_region 2 with (go_at_call 18; refine (MX.out _).mono ?_; rintro e w2 ⟨rfl, hb2⟩; have Hb2 := hide hb2; clear hb2)
    have HK2 := hide ((HK.out.after Hb2.out).alloc (.cells (eC 0 0 0 0 0 0 0 0) 26))
    have Hb3 := hide (below_next (below_next Hb.out (Nat.le_refl _) Hb2.out) (Nat.le_refl _) (below_alloc w2 (.cells (eC 0 0 0 0 0 0 0 0) 26)))
    clear kd m0 m1 m2 m3
    generalize w2.alloc (.cells (eC 0 0 0 0 0 0 0 0) 26) = W3 at *
    have kd : W3.cell? ⟨w.heap.size + 1 + 1, 8, none⟩ = some (.int .i64 k.d) := HK2.out.cell 8 rfl
    go_wp2_with (go_at_call 9; refine (awakeW _).mono ?_; rintro e w5 ⟨rfl, hb5⟩; have Hb5 := hide hb5; clear hb5)
    go_ret
    exact ⟨rfl, below_next Hb3.out (Nat.le_refl _) Hb5.out⟩
set_option maxHeartbeats 8000000 in
set_option maxRecDepth 100000 in
theorem obeys_any (o : Wo) (l x y t : Int) (k : Tk) (w : World) (ho : WOk o) (hk : TOk k) (hd : 0 ≤ k.d ∧ k.d ≤ 8) : Calls Try.prog 6 #[woV o, wV l x y t, .agg (tkC k)] w fun e w' => e = .returned (.bool true) ∧ Below w.heap.size w w' := by
  have MX := hide (fun W => mix_any l x y t k.d W hd)
  have LM := hide (lim_any l x y t)
  have hL : 328 ≤ clamp l 328 456 ∧ clamp l 328 456 ≤ 456 := clamp_in (by decide)
  have hX : -64 ≤ clamp x (-64) 64 ∧ clamp x (-64) 64 ≤ 64 := clamp_in (by decide)
  have hY : -64 ≤ clamp y (-64) 64 ∧ clamp y (-64) 64 ≤ 64 := clamp_in (by decide)
  have hT : -100 ≤ clamp t (-100) 100 ∧ clamp t (-100) 100 ≤ 100 := clamp_in (by decide)
  generalize clamp l 328 456 = L at *
  generalize clamp x (-64) 64 = X at *
  generalize clamp y (-64) 64 = Y at *
  generalize clamp t (-100) 100 = T at *
  obtain ⟨a0, a1, a2, a3, a4, a5, a6, a7, T', hm, hwk⟩ := obey_mix k.d L X Y T hd hL hX hY hT
  rw [hm] at MX
  clear hm hT
  have ST := hide (fun W => step_any o k.d k.a k.b k.c 0 L X Y T' a0 a1 a2 a3 a4 a5 a6 a7 W ho hd hk.a hk.b hk.c i64_0 hwk)
  have FR := hide (fun h0 h1 h2 => step_free o L X Y T' k.a k.b k.c ho h0 h1 h2 hL hX hY)
  have AW := hide awakeW
  obtain ⟨p0, p1, p2, v0, v1, v2, h, r, ch⟩ := o
  obtain ⟨n0, n1, n2, n3, n4, n5, n6, n7, d, a, b, c, dr⟩ := k
  simp only [] at FR ST MX hd ⊢
  have hd0 : ¬ d < 0 := by omega
  have hd8 : ¬ 8 < d := by omega
  clear ho hk hwk hd hd0 hd8
  obtain ⟨W0, hW0, b0, A0, X0, K0, hz0⟩ := three_boxes w (woC p0 p1 p2 v0 v1 v2 h r ch) (wC l x y t) (tkC ⟨n0, n1, n2, n3, n4, n5, n6, n7, d, a, b, c, dr⟩) 24 46 28
  have HA := hide A0
  have HX := hide X0
  have HK := hide K0
  have Hb := hide b0
  clear b0 A0 X0 K0
  have kd : W0.cell? ⟨w.heap.size + 1 + 1, 8, none⟩ = some (.int .i64 d) := HK.out.cell 8 rfl
  obtain ⟨m0, m1, m2, m3⟩ := four_cells HX.out
  go_enter Try.func6, Try.ntmps6
  go_upto_region 2 with (go_at_call 18; refine (MX.out _).mono ?_; rintro e w2 ⟨rfl, hb2⟩; have Hb2 := hide hb2; clear hb2)
  have HE := hide (Blk.new w2 (eC a0 a1 a2 a3 a4 a5 a6 a7) 26)
  replace HA := hide ((HA.out.after Hb2.out).alloc (.cells (eC a0 a1 a2 a3 a4 a5 a6 a7) 26))
  replace HX := hide ((HX.out.after Hb2.out).alloc (.cells (eC a0 a1 a2 a3 a4 a5 a6 a7) 26))
  replace HK := hide ((HK.out.after Hb2.out).alloc (.cells (eC a0 a1 a2 a3 a4 a5 a6 a7) 26))
  replace Hb := hide (below_next (below_next Hb.out (Nat.le_refl _) Hb2.out) (Nat.le_refl _) (below_alloc w2 (.cells (eC a0 a1 a2 a3 a4 a5 a6 a7) 26)))
  have HEw : Hid (w.heap.size + 1 + 1 < w2.heap.size) := hide (Nat.lt_of_lt_of_le (by omega) Hb2.out.size)
  clear kd m0 m1 m2 m3 hW0 hz0 Hb2 MX
  generalize w2.alloc (.cells (eC a0 a1 a2 a3 a4 a5 a6 a7) 26) = W3 at *
  generalize w2.heap.size = ge at *
  go_wp2_with fail
  go_loopw [9] (fun v wr => ∃ i : Nat, v = .int .i64 (i : Int) ∧ i ≤ 3 ∧ wr = W3 ∧ Hid (1 ≤ i → inB p0 v0 a) ∧ Hid (2 ≤ i → inB p1 v1 b) ∧ Hid (3 ≤ i → inB p2 v2 c)) (fun v _ => 3 - (intOf v).toNat)
  case atStart => exact ⟨0, rfl, by omega, rfl, hide (by omega), hide (by omega), hide (by omega)⟩
  case round =>
    obtain ⟨i, rfl, hi, hwr, I0, I1, I2⟩ := hrel
    have hwr := hwr.symm
    subst hwr
    obtain rfl | rfl | rfl | rfl : i = 0 ∨ i = 1 ∨ i = 2 ∨ i = 3 := by omega
    · have c0 : W3.cell? ⟨w.heap.size, 0, none⟩ = some (.int .i64 p0) := HA.out.cell 0 rfl
      have c1 : W3.cell? ⟨w.heap.size, 3, none⟩ = some (.int .i64 v0) := HA.out.cell 3 rfl
      have c2 : W3.cell? ⟨w.heap.size + 1 + 1, 9, none⟩ = some (.int .i64 a) := HK.out.cell 9 rfl
      clear ST FR LM hL hX hY
      by_cases hin : inB p0 v0 a
      · have HIN := hide hin
        have t1 : ¬ p0 < -1125899906842624 := by unfold inB at hin; omega
        have t2 : ¬ 1125899906842624 < p0 := by unfold inB at hin; omega
        have t3 : ¬ v0 < -1125899906842624 := by unfold inB at hin; omega
        have t4 : ¬ 1125899906842624 < v0 := by unfold inB at hin; omega
        have t5 : ¬ a < -1000 := by unfold inB at hin; omega
        have t6 : ¬ 1000 < a := by unfold inB at hin; omega
        clear hin
        go_wp2_with fail
        go_roundw
        case rel => exact ⟨1, by go_num, by omega, by trivial, hide (fun _ => HIN.out), hide (by omega), hide (by omega)⟩
        case measure => simp [intOf]
      · have hno := inB_not hin
        clear hin
        rcases hno with t1 | ⟨t1, t2⟩ | ⟨t1, t2, t3⟩ | ⟨t1, t2, t3, t4⟩ | ⟨t1, t2, t3, t4, t5⟩ | ⟨t1, t2, t3, t4, t5, t6⟩
        all_goals
          go_wp2_with (go_at_call 9; refine (AW.out _).mono ?_; rintro e w5 ⟨rfl, hb5⟩; have Hb5 := hide hb5; clear hb5)
          go_ret
          exact ⟨rfl, below_next Hb.out (Nat.le_refl _) Hb5.out⟩
    · have c0 : W3.cell? ⟨w.heap.size, 1, none⟩ = some (.int .i64 p1) := HA.out.cell 1 rfl
      have c1 : W3.cell? ⟨w.heap.size, 4, none⟩ = some (.int .i64 v1) := HA.out.cell 4 rfl
      have c2 : W3.cell? ⟨w.heap.size + 1 + 1, 10, none⟩ = some (.int .i64 b) := HK.out.cell 10 rfl
      clear ST FR LM hL hX hY
      by_cases hin : inB p1 v1 b
      · have HIN := hide hin
        have t1 : ¬ p1 < -1125899906842624 := by unfold inB at hin; omega
        have t2 : ¬ 1125899906842624 < p1 := by unfold inB at hin; omega
        have t3 : ¬ v1 < -1125899906842624 := by unfold inB at hin; omega
        have t4 : ¬ 1125899906842624 < v1 := by unfold inB at hin; omega
        have t5 : ¬ b < -1000 := by unfold inB at hin; omega
        have t6 : ¬ 1000 < b := by unfold inB at hin; omega
        clear hin
        go_wp2_with fail
        go_roundw
        case rel => exact ⟨2, by go_num, by omega, by trivial, hide (fun _ => I0.out (by omega)), hide (fun _ => HIN.out), hide (by omega)⟩
        case measure => simp [intOf]
      · have hno := inB_not hin
        clear hin
        rcases hno with t1 | ⟨t1, t2⟩ | ⟨t1, t2, t3⟩ | ⟨t1, t2, t3, t4⟩ | ⟨t1, t2, t3, t4, t5⟩ | ⟨t1, t2, t3, t4, t5, t6⟩
        all_goals
          go_wp2_with (go_at_call 9; refine (AW.out _).mono ?_; rintro e w5 ⟨rfl, hb5⟩; have Hb5 := hide hb5; clear hb5)
          go_ret
          exact ⟨rfl, below_next Hb.out (Nat.le_refl _) Hb5.out⟩
    · have c0 : W3.cell? ⟨w.heap.size, 2, none⟩ = some (.int .i64 p2) := HA.out.cell 2 rfl
      have c1 : W3.cell? ⟨w.heap.size, 5, none⟩ = some (.int .i64 v2) := HA.out.cell 5 rfl
      have c2 : W3.cell? ⟨w.heap.size + 1 + 1, 11, none⟩ = some (.int .i64 c) := HK.out.cell 11 rfl
      clear ST FR LM hL hX hY
      by_cases hin : inB p2 v2 c
      · have HIN := hide hin
        have t1 : ¬ p2 < -1125899906842624 := by unfold inB at hin; omega
        have t2 : ¬ 1125899906842624 < p2 := by unfold inB at hin; omega
        have t3 : ¬ v2 < -1125899906842624 := by unfold inB at hin; omega
        have t4 : ¬ 1125899906842624 < v2 := by unfold inB at hin; omega
        have t5 : ¬ c < -1000 := by unfold inB at hin; omega
        have t6 : ¬ 1000 < c := by unfold inB at hin; omega
        clear hin
        go_wp2_with fail
        go_roundw
        case rel => exact ⟨3, by go_num, by omega, by trivial, hide (fun _ => I0.out (by omega)), hide (fun _ => I1.out (by omega)), hide (fun _ => HIN.out)⟩
        case measure => simp [intOf]
      · have hno := inB_not hin
        clear hin
        rcases hno with t1 | ⟨t1, t2⟩ | ⟨t1, t2, t3⟩ | ⟨t1, t2, t3, t4⟩ | ⟨t1, t2, t3, t4, t5⟩ | ⟨t1, t2, t3, t4, t5, t6⟩
        all_goals
          go_wp2_with (go_at_call 9; refine (AW.out _).mono ?_; rintro e w5 ⟨rfl, hb5⟩; have Hb5 := hide hb5; clear hb5)
          go_ret
          exact ⟨rfl, below_next Hb.out (Nat.le_refl _) Hb5.out⟩
    · have B0 := I0.out (by omega)
      have B1 := I1.out (by omega)
      have B2 := I2.out (by omega)
      clear I0 I1 I2
      obtain ⟨H, R, H2, hfr⟩ := FR.out B0 B1 B2
      rw [hfr] at ST
      clear hfr FR
      obtain ⟨m0, m1, m2, m3⟩ := four_cells HX.out
      go_upto_region 10 with (go_at_call 19; refine (LM.out _).mono ?_; rintro e w4 ⟨rfl, hb4⟩; have Hb4 := hide hb4; clear hb4)
      have HV := hide (Blk.new w4 (wC L X Y T) 46)
      replace HA := hide ((HA.out.after Hb4.out).alloc (.cells (wC L X Y T) 46))
      replace HE := hide ((HE.out.after Hb4.out).alloc (.cells (wC L X Y T) 46))
      replace HK := hide ((HK.out.after Hb4.out).alloc (.cells (wC L X Y T) 46))
      replace Hb := hide (below_next (below_next Hb.out (Nat.le_refl _) Hb4.out) (Nat.le_refl _) (below_alloc w4 (.cells (wC L X Y T) 46)))
      clear m0 m1 m2 m3 LM Hb4 HX HEw
      generalize w4.alloc (.cells (wC L X Y T) 46) = W5 at *
      generalize w4.heap.size = gv at *
      obtain ⟨a0c, a1c, a2c, a3c, a4c, a5c, a6c, a7c, a8c⟩ := nine_cells HA.out
      obtain ⟨e0c, e1c, e2c, e3c, e4c, e5c, e6c, e7c⟩ := eight_cells HE.out
      have k8 : W5.cell? ⟨w.heap.size + 1 + 1, 8, none⟩ = some (.int .i64 d) := HK.out.cell 8 rfl
      have k9 : W5.cell? ⟨w.heap.size + 1 + 1, 9, none⟩ = some (.int .i64 a) := HK.out.cell 9 rfl
      have k10 : W5.cell? ⟨w.heap.size + 1 + 1, 10, none⟩ = some (.int .i64 b) := HK.out.cell 10 rfl
      have k11 : W5.cell? ⟨w.heap.size + 1 + 1, 11, none⟩ = some (.int .i64 c) := HK.out.cell 11 rfl
      by_cases hs : p2 + (v2 + L - 392 + c) ≤ 0
      · rw [if_pos hs] at ST
        go_upto_region 11 with (go_at_call 7; refine (ST.out _).mono ?_; rintro e w6 ⟨rfl, hb6⟩; have Hb6 := hide hb6; clear hb6)
        have HN := hide (Blk.new w6 (woC p0 p1 0 0 0 0 H 0 ch) 24)
        replace HA := hide ((HA.out.after Hb6.out).alloc (.cells (woC p0 p1 0 0 0 0 H 0 ch) 24))
        replace HV := hide ((HV.out.after Hb6.out).alloc (.cells (woC p0 p1 0 0 0 0 H 0 ch) 24))
        replace HK := hide ((HK.out.after Hb6.out).alloc (.cells (woC p0 p1 0 0 0 0 H 0 ch) 24))
        replace Hb := hide (below_next (below_next Hb.out (Nat.le_refl _) Hb6.out) (Nat.le_refl _) (below_alloc w6 (.cells (woC p0 p1 0 0 0 0 H 0 ch) 24)))
        clear a0c a1c a2c a3c a4c a5c a6c a7c a8c e0c e1c e2c e3c e4c e5c e6c e7c k8 k9 k10 k11 ST Hb6 HE
        generalize w6.alloc (.cells (woC p0 p1 0 0 0 0 H 0 ch) 24) = W7 at *
        generalize w6.heap.size = gn at *
        obtain ⟨a0c, a1c, a2c, a3c, a4c, a5c, a6c, a7c, a8c⟩ := nine_cells HA.out
        obtain ⟨b0c, b1c, b2c, b3c, b4c, b5c, b6c, b7c, b8c⟩ := nine_cells HN.out
        obtain ⟨v0c, v1c, v2c, v3c⟩ := four_cells HV.out
        have k9 : W7.cell? ⟨w.heap.size + 1 + 1, 9, none⟩ = some (.int .i64 a) := HK.out.cell 9 rfl
        have k10 : W7.cell? ⟨w.heap.size + 1 + 1, 10, none⟩ = some (.int .i64 b) := HK.out.cell 10 rfl
        have k11 : W7.cell? ⟨w.heap.size + 1 + 1, 11, none⟩ = some (.int .i64 c) := HK.out.cell 11 rfl
        have ech : (ch != ch) = false := by simp
        unfold inB at B0 B1 B2
        obtain ⟨⟨⟨x1, x2⟩, x3, x4⟩, x5, x6⟩ := B0
        obtain ⟨⟨⟨y1, y2⟩, y3, y4⟩, y5, y6⟩ := B1
        obtain ⟨⟨⟨z1, z2⟩, z3, z4⟩, z5, z6⟩ := B2
        obtain ⟨u1, u2⟩ := hL
        obtain ⟨u3, u4⟩ := hX
        obtain ⟨u5, u6⟩ := hY
        have Q1 := eqlT p0 p1 0
        have Q2 := eqlT 0 0 0
        clear HA HV HK HN
        go_wp2_with (go_at_call 9; refine (AW.out _).mono ?_; rintro e w8 ⟨rfl, hb8⟩; have Hb8 := hide hb8; clear hb8)
        go_ret
        exact ⟨rfl, below_next Hb.out (Nat.le_refl _) Hb8.out⟩
      · rw [if_neg hs] at ST
        go_upto_region 11 with (go_at_call 7; refine (ST.out _).mono ?_; rintro e w6 ⟨rfl, hb6⟩; have Hb6 := hide hb6; clear hb6)
        have HN := hide (Blk.new w6 (woC (p0 + (v0 + X + a)) (p1 + (v1 + Y + b)) (p2 + (v2 + L - 392 + c)) (v0 + X + a) (v1 + Y + b) (v2 + L - 392 + c) H2 R ch) 24)
        replace HA := hide ((HA.out.after Hb6.out).alloc (.cells (woC (p0 + (v0 + X + a)) (p1 + (v1 + Y + b)) (p2 + (v2 + L - 392 + c)) (v0 + X + a) (v1 + Y + b) (v2 + L - 392 + c) H2 R ch) 24))
        replace HV := hide ((HV.out.after Hb6.out).alloc (.cells (woC (p0 + (v0 + X + a)) (p1 + (v1 + Y + b)) (p2 + (v2 + L - 392 + c)) (v0 + X + a) (v1 + Y + b) (v2 + L - 392 + c) H2 R ch) 24))
        replace HK := hide ((HK.out.after Hb6.out).alloc (.cells (woC (p0 + (v0 + X + a)) (p1 + (v1 + Y + b)) (p2 + (v2 + L - 392 + c)) (v0 + X + a) (v1 + Y + b) (v2 + L - 392 + c) H2 R ch) 24))
        replace Hb := hide (below_next (below_next Hb.out (Nat.le_refl _) Hb6.out) (Nat.le_refl _) (below_alloc w6 (.cells (woC (p0 + (v0 + X + a)) (p1 + (v1 + Y + b)) (p2 + (v2 + L - 392 + c)) (v0 + X + a) (v1 + Y + b) (v2 + L - 392 + c) H2 R ch) 24)))
        clear a0c a1c a2c a3c a4c a5c a6c a7c a8c e0c e1c e2c e3c e4c e5c e6c e7c k8 k9 k10 k11 ST Hb6 HE
        generalize w6.alloc (.cells (woC (p0 + (v0 + X + a)) (p1 + (v1 + Y + b)) (p2 + (v2 + L - 392 + c)) (v0 + X + a) (v1 + Y + b) (v2 + L - 392 + c) H2 R ch) 24) = W7 at *
        generalize w6.heap.size = gn at *
        obtain ⟨a0c, a1c, a2c, a3c, a4c, a5c, a6c, a7c, a8c⟩ := nine_cells HA.out
        obtain ⟨b0c, b1c, b2c, b3c, b4c, b5c, b6c, b7c, b8c⟩ := nine_cells HN.out
        obtain ⟨v0c, v1c, v2c, v3c⟩ := four_cells HV.out
        have k9 : W7.cell? ⟨w.heap.size + 1 + 1, 9, none⟩ = some (.int .i64 a) := HK.out.cell 9 rfl
        have k10 : W7.cell? ⟨w.heap.size + 1 + 1, 10, none⟩ = some (.int .i64 b) := HK.out.cell 10 rfl
        have k11 : W7.cell? ⟨w.heap.size + 1 + 1, 11, none⟩ = some (.int .i64 c) := HK.out.cell 11 rfl
        have ech : (ch != ch) = false := by simp
        unfold inB at B0 B1 B2
        obtain ⟨⟨⟨x1, x2⟩, x3, x4⟩, x5, x6⟩ := B0
        obtain ⟨⟨⟨y1, y2⟩, y3, y4⟩, y5, y6⟩ := B1
        obtain ⟨⟨⟨z1, z2⟩, z3, z4⟩, z5, z6⟩ := B2
        obtain ⟨u1, u2⟩ := hL
        obtain ⟨u3, u4⟩ := hX
        obtain ⟨u5, u6⟩ := hY
        have Q1 := eqlT (v0 + X + a) (v1 + Y + b) (v2 + L - 392 + c)
        have Q2 := eqlT (p0 + (v0 + X + a)) (p1 + (v1 + Y + b)) (p2 + (v2 + L - 392 + c))
        go_upto_region 17 with fail
        have HWt := hide (Blk.new W7 (tC (v0 + X + a) (v1 + Y + b) (v2 + L - 392 + c)) 22)
        replace HA := hide (HA.out.alloc (.cells (tC (v0 + X + a) (v1 + Y + b) (v2 + L - 392 + c)) 22))
        replace HN := hide (HN.out.alloc (.cells (tC (v0 + X + a) (v1 + Y + b) (v2 + L - 392 + c)) 22))
        replace Hb := hide (below_next Hb.out (Nat.le_refl _) (below_alloc W7 (.cells (tC (v0 + X + a) (v1 + Y + b) (v2 + L - 392 + c)) 22)))
        clear a0c a1c a2c a3c a4c a5c a6c a7c a8c b0c b1c b2c b3c b4c b5c b6c b7c b8c v0c v1c v2c v3c k9 k10 k11 HV HK
        generalize W7.alloc (.cells (tC (v0 + X + a) (v1 + Y + b) (v2 + L - 392 + c)) 22) = W8 at *
        generalize W7.heap.size = gw at *
        obtain ⟨a0c, a1c, a2c, a3c, a4c, a5c, a6c, a7c, a8c⟩ := nine_cells HA.out
        obtain ⟨b0c, b1c, b2c, b3c, b4c, b5c, b6c, b7c, b8c⟩ := nine_cells HN.out
        obtain ⟨w0c, w1c, w2c⟩ := three_cells HWt.out
        clear HA HN HWt
        go_wp2_with (go_at_call 9; refine (AW.out _).mono ?_; rintro e w8 ⟨rfl, hb8⟩; have Hb8 := hide hb8; clear hb8)
        go_ret
        exact ⟨rfl, below_next Hb.out (Nat.le_refl _) Hb8.out⟩
theorem WorldObeys_walk (v : Value) (l x y t : Int) (u : Value) (w : World) (hv : ∃ o : Wo, WOk o ∧ v = woV o) (hu : ∃ k : Tk, TOk k ∧ u = .agg (tkC k)) : Calls Try.prog 6 #[v, wV l x y t, u] w fun e w' => e = .returned (.bool true) ∧ Below w.heap.size w w' := by
  obtain ⟨o, ho, rfl⟩ := hv
  obtain ⟨k, hk, rfl⟩ := hu
  by_cases hd : k.d < 0 ∨ 8 < k.d
  · exact obeys_bad o l x y t k w hd
  · exact obeys_any o l x y t k w ho hk (by omega)
end Go.Proofs.Ytpoodmfhcoaleaa
