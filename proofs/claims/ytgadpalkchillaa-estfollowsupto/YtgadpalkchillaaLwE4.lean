/- EstFollows. -/
import Derived.Test.YtgadpalkchillaaEsU
namespace Go.Proofs.Ytgadpalkchillaa
open Go.RowKit Go.Great

theorem neq_axis (a b c d : Int) (w : World) : (binOp .neq 30 (.agg #[.int .i64 a, .int .i64 b, .int .i64 c, .int .i64 d]) (.agg #[.int .i64 a, .int .i64 b, .int .i64 c, .int .i64 d])).run Try.prog w = .ok (.bool false) w := by
  go_simp
theorem qt_le {m : Mea} {q n : Int} (h : q ≤ n) (h0 : 0 ≤ n) (hn : n < 4611686018427387904) (hq : 0 ≤ q) : qt m q ≤ n + 1 := by
  unfold qt
  split
  · omega
  · rw [sat_in (by unfold I64; omega)]; omega
theorem fstp_q {a d : Int} {sd : Bool} {p v : Mea} {t : Fi} {n : Int} (ht : FOk t) (h0 : t.q0 ≤ n) (h1 : t.q1 ≤ n) (hn0 : 0 ≤ n) (hn : n < 4611686018427387904) : (fstp a d sd p v t).q0 ≤ n + 1 ∧ (fstp a d sd p v t).q1 ≤ n + 1 := by
  have e : (fstp a d sd p v t).q0 = (if t.kn = true then qt p t.q0 else t.q0) ∧ (fstp a d sd p v t).q1 = (if t.kn = true then qt v t.q1 else t.q1) := by
    unfold fstp
    by_cases hk : t.kn = true
    · rw [if_pos hk, if_pos hk, if_pos hk]
      unfold fgo
      cases sd <;> exact ⟨rfl, rfl⟩
    · rw [if_neg hk, if_neg hk, if_neg hk]
      unfold fbeg
      split <;> exact ⟨rfl, rfl⟩
  rw [e.1, e.2]
  have a0 := qt_le (m := p) h0 hn0 hn ht.q0.1
  have a1 := qt_le (m := v) h1 hn0 hn ht.q1.1
  split <;> omega
set_option maxHeartbeats 2000000 in
set_option maxRecDepth 100000 in
theorem follows_no (s : Int) (tv : Value) (w : World) (h : s < 1) : Calls Try.prog 3 #[.int .i64 s, tv] w fun e w' => e = .returned (.bool true) ∧ Below w.heap.size w w' := by
  have RN := hide (rnew_no w s h)
  unfold rC at RN
  go_enter Try.func3, Try.ntmps3
  go_wp2_with (first
    | (go_at_call 7; refine (newF_no w s h).mono ?_; rintro e w' ⟨rfl, hw'⟩; obtain rfl := hw'.symm)
    | (go_at_call 8; refine RN.out.mono ?_; rintro e w1 ⟨rfl, hb1⟩)
    | (go_at_call 9; refine (awakeE _).mono ?_; rintro e w2 ⟨rfl, hb2⟩))
  go_ret
  exact ⟨rfl, below_next hb1 (Nat.le_refl _) (below_over hb2)⟩
theorem rcell9 {w : World} {X : Nat} {t : Fi} (h : Blk w X (rC t) 33) : w.cell? ⟨X, 0, none⟩ = some (.int .i64 t.st) ∧ w.cell? ⟨X, 1, none⟩ = some (.bool t.kn) ∧ w.cell? ⟨X, 2, none⟩ = some (.int .i64 t.pl) ∧ w.cell? ⟨X, 3, none⟩ = some (.int .i64 t.ph) ∧ w.cell? ⟨X, 4, none⟩ = some (.int .i64 t.vl) ∧ w.cell? ⟨X, 5, none⟩ = some (.int .i64 t.vh) ∧ w.cell? ⟨X, 6, none⟩ = some (.int .i64 t.q0) ∧ w.cell? ⟨X, 7, none⟩ = some (.int .i64 t.q1) ∧ w.cell? ⟨X, 8, none⟩ = some (.int .i64 t.j) :=
  ⟨h.cell 0 rfl, h.cell 1 rfl, h.cell 2 rfl, h.cell 3 rfl, h.cell 4 rfl, h.cell 5 rfl, h.cell 6 rfl, h.cell 7 rfl, h.cell 8 rfl⟩
theorem resW_other {W : World} {B C : Nat} {cs : Array Value} {ty : TypeId} {t : Fi} (h : Blk W C cs ty) (hne : C ≠ B) : Blk (resW W B t) C cs ty := ((((((((h.setOther hne _ _).setOther hne _ _).setOther hne _ _).setOther hne _ _).setOther hne _ _).setOther hne _ _).setOther hne _ _).setOther hne _ _).setOther hne _ _
theorem resW_below {w W : World} {B : Nat} {t : Fi} (h : Below w.heap.size w W) (hB : w.heap.size ≤ B) : Below w.heap.size w (resW W B t) := by
  have step : ∀ (X : World) (i : Nat) (u : Value), w.heap.size ≤ X.heap.size ∧ Below w.heap.size w X → w.heap.size ≤ (X.setCell ⟨B, i, none⟩ u).heap.size ∧ Below w.heap.size w (X.setCell ⟨B, i, none⟩ u) := fun X i u ⟨h1, h2⟩ => ⟨by rw [setCell_size]; exact h1, below_set h2 _ _ _ hB h1⟩
  exact (step _ _ _ (step _ _ _ (step _ _ _ (step _ _ _ (step _ _ _ (step _ _ _ (step _ _ _ (step _ _ _ (step _ _ _ ⟨h.size, h⟩))))))))).2
set_option maxHeartbeats 4000000 in
set_option maxRecDepth 100000 in
theorem follows_yes (s : Int) (tv : Value) (L : List Bea) (w : World) (hs : I64 s) (h : 1 ≤ s) (hL : ∀ x ∈ L, BeaOk x) (hT : Rws w tv 9 cBea L) (hn20 : L.length ≤ 1048576) : Calls Try.prog 3 #[.int .i64 s, tv] w fun e w' => e = .returned (.bool true) ∧ Below w.heap.size w w' := by
  have HT := hide hT
  have HL := hide hL
  have IS := hide hs
  obtain ⟨_, ta, tc, rfl, _⟩ := hT
  obtain ⟨n, hn⟩ : ∃ n, Hid (L.length = n) := ⟨_, hide rfl⟩
  rw [hn.out] at hn20 ⊢
  clear hL hs
  go_enter Try.func3, Try.ntmps3
  go_upto_region 2 with (go_at_call 7; refine (newF_any w s h).mono ?_; rintro e w1 ⟨B, rfl, hB, hb1, hBw⟩)
  have HB : Hid (Blk w1 B (fC (fN s)) 72) := hide hB
  have Hb := hide hb1
  clear hB hb1
  have RN : Hid (Calls Try.prog 8 #[.int .i64 s] w1 fun e w' => e = .returned (.tuple #[.agg #[.int .i64 s, .bool false, .int .i64 0, .int .i64 0, .int .i64 0, .int .i64 0, .int .i64 0, .int .i64 0, .int .i64 0], .int .i64 0]) ∧ Below w1.heap.size w1 w') := hide (rnew_any w1 s h)
  go_upto_region 3 with (go_at_call 8; refine RN.out.mono ?_; rintro e w2 ⟨rfl, hb2⟩)
  have HX : Hid (Blk (w2.alloc (.cells #[.int .i64 s, .bool false, .int .i64 0, .int .i64 0, .int .i64 0, .int .i64 0, .int .i64 0, .int .i64 0, .int .i64 0] 33)) w2.heap.size (rC (fN s)) 33) := hide (Blk.new w2 _ _)
  replace HB := hide (HB.out.after hb2)
  have hXB : ¬ B = w2.heap.size := by have := HB.out.lt; omega
  replace HB := hide (HB.out.alloc (.cells #[.int .i64 s, .bool false, .int .i64 0, .int .i64 0, .int .i64 0, .int .i64 0, .int .i64 0, .int .i64 0, .int .i64 0] 33))
  replace Hb := hide (below_next Hb.out (Nat.le_refl _) hb2)
  have hXw : w.heap.size ≤ w2.heap.size := Hb.out.size
  replace Hb := hide (Hb.out.alloc Hb.out.size (.cells #[.int .i64 s, .bool false, .int .i64 0, .int .i64 0, .int .i64 0, .int .i64 0, .int .i64 0, .int .i64 0, .int .i64 0] 33))
  clear hb2 RN
  generalize w2.heap.size = X at *
  generalize w2.alloc (.cells #[.int .i64 s, .bool false, .int .i64 0, .int .i64 0, .int .i64 0, .int .i64 0, .int .i64 0, .int .i64 0, .int .i64 0] 33) = W1 at *
  go_wp2_with fail
  go_loopw [9] (fun vi wr => ∃ (i : Nat) (t : Fi), vi = .int .i64 (i : Int) ∧ i ≤ n ∧ FOk t ∧ t.q0 ≤ (i : Int) ∧ t.q1 ≤ (i : Int) ∧ Blk wr B (fC t) 72 ∧ Blk wr X (rC t) 33 ∧ Below w.heap.size w wr) (fun v _ => n - (intOf v).toNat)
  case atStart => exact ⟨0, fN s, rfl, by omega, fN_ok IS.out, Int.le_refl _, Int.le_refl _, HB.out, HX.out, Hb.out⟩
  case round =>
    clear HB HX Hb
    obtain ⟨i, t, rfl, hi, hok, hq0, hq1, hB, hX, hb⟩ := hrel
    have HO := hide hok
    have HQ := hide (And.intro hq0 hq1)
    have HB := hide hB
    have HX := hide hX
    have Hb := hide hb
    clear hok hq0 hq1 hB hX hb
    by_cases hlt : i < n
    · obtain ⟨g, o, cap, x, e1, hg, hx, hcell⟩ := HT.out.get i (by rw [hn.out]; exact hlt)
      injection e1 with e1 e2 e3
      subst e1 e3
      have HXO := hide (HL.out x (List.mem_of_getElem? hx))
      have HC := hide hcell
      clear e2 hx hcell hg
      obtain ⟨xa, xd, xs, p, v⟩ := x
      have k0 : wr.cell? ⟨g, o + i * 9, none⟩ = some (.int .i64 xa) := HC.out wr Hb.out 0 _ rfl
      have k1 : wr.cell? ⟨g, o + i * 9 + 1, none⟩ = some (.int .i64 xd) := HC.out wr Hb.out 1 _ rfl
      have k2 : wr.cell? ⟨g, o + i * 9 + 2, none⟩ = some (.bool xs) := HC.out wr Hb.out 2 _ rfl
      have k3 : wr.cell? ⟨g, o + i * 9 + 3, none⟩ = some (.bool p.o) := HC.out wr Hb.out 3 _ rfl
      have k4 : wr.cell? ⟨g, o + i * 9 + 4, none⟩ = some (.int .i64 p.x) := HC.out wr Hb.out 4 _ rfl
      have k5 : wr.cell? ⟨g, o + i * 9 + 5, none⟩ = some (.int .i64 p.e) := HC.out wr Hb.out 5 _ rfl
      have k6 : wr.cell? ⟨g, o + i * 9 + 6, none⟩ = some (.bool v.o) := HC.out wr Hb.out 6 _ rfl
      have k7 : wr.cell? ⟨g, o + i * 9 + 7, none⟩ = some (.int .i64 v.x) := HC.out wr Hb.out 7 _ rfl
      have k8 : wr.cell? ⟨g, o + i * 9 + 8, none⟩ = some (.int .i64 v.e) := HC.out wr Hb.out 8 _ rfl
      have hlB := HB.out.lt
      have hlX := HX.out.lt
      go_upto_region 11 with fail
      have HY := hide (Blk.new wr #[.int .i64 xa, .int .i64 xd, .bool xs, .bool p.o, .int .i64 p.x, .int .i64 p.e, .bool v.o, .int .i64 v.x, .int .i64 v.e] 40)
      replace HB := hide (HB.out.alloc (.cells #[.int .i64 xa, .int .i64 xd, .bool xs, .bool p.o, .int .i64 p.x, .int .i64 p.e, .bool v.o, .int .i64 v.x, .int .i64 v.e] 40))
      replace HX := hide (HX.out.alloc (.cells #[.int .i64 xa, .int .i64 xd, .bool xs, .bool p.o, .int .i64 p.x, .int .i64 p.e, .bool v.o, .int .i64 v.x, .int .i64 v.e] 40))
      replace Hb := hide (below_next Hb.out (Nat.le_refl _) (below_alloc wr (.cells #[.int .i64 xa, .int .i64 xd, .bool xs, .bool p.o, .int .i64 p.x, .int .i64 p.e, .bool v.o, .int .i64 v.x, .int .i64 v.e] 40)))
      clear k0 k1 k2 k3 k4 k5 k6 k7 k8 HC
      generalize wr.heap.size = d at *
      generalize wr.alloc (.cells #[.int .i64 xa, .int .i64 xd, .bool xs, .bool p.o, .int .i64 p.x, .int .i64 p.e, .bool v.o, .int .i64 v.x, .int .i64 v.e] 40) = W2 at *
      have YC : Hid (∀ wx, Blk wx d #[.int .i64 xa, .int .i64 xd, .bool xs, .bool p.o, .int .i64 p.x, .int .i64 p.e, .bool v.o, .int .i64 v.x, .int .i64 v.e] 40 → wx.cell? ⟨d, 0, none⟩ = some (.int .i64 xa) ∧ wx.cell? ⟨d, 1, none⟩ = some (.int .i64 xd) ∧ wx.cell? ⟨d, 2, none⟩ = some (.bool xs) ∧ wx.cell? ⟨d, 3, none⟩ = some (.bool p.o) ∧ wx.cell? ⟨d, 4, none⟩ = some (.int .i64 p.x) ∧ wx.cell? ⟨d, 5, none⟩ = some (.int .i64 p.e) ∧ wx.cell? ⟨d, 6, none⟩ = some (.bool v.o) ∧ wx.cell? ⟨d, 7, none⟩ = some (.int .i64 v.x) ∧ wx.cell? ⟨d, 8, none⟩ = some (.int .i64 v.e)) := hide (fun wx h => ⟨h.cell 0 rfl, h.cell 1 rfl, h.cell 2 rfl, h.cell 3 rfl, h.cell 4 rfl, h.cell 5 rfl, h.cell 6 rfl, h.cell 7 rfl, h.cell 8 rfl⟩)
      obtain ⟨k0, k1, k2, k3, k4, k5, k6, k7, k8⟩ := YC.out W2 HY.out
      have T1O := hide (fstp_ok (acc := xa) (dev := xd) (sd := xs) (p := p) (v := v) HO.out)
      have T1Q := hide (fstp_q (a := xa) (d := xd) (sd := xs) (p := p) (v := v) (n := (i : Int)) HO.out HQ.out.1 HQ.out.2 (by omega) (by omega))
      have RS : Hid (∀ wx, Calls Try.prog 11 #[.agg (rC t), .int .i64 xa, .int .i64 xd, .bool xs, mV p, mV v] wx fun e w' => e = .returned (.agg (rC (fstp xa xd xs p v t))) ∧ Below wx.heap.size wx w') := hide (fun wx => rstepF_any wx t xa xd xs p v HO.out (by have := HQ.out.1; omega) (by have := HQ.out.2; omega) HXO.out.a HXO.out.d HXO.out.p HXO.out.v)
      go_upto_region 12 with (go_at_call 10; refine (stepF_any W2 B t xa xd xs p v HB.out HO.out HXO.out.a HXO.out.d HXO.out.p HXO.out.v).mono ?_; rintro e w3 ⟨rfl, hB3, hG3⟩)
      obtain ⟨t1, ht1⟩ : ∃ y, Hid (fstp xa xd xs p v t = y) := ⟨_, hide rfl⟩
      rw [ht1.out] at hB3 T1O T1Q RS
      replace HB := hide hB3
      replace HX := hide (HX.out.grown hG3 (fun e => by injection e with e; exact hXB e))
      replace HY := hide (HY.out.grown hG3 (fun e => by injection e with e; omega))
      replace Hb := hide (below_grown Hb.out hG3 (fun q e => by injection e with e; omega))
      clear hB3 hG3 k0 k1 k2 k3 k4 k5 k6 k7 k8 ht1
      obtain ⟨k0, k1, k2, k3, k4, k5, k6, k7, k8⟩ := YC.out w3 HY.out
      obtain ⟨x0, x1, x2, x3, x4, x5, x6, x7, x8⟩ := rcell9 HX.out
      unfold rC at RS
      go_upto_region 13 with (go_at_call 11; refine (RS.out _).mono ?_; rintro e w4 ⟨rfl, hb4⟩; replace HB := hide (HB.out.after hb4); replace HX := hide (HX.out.after hb4); replace Hb := hide (below_next Hb.out (Nat.le_refl _) hb4); clear hb4 k0 k1 k2 k3 k4 k5 k6 k7 k8 x0 x1 x2 x3 x4 x5 x6 x7 x8; obtain ⟨x0, x1, x2, x3, x4, x5, x6, x7, x8⟩ := rcell9 HX.out; have z0 := HX.out.frozen 0; have z1 := HX.out.frozen 1; have z2 := HX.out.frozen 2; have z3 := HX.out.frozen 3; have z4 := HX.out.frozen 4; have z5 := HX.out.frozen 5; have z6 := HX.out.frozen 6; have z7 := HX.out.frozen 7; have z8 := HX.out.frozen 8)
      have HX5 : Hid (Blk (resW w4 X t1) X (rC t1) 33) := hide (Blk.set9 HX.out _ _ _ _ _ _ _ _ _)
      have HB5 := hide (resW_other (t := t1) HB.out hXB)
      have Hb5 := hide (resW_below (t := t1) (B := X) Hb.out hXw)
      clear HB HX Hb x0 x1 x2 x3 x4 x5 x6 x7 x8 z0 z1 z2 z3 z4 z5 z6 z7 z8 HY YC RS
      unfold resW at HX5 HB5 Hb5
      generalize ((((((((w4.setCell ⟨X, 0, none⟩ (.int .i64 t1.st)).setCell ⟨X, 1, none⟩ (.bool t1.kn)).setCell ⟨X, 2, none⟩ (.int .i64 t1.pl)).setCell ⟨X, 3, none⟩ (.int .i64 t1.ph)).setCell ⟨X, 4, none⟩ (.int .i64 t1.vl)).setCell ⟨X, 5, none⟩ (.int .i64 t1.vh)).setCell ⟨X, 6, none⟩ (.int .i64 t1.q0)).setCell ⟨X, 7, none⟩ (.int .i64 t1.q1)).setCell ⟨X, 8, none⟩ (.int .i64 t1.j) = W5 at *
      have MP := hide (middleF_any W5 B t1 HB5.out T1O.out)
      have MR : Hid (∀ wx, Calls Try.prog 13 #[.agg (rC t1)] wx fun e w' => e = .returned (.tuple #[.int .i64 (midI t1.pl t1.ph), .int .i64 (midI t1.vl t1.vh)]) ∧ Below wx.heap.size wx w') := hide (fun wx => rmiddle_any t1 T1O.out wx)
      obtain ⟨m1, hm1⟩ : ∃ y, Hid (midI t1.pl t1.ph = y) := ⟨_, hide rfl⟩
      obtain ⟨m2, hm2⟩ : ∃ y, Hid (midI t1.vl t1.vh = y) := ⟨_, hide rfl⟩
      rw [hm1.out, hm2.out] at MP MR
      unfold rC at MR
      go_upto_region 14 with (go_at_call 12; refine MP.out.mono ?_; rintro e w6 ⟨rfl, hb6⟩)
      replace HB5 := hide (HB5.out.after hb6)
      replace HX5 := hide (HX5.out.after hb6)
      replace Hb5 := hide (below_next Hb5.out (Nat.le_refl _) hb6)
      clear hb6 MP hm1 hm2
      obtain ⟨x0, x1, x2, x3, x4, x5, x6, x7, x8⟩ := rcell9 HX5.out
      go_upto_region 15 with (go_at_call 13; refine (MR.out _).mono ?_; rintro e w7 ⟨rfl, hb7⟩)
      replace HB5 := hide (HB5.out.after hb7)
      replace HX5 := hide (HX5.out.after hb7)
      replace Hb5 := hide (below_next Hb5.out (Nat.le_refl _) hb7)
      clear hb7 MR x0 x1 x2 x3 x4 x5 x6 x7 x8
      have x0 : ∀ z : BelowW w7, z.q.cell? ⟨X, 0, none⟩ = some (.int .i64 t1.st) := HX5.out.at 0 rfl
      have x1 : ∀ z : BelowW w7, z.q.cell? ⟨X, 1, none⟩ = some (.bool t1.kn) := HX5.out.at 1 rfl
      have x2 : ∀ z : BelowW w7, z.q.cell? ⟨X, 2, none⟩ = some (.int .i64 t1.pl) := HX5.out.at 2 rfl
      have x3 : ∀ z : BelowW w7, z.q.cell? ⟨X, 3, none⟩ = some (.int .i64 t1.ph) := HX5.out.at 3 rfl
      have x4 : ∀ z : BelowW w7, z.q.cell? ⟨X, 4, none⟩ = some (.int .i64 t1.vl) := HX5.out.at 4 rfl
      have x5 : ∀ z : BelowW w7, z.q.cell? ⟨X, 5, none⟩ = some (.int .i64 t1.vh) := HX5.out.at 5 rfl
      have x6 : ∀ z : BelowW w7, z.q.cell? ⟨X, 6, none⟩ = some (.int .i64 t1.q0) := HX5.out.at 6 rfl
      have x7 : ∀ z : BelowW w7, z.q.cell? ⟨X, 7, none⟩ = some (.int .i64 t1.q1) := HX5.out.at 7 rfl
      have x8 : ∀ z : BelowW w7, z.q.cell? ⟨X, 8, none⟩ = some (.int .i64 t1.j) := HX5.out.at 8 rfl
      have hne : Nonempty (BelowW w7) := ⟨⟨w7, Below.refl _ _⟩⟩
      have AX : Hid (∀ z : BelowW w7, Calls Try.prog 14 #[.pointer (some ⟨B, 0, none⟩)] z.q fun e w' => e = .returned (.agg #[.int .i64 t1.pl, .int .i64 t1.ph, .int .i64 t1.vl, .int .i64 t1.vh]) ∧ Below z.q.heap.size z.q w') := hide (fun z => axisF_any z.q B t1 (HB5.out.after z.h))
      have GD : Hid (∀ z : BelowW w7, Calls Try.prog 15 #[.pointer (some ⟨B, 0, none⟩)] z.q fun e w' => e = .returned (.bool (fgd t1)) ∧ Below z.q.heap.size z.q w') := hide (fun z => (good_any z.q B t1 (HB5.out.after z.h)).mono fun e w' ⟨h1, k, h2⟩ => ⟨h1, by rw [h2]; exact below_drewN (Below.refl _ _) k⟩)
      have RG : Hid (∀ z : BelowW w7, Calls Try.prog 16 #[.agg (rC t1)] z.q fun e w' => e = .returned (.bool (fgd t1)) ∧ Below z.q.heap.size z.q w') := hide (fun z => rgood_any t1 z.q)
      have JM : Hid (∀ z : BelowW w7, Calls Try.prog 17 #[.pointer (some ⟨B, 0, none⟩)] z.q fun e w' => e = .returned (.int .i64 t1.j) ∧ w' = z.q) := hide (fun z => jumps_any z.q B t1 (HB5.out.after z.h))
      obtain ⟨gd, hgd⟩ : ∃ y, Hid (fgd t1 = y) := ⟨_, hide rfl⟩
      rw [hgd.out] at GD RG
      clear hgd
      unfold rC at RG
      have na := neq_axis
      refine wp_region_calm (by kernel_rfl) (by kernel_rfl) ?_
      repeat (go_big_quiet_step (first
        | (go_at_call 14; exact calm_of (AX.out _))
        | (go_at_call 15; exact calm_of (GD.out _))
        | (go_at_call 16; exact calm_of (RG.out _))
        | (go_at_call 17; exact calm_same (JM.out _))))
      refine wpQuiet_nil ?_
      rintro _ ⟨z, rfl⟩
      clear x0 x1 x2 x3 x4 x5 x6 x7 x8 hne AX GD RG JM
      go_wp2_with fail
      exact ⟨⟨i + 1, t1, by go_num, by omega, T1O.out, by have := T1Q.out.1; omega, by have := T1Q.out.2; omega, HB5.out.after z.h, HX5.out.after z.h, below_next Hb5.out (Nat.le_refl _) z.h⟩, by simp [intOf]; omega⟩
    · obtain rfl : i = n := by omega
      go_wp2_with (go_at_call 9; refine (awakeE _).mono ?_; rintro e w5 ⟨rfl, hb5⟩)
      go_ret
      exact ⟨rfl, below_next Hb.out (Nat.le_refl _) hb5⟩
theorem EstFollows_walk (s : Int) (tv : Value) (w : World) (hs : I64 s) (hT : ∃ L, (∀ x ∈ L, BeaOk x) ∧ Rws w tv 9 cBea L ∧ L.length ≤ 1048576) : Calls Try.prog 3 #[.int .i64 s, tv] w fun e w' => e = .returned (.bool true) ∧ Below w.heap.size w w' := by
  obtain ⟨L, hL, hT, hn⟩ := hT
  by_cases h : s < 1
  · exact follows_no s tv w h
  · exact follows_yes s tv L w hs (by omega) hL hT hn
end Go.Proofs.Ytgadpalkchillaa
