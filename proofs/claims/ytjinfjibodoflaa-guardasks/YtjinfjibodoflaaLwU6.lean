/- What GuardAsks answers: true, at every list of calls. -/
import Derived.Test.YtjinfjibodoflaaGuO
import Derived.Test.YtjinfjibodoflaaKept
namespace Go.Proofs.Ytjinfjibodoflaa
open Go.RowKit Go.Great Go.Deep Go.WideShapes Go.ChangeShapes

set_option maxHeartbeats 400000 in
theorem rclampV (x lo hi : Int) (w : World) : Calls Try.prog 21 #[.int .i64 x, .int .i64 lo, .int .i64 hi] w fun e w' => e = .returned (.int .i64 (clamp x lo hi)) ∧ w' = w := by
  go_enter Try.func21, Try.ntmps21
  go_wp2
  all_goals (go_ret; refine ⟨ret_int ?_, rfl⟩; unfold clamp; split <;> (try split) <;> omega)
theorem three_back2 {fn : Func} {p q : Tmp} (h : fn.results = #[.cell p 30, .tmp q]) (tmps : Array Value) (w : World) (g : Nat) (x y z b : Value) (hp : tmps.getD p undef = .pointer (some ⟨g, 0, none⟩)) (hq : tmps.getD q undef = b) (hg : Blk w g #[x, y, z] 30) : (results fn tmps).run Try.prog w = .ok (.tuple #[.agg #[x, y, z], b]) w := by
  have := run_loadVar_row (P := Try.prog) w g 30 30 #[x, y, z] (0, 0) _ hg Try.underlying30 rfl (by kernel_rfl)
  rw [results_cell_tmp h, hp, hq]
  simp [asAddr, this, Result.andThen]
theorem fnx_is (r : Int) (f : Int) (hr : -1000000000000000000 ≤ r ∧ r ≤ 0) : fnx r true f = max (r - 32) (-(max f 0)) := by
  unfold fnx sat
  rw [if_pos rfl, if_neg (by omega), if_neg (by omega)]
set_option maxHeartbeats 2000000 in
theorem rstepU_any (r : Int) (k : Bool) (a b c f : Int) (w : World) (hr : -1000000000000000000 ≤ r ∧ r ≤ 0) (ha : I64 a) (hb : I64 b) (hc : I64 c) (hf : I64 f) : Calls Try.prog 18 #[.int .i64 r, .bool k, tV a b c, .int .i64 f] w fun e w' => e = .returned (.tuple #[tV (ask 0 a) (ask 0 b) (ask (fnx r k f) c), .int .i64 (fnx r k f)]) ∧ Below w.heap.size w w' := by
  have hn := fnx_in r k f hf
  have S1 := hide (fun W => ref_sub_any 0 a W i64_0 ha)
  have S2 := hide (fun W => ref_sub_any 0 b W i64_0 hb)
  have S3 := hide (fun W => ref_sub_any (fnx r k f) c W hn hc)
  have C1 := hide (fun W => rclampV (sat (0 - a)) (-64) 64 W)
  have C2 := hide (fun W => rclampV (sat (0 - b)) (-64) 64 W)
  have C3 := hide (fun W => rclampV (sat (fnx r k f - c)) (-64) 64 W)
  rw [show clamp (sat (0 - a)) (-64) 64 = ask 0 a from rfl] at C1
  rw [show clamp (sat (0 - b)) (-64) 64 = ask 0 b from rfl] at C2
  rw [show clamp (sat (fnx r k f - c)) (-64) 64 = ask (fnx r k f) c from rfl] at C3
  generalize ask 0 a = x at *
  generalize ask 0 b = y at *
  generalize ask (fnx r k f) c = z at *
  generalize sat (0 - a) = p at *
  generalize sat (0 - b) = q at *
  generalize sat (fnx r k f - c) = t at *
  have hE : Hid ((k = true → fnx r k f = max (r - 32) (-(max f 0))) ∧ (k = false → fnx r k f = 0)) := hide ⟨fun h => by rw [h]; exact fnx_is r f hr, fun h => by rw [h]; rfl⟩
  generalize fnx r k f = n at *
  unfold I64 at hf
  obtain ⟨W0, hW0, b0, hA, hR, z0⟩ := two_boxes w (tC a b c) (tC 0 0 0) 30 30
  have HA := hide hA
  have HR := hide hR
  have Hb := hide b0
  obtain ⟨a0, a1, a2⟩ := three_cells hA
  clear hA hR b0 z0 ha hb hc hn
  rcases Bool.eq_false_or_eq_true k with hk | hk
  · subst hk
    have e0 := hE.out.1 rfl
    have hM : 0 ≤ max f 0 ∧ max f 0 ≤ 9223372036854775807 := by omega
    clear hE
    go_enter Try.func18, Try.ntmps18
    go_upto_region 4 with fail
    rw [← e0]
    clear e0 hM hf hr
    go_wp2_with fail
    refine (S1.out _).mono ?_
    rintro e w1 ⟨rfl, hb1⟩
    replace HA := hide (HA.out.after hb1)
    replace HR := hide (HR.out.after hb1)
    replace Hb := hide (below_next Hb.out (Nat.le_refl _) hb1)
    clear hb1 a0 a1 a2 hW0
    obtain ⟨a0, a1, a2⟩ := three_cells HA.out
    go_wp2_with (first | (go_at_call 21; refine (C1.out _).mono ?_; rintro e w2 ⟨rfl, hw⟩; obtain rfl := hw.symm))
    refine (S2.out _).mono ?_
    rintro e w2 ⟨rfl, hb1⟩
    replace HA := hide (HA.out.after hb1)
    replace HR := hide (HR.out.after hb1)
    replace Hb := hide (below_next Hb.out (Nat.le_refl _) hb1)
    clear hb1 a0 a1 a2
    obtain ⟨a0, a1, a2⟩ := three_cells HA.out
    go_wp2_with (first | (go_at_call 21; refine (C2.out _).mono ?_; rintro e w3 ⟨rfl, hw⟩; obtain rfl := hw.symm))
    refine (S3.out _).mono ?_
    rintro e w3 ⟨rfl, hb1⟩
    replace HR := hide (HR.out.after hb1)
    replace Hb := hide (below_next Hb.out (Nat.le_refl _) hb1)
    clear hb1 a0 a1 a2
    obtain ⟨r0, r1, r2⟩ := three_cells HR.out
    have f0 := HR.out.frozen 0
    have f1 := HR.out.frozen 1
    have f2 := HR.out.frozen 2
    go_wp2_with (first | (go_at_call 21; refine (C3.out _).mono ?_; rintro e w4 ⟨rfl, hw⟩; obtain rfl := hw.symm))
    exact bodyPost_ret (three_back2 (p := 8) (q := 9) (by kernel_rfl) _ _ (w.heap.size + 1) _ _ _ _ rfl rfl (HR.out.set3 _ _ _)) rfl ⟨rfl, below_set3 Hb.out _ _ _ _ (by omega) Hb.out.size⟩
  · subst hk
    have e0 := hE.out.2 rfl
    subst e0
    clear hE hf hr
    go_enter Try.func18, Try.ntmps18
    go_upto_region 4 with fail
    go_wp2_with fail
    refine (S1.out _).mono ?_
    rintro e w1 ⟨rfl, hb1⟩
    replace HA := hide (HA.out.after hb1)
    replace HR := hide (HR.out.after hb1)
    replace Hb := hide (below_next Hb.out (Nat.le_refl _) hb1)
    clear hb1 a0 a1 a2 hW0
    obtain ⟨a0, a1, a2⟩ := three_cells HA.out
    go_wp2_with (first | (go_at_call 21; refine (C1.out _).mono ?_; rintro e w2 ⟨rfl, hw⟩; obtain rfl := hw.symm))
    refine (S2.out _).mono ?_
    rintro e w2 ⟨rfl, hb1⟩
    replace HA := hide (HA.out.after hb1)
    replace HR := hide (HR.out.after hb1)
    replace Hb := hide (below_next Hb.out (Nat.le_refl _) hb1)
    clear hb1 a0 a1 a2
    obtain ⟨a0, a1, a2⟩ := three_cells HA.out
    go_wp2_with (first | (go_at_call 21; refine (C2.out _).mono ?_; rintro e w3 ⟨rfl, hw⟩; obtain rfl := hw.symm))
    refine (S3.out _).mono ?_
    rintro e w3 ⟨rfl, hb1⟩
    replace HR := hide (HR.out.after hb1)
    replace Hb := hide (below_next Hb.out (Nat.le_refl _) hb1)
    clear hb1 a0 a1 a2
    obtain ⟨r0, r1, r2⟩ := three_cells HR.out
    have f0 := HR.out.frozen 0
    have f1 := HR.out.frozen 1
    have f2 := HR.out.frozen 2
    go_wp2_with (first | (go_at_call 21; refine (C3.out _).mono ?_; rintro e w4 ⟨rfl, hw⟩; obtain rfl := hw.symm))
    exact bodyPost_ret (three_back2 (p := 8) (q := 9) (by kernel_rfl) _ _ (w.heap.size + 1) _ _ _ _ rfl rfl (HR.out.set3 _ _ _)) rfl ⟨rfl, below_set3 Hb.out _ _ _ _ (by omega) Hb.out.size⟩
theorem open_asksL {H : Type} {enc : TypeId × Value → H} {W : World} {v : Value} {d : DataW H} {p : List MemPlace} {r : Reach} {b0 : Nat} (hok : Value.okWide Try.prog W r b0 43 v) (h : DataW.Trod enc Try.prog W 0 (fun _ => true) true 43 v d p) (hw : ∀ q ∈ DataW.weights Try.prog 43 d, q ≤ reachBytes) : ∃ L, (∀ x ∈ L, AskOk x) ∧ Rws W v 5 cAsk L ∧ L.length ≤ 140737488351232 := by
  obtain ⟨ad, ln, cp, rfl⟩ := okWide_slice Try.underlying43 hok
  obtain ⟨fuel, hf⟩ := h
  obtain ⟨L, h1, h2, h3⟩ := open_rws (k := 5) (cel := cAsk) (ok := AskOk) (by omega) (fun _ => rfl) Try.underlying43 (by kernel_rfl) (fun n cs y h hl => one_Ask n cs y h hl) hf
  refine ⟨L, h1, h2, ?_⟩
  rcases h3 with rfl | ⟨l, r, e, hl⟩
  · simp
  · have e : d = .slice l r := e
    have hb : Try.prog.bytesOf 47 = 40 := by kernel_rfl
    have hwt := hw ((l.length + r.length) * 40) (by rw [e]; simp [DataW.weights, Try.underlying43, hb])
    have hwt' : (l.length + r.length) * 40 ≤ 140737488351232 := hwt
    omega
theorem neq_sameU (a b c : Int) (w : World) : (binOp .neq 30 (tV a b c) (tV a b c)).run Try.prog w = .ok (.bool false) w := by
  have h := neq_arr a b c a b c w
  simp at h
  exact h
/-- are the first velocities small? -/
def slK (a b c : Int) : Nat → Bool
  | 0 => true
  | 1 => sml a
  | 2 => sml a && sml b
  | _ => slw a b c
abbrev akC (k : Bool) (a b c f : Int) : Array Value := #[.bool k, .int .i64 a, .int .i64 b, .int .i64 c, .int .i64 f]
theorem fnx_low (r : Int) (k : Bool) (f : Int) (i : Int) (hi : 0 ≤ i) (hr : -(32 * i) ≤ r ∧ r ≤ 0) (h : i ≤ 1000000000000000) : -(32 * (i + 1)) ≤ fnx r k f ∧ fnx r k f ≤ 0 := by
  cases k
  · unfold fnx; simp; omega
  · rw [fnx_is r f (by omega)]; omega
theorem ask_in (n v : Int) : I64 (ask n v) := by unfold ask clamp; unfold I64; split <;> (try split) <;> omega
set_option maxHeartbeats 8000000 in
set_option maxRecDepth 100000 in
theorem asks_any (v : Value) (L : List Ask1) (w : World) (hok : ∀ x ∈ L, AskOk x) (hR : Rws w v 5 cAsk L) (mN : L.length ≤ 140737488351232) : Calls Try.prog 7 #[v] w fun e w' => e = .returned (.bool true) ∧ Below w.heap.size w w' := by
  have HR := hide hR
  have HO := hide hok
  obtain ⟨_, na, np, rfl, _⟩ := hR
  obtain ⟨nN, eN⟩ : ∃ n, Hid (L.length = n) := ⟨_, hide rfl⟩
  rw [eN.out] at mN
  rw [eN.out]
  have AW := hide awakeU
  clear hok
  go_enter Try.func7, Try.ntmps7
  go_wp2_with fail
  refine (newBk_any w).mono ?_
  rintro e w1 ⟨B, rfl, hB, hb1, hBw⟩
  have HB := hide hB
  have Hb := hide hb1
  clear hB hb1
  go_wp2_with fail
  go_loopw [4, 5] (fun vr vi wr => ∃ (i : Nat) (r : Int), vr = .int .i64 r ∧ vi = .int .i64 (i : Int) ∧ i ≤ nN ∧ (-(32 * (i : Int)) ≤ r ∧ r ≤ 0) ∧ Bup wr B r ∧ Below w.heap.size w wr) (fun _ vi _ => nN - (intOf vi).toNat)
  case atStart => exact ⟨0, 0, rfl, rfl, by omega, by omega, HB.out, Hb.out⟩
  case round =>
    clear HB Hb
    obtain ⟨i, r, rfl, rfl, hi, hr, hB, hb⟩ := hrel
    have HB := hide hB
    have Hb := hide hb
    clear hB hb
    by_cases hl : (i : Int) < nN
    · obtain ⟨g, og, cap, x, e1, hg, hxl, cell⟩ := HR.out.get i (by rw [eN.out]; omega)
      injection e1 with e1 e2 e3
      subst e1 e3
      have hx := HO.out x (List.mem_of_getElem? hxl)
      obtain ⟨k, a, b, c, f⟩ := x
      obtain ⟨ha, hb0, hc, hf⟩ := hx
      simp only at ha hb0 hc hf
      have p0 : wr.cell? ⟨g, og + i * 5, none⟩ = some (.bool k) := cell wr Hb.out 0 _ rfl
      have p1 : wr.cell? ⟨g, og + i * 5 + 1, none⟩ = some (.int .i64 a) := cell wr Hb.out 1 _ rfl
      have p2 : wr.cell? ⟨g, og + i * 5 + 2, none⟩ = some (.int .i64 b) := cell wr Hb.out 2 _ rfl
      have p3 : wr.cell? ⟨g, og + i * 5 + 3, none⟩ = some (.int .i64 c) := cell wr Hb.out 3 _ rfl
      have p4 : wr.cell? ⟨g, og + i * 5 + 4, none⟩ = some (.int .i64 f) := cell wr Hb.out 4 _ rfl
      clear cell e2 hxl
      have hn := fnx_low r k f i (by omega) hr (by omega)
      have hn64 : I64 r := i64_of (by omega)
      have ST := hide (fun W (hW : Bup W B r) => stepB_any W B r k a b c f hW hn64 ha hb0 hc hf)
      have RS := hide (fun W => rstepU_any r k a b c f W (by omega) ha hb0 hc hf)
      have SL := hide (slow_any a b c)
      generalize fnx r k f = n at *
      have FA : Hid (∀ W, Bup W B n → Calls Try.prog 19 #[bP B, .int .i64 f] W fun e w' => e = .returned (.bool (decide (n ≤ -(max f 0)))) ∧ Below W.heap.size W w') := hide (fun W hW => (fall_any W B n f hW hf).mono fun e w' ⟨he, q, hq⟩ => ⟨he, by rw [hq]; exact below_drewN (Below.refl _ _) q⟩)
      unfold BEnd at ST
      generalize ask 0 a = s0 at *
      generalize ask 0 b = s1 at *
      generalize ask n c = s2 at *
      have NE := neq_sameU s0 s1 s2
      have hNB : B < wr.heap.size := HB.out.lt
      have HX := hide (Blk.new wr (akC k a b c f) 47)
      replace HB := hide (HB.out.alloc (.cells (akC k a b c f) 47))
      replace Hb := hide (below_next Hb.out (Nat.le_refl _) (below_alloc wr (.cells (akC k a b c f) 47)))
      go_upto_region 9 with fail
      clear p0 p1 p2 p3 p4
      generalize wr.heap.size = X at *
      generalize wr.alloc (.cells (akC k a b c f) 47) = W1 at *
      have x0 : W1.cell? ⟨X, 0, none⟩ = some (.bool k) := HX.out.cell 0 rfl
      have x1 : W1.cell? ⟨X, 1, none⟩ = some (.int .i64 a) := HX.out.cell 1 rfl
      have x2 : W1.cell? ⟨X, 2, none⟩ = some (.int .i64 b) := HX.out.cell 2 rfl
      have x3 : W1.cell? ⟨X, 3, none⟩ = some (.int .i64 c) := HX.out.cell 3 rfl
      have x4 : W1.cell? ⟨X, 4, none⟩ = some (.int .i64 f) := HX.out.cell 4 rfl
      go_wp2_with fail
      refine (ST.out _ HB.out).mono ?_
      rintro e w2 ⟨rfl, hB2, hG2⟩
      have hXz : X < w2.heap.size := Nat.lt_of_lt_of_le HX.out.lt hG2.size
      have HG := hide ((Blk.new w2 (tC s0 s1 s2) 30).alloc (.cells (tC 0 0 0) 30))
      have HV := hide (Blk.new (w2.alloc (.cells (tC s0 s1 s2) 30)) (tC 0 0 0) 30)
      replace HX := hide (((HX.out.grown hG2 (by intro e; injection e with e; omega)).alloc (.cells (tC s0 s1 s2) 30)).alloc (.cells (tC 0 0 0) 30))
      replace HB := hide ((hB2.alloc (.cells (tC s0 s1 s2) 30)).alloc (.cells (tC 0 0 0) 30))
      replace Hb := hide (below_next (below_grown Hb.out hG2 (fun q e => by injection e with e; omega)) (Nat.le_refl _) (b2 w2 (.cells (tC s0 s1 s2) 30) (.cells (tC 0 0 0) 30)))
      rw [size_alloc] at HV
      have hBz : B < w2.heap.size := hB2.lt
      have hwz : w.heap.size ≤ w2.heap.size := Nat.le_trans hBw (Nat.le_of_lt hBz)
      clear hB2 hG2 x0 x1 x2 x3 x4 ST
      go_upto_region 11 with fail
      generalize w2.heap.size = G at *
      generalize (w2.alloc (.cells (tC s0 s1 s2) 30)).alloc (.cells (tC 0 0 0) 30) = W2 at *
      have x0 : W2.cell? ⟨X, 0, none⟩ = some (.bool k) := HX.out.cell 0 rfl
      have x1 : W2.cell? ⟨X, 1, none⟩ = some (.int .i64 a) := HX.out.cell 1 rfl
      have x2 : W2.cell? ⟨X, 2, none⟩ = some (.int .i64 b) := HX.out.cell 2 rfl
      have x3 : W2.cell? ⟨X, 3, none⟩ = some (.int .i64 c) := HX.out.cell 3 rfl
      have x4 : W2.cell? ⟨X, 4, none⟩ = some (.int .i64 f) := HX.out.cell 4 rfl
      go_wp2_with fail
      refine (RS.out _).mono ?_
      rintro e w3 ⟨rfl, hb3⟩
      replace HX := hide (HX.out.after hb3)
      replace HB := hide (HB.out.after hb3)
      replace HG := hide (HG.out.after hb3)
      replace HV := hide (HV.out.after hb3)
      replace Hb := hide (below_next Hb.out (Nat.le_refl _) hb3)
      clear hb3 x0 x1 x2 x3 x4 RS
      obtain ⟨v0, v1, v2⟩ := three_cells HV.out
      have f0 := HV.out.frozen 0
      have f1 := HV.out.frozen 1
      have f2 := HV.out.frozen 2
      go_upto_region 13 with fail
      replace HX := hide (HX.out.set3o (C := G + 1) (by omega) (.int .i64 s0) (.int .i64 s1) (.int .i64 s2))
      replace HB := hide (HB.out.set3o (C := G + 1) (by omega) (.int .i64 s0) (.int .i64 s1) (.int .i64 s2))
      replace HG := hide (HG.out.set3o (C := G + 1) (by omega) (.int .i64 s0) (.int .i64 s1) (.int .i64 s2))
      replace HV := hide (HV.out.set3 (.int .i64 s0) (.int .i64 s1) (.int .i64 s2))
      replace Hb := hide (below_set3 Hb.out (G + 1) (.int .i64 s0) (.int .i64 s1) (.int .i64 s2) (by omega) Hb.out.size)
      clear v0 v1 v2 f0 f1 f2
      generalize ((w3.setCell ⟨G + 1, 0, none⟩ (.int .i64 s0)).setCell ⟨G + 1, 1, none⟩ (.int .i64 s1)).setCell ⟨G + 1, 2, none⟩ (.int .i64 s2) = W3 at *
      have x0 : W3.cell? ⟨X, 0, none⟩ = some (.bool k) := HX.out.cell 0 rfl
      have x1 : W3.cell? ⟨X, 1, none⟩ = some (.int .i64 a) := HX.out.cell 1 rfl
      have x2 : W3.cell? ⟨X, 2, none⟩ = some (.int .i64 b) := HX.out.cell 2 rfl
      have x3 : W3.cell? ⟨X, 3, none⟩ = some (.int .i64 c) := HX.out.cell 3 rfl
      have x4 : W3.cell? ⟨X, 4, none⟩ = some (.int .i64 f) := HX.out.cell 4 rfl
      go_wp2_with fail
      go_loopw [9, 10] (fun vs vk wy => ∃ q : Nat, vs = .bool (slK a b c q) ∧ vk = .int .i64 (q : Int) ∧ q ≤ 3 ∧ wy = W3) (fun _ vk _ => 3 - (intOf vk).toNat)
      case atStart => exact ⟨0, rfl, rfl, by omega, rfl⟩
      case round =>
        obtain ⟨q, rfl, rfl, hq, hwy⟩ := hrel
        obtain rfl := hwy.symm
        obtain rfl | rfl | rfl | rfl : q = 0 ∨ q = 1 ∨ q = 2 ∨ q = 3 := by omega
        · rcases sml_two a with hs | hs
          · have en : Hid (slK a b c 1 = false) := hide (by simp [slK, hs.out])
            rcases sml_no hs.out with h | h
            · go_wp2_with fail
              go_roundw
              case rel => exact ⟨1, congrArg Value.bool en.out.symm, by go_num, by omega, trivial⟩
              case measure => simp [intOf]
            · have h' : ¬ a < -64 := by omega
              go_wp2_with fail
              go_roundw
              case rel => exact ⟨1, congrArg Value.bool en.out.symm, by go_num, by omega, trivial⟩
              case measure => simp [intOf]
          · obtain ⟨h1, h2⟩ := sml_yes hs.out
            have en : Hid (slK a b c 1 = slK a b c 0) := hide (by simp [slK, hs.out])
            obtain ⟨sq, hsq⟩ : ∃ sq, Hid (slK a b c 0 = sq) := ⟨_, hide rfl⟩
            rw [hsq.out] at en ⊢
            go_wp2_with fail
            go_roundw
            case rel => exact ⟨1, congrArg Value.bool en.out.symm, by go_num, by omega, trivial⟩
            case measure => simp [intOf]
        · rcases sml_two b with hs | hs
          · have en : Hid (slK a b c 2 = false) := hide (by simp [slK, hs.out])
            rcases sml_no hs.out with h | h
            · go_wp2_with fail
              go_roundw
              case rel => exact ⟨2, congrArg Value.bool en.out.symm, by go_num, by omega, trivial⟩
              case measure => simp [intOf]
            · have h' : ¬ b < -64 := by omega
              go_wp2_with fail
              go_roundw
              case rel => exact ⟨2, congrArg Value.bool en.out.symm, by go_num, by omega, trivial⟩
              case measure => simp [intOf]
          · obtain ⟨h1, h2⟩ := sml_yes hs.out
            have en : Hid (slK a b c 2 = slK a b c 1) := hide (by simp [slK, hs.out])
            obtain ⟨sq, hsq⟩ : ∃ sq, Hid (slK a b c 1 = sq) := ⟨_, hide rfl⟩
            rw [hsq.out] at en ⊢
            go_wp2_with fail
            go_roundw
            case rel => exact ⟨2, congrArg Value.bool en.out.symm, by go_num, by omega, trivial⟩
            case measure => simp [intOf]
        · rcases sml_two c with hs | hs
          · have en : Hid (slK a b c 3 = false) := hide (by simp [slK, slw, hs.out])
            rcases sml_no hs.out with h | h
            · go_wp2_with fail
              go_roundw
              case rel => exact ⟨3, congrArg Value.bool en.out.symm, by go_num, by omega, trivial⟩
              case measure => simp [intOf]
            · have h' : ¬ c < -64 := by omega
              go_wp2_with fail
              go_roundw
              case rel => exact ⟨3, congrArg Value.bool en.out.symm, by go_num, by omega, trivial⟩
              case measure => simp [intOf]
          · obtain ⟨h1, h2⟩ := sml_yes hs.out
            have en : Hid (slK a b c 3 = slK a b c 2) := hide (by simp [slK, slw, hs.out])
            obtain ⟨sq, hsq⟩ : ∃ sq, Hid (slK a b c 2 = sq) := ⟨_, hide rfl⟩
            rw [hsq.out] at en ⊢
            go_wp2_with fail
            go_roundw
            case rel => exact ⟨3, congrArg Value.bool en.out.symm, by go_num, by omega, trivial⟩
            case measure => simp [intOf]
        · have ES : Hid (slK a b c 3 = slw a b c) := hide rfl
          rw [ES.out]
          generalize slw a b c = sb at *
          clear ES
          go_upto_region 18 with fail
          obtain ⟨fb, hfb⟩ : ∃ fb, decide (n ≤ -(max f 0)) = fb := ⟨_, rfl⟩
          rw [hfb] at FA
          have hM : 0 ≤ max f 0 ∧ max f 0 ≤ 9223372036854775807 := by unfold I64 at hf; omega
          have ef : (fb != fb) = false := by simp
          have es : (sb != sb) = false := by simp
          have g0 : ∀ z : BelowW W3, z.q.cell? ⟨G, 0, none⟩ = some (.int .i64 s0) := HG.out.at 0 rfl
          have g1 : ∀ z : BelowW W3, z.q.cell? ⟨G, 1, none⟩ = some (.int .i64 s1) := HG.out.at 1 rfl
          have g2 : ∀ z : BelowW W3, z.q.cell? ⟨G, 2, none⟩ = some (.int .i64 s2) := HG.out.at 2 rfl
          have v0 : ∀ z : BelowW W3, z.q.cell? ⟨G + 1, 0, none⟩ = some (.int .i64 s0) := HV.out.at 0 rfl
          have v1 : ∀ z : BelowW W3, z.q.cell? ⟨G + 1, 1, none⟩ = some (.int .i64 s1) := HV.out.at 1 rfl
          have v2 : ∀ z : BelowW W3, z.q.cell? ⟨G + 1, 2, none⟩ = some (.int .i64 s2) := HV.out.at 2 rfl
          have y1 : ∀ z : BelowW W3, z.q.cell? ⟨X, 1, none⟩ = some (.int .i64 a) := HX.out.at 1 rfl
          have y2 : ∀ z : BelowW W3, z.q.cell? ⟨X, 2, none⟩ = some (.int .i64 b) := HX.out.at 2 rfl
          have y3 : ∀ z : BelowW W3, z.q.cell? ⟨X, 3, none⟩ = some (.int .i64 c) := HX.out.at 3 rfl
          have y4 : ∀ z : BelowW W3, z.q.cell? ⟨X, 4, none⟩ = some (.int .i64 f) := HX.out.at 4 rfl
          have hne : Nonempty (BelowW W3) := ⟨⟨W3, Below.refl _ _⟩⟩
          clear x0 x1 x2 x3 x4
          refine wp_region_calm (by kernel_rfl) (by kernel_rfl) ?_
          repeat (go_big_quiet_step (first
            | (go_at_call 19; exact calm_of (FA.out _ (HB.out.after (BelowW.h _))))
            | (go_at_call 20; exact calm_of (SL.out _))))
          refine wpQuiet_nil ?_
          rintro _ ⟨z, rfl⟩
          replace HB := hide (HB.out.after z.h)
          replace Hb := hide (below_next Hb.out (Nat.le_refl _) z.h)
          clear g0 g1 g2 v0 v1 v2 y1 y2 y3 y4 hne HG HV HX
          generalize z.q = W4 at *
          clear z
          go_wp2_with fail
          go_roundw
          case rel => exact ⟨i + 1, n, rfl, by go_num, by omega, by omega, HB.out, Hb.out⟩
          case measure => simp [intOf]; omega
    · go_wp2_with (first | (go_at_call 12; refine (AW.out _).mono ?_; rintro e w4 ⟨rfl, b4⟩))
      go_ret
      exact ⟨rfl, below_next Hb.out (Nat.le_refl _) b4⟩
theorem GuardAsks_walk (v : Value) (w : World) (h : ∃ L, (∀ x ∈ L, AskOk x) ∧ Rws w v 5 cAsk L ∧ L.length ≤ 140737488351232) : Calls Try.prog 7 #[v] w fun e w' => e = .returned (.bool true) ∧ Below w.heap.size w w' := by
  obtain ⟨L, h1, h2, h3⟩ := h
  exact asks_any v L w h1 h2 h3
end Go.Proofs.Ytjinfjibodoflaa
