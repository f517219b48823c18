/- The document's step of a machine (windhoverref20.Step), walked. -/
import Derived.Test.YthheekneanhmkaaMoS
namespace Go.Proofs.Ythheekneanhmkaa
open Go.RowKit Go.Great

/-- a machine of the document in a variable's block -/
abbrev Rm (w : World) (B : Nat) (m la : Int) : Prop := Blk w B #[.int .u8 m, .int .i64 la] 31
theorem sty_cell : ∀ j : Nat, j < 5 → (#[Value.int .i64 0, .int .i64 1, .int .i64 2, .int .i64 4, .int .i64 5] : Array Value)[j]? = some (.int .i64 ((sty j : Nat) : Int))
  | 0, _ => rfl
  | 1, _ => rfl
  | 2, _ => rfl
  | 3, _ => rfl
  | 4, _ => rfl
  | n + 5, h => absurd h (by omega)
theorem sty_cases : ∀ j : Nat, j < 5 → sty j = 0 ∨ sty j = 1 ∨ sty j = 2 ∨ sty j = 4 ∨ sty j = 5
  | 0, _ => .inl rfl
  | 1, _ => .inr (.inl rfl)
  | 2, _ => .inr (.inr (.inl rfl))
  | 3, _ => .inr (.inr (.inr (.inl rfl)))
  | 4, _ => .inr (.inr (.inr (.inr rfl)))
  | n + 5, h => absurd h (by omega)
set_option maxHeartbeats 4000000 in
set_option maxRecDepth 100000 in
theorem rstep_any (m : Int) (f : Nat → Bool) (ev : Int) (w : World) : Calls Try.prog 17 #[.agg #[.int .u8 m, .int .i64 (lat f)], .int .i64 ev] w fun e w' => e = .returned (.tuple #[.agg #[.int .u8 (stM m ev), .int .i64 (stL m (lat f) ev)], .int .i64 (stE m ev)]) ∧ Below w.heap.size w w' := by
  have HAS := hide (rhas_any ev)
  have FL := hide (rflying_any m)
  have NX := hide (rnext_any m)
  obtain ⟨R, HR⟩ : ∃ R, Hid (stM m ev = R) := ⟨_, hide rfl⟩
  obtain ⟨D, HD⟩ : ∃ D, Hid (stE m ev = D) := ⟨_, hide rfl⟩
  obtain ⟨A, HA⟩ : ∃ A, Hid (la1 m (lat f) ev = A) := ⟨_, hide rfl⟩
  obtain ⟨B, HB⟩ : ∃ B, Hid (la2 R A = B) := ⟨_, hide rfl⟩
  have HE : Hid (stL m (lat f) ev = B) := hide (by unfold stL; rw [HR.out, HA.out, HB.out])
  have HDn : Hid (∀ (i : Nat) (d k : Int), Fol m ev i d k → ¬ (i < 18 ∧ d < 0) → i ≤ 18 → k = R ∧ d = D) := hide (fun i d k h hq hi => by rw [← HR.out, ← HD.out]; exact h.done hq hi)
  have HJ : Hid (∀ j : Nat, j ≤ 5 → (flyB m = false → j = 0) → ¬ (j < 5 ∧ flyB m = true) → lJ f (hasE ev) j = A) := hide (fun j h1 h2 h3 => by
    rw [← HA.out]
    cases hf : flyB m
    · rw [h2 hf]; exact lJ_0 m f ev hf
    · have : j = 5 := by
        have := Nat.not_lt.1 (fun h => h3 ⟨h, hf⟩)
        omega
      rw [this]; exact lJ_end m f ev hf)
  have HL0 : Hid (lat f = lJ f (hasE ev) 0) := hide rfl
  rw [HE.out, HR.out, HD.out]
  clear HE HR HD HA
  obtain ⟨la, Hla⟩ : ∃ la, Hid (lat f = la) := ⟨_, hide rfl⟩
  rw [Hla.out] at HL0 ⊢
  obtain ⟨W2, HW2, hb2, hB1, hB2, hz2⟩ := two_boxes w #[.int .u8 m, .int .i64 la] #[.int .u8 0, .int .i64 0] 31 31
  have Hb := hide hb2
  have H1 : Hid (Rm W2 w.heap.size m la) := hide hB1
  have H2 : Hid (Rm W2 (w.heap.size + 1) 0 0) := hide hB2
  have c0 : W2.cell? ⟨w.heap.size, 0, none⟩ = some (.int .u8 m) := hB1.cell 0 rfl
  clear hb2 hB1 hB2 hz2
  go_enter Try.func17, Try.ntmps17
  go_wp2_with fail
  clear HW2 c0
  go_loopw [6, 8] (fun vd vi wx => ∃ (i : Nat) (d k : Int), vd = .int .i64 d ∧ vi = .int .i64 (i : Int) ∧ i ≤ 18 ∧ Hid (Fol m ev i d k) ∧ Hid (Rm wx w.heap.size k la) ∧ Hid (Rm wx (w.heap.size + 1) 0 0) ∧ Hid (Below w.heap.size w wx)) (fun _ vi _ => 18 - (intOf vi).toNat)
  case atStart => exact ⟨0, -1, m, rfl, rfl, by omega, hide (Fol.zero m ev), H1, H2, Hb⟩
  case round =>
    clear H1 H2 Hb
    obtain ⟨i, d, k, rfl, rfl, hi, HF, H1, H2, Hb⟩ := hrel
    obtain ⟨q, hq⟩ : ∃ q, Hid ((decide (i < 18) && decide (d < 0)) = q) := ⟨_, hide rfl⟩
    go_upto_region 4 with fail
    go_cut [18] (fun v wx => v = .bool q ∧ wx = wr)
    case first =>
      by_cases hl : i < 18
      · by_cases hd : d < 0
        · have e : q = true := by rw [← hq.out]; simp [hl, hd]
          subst e
          clear hq
          go_wp2_with fail
          go_meet
          exact ⟨rfl, rfl⟩
        · have e : q = false := by rw [← hq.out]; simp [hd]
          subst e
          clear hq
          go_wp2_with fail
          go_meet
          exact ⟨rfl, rfl⟩
      · have e : q = false := by rw [← hq.out]; simp [hl]
        subst e
        clear hq
        go_wp2_with fail
        go_meet
        exact ⟨rfl, rfl⟩
    case rest =>
      obtain ⟨rfl, hw⟩ := hcut
      subst hw
      cases q
      · have hn : ¬ (i < 18 ∧ d < 0) := fun h => by have := hq.out; simp [h] at this
        obtain ⟨e1, e2⟩ := HDn.out i d k HF.out hn hi
        subst e1 e2
        clear HDn HF hn hq NX
        obtain ⟨W5, HW5⟩ : ∃ W5, wc.alloc (.cells #[.int .i64 0, .int .i64 1, .int .i64 2, .int .i64 4, .int .i64 5] 3) = W5 := ⟨_, rfl⟩
        have HG := hide (Blk.new wc #[.int .i64 0, .int .i64 1, .int .i64 2, .int .i64 4, .int .i64 5] 3)
        have hgt : w.heap.size + 1 < wc.heap.size := H2.out.lt
        have Z1 := hide (H1.out.alloc (.cells #[.int .i64 0, .int .i64 1, .int .i64 2, .int .i64 4, .int .i64 5] 3))
        have Z2 := hide (H2.out.alloc (.cells #[.int .i64 0, .int .i64 1, .int .i64 2, .int .i64 4, .int .i64 5] 3))
        have Zb := hide (below_next Hb.out (Nat.le_refl _) (below_alloc wc (.cells #[.int .i64 0, .int .i64 1, .int .i64 2, .int .i64 4, .int .i64 5] 3)))
        rw [HW5] at HG Z1 Z2 Zb
        obtain ⟨G, hG⟩ : ∃ G, wc.heap.size = G := ⟨_, rfl⟩
        rw [hG] at HG hgt
        clear H1 H2 Hb
        go_wp2_with fail
        clear HW5 hG
        have HLI : Hid (∀ j, 0 ≤ lJ f (hasE ev) j ∧ lJ f (hasE ev) j ≤ 63) := hide (lJ_in f (hasE ev))
        have HNO := hide (lJ_no f (hasE ev))
        have HHA := hide (lJ_had f (hasE ev))
        have HAD := hide (lJ_add f (hasE ev))
        rw [HL0.out] at Z1
        go_loopw [10] (fun vj wx => ∃ j : Nat, vj = .int .i64 (j : Int) ∧ j ≤ 5 ∧ Hid (flyB m = false → j = 0) ∧ Hid (Rm wx w.heap.size k (lJ f (hasE ev) j)) ∧ Hid (Rm wx (w.heap.size + 1) 0 0) ∧ Hid (Blk wx G #[.int .i64 0, .int .i64 1, .int .i64 2, .int .i64 4, .int .i64 5] 3) ∧ Hid (Below w.heap.size w wx)) (fun vj _ => 5 - (intOf vj).toNat)
        case atStart => exact ⟨0, rfl, by omega, hide (fun _ => rfl), Z1, Z2, HG, Zb⟩
        case round =>
          clear Z1 Z2 HG Zb
          obtain ⟨j, rfl, hj, Hj0, H1, H2, HG, Hb⟩ := hrel
          have HJ1 : Hid (¬ (j < 5 ∧ flyB m = true) → lJ f (hasE ev) j = A) := hide (fun h => HJ.out j hj Hj0.out h)
          have FLm := hide FL.out
          have HFN : Hid (flyB m = true → flyB m = false → j + 1 = 0) := hide (fun h1 h2 => by rw [h1] at h2; cases h2)
          clear HJ FL
          generalize flyB m = fy at *
          obtain ⟨q, hq⟩ : ∃ q, Hid ((decide (j < 5) && fy) = q) := ⟨_, hide rfl⟩
          go_upto_region 11 with fail
          go_cut [47] (fun v wx => v = .bool q ∧ wx = wr)
          case first =>
            by_cases hl : j < 5
            · have e : q = fy := by rw [← hq.out]; simp [hl]
              subst e
              clear hq
              go_wp2_with (go_at_call 13; refine (FLm.out _).mono ?_; rintro e w6 ⟨rfl, hw6⟩; obtain rfl := hw6.symm)
              go_meet
              exact ⟨rfl, rfl⟩
            · have e : q = false := by rw [← hq.out]; simp [hl]
              subst e
              clear hq
              go_wp2_with fail
              go_meet
              exact ⟨rfl, rfl⟩
          case rest =>
            obtain ⟨rfl, hw⟩ := hcut
            subst hw
            clear FLm
            cases q
            · have hn : ¬ (j < 5 ∧ fy = true) := fun h => by have := hq.out; simp [h] at this
              have e1 := HJ1.out hn
              rw [e1] at H1
              clear HJ1 hn hq HLI HNO HHA HAD e1 HFN Hj0
              have c0 : wc.cell? ⟨w.heap.size, 0, none⟩ = some (.int .u8 k) := H1.out.cell 0 rfl
              have c1 : wc.cell? ⟨w.heap.size, 1, none⟩ = some (.int .i64 A) := H1.out.cell 1 rfl
              have d0 : wc.cell? ⟨w.heap.size + 1, 0, none⟩ = some (.int .u8 0) := H2.out.cell 0 rfl
              have d1 : wc.cell? ⟨w.heap.size + 1, 1, none⟩ = some (.int .i64 0) := H2.out.cell 1 rfl
              have f1 := H1.out.frozen 1
              have g0 := H2.out.frozen 0
              have g1 := H2.out.frozen 1
              have hs1 := H2.out.lt
              by_cases h01 : k = 0 ∨ k = 1
              · have e0 : B = 0 := by rw [← HB.out]; unfold la2; rw [if_pos h01]
                subst e0
                have X1 : Hid (Rm (wc.setCell ⟨w.heap.size, 1, none⟩ (.int .i64 0)) w.heap.size k 0) := hide (H1.out.set 1 (.int .i64 0))
                have X2 : Hid (Rm (wc.setCell ⟨w.heap.size, 1, none⟩ (.int .i64 0)) (w.heap.size + 1) 0 0) := hide (H2.out.setOther (by omega) 1 (.int .i64 0))
                have Xb := hide (below_set Hb.out w.heap.size 1 (.int .i64 0) (Nat.le_refl _) (by omega))
                have Y2 := hide (X2.out.set2 (.int .u8 k) (.int .i64 0))
                have Yb := hide (below_set (below_set Xb.out (w.heap.size + 1) 0 (.int .u8 k) (by omega) (by have := Xb.out.size; omega)) (w.heap.size + 1) 1 (.int .i64 0) (by omega) (by rw [setCell_size]; have := Xb.out.size; omega))
                clear HB H1 H2 Hb X1 X2 Xb
                rcases h01 with h0 | h0
                · subst h0
                  go_wp2_with fail
                  refine bodyPost_ret (res_back2 Try.results17 Try.underlying31 (by kernel_rfl) _ _ (w.heap.size + 1) _ rfl rfl Y2.out) rfl ?_
                  exact ⟨rfl, Yb.out⟩
                · subst h0
                  go_wp2_with fail
                  refine bodyPost_ret (res_back2 Try.results17 Try.underlying31 (by kernel_rfl) _ _ (w.heap.size + 1) _ rfl rfl Y2.out) rfl ?_
                  exact ⟨rfl, Yb.out⟩
              · have e0 : A = B := by rw [← HB.out]; unfold la2; rw [if_neg h01]
                have d2 : (k == 0) = false := by simp; omega
                have d3 : (k == 1) = false := by simp; omega
                subst e0
                have Y2 := hide (H2.out.set2 (.int .u8 k) (.int .i64 A))
                have Yb := hide (below_set (below_set Hb.out (w.heap.size + 1) 0 (.int .u8 k) (by omega) (by omega)) (w.heap.size + 1) 1 (.int .i64 A) (by omega) (by rw [setCell_size]; omega))
                clear HB H1 H2 Hb h01
                go_wp2_with fail
                refine bodyPost_ret (res_back2 Try.results17 Try.underlying31 (by kernel_rfl) _ _ (w.heap.size + 1) _ rfl rfl Y2.out) rfl ?_
                exact ⟨rfl, Yb.out⟩
            · have hn : j < 5 ∧ fy = true := by have := hq.out; simpa using this
              obtain ⟨hlt, hfy⟩ := hn
              have HF1 : Hid (fy = false → j + 1 = 0) := hide (fun h => HFN.out hfy h)
              clear hq HFN Hj0 hfy HJ1
              obtain ⟨L, hL⟩ : ∃ L, Hid (lJ f (hasE ev) j = L) := ⟨_, hide rfl⟩
              have hLi : 0 ≤ L ∧ L ≤ 63 := by rw [← hL.out]; exact HLI.out j
              obtain ⟨L2, hL2⟩ : ∃ L2, Hid (lJ f (hasE ev) (j + 1) = L2) := ⟨_, hide rfl⟩
              have h5 := sty_in j hlt
              have HG0 := HG.out.cell j (sty_cell j hlt)
              have hN : Hid (hasE ev (sty j) = false → L2 = L) := hide (fun h => by rw [← hL2.out, ← hL.out]; exact HNO.out j hlt h)
              have hH : Hid (hasE L (sty j) = true → L2 = L) := hide (fun h => by rw [← hL2.out, ← hL.out]; exact HHA.out j hlt (by rw [hL.out]; exact h))
              have hA : Hid (hasE ev (sty j) = true → hasE L (sty j) = false → L + 2 ^ sty j = L2) := hide (fun h1 h2 => by rw [← hL2.out, ← hL.out]; exact HAD.out j hlt h1 (by rw [hL.out]; exact h2))
              have RE : Hid (∀ wx, Rm wx w.heap.size k L2 → Rm wx w.heap.size k (lJ f (hasE ev) (j + 1))) := hide (fun wx h => by rw [hL2.out]; exact h)
              rw [hL.out] at H1
              have H1e := hide (HAS.out (sty j) (by omega))
              have H2e := hide (rhas_any L (sty j) (by omega))
              clear hL hL2 HLI HNO HHA HAD HAS
              obtain ⟨s, hs⟩ : ∃ s, Hid (sty j = s) := ⟨_, hide rfl⟩
              have hsc := sty_cases j hlt
              rw [hs.out] at h5 HG0 hN hH hA H1e H2e hsc
              clear hs
              generalize hasE ev s = b1 at *
              generalize hasE L s = b2 at *
              have e1 : ∀ x : BelowW wc, x.q.cell? ⟨w.heap.size, 1, none⟩ = some (.int .i64 L) := H1.out.at 1 rfl
              have e2 : ∀ x : BelowW wc, x.q.cell? ⟨G, j, none⟩ = some (.int .i64 (s : Int)) := fun x => x.cell HG0 HG.out.lt
              have hne : Nonempty (BelowW wc) := ⟨⟨wc, Below.refl _ _⟩⟩
              clear HG0
              cases b1
              · have eL : L = L2 := (hN.out rfl).symm
                subst eL
                clear hN hH hA
                go_upto_region 13 with fail
                refine wp_region_calm (by kernel_rfl) (by kernel_rfl) ?_
                repeat (go_big_quiet_step (first | (go_at_call_of 25 (Value.int IntKind.i64 ev); exact calm_same (H1e.out _)) | (go_at_call_of 25 (Value.int IntKind.i64 L); exact calm_same (H2e.out _))))
                refine wpQuiet_nil ?_
                rintro _ ⟨z, rfl⟩
                have Z1 := hide (H1.out.after z.h)
                have Z2 := hide (H2.out.after z.h)
                have Z3 := hide (HG.out.after z.h)
                have Zb := hide (below_next Hb.out (Nat.le_refl _) z.h)
                have cG := e2 z
                generalize z.q = W3 at *
                clear z e1 e2 hne
                clear cG
                go_wp2_with fail
                go_roundw
                case rel => exact ⟨j + 1, by go_num, by omega, HF1, hide (RE.out _ Z1.out), Z2, Z3, Zb⟩
                case measure => simp [intOf]; omega
              · cases b2
                · have eA : L + 2 ^ s = L2 := hA.out (by trivial) (by trivial)
                  have EA := hide eA
                  clear hN hH hA eA
                  go_upto_region 13 with fail
                  refine wp_region_calm (by kernel_rfl) (by kernel_rfl) ?_
                  repeat (go_big_quiet_step (first | (go_at_call_of 25 (Value.int IntKind.i64 ev); exact calm_same (H1e.out _)) | (go_at_call_of 25 (Value.int IntKind.i64 L); exact calm_same (H2e.out _))))
                  refine wpQuiet_nil ?_
                  rintro _ ⟨z, rfl⟩
                  have Z1 := hide (H1.out.after z.h)
                  have Z2 := hide (H2.out.after z.h)
                  have Z3 := hide (HG.out.after z.h)
                  have Zb := hide (below_next Hb.out (Nat.le_refl _) z.h)
                  have cG := e2 z
                  generalize z.q = W3 at *
                  clear z e1 e2 hne
                  have c1 : W3.cell? ⟨w.heap.size, 1, none⟩ = some (.int .i64 L) := Z1.out.cell 1 rfl
                  have f1 := Z1.out.frozen 1
                  have hs3 := Z2.out.lt
                  clear HG H1 H2 Hb
                  rcases hsc with h | h | h | h | h
                  all_goals subst h
                  all_goals simp only [Int.cast_ofNat_Int] at cG
                  all_goals (have EL : L2 = _ := EA.out.symm; simp only [Int.reducePow] at EL)
                  all_goals subst EL
                  all_goals go_upto_region 14 with fail
                  all_goals refine reg_last 9 rfl rfl _ rfl (by kernel_rfl) (by kernel_rfl) (by kernel_rfl) ?_
                  all_goals simp only [List.take_succ_cons, List.take_zero]
                  all_goals repeat (go_big_quiet_step (fail))
                  all_goals refine wpQuiet_nil ?_
                  all_goals intro nq
                  all_goals go_simp
                  all_goals go_wp2_with fail
                  all_goals (go_roundw; (case rel => exact ⟨j + 1, by go_num, by omega, HF1, hide (RE.out _ ((blk_drewN Z1.out nq).set 1 _)), hide ((blk_drewN Z2.out nq).setOther (by omega) _ _), hide ((blk_drewN Z3.out nq).setOther (by omega) _ _), hide (below_set (below_drewN Zb.out nq) w.heap.size 1 _ (Nat.le_refl _) (by have := (blk_drewN Z2.out nq).lt; omega))⟩); (case measure => (simp [intOf]; omega)))
                · have eL : L = L2 := (hH.out (by trivial)).symm
                  subst eL
                  clear hN hH hA
                  go_upto_region 13 with fail
                  refine wp_region_calm (by kernel_rfl) (by kernel_rfl) ?_
                  repeat (go_big_quiet_step (first | (go_at_call_of 25 (Value.int IntKind.i64 ev); exact calm_same (H1e.out _)) | (go_at_call_of 25 (Value.int IntKind.i64 L); exact calm_same (H2e.out _))))
                  refine wpQuiet_nil ?_
                  rintro _ ⟨z, rfl⟩
                  have Z1 := hide (H1.out.after z.h)
                  have Z2 := hide (H2.out.after z.h)
                  have Z3 := hide (HG.out.after z.h)
                  have Zb := hide (below_next Hb.out (Nat.le_refl _) z.h)
                  have cG := e2 z
                  generalize z.q = W3 at *
                  clear z e1 e2 hne
                  clear cG
                  go_wp2_with fail
                  go_roundw
                  case rel => exact ⟨j + 1, by go_num, by omega, HF1, hide (RE.out _ Z1.out), Z2, Z3, Zb⟩
                  case measure => simp [intOf]; omega
      · have hn : i < 18 ∧ d < 0 := by have := hq.out; simpa using this
        obtain ⟨hd1, hk, hf0⟩ := HF.out.none hn.2
        have hk := hk.symm
        subst hk hd1
        have hlt := hn.1
        have HF0 := hide hf0
        clear HF hf0 hn hq
        have HI := hide (HAS.out i (by omega))
        have NI := hide (NX.out i)
        have e1 : ∀ x : BelowW wc, x.q.cell? ⟨w.heap.size, 0, none⟩ = some (.int .u8 m) := H1.out.at 0 rfl
        have hne : Nonempty (BelowW wc) := ⟨⟨wc, Below.refl _ _⟩⟩
        have HS0 : Hid (hasE ev i = false → Fol m ev (i + 1) (-1) m) := hide (fun h => Fol.skip HF0.out h)
        have HS1 : Hid (nx m i = m → Fol m ev (i + 1) (-1) m) := hide (fun h => Fol.stay HF0.out h)
        have HS2 : Hid (hasE ev i = true → ¬ nx m i = m → Fol m ev (i + 1) i (nx m i)) := hide (fun h1 h2 => Fol.go HF0.out hlt h1 h2)
        clear HF0 HDn HJ
        generalize hasE ev i = hy at *
        generalize nx m i = y at *
        cases hy
        · go_upto_region 6 with fail
          refine wp_region_calm (by kernel_rfl) (by kernel_rfl) ?_
          repeat (go_big_quiet_step (first | (go_at_call 25; exact calm_same (HI.out _))))
          refine wpQuiet_nil ?_
          rintro _ ⟨z, rfl⟩
          have Z1 := hide (H1.out.after z.h)
          have Z2 := hide (H2.out.after z.h)
          have Zb := hide (below_next Hb.out (Nat.le_refl _) z.h)
          generalize z.q = W3 at *
          clear z e1 hne
          go_wp2_with fail
          go_roundw
          case rel => exact ⟨i + 1, -1, m, rfl, by go_num, by omega, hide (HS0.out rfl), Z1, Z2, Zb⟩
          case measure => simp [intOf]; omega
        · by_cases hy : y = m
          · subst hy
            have hx : (y != y) = false := by simp
            go_upto_region 6 with fail
            refine wp_region_calm (by kernel_rfl) (by kernel_rfl) ?_
            repeat (go_big_quiet_step (first | (go_at_call 25; exact calm_same (HI.out _)) | (go_at_call 9; exact calm_of (NI.out _))))
            refine wpQuiet_nil ?_
            rintro _ ⟨z, rfl⟩
            have Z1 := hide (H1.out.after z.h)
            have Z2 := hide (H2.out.after z.h)
            have Zb := hide (below_next Hb.out (Nat.le_refl _) z.h)
            generalize z.q = W3 at *
            clear z e1 hne
            go_wp2_with fail
            go_roundw
            case rel => exact ⟨i + 1, -1, y, rfl, by go_num, by omega, hide (HS1.out rfl), Z1, Z2, Zb⟩
            case measure => simp [intOf]; omega
          · have hx : (y != m) = true := by simp [hy]
            have HY := hide hy
            clear hy
            go_upto_region 6 with fail
            refine wp_region_calm (by kernel_rfl) (by kernel_rfl) ?_
            repeat (go_big_quiet_step (first | (go_at_call 25; exact calm_same (HI.out _)) | (go_at_call 9; exact calm_of (NI.out _))))
            refine wpQuiet_nil ?_
            rintro _ ⟨z, rfl⟩
            have Z1 := hide (H1.out.after z.h)
            have Z2 := hide (H2.out.after z.h)
            have Zb := hide (below_next Hb.out (Nat.le_refl _) z.h)
            generalize z.q = W3 at *
            clear z e1 hne
            have c0 : W3.cell? ⟨w.heap.size, 0, none⟩ = some (.int .u8 m) := Z1.out.cell 0 rfl
            go_wp2_with fail
            refine (NI.out _).mono ?_
            rintro e W4 ⟨rfl, hb4⟩
            have Y1 := hide (Z1.out.after hb4)
            have Y2 := hide (Z2.out.after hb4)
            have Yb := hide (below_next Zb.out (Nat.le_refl _) hb4)
            have f0 := Y1.out.frozen 0
            clear c0 hb4 Z1 Z2 Zb
            have X1 : Hid (Rm (W4.setCell ⟨w.heap.size, 0, none⟩ (.int .u8 y)) w.heap.size y la) := hide (Y1.out.set 0 (.int .u8 y))
            have X2 : Hid (Rm (W4.setCell ⟨w.heap.size, 0, none⟩ (.int .u8 y)) (w.heap.size + 1) 0 0) := hide (Y2.out.setOther (by omega) 0 (.int .u8 y))
            have Xb := hide (below_set Yb.out w.heap.size 0 (.int .u8 y) (Nat.le_refl _) (by have := Yb.out.size; omega))
            have cY : W4.cell? ⟨w.heap.size, 0, none⟩ = some (.int .u8 m) := Y1.out.cell 0 rfl
            go_wp2_with fail
            go_roundw
            case rel => exact ⟨i + 1, i, y, rfl, by go_num, by omega, hide (HS2.out (by trivial) HY.out), X1, X2, Xb⟩
            case measure => simp [intOf]; omega
end Go.Proofs.Ythheekneanhmkaa
