/- Package modes: Next. -/
import Derived.Test.YthheekneanhmkaaMo1
namespace Go.Proofs.Ythheekneanhmkaa
open Go.RowKit Go.Great

def rAt (k : Nat) : Rw := tabR.getD k ⟨0, 0, 0, 0⟩
theorem ix0 (w : World) : (Instr.index 42 (.agg tabC) (.int .i64 0)).run Try.prog w = .ok (.agg #[.int .i64 (rAt 0).e, .int .u8 (rAt 0).f, .int .u8 (rAt 0).l, .int .u8 (rAt 0).t]) w := by kernel_rfl
theorem ix1 (w : World) : (Instr.index 42 (.agg tabC) (.int .i64 1)).run Try.prog w = .ok (.agg #[.int .i64 (rAt 1).e, .int .u8 (rAt 1).f, .int .u8 (rAt 1).l, .int .u8 (rAt 1).t]) w := by kernel_rfl
theorem ix2 (w : World) : (Instr.index 42 (.agg tabC) (.int .i64 2)).run Try.prog w = .ok (.agg #[.int .i64 (rAt 2).e, .int .u8 (rAt 2).f, .int .u8 (rAt 2).l, .int .u8 (rAt 2).t]) w := by kernel_rfl
theorem ix3 (w : World) : (Instr.index 42 (.agg tabC) (.int .i64 3)).run Try.prog w = .ok (.agg #[.int .i64 (rAt 3).e, .int .u8 (rAt 3).f, .int .u8 (rAt 3).l, .int .u8 (rAt 3).t]) w := by kernel_rfl
theorem ix4 (w : World) : (Instr.index 42 (.agg tabC) (.int .i64 4)).run Try.prog w = .ok (.agg #[.int .i64 (rAt 4).e, .int .u8 (rAt 4).f, .int .u8 (rAt 4).l, .int .u8 (rAt 4).t]) w := by kernel_rfl
theorem ix5 (w : World) : (Instr.index 42 (.agg tabC) (.int .i64 5)).run Try.prog w = .ok (.agg #[.int .i64 (rAt 5).e, .int .u8 (rAt 5).f, .int .u8 (rAt 5).l, .int .u8 (rAt 5).t]) w := by kernel_rfl
theorem ix6 (w : World) : (Instr.index 42 (.agg tabC) (.int .i64 6)).run Try.prog w = .ok (.agg #[.int .i64 (rAt 6).e, .int .u8 (rAt 6).f, .int .u8 (rAt 6).l, .int .u8 (rAt 6).t]) w := by kernel_rfl
theorem ix7 (w : World) : (Instr.index 42 (.agg tabC) (.int .i64 7)).run Try.prog w = .ok (.agg #[.int .i64 (rAt 7).e, .int .u8 (rAt 7).f, .int .u8 (rAt 7).l, .int .u8 (rAt 7).t]) w := by kernel_rfl
theorem ix8 (w : World) : (Instr.index 42 (.agg tabC) (.int .i64 8)).run Try.prog w = .ok (.agg #[.int .i64 (rAt 8).e, .int .u8 (rAt 8).f, .int .u8 (rAt 8).l, .int .u8 (rAt 8).t]) w := by kernel_rfl
theorem ix9 (w : World) : (Instr.index 42 (.agg tabC) (.int .i64 9)).run Try.prog w = .ok (.agg #[.int .i64 (rAt 9).e, .int .u8 (rAt 9).f, .int .u8 (rAt 9).l, .int .u8 (rAt 9).t]) w := by kernel_rfl
theorem ix10 (w : World) : (Instr.index 42 (.agg tabC) (.int .i64 10)).run Try.prog w = .ok (.agg #[.int .i64 (rAt 10).e, .int .u8 (rAt 10).f, .int .u8 (rAt 10).l, .int .u8 (rAt 10).t]) w := by kernel_rfl
theorem ix11 (w : World) : (Instr.index 42 (.agg tabC) (.int .i64 11)).run Try.prog w = .ok (.agg #[.int .i64 (rAt 11).e, .int .u8 (rAt 11).f, .int .u8 (rAt 11).l, .int .u8 (rAt 11).t]) w := by kernel_rfl
theorem ix12 (w : World) : (Instr.index 42 (.agg tabC) (.int .i64 12)).run Try.prog w = .ok (.agg #[.int .i64 (rAt 12).e, .int .u8 (rAt 12).f, .int .u8 (rAt 12).l, .int .u8 (rAt 12).t]) w := by kernel_rfl
theorem ix13 (w : World) : (Instr.index 42 (.agg tabC) (.int .i64 13)).run Try.prog w = .ok (.agg #[.int .i64 (rAt 13).e, .int .u8 (rAt 13).f, .int .u8 (rAt 13).l, .int .u8 (rAt 13).t]) w := by kernel_rfl
theorem ix14 (w : World) : (Instr.index 42 (.agg tabC) (.int .i64 14)).run Try.prog w = .ok (.agg #[.int .i64 (rAt 14).e, .int .u8 (rAt 14).f, .int .u8 (rAt 14).l, .int .u8 (rAt 14).t]) w := by kernel_rfl
theorem ix15 (w : World) : (Instr.index 42 (.agg tabC) (.int .i64 15)).run Try.prog w = .ok (.agg #[.int .i64 (rAt 15).e, .int .u8 (rAt 15).f, .int .u8 (rAt 15).l, .int .u8 (rAt 15).t]) w := by kernel_rfl
theorem ix16 (w : World) : (Instr.index 42 (.agg tabC) (.int .i64 16)).run Try.prog w = .ok (.agg #[.int .i64 (rAt 16).e, .int .u8 (rAt 16).f, .int .u8 (rAt 16).l, .int .u8 (rAt 16).t]) w := by kernel_rfl
theorem ix17 (w : World) : (Instr.index 42 (.agg tabC) (.int .i64 17)).run Try.prog w = .ok (.agg #[.int .i64 (rAt 17).e, .int .u8 (rAt 17).f, .int .u8 (rAt 17).l, .int .u8 (rAt 17).t]) w := by kernel_rfl
theorem ix18 (w : World) : (Instr.index 42 (.agg tabC) (.int .i64 18)).run Try.prog w = .ok (.agg #[.int .i64 (rAt 18).e, .int .u8 (rAt 18).f, .int .u8 (rAt 18).l, .int .u8 (rAt 18).t]) w := by kernel_rfl
theorem ix19 (w : World) : (Instr.index 42 (.agg tabC) (.int .i64 19)).run Try.prog w = .ok (.agg #[.int .i64 (rAt 19).e, .int .u8 (rAt 19).f, .int .u8 (rAt 19).l, .int .u8 (rAt 19).t]) w := by kernel_rfl
theorem ix20 (w : World) : (Instr.index 42 (.agg tabC) (.int .i64 20)).run Try.prog w = .ok (.agg #[.int .i64 (rAt 20).e, .int .u8 (rAt 20).f, .int .u8 (rAt 20).l, .int .u8 (rAt 20).t]) w := by kernel_rfl
theorem ix21 (w : World) : (Instr.index 42 (.agg tabC) (.int .i64 21)).run Try.prog w = .ok (.agg #[.int .i64 (rAt 21).e, .int .u8 (rAt 21).f, .int .u8 (rAt 21).l, .int .u8 (rAt 21).t]) w := by kernel_rfl
theorem ix22 (w : World) : (Instr.index 42 (.agg tabC) (.int .i64 22)).run Try.prog w = .ok (.agg #[.int .i64 (rAt 22).e, .int .u8 (rAt 22).f, .int .u8 (rAt 22).l, .int .u8 (rAt 22).t]) w := by kernel_rfl
theorem ix23 (w : World) : (Instr.index 42 (.agg tabC) (.int .i64 23)).run Try.prog w = .ok (.agg #[.int .i64 (rAt 23).e, .int .u8 (rAt 23).f, .int .u8 (rAt 23).l, .int .u8 (rAt 23).t]) w := by kernel_rfl
theorem ix24 (w : World) : (Instr.index 42 (.agg tabC) (.int .i64 24)).run Try.prog w = .ok (.agg #[.int .i64 (rAt 24).e, .int .u8 (rAt 24).f, .int .u8 (rAt 24).l, .int .u8 (rAt 24).t]) w := by kernel_rfl
theorem ix25 (w : World) : (Instr.index 42 (.agg tabC) (.int .i64 25)).run Try.prog w = .ok (.agg #[.int .i64 (rAt 25).e, .int .u8 (rAt 25).f, .int .u8 (rAt 25).l, .int .u8 (rAt 25).t]) w := by kernel_rfl
theorem ix26 (w : World) : (Instr.index 42 (.agg tabC) (.int .i64 26)).run Try.prog w = .ok (.agg #[.int .i64 (rAt 26).e, .int .u8 (rAt 26).f, .int .u8 (rAt 26).l, .int .u8 (rAt 26).t]) w := by kernel_rfl
theorem ix27 (w : World) : (Instr.index 42 (.agg tabC) (.int .i64 27)).run Try.prog w = .ok (.agg #[.int .i64 (rAt 27).e, .int .u8 (rAt 27).f, .int .u8 (rAt 27).l, .int .u8 (rAt 27).t]) w := by kernel_rfl
theorem ix28 (w : World) : (Instr.index 42 (.agg tabC) (.int .i64 28)).run Try.prog w = .ok (.agg #[.int .i64 (rAt 28).e, .int .u8 (rAt 28).f, .int .u8 (rAt 28).l, .int .u8 (rAt 28).t]) w := by kernel_rfl
theorem ix_all (w : World) : ∀ i : Nat, i < 29 → (Instr.index 42 (.agg tabC) (.int .i64 (i : Int))).run Try.prog w = .ok (.agg #[.int .i64 (rAt i).e, .int .u8 (rAt i).f, .int .u8 (rAt i).l, .int .u8 (rAt i).t]) w
  | 0, _ => ix0 w
  | 1, _ => ix1 w
  | 2, _ => ix2 w
  | 3, _ => ix3 w
  | 4, _ => ix4 w
  | 5, _ => ix5 w
  | 6, _ => ix6 w
  | 7, _ => ix7 w
  | 8, _ => ix8 w
  | 9, _ => ix9 w
  | 10, _ => ix10 w
  | 11, _ => ix11 w
  | 12, _ => ix12 w
  | 13, _ => ix13 w
  | 14, _ => ix14 w
  | 15, _ => ix15 w
  | 16, _ => ix16 w
  | 17, _ => ix17 w
  | 18, _ => ix18 w
  | 19, _ => ix19 w
  | 20, _ => ix20 w
  | 21, _ => ix21 w
  | 22, _ => ix22 w
  | 23, _ => ix23 w
  | 24, _ => ix24 w
  | 25, _ => ix25 w
  | 26, _ => ix26 w
  | 27, _ => ix27 w
  | 28, _ => ix28 w
  | n + 29, h => absurd h (by omega)
theorem drop_row (i : Nat) (h : i < 29) : tabR.drop i = rAt i :: tabR.drop (i + 1) := by
  have h1 : i < tabR.length := h
  rw [List.drop_eq_getElem_cons h1]
  unfold rAt
  rw [List.getD, List.getElem?_eq_getElem h1]
  rfl
set_option maxHeartbeats 2000000 in
set_option maxRecDepth 100000 in
theorem next_any (m ev : Int) (w : World) : Calls Try.prog 8 #[.int .u8 m, .int .i64 ev] w fun e w' => e = .returned (.int .u8 (nx m ev)) ∧ Below w.heap.size w w' := by
  have WI := hide withinM_any
  have IX := hide ix_all
  obtain ⟨R, HR⟩ : ∃ R, Hid (nx m ev = R) := ⟨_, hide rfl⟩
  have HE : Hid (R = nxL (tabR.drop 0) m ev) := hide HR.out.symm
  rw [HR.out]
  clear HR
  have RO := hide rows_any
  obtain ⟨V, HV⟩ : ∃ V, Hid (Value.agg tabC = V) := ⟨_, hide rfl⟩
  rw [HV.out] at RO IX
  clear HV
  go_enter Try.func8, Try.ntmps8
  go_wp2_with (go_at_call 20; refine (RO.out _).mono ?_; rintro e w1 ⟨rfl, hb1⟩)
  have Hb := hide hb1
  clear hb1 RO
  go_loopw [8] (fun vi wx => ∃ i : Nat, i ≤ 29 ∧ vi = .int .i64 (i : Int) ∧ Hid (R = nxL (tabR.drop i) m ev) ∧ Hid (Below w.heap.size w wx)) (fun vi _ => 29 - (intOf vi).toNat)
  case atStart => exact ⟨0, by omega, rfl, HE, Hb⟩
  case round =>
    clear HE Hb
    obtain ⟨i, hi, rfl, HE, Hb⟩ := hrel
    by_cases hl : i < 29
    · have HD : Hid (R = if fitR (rAt i) m ev = true then (rAt i).t else nxL (tabR.drop (i + 1)) m ev) := hide (by rw [HE.out, drop_row i hl]; rfl)
      have IXi : ∀ W : World, (Instr.index 42 V (.int .i64 (i : Int))).run Try.prog W = _ := fun W => IX.out W i hl
      clear HE
      generalize rAt i = r at *
      obtain ⟨re, rf, rl, rt⟩ := r
      simp only at *
      have HX := hide (Blk.new wr #[.int .i64 re, .int .u8 rf, .int .u8 rl, .int .u8 rt] 41)
      replace Hb := hide (below_next Hb.out (Nat.le_refl _) (below_alloc wr (.cells #[.int .i64 re, .int .u8 rf, .int .u8 rl, .int .u8 rt] 41)))
      go_upto_region 4 with fail
      clear IXi
      generalize wr.heap.size = gx at *
      generalize wr.alloc (.cells #[.int .i64 re, .int .u8 rf, .int .u8 rl, .int .u8 rt] 41) = W1 at *
      have q0 : W1.cell? ⟨gx, 0, none⟩ = some (.int .i64 re) := HX.out.cell 0 rfl
      have q1 : W1.cell? ⟨gx, 1, none⟩ = some (.int .u8 rf) := HX.out.cell 1 rfl
      have q2 : W1.cell? ⟨gx, 2, none⟩ = some (.int .u8 rl) := HX.out.cell 2 rfl
      have q3 : W1.cell? ⟨gx, 3, none⟩ = some (.int .u8 rt) := HX.out.cell 3 rfl
      have WX := hide (WI.out m rf rl)
      clear WI HX IX
      by_cases he : re = ev
      · subst he
        have HD2 : Hid (R = if (decide (rf ≤ m) && decide (m ≤ rl)) = true then rt else nxL (tabR.drop (i + 1)) m re) := hide (by rw [HD.out]; simp [fitR])
        clear HD
        generalize (decide (rf ≤ m) && decide (m ≤ rl)) = z at *
        cases z
        · have HC : Hid (R = nxL (tabR.drop (i + 1)) m re) := hide HD2.out
          clear HD2
          go_wp2_with (go_at_call 21; refine (WX.out _).mono ?_; rintro e w3 ⟨rfl, hw3⟩; obtain rfl := hw3.symm)
          go_roundw
          case rel => exact ⟨i + 1, by omega, by go_num, HC, Hb⟩
          case measure => simp [intOf]; omega
        · have HC : Hid (R = rt) := hide HD2.out
          clear HD2
          go_wp2_with (go_at_call 21; refine (WX.out _).mono ?_; rintro e w3 ⟨rfl, hw3⟩; obtain rfl := hw3.symm)
          go_ret
          exact ⟨ret_int HC.out.symm, Hb.out⟩
      · have HC : Hid (R = nxL (tabR.drop (i + 1)) m ev) := hide (by rw [HD.out, if_neg (by simp [fitR, he])])
        clear HD
        have hd : (re == ev) = false := by simpa using he
        go_wp2_with fail
        go_roundw
        case rel => exact ⟨i + 1, by omega, by go_num, HC, Hb⟩
        case measure => simp [intOf]; omega
    · have e0 : i = 29 := by omega
      have HC : Hid (R = m) := hide (by rw [HE.out, e0]; rfl)
      clear IX WI HE
      go_wp2_with fail
      go_ret
      exact ⟨ret_int HC.out.symm, Hb.out⟩
end Go.Proofs.Ythheekneanhmkaa
