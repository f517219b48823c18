/- Package modes: New, Mode, Latches, Step. -/
import Derived.Test.YthheekneanhmkaaMo8
namespace Go.Proofs.Ythheekneanhmkaa
open Go.RowKit Go.Great

/-- the latches behind the events of a step that begins in mode m -/
def la1 (m la ev : Int) : Int := if flyB m = true then bits BinOp.or IntKind.i64 la (bits BinOp.and IntKind.i64 ev 55) else la
/-- .. and behind the step -/
def la2 (m l : Int) : Int := if m = 0 ∨ m = 1 then 0 else l
/-- the mode behind a step -/
def stM (m ev : Int) : Int := folM m (evs ev 18)
def stL (m la ev : Int) : Int := la2 (stM m ev) (la1 m la ev)
/-- which event was followed -/
def stE (m ev : Int) : Int := folE m (evs ev 18)
theorem newM_any (w : World) : Calls Try.prog 15 #[] w fun e w' => ∃ M, e = .returned (mP M) ∧ Mac w' M 0 0 ∧ Below w.heap.size w w' ∧ w.heap.size ≤ M := by
  go_enter Try.func15, Try.ntmps15
  go_wp2
  go_ret
  exact ⟨_, rfl, Blk.new _ _ _, below_alloc _ _, Nat.le_refl _⟩
theorem mode_nil (w : World) : Calls Try.prog 18 #[.pointer none] w fun e w' => e = .returned (.int .u8 0) ∧ w' = w := by
  go_enter Try.func18, Try.ntmps18
  go_wp2
  go_ret
  simp
theorem mode_any (w : World) (M : Nat) (m la : Int) (h : Mac w M m la) : Calls Try.prog 18 #[mP M] w fun e w' => e = .returned (.int .u8 m) ∧ w' = w := by
  have c0 : w.cell? ⟨M, 0, none⟩ = some (.int .u8 m) := h.cell 0 rfl
  clear h
  go_enter Try.func18, Try.ntmps18
  go_wp2
  go_ret
  simp
theorem latch_nil (w : World) : Calls Try.prog 19 #[.pointer none] w fun e w' => e = .returned (.int .i64 0) ∧ w' = w := by
  go_enter Try.func19, Try.ntmps19
  go_wp2
  go_ret
  simp
theorem latch_any (w : World) (M : Nat) (m la : Int) (h : Mac w M m la) : Calls Try.prog 19 #[mP M] w fun e w' => e = .returned (.int .i64 la) ∧ w' = w := by
  have c1 : w.cell? ⟨M, 1, none⟩ = some (.int .i64 la) := h.cell 1 rfl
  clear h
  go_enter Try.func19, Try.ntmps19
  go_wp2
  go_ret
  simp
theorem step_nil (ev : Int) (w : World) : Calls Try.prog 16 #[.pointer none, .int .i64 ev] w fun e w' => e = .returned (.int .i64 0) ∧ w' = w := by
  go_enter Try.func16, Try.ntmps16
  go_wp2
  go_ret
  simp
/-- what a step leaves -/
def SEnd (w : World) (M : Nat) (m la did : Int) (e : Ending) (w' : World) : Prop := e = .returned (.int .i64 did) ∧ Mac w' M m la ∧ w.grownBy w' (some M)
set_option maxHeartbeats 4000000 in
theorem step_any (w : World) (M : Nat) (m la ev : Int) (h : Mac w M m la) : Calls Try.prog 16 #[mP M, .int .i64 ev] w (SEnd w M (stM m ev) (stL m la ev) (stE m ev)) := by
  have FL := hide (flying_any m)
  have c0 : w.cell? ⟨M, 0, none⟩ = some (.int .u8 m) := h.cell 0 rfl
  have c1 : w.cell? ⟨M, 1, none⟩ = some (.int .i64 la) := h.cell 1 rfl
  have f1 := h.frozen 1
  have hM := h.lt
  have HL : Hid (∀ x : Int, Mac (w.setCell ⟨M, 1, none⟩ (.int .i64 x)) M m x) := hide (fun x => h.set 1 (.int .i64 x))
  have HM := hide h
  have HG : Hid (∀ x : Int, w.grownBy (w.setCell ⟨M, 1, none⟩ (.int .i64 x)) (some M)) := hide (fun x => grown_set w M 1 (.int .i64 x))
  have HW := hide (waiting_any ev)
  obtain ⟨R, HR⟩ : ∃ R, Hid (stM m ev = R) := ⟨_, hide rfl⟩
  obtain ⟨D, HD⟩ : ∃ D, Hid (stE m ev = D) := ⟨_, hide rfl⟩
  obtain ⟨A, HA⟩ : ∃ A, Hid (la1 m la ev = A) := ⟨_, hide rfl⟩
  obtain ⟨B, HB⟩ : ∃ B, Hid (la2 R A = B) := ⟨_, hide rfl⟩
  have HE : Hid (stL m la ev = B) := hide (by unfold stL; rw [HR.out, HA.out, HB.out])
  rw [HE.out, HR.out, HD.out]
  have HFo : Hid (∀ (W : World) (b Q : Nat) (x : Int), Mac W M m x → M < b → HQ W b Q (evs ev 18) → Calls Try.prog 23 #[mP M, qP Q] W (FEnd W b M R x D)) := hide (fun W b Q x h1 h2 h3 => by
    have := follow_any W b Q M m x (evs ev 18) h1 h2 h3 (evs_sort ev 18) (by have := evs_len ev 18; omega)
    rw [show folM m (evs ev 18) = R from HR.out, show folE m (evs ev 18) = D from HD.out] at this
    exact this)
  have HA2 : Hid (A = if flyB m = true then bits BinOp.or IntKind.i64 la (bits BinOp.and IntKind.i64 ev 55) else la) := hide HA.out.symm
  clear h HR HD HA HE
  generalize flyB m = fy at *
  go_enter Try.func16, Try.ntmps16
  go_upto_if 12 with (go_at_call 12; refine (FL.out _).mono ?_; rintro e w2 ⟨rfl, hw2⟩; obtain rfl := hw2.symm)
  go_cut [] (fun wx => Mac wx M m A ∧ w.grownBy wx (some M))
  case first =>
    cases fy
    · have e0 : A = la := HA2.out
      go_wp2_with fail
      go_meet
      exact ⟨by rw [e0]; exact HM.out, grown_below (Below.refl _ _) _⟩
    · have e0 : A = bits BinOp.or IntKind.i64 la (bits BinOp.and IntKind.i64 ev 55) := HA2.out
      have HX := hide (HL.out A)
      have HY := hide (HG.out A)
      rw [e0] at HX HY
      clear HL HG HA2
      go_wp2_with fail
      go_meet
      exact ⟨by rw [e0]; exact HX.out, HY.out⟩
  case rest =>
    obtain ⟨hM1, hG1⟩ := hcut
    have HM1 := hide hM1
    have HG1 := hide hG1
    have hlt := hM1.lt
    clear hM1 hG1 c0 c1 f1 hM HL HG HM HA2 FL
    go_wp2_with (go_at_call 24; refine (HW.out _).mono ?_; rintro e w2 ⟨Q, rfl, hq2, hb2⟩; have HQ2 := hide hq2; have Hb2 := hide hb2; clear hq2 hb2)
    refine (HFo.out w2 _ Q A (HM1.out.after Hb2.out) hlt HQ2.out).mono ?_
    rintro e w3 ⟨rfl, hM3, w4, hb4, hg4⟩
    have HM3 := hide hM3
    have HG3 := hide (grown_more (grown_after HG1.out (Hb2.out.trans hb4)) hg4)
    have HX := hide (hM3.set 1 (.int .i64 0))
    have HY := hide (grown_more HG3.out (grown_set w3 M 1 (.int .i64 0)))
    have c0 : w3.cell? ⟨M, 0, none⟩ = some (.int .u8 R) := hM3.cell 0 rfl
    have c1 : w3.cell? ⟨M, 1, none⟩ = some (.int .i64 A) := hM3.cell 1 rfl
    have f1 := hM3.frozen 1
    clear hM3 hb4 hg4 HFo HQ2 Hb2 HW HG1 HM1
    by_cases h0 : R = 0
    · have e0 : B = 0 := by rw [← HB.out]; unfold la2; rw [if_pos (.inl h0)]
      subst h0
      clear HB
      go_wp2_with fail
      go_ret
      exact ⟨rfl, by rw [e0]; exact HX.out, HY.out⟩
    · by_cases h1 : R = 1
      · have e0 : B = 0 := by rw [← HB.out]; unfold la2; rw [if_pos (.inr h1)]
        subst h1
        clear HB
        go_wp2_with fail
        go_ret
        exact ⟨rfl, by rw [e0]; exact HX.out, HY.out⟩
      · have e0 : Hid (B = A) := hide (by rw [← HB.out]; unfold la2; rw [if_neg (by omega)])
        have d0 : (R == 0) = false := by simpa using h0
        have d1 : (R == 1) = false := by simpa using h1
        clear HB HX HY
        go_wp2_with fail
        go_ret
        exact ⟨rfl, by rw [e0.out]; exact HM3.out, HG3.out⟩
end Go.Proofs.Ythheekneanhmkaa
