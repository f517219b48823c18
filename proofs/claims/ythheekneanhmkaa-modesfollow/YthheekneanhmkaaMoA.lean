/- Package modes: the law's machine from boot to the ground; ModesNil. -/
import Derived.Test.YthheekneanhmkaaMo9
namespace Go.Proofs.Ythheekneanhmkaa
open Go.RowKit Go.Great

theorem step_is {w : World} {M : Nat} {m la ev : Int} (m' l' d : Int) (h : Mac w M m la) (h1 : stM m ev = m') (h2 : stL m la ev = l') (h3 : stE m ev = d) : Calls Try.prog 16 #[mP M, .int .i64 ev] w (SEnd w M m' l' d) := by
  have := step_any w M m la ev h
  rw [h1, h2, h3] at this
  exact this
theorem aw1 : stM 0 65536 = 1 ∧ stL 0 0 65536 = 0 ∧ stE 0 65536 = 16 := by refine ⟨?_, ?_, ?_⟩ <;> kernel_rfl
theorem aw2 : stM 1 131328 = 2 ∧ stL 1 0 131328 = 0 ∧ stE 1 131328 = 8 := by refine ⟨?_, ?_, ?_⟩ <;> kernel_rfl
theorem aw3 : stM 2 512 = 3 ∧ stL 2 0 512 = 0 ∧ stE 2 512 = 9 := by refine ⟨?_, ?_, ?_⟩ <;> kernel_rfl
theorem aw4 : stM 3 68 = 12 ∧ stL 3 0 68 = 4 ∧ stE 3 68 = 2 := by refine ⟨?_, ?_, ?_⟩ <;> kernel_rfl
theorem aw5 : stM 12 1024 = 12 ∧ stL 12 4 1024 = 4 ∧ stE 12 1024 = -1 := by refine ⟨?_, ?_, ?_⟩ <;> kernel_rfl
set_option maxHeartbeats 4000000 in
theorem awakeO (w : World) : Calls Try.prog 14 #[] w fun e w' => e = .returned (.bool true) ∧ Below w.heap.size w w' := by
  have HS : Hid (∀ (W : World) (M : Nat), w.heap.size ≤ M → Below w.heap.size w W → ∀ W', W.grownBy W' (some M) → Below w.heap.size w W') := hide (fun W M h1 h2 W' h3 => below_grown h2 h3 (fun q e => by injection e with e; omega))
  go_enter Try.func14, Try.ntmps14
  go_wp2_with fail
  refine (newM_any _).mono ?_
  rintro e w1 ⟨M, rfl, hM, hb, hM0⟩
  have HM := hide hM
  have Hb := hide hb
  have HM0 := hide hM0
  clear hM hb hM0
  have MD := hide (mode_any w1 M 0 0 HM.out)
  go_wp2_with (go_at_call 18; refine MD.out.mono ?_; rintro e w2 ⟨rfl, hw2⟩; obtain rfl := hw2.symm)
  clear MD
  refine (step_is 1 0 16 HM.out aw1.1 aw1.2.1 aw1.2.2).mono ?_
  rintro e w2 ⟨rfl, hM2, hg2⟩
  replace HM := hide hM2
  replace Hb := hide (HS.out _ M HM0.out Hb.out _ hg2)
  clear hM2 hg2
  go_wp2_with fail
  refine (step_is 2 0 8 HM.out aw2.1 aw2.2.1 aw2.2.2).mono ?_
  rintro e w3 ⟨rfl, hM2, hg2⟩
  replace HM := hide hM2
  replace Hb := hide (HS.out _ M HM0.out Hb.out _ hg2)
  clear hM2 hg2
  go_wp2_with fail
  refine (step_is 3 0 9 HM.out aw3.1 aw3.2.1 aw3.2.2).mono ?_
  rintro e w4 ⟨rfl, hM2, hg2⟩
  replace HM := hide hM2
  replace Hb := hide (HS.out _ M HM0.out Hb.out _ hg2)
  clear hM2 hg2
  go_wp2_with fail
  refine (step_is 12 4 2 HM.out aw4.1 aw4.2.1 aw4.2.2).mono ?_
  rintro e w5 ⟨rfl, hM2, hg2⟩
  replace HM := hide hM2
  replace Hb := hide (HS.out _ M HM0.out Hb.out _ hg2)
  clear hM2 hg2
  have MD := hide (mode_any w5 M 12 4 HM.out)
  have LA := hide (latch_any w5 M 12 4 HM.out)
  have ST := hide (step_is 12 4 (-1) HM.out aw5.1 aw5.2.1 aw5.2.2)
  go_wp2_with (first | (go_at_call 18; refine MD.out.mono ?_; rintro e w6 ⟨rfl, hw6⟩; obtain rfl := hw6.symm) | (go_at_call 19; refine LA.out.mono ?_; rintro e w6 ⟨rfl, hw6⟩; obtain rfl := hw6.symm) | (go_at_call 16; refine ST.out.mono ?_; rintro e w7 ⟨rfl, hM2, hg2⟩; have Hb7 := hide (HS.out _ M HM0.out Hb.out _ hg2); clear hM2 hg2))
  go_ret
  exact ⟨rfl, Hb7.out⟩
set_option maxHeartbeats 1000000 in
theorem ModesNil_walk (a : Int) (w : World) : Calls Try.prog 7 #[.int .i64 a] w fun e w' => e = .returned (.bool true) ∧ Below w.heap.size w w' := by
  have AW := hide awakeO
  go_enter Try.func7, Try.ntmps7
  go_wp2_with (first | (go_at_call 16; refine (step_nil _ _).mono ?_; rintro e w6 ⟨rfl, hw6⟩; obtain rfl := hw6.symm) | (go_at_call 18; refine (mode_nil _).mono ?_; rintro e w6 ⟨rfl, hw6⟩; obtain rfl := hw6.symm) | (go_at_call 19; refine (latch_nil _).mono ?_; rintro e w6 ⟨rfl, hw6⟩; obtain rfl := hw6.symm) | (go_at_call 14; refine (AW.out _).mono ?_; rintro e w5 ⟨rfl, hb5⟩; have Hb5 := hide hb5; clear hb5))
  go_ret
  exact ⟨rfl, Hb5.out⟩
end Go.Proofs.Ythheekneanhmkaa
