/- Package nor: Image, Read, Steps, On, Cut. -/
import Derived.Test.YtcjahdgppnmdkaaNo4
set_option maxRecDepth 100000
namespace Go.Proofs.Ytcjahdgppnmdkaa
open Go.RowKit Go.Great

theorem image_nil (w : World) : Calls Try.prog 26 #[.pointer none] w fun e w' => e = .returned (.string ⟨#[]⟩) ∧ w' = w := by
  go_enter Try.func26, Try.ntmps26
  go_wp2
  go_ret
  exact ⟨rfl, rfl⟩
theorem image_any (w : World) (R : Nat) (σ : St) (h : Fl w R σ) : Calls Try.prog 26 #[fp R] w fun e w' => e = .returned (.string (bs σ.C)) ∧ w' = w := by
  have T := told_any w ⟨R, 0, none⟩ 8192 σ.C (fun j hj => by rw [Addr.add0]; exact h.cell j hj)
  rw [h.len] at T
  go_enter Try.func26, Try.ntmps26
  go_wp2_with fail
  refine T.mono ?_
  rintro e w1 ⟨rfl, rfl⟩
  go_wp2_with fail
  go_ret
  exact ⟨rfl, rfl⟩
theorem steps_nil (w : World) : Calls Try.prog 25 #[.pointer none] w fun e w' => e = .returned (.int .i64 0) ∧ w' = w := by
  go_enter Try.func25, Try.ntmps25
  go_wp2
  go_ret
  exact ⟨rfl, rfl⟩
theorem steps_any (w : World) (R : Nat) (σ : St) (h : Fl w R σ) : Calls Try.prog 25 #[fp R] w fun e w' => e = .returned (.int .i64 σ.st) ∧ w' = w := by
  have h1 := h.c1
  go_enter Try.func25, Try.ntmps25
  go_wp2
  go_ret
  exact ⟨rfl, rfl⟩
theorem on_nil (w : World) : Calls Try.prog 28 #[.pointer none] w fun e w' => e = .returned (.tuple #[]) ∧ w' = w := by
  go_enter Try.func28, Try.ntmps28
  go_wp2
  refine bodyPost_ret (results_none rfl _ _ _) rfl ?_
  exact ⟨rfl, rfl⟩
def onS (σ : St) : St := { σ with off := false, ar := false, lf := 0, jk := ⟨#[]⟩ }
theorem on_any (w : World) (R : Nat) (σ : St) (h : Fl w R σ) : Calls Try.prog 28 #[fp R] w fun e w' => e = .returned (.tuple #[]) ∧ Fl w' R (onS σ) ∧ Kept R w w' := by
  have h0 := h.c0
  have h2 := h.c2
  have h3 := h.c3
  have h4 := h.c4
  have f0 := h.frozen 8192
  have f2 := h.frozen 8194
  have f3 := h.frozen 8195
  have f4 := h.frozen 8196
  go_enter Try.func28, Try.ntmps28
  go_wp2
  go_end0
  exact ⟨rfl, (((h.s0 false).s2 false).s3 0).s4 ⟨#[]⟩, ((((Kept.refl _ _).set _ _).set _ _).set _ _).set _ _⟩
/-- what Read answers -/
def readR (σ : St) (a n : Int) : ByteArray × Int :=
  if σ.off then (⟨#[]⟩, 60) else if insideB a n then (bs ((σ.C.drop a.toNat).take n.toNat), 0) else (⟨#[]⟩, 1)
theorem read_nil (w : World) (a n : Int) : Calls Try.prog 39 #[.pointer none, .int .i64 a, .int .i64 n] w fun e w' => e = .returned (.tuple #[.string ⟨#[]⟩, .int .i64 2]) ∧ w' = w := by
  go_enter Try.func39, Try.ntmps39
  go_wp2_with fail
  refine (ready_nil w).mono ?_
  rintro e w1 ⟨rfl, rfl⟩
  go_wp2_with fail
  go_ret2
  exact ⟨rfl, rfl⟩
theorem cut_cells (R a n : Nat) (hi : a + n ≤ 8192) : ∃ X, (n = 0 ∨ X = (⟨R, a, none⟩ : Addr)) ∧ ∀ w, (Instr.sliceAt 96 (.pointer (some ⟨R, 0, none⟩)) (some (.int .i64 (a : Int))) (some (.int .i64 ((a : Int) + (n : Int)))) none).run Try.prog w = .ok (.slice (some X) n (8192 - a)) w := by
  refine ⟨if 8192 = a then ⟨R, 0, none⟩ else Addr.add ⟨R, 0, none⟩ (a * 1), ?_, fun w => ?_⟩
  · by_cases h : 8192 = a
    · exact .inl (by omega)
    · right; rw [if_neg h, Addr.add0, Nat.mul_one]
  · rw [run_sliceAt_array_lh w 96 ⟨R, 0, none⟩ (by kernel_rfl) .i64 .i64 (a : Int) ((a : Int) + (n : Int)) (by omega) (by omega) (by rw [show Try.prog.arrayLen 96 = 8192 by kernel_rfl]; omega)]
    rw [show Try.prog.arrayLen 96 = 8192 by kernel_rfl, show Try.prog.elem 96 = 5 by kernel_rfl, Try.sizeOf5]
    simp only [Result.andThen_ok, slicedAt]
    rw [show ((a : Int)).toNat = a by omega, show ((a : Int) + (n : Int)).toNat - a = n by omega]
theorem read_in (w : World) (R : Nat) (σ : St) (h : Fl w R σ) (ho : σ.off = false) (a n : Nat) (hi : a + n ≤ 8192) : Calls Try.prog 39 #[fp R, .int .i64 a, .int .i64 n] w fun e w' => e = .returned (.tuple #[.string (bs ((σ.C.drop a).take n)), .int .i64 0]) ∧ w' = w := by
  have S := ready_any w R σ h
  rw [ho] at S
  have I := inside_any w a n (by unfold I64; omega)
  rw [show insideB (a : Int) n = true by unfold insideB; apply decide_eq_true; omega] at I
  have hl : ((σ.C.drop a).take n).length = n := by rw [List.length_take, List.length_drop, h.len]; omega
  have T : ∀ x cap, (n = 0 ∨ x = ⟨R, a, none⟩) → Calls Try.prog 54 #[.slice (some x) n cap] w fun e w' => e = .returned (.string (bs ((σ.C.drop a).take n))) ∧ w' = w := by
    intro x cap hx
    have := told_any w x cap ((σ.C.drop a).take n) (fun j hj => by
      rw [hl] at hj
      rcases hx with hx | hx
      · omega
      · subst hx
        rw [Addr.addi, h.cell (a + j) (by rw [h.len]; omega)]
        simp)
    rw [hl] at this
    exact this
  go_enter Try.func39, Try.ntmps39
  go_wp2_with fail
  refine S.mono ?_
  rintro e w1 ⟨rfl, hw⟩
  obtain rfl := hw.symm
  clear hw
  go_wp2_with fail
  refine I.mono ?_
  rintro e w1 ⟨rfl, hw⟩
  obtain rfl := hw.symm
  clear hw
  clear S I
  obtain ⟨X, hX, hc⟩ := cut_cells R a n hi
  have T2 := T X (8192 - a) hX
  clear T hX
  go_wp2_with fail
  refine T2.mono ?_
  rintro e w1 ⟨rfl, rfl⟩
  go_wp2_with fail
  go_ret2
  exact ⟨rfl, rfl⟩
theorem read_off (w : World) (R : Nat) (σ : St) (h : Fl w R σ) (ho : σ.off = true) (a n : Int) : Calls Try.prog 39 #[fp R, .int .i64 a, .int .i64 n] w fun e w' => e = .returned (.tuple #[.string ⟨#[]⟩, .int .i64 60]) ∧ w' = w := by
  have S := ready_any w R σ h
  rw [ho] at S
  go_enter Try.func39, Try.ntmps39
  go_wp2_with fail
  refine S.mono ?_
  rintro e w1 ⟨rfl, rfl⟩
  go_wp2_with fail
  go_ret2
  exact ⟨rfl, rfl⟩
theorem read_out (w : World) (R : Nat) (σ : St) (h : Fl w R σ) (ho : σ.off = false) (a n : Int) (ha : I64 a) (hd : insideB a n = false) : Calls Try.prog 39 #[fp R, .int .i64 a, .int .i64 n] w fun e w' => e = .returned (.tuple #[.string ⟨#[]⟩, .int .i64 1]) ∧ w' = w := by
  have S := ready_any w R σ h
  rw [ho] at S
  have I := inside_any w a n ha
  rw [hd] at I
  go_enter Try.func39, Try.ntmps39
  go_wp2_with fail
  refine S.mono ?_
  rintro e w1 ⟨rfl, rfl⟩
  go_wp2_with fail
  refine I.mono ?_
  rintro e w1 ⟨rfl, rfl⟩
  go_wp2_with fail
  go_ret2
  exact ⟨rfl, rfl⟩
theorem read_any (w : World) (R : Nat) (σ : St) (h : Fl w R σ) (a n : Int) (ha : I64 a) : Calls Try.prog 39 #[fp R, .int .i64 a, .int .i64 n] w fun e w' => e = .returned (.tuple #[.string (readR σ a n).1, .int .i64 (readR σ a n).2]) ∧ w' = w := by
  unfold readR
  cases ho : σ.off
  · cases hi : insideB a n
    · exact read_out w R σ h ho a n ha hi
    · obtain ⟨h1, h2, h3⟩ := insideB_true hi
      obtain ⟨k, rfl⟩ := Int.eq_ofNat_of_zero_le h1
      obtain ⟨m, rfl⟩ := Int.eq_ofNat_of_zero_le h2
      exact read_in w R σ h ho k m (by omega)
  · exact read_off w R σ h ho a n
end Go.Proofs.Ytcjahdgppnmdkaa
