/- The reference's flash: Image, Read, step, junk, Cut, On. -/
import Derived.Test.YthccigikelinbaaRf1
namespace Go.Proofs.Ythccigikelinbaa
open Go.RowKit Go.Great

theorem rimage_any (w : World) (X D cap : Nat) (ρ : St) (h : Rf w X D cap ρ) : Calls Try.prog 32 #[fp X] w fun e w' => e = .returned (.string (bs ρ.C)) ∧ w' = w := by
  have c0 := h.c0
  have hc : (convert 77 9 (.slice (some ⟨D, 0, none⟩) ρ.C.length cap)).run Try.prog w = .ok (.string (bs ρ.C)) w := run_convert_bytes_back _ 77 9 5 ⟨D, 0, none⟩ cap ρ.C (by kernel_rfl) (by kernel_rfl) (by kernel_rfl) (fun j hj => by rw [Addr.add0]; exact (h.row j hj).1)
  go_enter Try.func32, Try.ntmps32
  go_wp2
  go_ret
  exact ⟨rfl, rfl⟩
theorem range_any (w : World) (a n : Int) (ha : I64 a) : Calls Try.prog 68 #[.int .i64 a, .int .i64 n] w fun e w' => e = .returned (.bool (insideB a n)) ∧ w' = w := by
  unfold I64 at ha
  go_enter Try.func68, Try.ntmps68
  by_cases h1 : 0 ≤ a
  · by_cases h2 : 0 ≤ n
    · by_cases h3 : a ≤ 8192
      · go_wp2
        go_ret
        refine ⟨ret_bool ?_, rfl⟩
        unfold insideB
        apply decide_eq_decide.2
        omega
      · go_wp2
        go_ret
        refine ⟨ret_bool ?_, rfl⟩
        unfold insideB
        symm
        apply decide_eq_false
        omega
    · go_wp2
      go_ret
      refine ⟨ret_bool ?_, rfl⟩
      simp [insideB]
      omega
  · go_wp2
    go_ret
    refine ⟨ret_bool ?_, rfl⟩
    simp [insideB]
    omega
theorem rjunk_any (w : World) (j : ByteArray) (i : Nat) (hj : j.size ≤ 9223372036854775807) (hi : i ≤ 9223372036854775807) : Calls Try.prog 67 #[.string j, .int .i64 i] w fun e w' => e = .returned (.int .u8 ((arB j i).toNat : Int)) ∧ w' = w := by
  go_enter Try.func67, Try.ntmps67
  by_cases h0 : j.size = 0
  · have e : arB j i = 0 := by unfold arB; rw [if_pos h0]
    rw [e]
    go_wp2
    go_ret
    exact ⟨rfl, rfl⟩
  · have hne : ((j.size : Int) == 0) = false := beq_eq_false_iff_ne.2 (by omega)
    have hr : ((i : Int).tmod (j.size : Int)) = ((i % j.size : Nat) : Int) := by
      rw [Int.tmod_eq_emod_of_nonneg (by omega)]; rfl
    have hlt : i % j.size < j.size := Nat.mod_lt _ (by omega)
    go_wp2
    go_ret
    refine ⟨ret_int ?_, rfl⟩
    unfold arB
    rw [if_neg h0, List.getD_eq_getElem?_getD, List.getElem?_eq_getElem (by rw [list_size]; exact hlt)]
    rfl
/-- the reference's step -/
def stepR (ρ : St) : St × Bool :=
  if ρ.ar = true ∧ ρ.lf = 0 then ({ ρ with off := true, ar := false }, false)
  else ({ ρ with lf := if ρ.ar then wrap64 (ρ.lf - 1) else ρ.lf, st := wrap64 (ρ.st + 1) }, true)
theorem rstep_any (w : World) (X D cap : Nat) (ρ : St) (h : Rf w X D cap ρ) : Calls Try.prog 66 #[fp X] w fun e w' => e = .returned (.bool (stepR ρ).2) ∧ Rf w' X D cap (stepR ρ).1 ∧ Kept2 X D w w' := by
  have h1 := h.c1
  have h2 := h.c2
  have h3 := h.c3
  have h5 := h.c5
  have f1 := h.fz 1
  have f2 := h.fz 2
  have f3 := h.fz 3
  have f5 := h.fz 5
  go_enter Try.func66, Try.ntmps66
  cases har : ρ.ar <;> rw [har] at h2
  · have e : stepR ρ = ({ ρ with st := wrap64 (ρ.st + 1) }, true) := by simp [stepR, har]
    go_wp2
    go_ret
    rw [e]
    exact ⟨rfl, h.s5 _, (Kept2.refl _ _ _).setX _ _⟩
  · by_cases hl : ρ.lf = 0
    · have e : stepR ρ = ({ ρ with off := true, ar := false }, false) := by simp [stepR, har, hl]
      rw [hl] at h3
      go_wp2
      go_ret
      rw [e]
      exact ⟨rfl, (h.s1 true).s2 false, ((Kept2.refl _ _ _).setX _ _).setX _ _⟩
    · have e : stepR ρ = ({ ρ with lf := wrap64 (ρ.lf - 1), st := wrap64 (ρ.st + 1) }, true) := by simp [stepR, har, hl]
      go_wp2
      go_ret
      rw [e]
      exact ⟨rfl, (h.s3 _).s5 _, ((Kept2.refl _ _ _).setX _ _).setX _ _⟩
def onR (ρ : St) : St := { ρ with off := false, ar := false }
theorem ron_any (w : World) (X D cap : Nat) (ρ : St) (h : Rf w X D cap ρ) : Calls Try.prog 28 #[fp X] w fun e w' => e = .returned (.tuple #[]) ∧ Rf w' X D cap (onR ρ) ∧ Kept2 X D w w' := by
  have h1 := h.c1
  have h2 := h.c2
  have f1 := h.fz 1
  have f2 := h.fz 2
  go_enter Try.func28, Try.ntmps28
  go_wp2
  go_end0
  exact ⟨rfl, (h.s1 false).s2 false, ((Kept2.refl _ _ _).setX _ _).setX _ _⟩
def cutRR (ρ : St) (n : Int) (j : ByteArray) : St × Int :=
  if ρ.off then (ρ, 60) else if n < 0 then (ρ, 1) else ({ ρ with ar := true, lf := n, jk := j }, 0)
theorem rcut_any (w : World) (X D cap : Nat) (ρ : St) (h : Rf w X D cap ρ) (n : Int) (j : ByteArray) : Calls Try.prog 31 #[fp X, .int .i64 n, .string j] w fun e w' => e = .returned (.int .i64 (cutRR ρ n j).2) ∧ Rf w' X D cap (cutRR ρ n j).1 ∧ Kept2 X D w w' := by
  have h1 := h.c1
  have h2 := h.c2
  have h3 := h.c3
  have h4 := h.c4
  have f2 := h.fz 2
  have f3 := h.fz 3
  have f4 := h.fz 4
  cases ho : ρ.off <;> rw [ho] at h1
  · by_cases hn : n < 0
    · rw [show cutRR ρ n j = (ρ, 1) by unfold cutRR; rw [ho, if_neg (by decide), if_pos hn]]
      clear ho
      go_enter Try.func31, Try.ntmps31
      go_wp2
      go_ret
      exact ⟨rfl, h, Kept2.refl _ _ _⟩
    · rw [show cutRR ρ n j = ({ ρ with ar := true, lf := n, jk := j }, 0) by unfold cutRR; rw [ho, if_neg (by decide), if_neg hn]]
      clear ho
      go_enter Try.func31, Try.ntmps31
      go_wp2
      go_ret
      exact ⟨rfl, ((h.s2 true).s3 n).s4 j, (((Kept2.refl _ _ _).setX _ _).setX _ _).setX _ _⟩
  · rw [show cutRR ρ n j = (ρ, 60) by unfold cutRR; rw [ho, if_pos rfl]]
    clear ho
    go_enter Try.func31, Try.ntmps31
    go_wp2
    go_ret
    exact ⟨rfl, h, Kept2.refl _ _ _⟩
/-- a piece of a row -/
theorem cut_row (D n cap a k : Nat) (hi : a + k ≤ n) (hc : n ≤ cap) : ∃ Y c, (k = 0 ∨ Y = (⟨D, a, none⟩ : Addr)) ∧ ∀ w, (Instr.slice 77 (.slice (some ⟨D, 0, none⟩) n cap) (some (.int .i64 (a : Int))) (some (.int .i64 ((a : Int) + (k : Int)))) none).run Try.prog w = .ok (.slice (some Y) k c) w := by
  refine ⟨if cap = a then ⟨D, 0, none⟩ else Addr.add ⟨D, 0, none⟩ (a * 1), cap - a, ?_, fun w => ?_⟩
  · by_cases h : cap = a
    · exact .inl (by omega)
    · right; rw [if_neg h, Addr.add0, Nat.mul_one]
  · rw [run_slice_lh w 77 (some ⟨D, 0, none⟩) n cap (by kernel_rfl) .i64 .i64 (a : Int) ((a : Int) + (k : Int)) (by omega) (by omega) (by omega)]
    rw [show Try.prog.elem 77 = 5 by kernel_rfl, Try.sizeOf5]
    simp only [Result.andThen_ok, sliced]
    rw [show ((a : Int)).toNat = a by omega, show ((a : Int) + (k : Int)).toNat - a = k by omega]
    by_cases h : cap = a
    · rw [if_pos h, if_pos h]
    · rw [if_neg h, if_neg h]; rfl
end Go.Proofs.Ythccigikelinbaa
