/- The small functions of package nor: ready, inside, around, told, step. -/
import Derived.Test.YtcjahdgppnmdkaaNo1
set_option maxRecDepth 100000
namespace Go.Proofs.Ytcjahdgppnmdkaa
open Go.RowKit Go.Great

abbrev fp (R : Nat) : Value := .pointer (some ⟨R, 0, none⟩)
theorem ready_nil (w : World) : Calls Try.prog 48 #[.pointer none] w fun e w' => e = .returned (.int .i64 2) ∧ w' = w := by
  go_enter Try.func48, Try.ntmps48
  go_wp2
  go_ret
  exact ⟨rfl, rfl⟩
theorem ready_any (w : World) (R : Nat) (σ : St) (h : Fl w R σ) : Calls Try.prog 48 #[fp R] w fun e w' => e = .returned (.int .i64 (if σ.off then 60 else 0)) ∧ w' = w := by
  have h0 := h.c0
  go_enter Try.func48, Try.ntmps48
  cases ho : σ.off <;> rw [ho] at h0
  · go_wp2
    go_ret
    exact ⟨rfl, rfl⟩
  · go_wp2
    go_ret
    exact ⟨rfl, rfl⟩
/-- are these cells? -/
def insideB (at_ n : Int) : Bool := decide (0 ≤ at_ ∧ 0 ≤ n ∧ at_ + n ≤ 8192)
theorem inside_any (w : World) (a n : Int) (ha : I64 a) : Calls Try.prog 64 #[.int .i64 a, .int .i64 n] w fun e w' => e = .returned (.bool (insideB a n)) ∧ w' = w := by
  unfold I64 at ha
  go_enter Try.func64, Try.ntmps64
  by_cases h1 : 0 ≤ a
  · by_cases h2 : 0 ≤ n
    · go_wp2
      go_ret
      refine ⟨ret_bool ?_, rfl⟩
      unfold insideB
      apply decide_eq_decide.2
      omega
    · go_wp2
      go_ret
      refine ⟨ret_bool ?_, rfl⟩
      simp [insideB]
      omega
  · go_wp2
    go_ret
    refine ⟨ret_bool ?_, rfl⟩
    simp [insideB]
    omega
/-- a junk's byte for the i-th cell -/
def arB (j : ByteArray) (i : Nat) : UInt8 := if j.size = 0 then 0 else j.data.toList.getD (i % j.size) 0
theorem around_any (w : World) (j : ByteArray) (i : Nat) (hj : j.size ≤ 9223372036854775807) (hi : i ≤ 9223372036854775807) : Calls Try.prog 107 #[.string j, .int .i64 i] w fun e w' => e = .returned (.int .u8 ((arB j i).toNat : Int)) ∧ w' = w := by
  go_enter Try.func107, Try.ntmps107
  by_cases h0 : j.size = 0
  · obtain rfl : j = ⟨#[]⟩ := by
      apply ByteArray.ext
      exact Array.eq_empty_of_size_eq_zero h0
    go_wp2
    go_ret
    exact ⟨rfl, rfl⟩
  · have hne : (j.toList == [] ) = false := by
      rw [ByteArray.toList_eq]
      cases hj : j.data.toList with
      | nil => exact absurd (by rw [← list_size, hj]; rfl) h0
      | cons a l => rfl
    have hr : ((i : Int).tmod (j.size : Int)) = ((i % j.size : Nat) : Int) := by
      rw [Int.tmod_eq_emod_of_nonneg (by omega)]; rfl
    have hlt : i % j.size < j.size := Nat.mod_lt _ (by omega)
    go_wp2
    go_ret
    refine ⟨ret_int ?_, rfl⟩
    unfold arB
    rw [if_neg h0, List.getD_eq_getElem?_getD, List.getElem?_eq_getElem (by rw [list_size]; exact hlt)]
    rfl
theorem told_any (w : World) (a : Addr) (cap : Nat) (l : List UInt8) (h : ∀ j (hj : j < l.length), w.cell? (a.add j) = some (.int .u8 (l[j].toNat : Int))) : Calls Try.prog 54 #[.slice (some a) l.length cap] w fun e w' => e = .returned (.string (bs l)) ∧ w' = w := by
  have hc : (convert 93 9 (.slice (some a) l.length cap)).run Try.prog w = .ok (.string (bs l)) w := run_convert_bytes_back _ 93 9 5 a cap l (by kernel_rfl) (by kernel_rfl) (by kernel_rfl) h
  go_enter Try.func54, Try.ntmps54
  go_wp2
  go_ret
  exact ⟨rfl, rfl⟩
/-- a step that begins -/
def stepS (σ : St) : St × ByteArray × Bool :=
  if σ.ar = true ∧ σ.lf = 0 then ({ σ with off := true, ar := false, lf := 0, jk := ⟨#[]⟩ }, σ.jk, false)
  else ({ σ with lf := if σ.ar then wrap64 (σ.lf - 1) else σ.lf, st := wrap64 (σ.st + 1) }, ⟨#[]⟩, true)
theorem step_any (w : World) (R : Nat) (σ : St) (h : Fl w R σ) : Calls Try.prog 106 #[fp R] w fun e w' => e = .returned (.tuple #[.string (stepS σ).2.1, .bool (stepS σ).2.2]) ∧ Fl w' R (stepS σ).1 ∧ Kept R w w' := by
  have h0 := h.c0
  have h1 := h.c1
  have h2 := h.c2
  have h3 := h.c3
  have h4 := h.c4
  have f0 := h.frozen 8192
  have f1 := h.frozen 8193
  have f2 := h.frozen 8194
  have f3 := h.frozen 8195
  have f4 := h.frozen 8196
  go_enter Try.func106, Try.ntmps106
  cases har : σ.ar <;> rw [har] at h2
  · have e : stepS σ = ({ σ with st := wrap64 (σ.st + 1) }, ⟨#[]⟩, true) := by simp [stepS, har]
    go_wp2
    go_ret2
    rw [e]
    exact ⟨rfl, h.s1 _, (Kept.refl _ _).set _ _⟩
  · by_cases hl : σ.lf = 0
    · have e : stepS σ = ({ σ with off := true, ar := false, lf := 0, jk := ⟨#[]⟩ }, σ.jk, false) := by simp [stepS, har, hl]
      rw [hl] at h3
      go_wp2
      go_ret2
      rw [e]
      exact ⟨rfl, (((h.s0 true).s2 false).s3 0).s4 ⟨#[]⟩, ((((Kept.refl _ _).set _ _).set _ _).set _ _).set _ _⟩
    · have e : stepS σ = ({ σ with lf := wrap64 (σ.lf - 1), st := wrap64 (σ.st + 1) }, ⟨#[]⟩, true) := by simp [stepS, har, hl]
      go_wp2
      go_ret2
      rw [e]
      exact ⟨rfl, (h.s3 _).s1 _, ((Kept.refl _ _).set _ _).set _ _⟩
theorem Addr.add0 (R i : Nat) : Addr.add ⟨R, 0, none⟩ i = ⟨R, i, none⟩ := by simp [Addr.add]; exact fun h => h.symm
theorem Addr.addi (R o i : Nat) : Addr.add ⟨R, o, none⟩ i = ⟨R, o + i, none⟩ := by unfold Addr.add; split <;> simp_all
end Go.Proofs.Ytcjahdgppnmdkaa
