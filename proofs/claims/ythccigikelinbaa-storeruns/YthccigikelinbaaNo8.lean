/- The closed examples. -/
import Derived.Test.YthccigikelinbaaNo7
namespace Go.Proofs.Ythccigikelinbaa
open Go.RowKit Go.Great

def s0 : St := st0 (List.replicate 8192 255)
def s1 : St := (progR s0 0 ⟨#[15, 240]⟩).1
def s2 : St := (cutR s1 1 ⟨#[60]⟩).1
def s3 : St := (progR s2 4096 ⟨#[0, 0, 0]⟩).1
def s4 : St := onS s3
theorem k1 : (progR s0 0 ⟨#[15, 240]⟩).2 = 0 := by kernel_rfl
theorem k2 : (cutR s1 1 ⟨#[60]⟩).2 = 0 := by kernel_rfl
theorem k3 : (progR s2 4096 ⟨#[0, 0, 0]⟩).2 = 60 := by kernel_rfl
theorem k4 : readR s3 0 1 = (⟨#[]⟩, 60) := by kernel_rfl
theorem k5 : readR s4 4096 3 = (⟨#[0, 60, 255]⟩, 0) := by kernel_rfl
theorem k6 : readR s4 0 3 = (⟨#[15, 240, 255]⟩, 0) := by kernel_rfl
theorem k7 : s4.st = 3 := by kernel_rfl
theorem k8 : s0.jk.size = 0 := by kernel_rfl
theorem k9 : s2.jk.size = 1 := by kernel_rfl
theorem i64_small (a : Int) (h : 0 ≤ a ∧ a ≤ 1000000) : I64 a := by unfold I64; omega
theorem aw1 (w : World) (R : Nat) (h : Fl w R s0) : Calls Try.prog 69 #[fp R, .int .i64 0, .string ⟨#[15, 240]⟩] w fun e w' => e = .returned (.int .i64 0) ∧ Fl w' R s1 ∧ Kept R w w' := by
  have := prog_any w R s0 h (by rw [k8]; omega) 0 (i64_small 0 (by omega)) ⟨#[15, 240]⟩
  rw [k1] at this
  exact this
theorem aw2 (w : World) (R : Nat) (h : Fl w R s1) : Calls Try.prog 16 #[fp R, .int .i64 1, .string ⟨#[60]⟩] w fun e w' => e = .returned (.int .i64 0) ∧ Fl w' R s2 ∧ Kept R w w' := by
  have := cut_any w R s1 h 1 ⟨#[60]⟩ (by show (1 : Nat) ≤ _; omega)
  rw [k2] at this
  exact this
theorem aw3 (w : World) (R : Nat) (h : Fl w R s2) : Calls Try.prog 69 #[fp R, .int .i64 4096, .string ⟨#[0, 0, 0]⟩] w fun e w' => e = .returned (.int .i64 60) ∧ Fl w' R s3 ∧ Kept R w w' := by
  have := prog_any w R s2 h (by rw [k9]; omega) 4096 (i64_small _ (by omega)) ⟨#[0, 0, 0]⟩
  rw [k3] at this
  exact this
theorem aw4 (w : World) (R : Nat) (h : Fl w R s3) : Calls Try.prog 27 #[fp R, .int .i64 0, .int .i64 1] w fun e w' => e = .returned (.tuple #[.string ⟨#[]⟩, .int .i64 60]) ∧ w' = w := by
  have := read_any w R s3 h 0 1 (i64_small _ (by omega))
  rw [k4] at this
  exact this
theorem aw5 (w : World) (R : Nat) (h : Fl w R s4) : Calls Try.prog 27 #[fp R, .int .i64 4096, .int .i64 3] w fun e w' => e = .returned (.tuple #[.string ⟨#[0, 60, 255]⟩, .int .i64 0]) ∧ w' = w := by
  have := read_any w R s4 h 4096 3 (i64_small _ (by omega))
  rw [k5] at this
  exact this
theorem aw6 (w : World) (R : Nat) (h : Fl w R s4) : Calls Try.prog 27 #[fp R, .int .i64 0, .int .i64 3] w fun e w' => e = .returned (.tuple #[.string ⟨#[15, 240, 255]⟩, .int .i64 0]) ∧ w' = w := by
  have := read_any w R s4 h 0 3 (i64_small _ (by omega))
  rw [k6] at this
  exact this
theorem aw7 (w : World) (R : Nat) (h : Fl w R s4) : Calls Try.prog 21 #[fp R] w fun e w' => e = .returned (.int .i64 3) ∧ w' = w := by
  have := steps_any w R s4 h
  rw [k7] at this
  exact this
theorem aw8 (w : World) (R : Nat) (σ : St) (h : Fl w R σ) : ∃ t : ByteArray, ((t.size : Int) == 8192) = true ∧ bs σ.C = t ∧ Calls Try.prog 22 #[fp R] w fun e w' => e = .returned (.string t) ∧ w' = w := by
  refine ⟨bs σ.C, ?_, rfl, image_any w R σ h⟩
  rw [bs_size, h.len]
  rfl
end Go.Proofs.Ythccigikelinbaa
