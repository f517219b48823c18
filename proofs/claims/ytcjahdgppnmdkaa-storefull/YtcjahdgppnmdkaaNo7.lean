/- Package nor: Cut. -/
import Derived.Test.YtcjahdgppnmdkaaNo6
import Derived.Laws.Externs
import Derived.Shelf.Strconv.Clone
set_option maxRecDepth 100000
namespace Go.Proofs.Ytcjahdgppnmdkaa
open Go.RowKit Go.Great

/-- the library's contract of internal/stringslite.Clone, at this dump's numbers -/
def cloneRen : Go.Shelf.Ren := ⟨fun | 316 => 74 | n => n, fun | 0 => 0 | 3 => 3 | 4 => 4 | 9 => 9 | 37 => 93 | 127 => 156 | 5 => 5 | n => n, fun | n => n⟩
theorem cloneLays : Go.Proofs.LaysM.n316 Try.prog cloneRen := {
  mixed := by kernel_rfl
  f316 := Try.func74.trans (congrArg some (by kernel_rfl))
  t0 := Try.underlying0
  a0 := Try.isAgg0
  z0 := Try.sizeOf0
  v0 := Try.zeroValue0
  t3 := Try.underlying3
  a3 := Try.isAgg3
  z3 := Try.sizeOf3
  v3 := Try.zeroValue3
  t4 := Try.underlying4
  a4 := Try.isAgg4
  z4 := Try.sizeOf4
  v4 := Try.zeroValue4
  t9 := Try.underlying9
  a9 := Try.isAgg9
  z9 := Try.sizeOf9
  v9 := Try.zeroValue9
  t37 := Try.underlying93
  a37 := Try.isAgg93
  z37 := Try.sizeOf93
  v37 := Try.zeroValue93
  t127 := Try.underlying156
  a127 := Try.isAgg156
  z127 := Try.sizeOf156
  v127 := Try.zeroValue156
  t5 := Try.underlying5
  a5 := Try.isAgg5
  z5 := Try.sizeOf5
  v5 := Try.zeroValue5
  i0 := by kernel_rfl
  i3 := by kernel_rfl
  i4 := by kernel_rfl
  i9 := by kernel_rfl
  i37 := by kernel_rfl
  i127 := by kernel_rfl
  i5 := by kernel_rfl }
theorem clone_own (s : ByteArray) (w : World) (hlim : s.size ≤ 281474976710656) : Calls Try.prog 74 #[.string s] w fun e w' => e = .returned (.string s) ∧ Below w.heap.size w w' := Any.stringslite_Clone cloneLays s w hlim
theorem clone_any (s : ByteArray) (w : World) (hlim : s.size ≤ 281474976710656) : Calls Try.prog 49 #[.string s] w fun e w' => e = .returned (.string s) ∧ Below w.heap.size w w' := by
  go_enter Try.func49, Try.ntmps49
  go_wp2_with fail
  refine (clone_own s _ hlim).mono ?_
  rintro e w1 ⟨rfl, h1⟩
  go_wp2_with fail
  go_ret
  exact ⟨rfl, h1⟩
/-- what is kept of a cut's junk -/
def jkS (j : ByteArray) : ByteArray := j.extract 0 (min j.size 4096)
theorem jkS_size (j : ByteArray) : (jkS j).size ≤ 4096 := by
  unfold jkS; rw [ByteArray.size_extract]; omega
def cutR (σ : St) (n : Int) (j : ByteArray) : St × Int :=
  if σ.off then (σ, 60) else if n < 0 then (σ, 1) else ({ σ with ar := true, lf := n, jk := jkS j }, 0)
theorem cut_nil (w : World) (n : Int) (j : ByteArray) : Calls Try.prog 20 #[.pointer none, .int .i64 n, .string j] w fun e w' => e = .returned (.int .i64 2) ∧ w' = w := by
  go_enter Try.func20, Try.ntmps20
  go_wp2_with fail
  refine (ready_nil w).mono ?_
  rintro e w1 ⟨rfl, rfl⟩
  go_wp2_with fail
  go_ret
  exact ⟨rfl, rfl⟩
theorem cut_off (w : World) (R : Nat) (σ : St) (h : Fl w R σ) (ho : σ.off = true) (n : Int) (j : ByteArray) : Calls Try.prog 20 #[fp R, .int .i64 n, .string j] w fun e w' => e = .returned (.int .i64 60) ∧ w' = w := by
  have S := ready_any w R σ h
  rw [ho] at S
  go_enter Try.func20, Try.ntmps20
  go_wp2_with fail
  refine S.mono ?_
  rintro e w1 ⟨rfl, rfl⟩
  go_wp2_with fail
  go_ret
  exact ⟨rfl, rfl⟩
theorem cut_out (w : World) (R : Nat) (σ : St) (h : Fl w R σ) (ho : σ.off = false) (n : Int) (hn : n < 0) (j : ByteArray) : Calls Try.prog 20 #[fp R, .int .i64 n, .string j] w fun e w' => e = .returned (.int .i64 1) ∧ w' = w := by
  have S := ready_any w R σ h
  rw [ho] at S
  go_enter Try.func20, Try.ntmps20
  go_wp2_with fail
  refine S.mono ?_
  rintro e w1 ⟨rfl, rfl⟩
  go_wp2_with fail
  go_ret
  exact ⟨rfl, rfl⟩
theorem cut_in (w : World) (R : Nat) (σ : St) (h : Fl w R σ) (ho : σ.off = false) (n : Int) (hn : 0 ≤ n) (j : ByteArray) (hj : j.size ≤ 9223372036854775807) : Calls Try.prog 20 #[fp R, .int .i64 n, .string j] w fun e w' => e = .returned (.int .i64 0) ∧ Fl w' R { σ with ar := true, lf := n, jk := jkS j } ∧ Kept R w w' := by
  obtain ⟨t, ht⟩ : ∃ t, Hid (jkS j = t) := ⟨_, hide rfl⟩
  rw [ht.out]
  have S := ready_any w R σ h
  rw [ho] at S
  go_enter Try.func20, Try.ntmps20
  go_wp2_with fail
  refine S.mono ?_
  rintro e w1 ⟨rfl, hw⟩
  obtain rfl := hw.symm
  clear hw S
  go_wp2_with fail
  have e1 : j.extract 0 (min (j.size : Int) 4096).toNat = t := by
    rw [← ht.out, jkS, show (min (j.size : Int) 4096).toNat = min j.size 4096 by omega]
  have hts : t.size ≤ 4096 := by rw [← ht.out]; exact jkS_size j
  rw [e1]
  refine (clone_any t w (by omega)).mono ?_
  rintro e w1 ⟨rfl, b1⟩
  have hF := h.below b1
  have h2 := hF.c2
  have h3 := hF.c3
  have h4 := hF.c4
  have f2 := hF.frozen 8194
  have f3 := hF.frozen 8195
  have f4 := hF.frozen 8196
  go_wp2_with fail
  go_ret
  exact ⟨rfl, ((hF.s2 true).s3 n).s4 t, ((((Kept.refl _ _).below b1).set _ _).set _ _).set _ _⟩
theorem cut_any (w : World) (R : Nat) (σ : St) (h : Fl w R σ) (n : Int) (j : ByteArray) (hj : j.size ≤ 9223372036854775807) : Calls Try.prog 20 #[fp R, .int .i64 n, .string j] w fun e w' => e = .returned (.int .i64 (cutR σ n j).2) ∧ Fl w' R (cutR σ n j).1 ∧ Kept R w w' := by
  unfold cutR
  cases ho : σ.off
  · by_cases hi : n < 0
    · simp only [if_pos hi, Bool.false_eq_true, if_false]
      refine (cut_out w R σ h ho n hi j).mono ?_
      rintro e w1 ⟨rfl, rfl⟩
      exact ⟨rfl, h, Kept.refl _ _⟩
    · simp only [if_neg hi, Bool.false_eq_true, if_false]
      have := cut_in w R σ h ho n (by omega) j hj
      rw [ho] at this
      exact this
  · refine (cut_off w R σ h ho n j).mono ?_
    rintro e w1 ⟨rfl, rfl⟩
    exact ⟨rfl, h, Kept.refl _ _⟩
end Go.Proofs.Ytcjahdgppnmdkaa
