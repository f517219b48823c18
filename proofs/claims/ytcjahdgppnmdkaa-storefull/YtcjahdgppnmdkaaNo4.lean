/- Package nor: Program. -/
import Derived.Test.YtcjahdgppnmdkaaNo3
set_option maxRecDepth 100000
namespace Go.Proofs.Ytcjahdgppnmdkaa
open Go.RowKit Go.Great

theorem progB_jk (σ : St) (i : Nat) (b : UInt8) (h : σ.jk.size ≤ 4096) : (progB σ i b).1.jk.size ≤ 4096 := by
  have : (stepS σ).1.jk.size ≤ 4096 := by
    unfold stepS; split
    · show (0 : Nat) ≤ _; omega
    · exact h
  unfold progB; split <;> exact this
/-- bytes that are programmed -/
def progS (σ : St) (a : Nat) : List UInt8 → St × Bool
  | [] => (σ, true)
  | b :: t => if (progB σ a b).2 then progS (progB σ a b).1 (a + 1) t else ((progB σ a b).1, false)
def progR (σ : St) (a : Int) (d : ByteArray) : St × Int :=
  if σ.off then (σ, 60) else if insideB a d.size then ((progS σ a.toNat d.data.toList).1, if (progS σ a.toNat d.data.toList).2 then 0 else 60) else (σ, 1)
theorem prog_nil (w : World) (a : Int) (d : ByteArray) : Calls Try.prog 96 #[.pointer none, .int .i64 a, .string d] w fun e w' => e = .returned (.int .i64 2) ∧ w' = w := by
  go_enter Try.func96, Try.ntmps96
  go_wp2_with fail
  refine (ready_nil w).mono ?_
  rintro e w1 ⟨rfl, rfl⟩
  go_wp2_with fail
  go_ret
  exact ⟨rfl, rfl⟩
theorem prog_off (w : World) (R : Nat) (σ : St) (h : Fl w R σ) (ho : σ.off = true) (a : Int) (d : ByteArray) : Calls Try.prog 96 #[fp R, .int .i64 a, .string d] w fun e w' => e = .returned (.int .i64 60) ∧ w' = w := by
  have S := ready_any w R σ h
  rw [ho] at S
  go_enter Try.func96, Try.ntmps96
  go_wp2_with fail
  refine S.mono ?_
  rintro e w1 ⟨rfl, rfl⟩
  go_wp2_with fail
  go_ret
  exact ⟨rfl, rfl⟩
theorem prog_out (w : World) (R : Nat) (σ : St) (h : Fl w R σ) (ho : σ.off = false) (a : Int) (ha : I64 a) (d : ByteArray) (hd : insideB a d.size = false) : Calls Try.prog 96 #[fp R, .int .i64 a, .string d] w fun e w' => e = .returned (.int .i64 1) ∧ w' = w := by
  have S := ready_any w R σ h
  rw [ho] at S
  have I := inside_any w a d.size ha
  rw [hd] at I
  go_enter Try.func96, Try.ntmps96
  go_wp2_with fail
  refine S.mono ?_
  rintro e w1 ⟨rfl, rfl⟩
  go_wp2_with fail
  refine I.mono ?_
  rintro e w1 ⟨rfl, rfl⟩
  go_wp2_with fail
  go_ret
  exact ⟨rfl, rfl⟩
theorem prog_in (w : World) (R : Nat) (σ : St) (h : Fl w R σ) (hj : σ.jk.size ≤ 4096) (ho : σ.off = false) (a : Nat) (d : ByteArray) (hd : a + d.size ≤ 8192) : Calls Try.prog 96 #[fp R, .int .i64 a, .string d] w fun e w' => e = .returned (.int .i64 (if (progS σ a d.data.toList).2 then 0 else 60)) ∧ Fl w' R (progS σ a d.data.toList).1 ∧ Kept R w w' := by
  have S := ready_any w R σ h
  rw [ho] at S
  have I := inside_any w a d.size (by unfold I64; omega)
  rw [show insideB (a : Int) d.size = true by unfold insideB; apply decide_eq_true; omega] at I
  obtain ⟨⟨ρf, okf⟩, hr⟩ : ∃ r, Hid (progS σ a d.data.toList = r) := ⟨_, hide rfl⟩
  rw [hr.out]
  simp only
  obtain ⟨v, hv⟩ : ∃ v : Int, Hid ((if okf then 0 else 60) = v) := ⟨_, hide rfl⟩
  rw [show (if okf = true then (0 : Int) else 60) = v from hv.out]
  go_enter Try.func96, Try.ntmps96
  go_wp2_with fail
  refine S.mono ?_
  rintro e w1 ⟨rfl, hw⟩
  obtain rfl := hw.symm
  clear hw
  go_wp2_with fail
  refine I.mono ?_
  rintro e w1 ⟨rfl, hw⟩
  obtain rfl := hw.symm
  clear hw
  clear S I
  go_wp2_with fail
  go_loopw [22] (fun v wr => ∃ i τ, v = .int .i64 ((i : Nat) : Int) ∧ i ≤ d.size ∧ Fl wr R τ ∧ Kept R w wr ∧ τ.jk.size ≤ 4096 ∧ Hid (progS σ a d.data.toList = progS τ (a + i) (d.data.toList.drop i))) (fun v _ => d.size - (intOf v).toNat)
  case atStart => exact ⟨0, σ, rfl, Nat.zero_le _, h, Kept.refl _ _, hj, hide rfl⟩
  case round =>
    obtain ⟨i, τ, rfl, hi, hF, hK, hj2, hE⟩ := hrel
    by_cases hlt : i < d.size
    · have hb : d.data.toList.drop i = d[i] :: d.data.toList.drop (i + 1) := by
        rw [List.drop_eq_getElem_cons (by rw [list_size]; exact hlt)]; rfl
      have P := progB_any wr R τ hF (by omega) (a + i) (by omega) d[i]
      have hj3 := progB_jk τ (a + i) d[i] hj2
      have hE2 : Hid (progS σ a d.data.toList = if (progB τ (a + i) d[i]).2 then progS (progB τ (a + i) d[i]).1 (a + i + 1) (d.data.toList.drop (i + 1)) else ((progB τ (a + i) d[i]).1, false)) := by
        show _ = _
        rw [hE.out, hb]; rfl
      clear hb hE hj2
      obtain ⟨⟨ρ, ok⟩, hr⟩ : ∃ r, progB τ (a + i) d[i] = r := ⟨_, rfl⟩
      rw [hr] at P hE2 hj3
      clear hr
      simp only at P hE2 hj3
      rw [show ((a + i : Nat) : Int) = (a : Int) + (i : Int) from by omega] at P
      cases ok
      · go_wp2_with fail
        refine P.mono ?_
        rintro e w1 ⟨rfl, h1, k1⟩
        go_wp2_with fail
        go_ret
        have := hE2.out
        simp only [Bool.false_eq_true, if_false] at this
        rw [hr.out] at this
        injection this with e1 e2
        subst e1 e2
        have e3 := hv.out
        subst e3
        exact ⟨rfl, h1, hK.trans k1⟩
      · go_wp2_with fail
        refine P.mono ?_
        rintro e w1 ⟨rfl, h1, k1⟩
        go_wp2_with fail
        go_roundw
        case rel => exact ⟨i + 1, ρ, by go_num, by omega, h1, hK.trans k1, hj3, hide (by rw [hE2.out]; rfl)⟩
        case measure => simp [intOf]; omega
    · obtain rfl : i = d.size := by omega
      have hE2 := hE.out
      rw [List.drop_of_length_le (by rw [list_size]; exact Nat.le_refl _)] at hE2
      have HE := hide hE2
      clear hE hE2
      go_wp2_with fail
      go_ret
      have := HE.out
      rw [hr.out] at this
      injection this with e1 e2
      subst e1 e2
      have e3 := hv.out
      subst e3
      exact ⟨rfl, hF, hK⟩
theorem insideB_true {a n : Int} (h : insideB a n = true) : 0 ≤ a ∧ 0 ≤ n ∧ a + n ≤ 8192 := of_decide_eq_true h
theorem prog_any (w : World) (R : Nat) (σ : St) (h : Fl w R σ) (hj : σ.jk.size ≤ 4096) (a : Int) (ha : I64 a) (d : ByteArray) : Calls Try.prog 96 #[fp R, .int .i64 a, .string d] w fun e w' => e = .returned (.int .i64 (progR σ a d).2) ∧ Fl w' R (progR σ a d).1 ∧ Kept R w w' := by
  unfold progR
  cases ho : σ.off
  · cases hi : insideB a d.size
    · refine (prog_out w R σ h ho a ha d hi).mono ?_
      rintro e w1 ⟨rfl, rfl⟩
      exact ⟨rfl, h, Kept.refl _ _⟩
    · obtain ⟨h1, h2, h3⟩ := insideB_true hi
      obtain ⟨k, rfl⟩ := Int.eq_ofNat_of_zero_le h1
      refine (prog_in w R σ h hj ho k d (by omega)).mono ?_
      rintro e w1 ⟨rfl, h1, h2⟩
      exact ⟨rfl, h1, h2⟩
  · refine (prog_off w R σ h ho a d).mono ?_
    rintro e w1 ⟨rfl, rfl⟩
    exact ⟨rfl, h, Kept.refl _ _⟩
end Go.Proofs.Ytcjahdgppnmdkaa
