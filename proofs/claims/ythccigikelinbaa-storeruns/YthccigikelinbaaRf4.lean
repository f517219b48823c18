/- The reference's flash: Erase. -/
import Derived.Test.YthccigikelinbaaRf3
namespace Go.Proofs.Ythccigikelinbaa
open Go.RowKit Go.Great

def eraseSR (ρ : St) (s : Nat) : St × Bool :=
  if (stepR ρ).2 then ({ (stepR ρ).1 with C := onL (stepR ρ).1.C (s * 4096) 4096 fun _ _ => 255 }, true)
  else ({ (stepR ρ).1 with C := onL (stepR ρ).1.C (s * 4096) 4096 fun i c => c ||| arB (stepR ρ).1.jk i }, false)
def eraseRR (ρ : St) (s : Int) : St × Int :=
  if ρ.off then (ρ, 60) else if s = 0 ∨ s = 1 then ((eraseSR ρ s.toNat).1, if (eraseSR ρ s.toNat).2 then 0 else 60) else (ρ, 1)
theorem rerase_off (w : World) (X D cap : Nat) (ρ : St) (h : Rf w X D cap ρ) (ho : ρ.off = true) (s : Int) : Calls Try.prog 50 #[fp X, .int .i64 s] w fun e w' => e = .returned (.int .i64 60) ∧ w' = w := by
  have c1 := h.c1
  rw [ho] at c1
  clear ho h
  go_enter Try.func50, Try.ntmps50
  go_wp2_with fail
  go_ret
  exact ⟨rfl, rfl⟩
theorem rerase_out (w : World) (X D cap : Nat) (ρ : St) (h : Rf w X D cap ρ) (ho : ρ.off = false) (s : Int) (hs : ¬ (s = 0 ∨ s = 1)) : Calls Try.prog 50 #[fp X, .int .i64 s] w fun e w' => e = .returned (.int .i64 1) ∧ w' = w := by
  have c1 := h.c1
  rw [ho] at c1
  have q0 : (s != 0) = true := by simp; omega
  have q1 : (s != 1) = true := by simp; omega
  clear ho h hs
  go_enter Try.func50, Try.ntmps50
  go_wp2_with fail
  go_ret
  exact ⟨rfl, rfl⟩
set_option maxHeartbeats 1000000 in
set_option maxRecDepth 100000 in
/-- sector s, q: whether the test for sector 0 says no -/
theorem rerase_whole (w : World) (X D cap : Nat) (μ : St) (s o : Nat) (c1 : w.cell? ⟨X, 1, none⟩ = some (.bool false)) (hs : (s : Int) * 4096 = (o : Int)) (ho : o ≤ 4096)
    (S : Calls Try.prog 66 #[fp X] w fun e w' => e = .returned (.bool true) ∧ Rf w' X D cap μ ∧ Kept2 X D w w')
    (hq : ((s : Int) != 0) = false ∨ (((s : Int) != 0) = true ∧ ((s : Int) != 1) = false)) :
    Calls Try.prog 50 #[fp X, .int .i64 s] w fun e w' => e = .returned (.int .i64 0) ∧ Rf w' X D cap { μ with C := onL μ.C o 4096 fun _ _ => 255 } ∧ Kept2 X D w w' := by
  obtain ⟨n, hn⟩ : ∃ n, Hid (n = 4096) := ⟨_, hide rfl⟩
  rw [show onL μ.C o 4096 = onL μ.C o n by rw [hn.out]]
  have hw2 : IntKind.i64.wrap (o : Int) = (o : Int) := by rw [IntKind.wrap_i64]; omega
  rcases hq with hq | ⟨hq, hq1⟩
  all_goals
    go_enter Try.func50, Try.ntmps50
    go_wp2_with fail
    refine S.mono ?_
    rintro e w1 ⟨rfl, h1, k1⟩
    clear S c1
    go_wp2_with fail
    go_loopw [6] (fun v wr => ∃ i : Nat, v = .int .i64 (i : Int) ∧ i ≤ n ∧ Rf wr X D cap { μ with C := onL μ.C o i fun _ _ => 255 } ∧ Kept2 X D w wr) (fun v _ => n - (intOf v).toNat)
    case atStart => exact ⟨0, rfl, Nat.zero_le _, by rw [onL_zero]; exact h1, k1⟩
    case round =>
      obtain ⟨i, rfl, hi, hF, hK⟩ := hrel
      by_cases hlt : i < n
      · have hdd : decide ((i : Int) < 4096) = true := decide_eq_true (by have := hn.out; omega)
        have hlen : (onL μ.C o i fun _ _ => (255 : UInt8)).length = 8192 := hF.len
        have hlC : μ.C.length = 8192 := (onL_length μ.C o i fun _ _ => 255).symm.trans hlen
        obtain ⟨c, hc⟩ : ∃ c : Nat, (o : Int) + (i : Int) = (c : Int) := ⟨o + i, by omega⟩
        have hcN : o + i = c := by omega
        have hcl : c < μ.C.length := by have := hn.out; omega
        have c0 := hF.c0
        obtain ⟨m, hm⟩ : ∃ m, μ.C.length = m := ⟨_, rfl⟩
        rw [show ({ μ with C := onL μ.C o i fun _ _ => 255 } : St).C.length = m from (onL_length μ.C o i fun _ _ => 255).trans hm] at c0
        rw [hm] at hcl
        obtain ⟨u, cD⟩ : ∃ u, wr.cell? ⟨D, c, none⟩ = some u := ⟨_, (hF.row c (by show c < (onL μ.C o i fun _ _ => 255).length; rw [onL_length, hm]; exact hcl)).1⟩
        have fD := (hF.row c (by show c < (onL μ.C o i fun _ _ => 255).length; rw [onL_length, hm]; exact hcl)).2
        have hm9 : m ≤ 8192 := by omega
        have hn9 : n ≤ 4096 := by have := hn.out; omega
        have b1 : (0 : Int) ≤ (c : Int) := by omega
        have b2 : (c : Int) < (m : Int) := by omega
        have HC := hide (And.intro hcN (And.intro hlC hm))
        clear hcN hlC hm hlen
        go_wp2_with fail
        go_roundw
        case rel =>
          refine ⟨i + 1, by go_num, by omega, ?_, hK.setD _ _⟩
          have e := hF.setD (o + i) 255
          have e2 : onL μ.C o (i + 1) (fun _ _ => 255) = (onL μ.C o i fun _ _ => 255).set (o + i) 255 := by
            rw [← onL_succ _ _ _ _ (by rw [HC.out.2.2, HC.out.1]; exact hcl)]
          rw [e2]
          rw [HC.out.1] at e ⊢
          exact e
        case measure => simp [intOf]; omega
      · obtain rfl : i = n := by omega
        have hdd : decide ((i : Int) < 4096) = false := decide_eq_false (by have := hn.out; omega)
        go_wp2_with fail
        go_ret
        exact ⟨rfl, hF, hK⟩
set_option maxHeartbeats 1000000 in
set_option maxRecDepth 100000 in
theorem rerase_part (w : World) (X D cap : Nat) (μ : St) (s o : Nat) (c1 : w.cell? ⟨X, 1, none⟩ = some (.bool false)) (hs : (s : Int) * 4096 = (o : Int)) (ho : o ≤ 4096) (hj : μ.jk.size ≤ 140737488351232)
    (S : Calls Try.prog 66 #[fp X] w fun e w' => e = .returned (.bool false) ∧ Rf w' X D cap μ ∧ Kept2 X D w w')
    (hq : ((s : Int) != 0) = false ∨ (((s : Int) != 0) = true ∧ ((s : Int) != 1) = false)) :
    Calls Try.prog 50 #[fp X, .int .i64 s] w fun e w' => e = .returned (.int .i64 60) ∧ Rf w' X D cap { μ with C := onL μ.C o 4096 fun i c => c ||| arB μ.jk i } ∧ Kept2 X D w w' := by
  obtain ⟨n, hn⟩ : ∃ n, Hid (n = 4096) := ⟨_, hide rfl⟩
  rw [show onL μ.C o 4096 = onL μ.C o n by rw [hn.out]]
  have hw2 : IntKind.i64.wrap (o : Int) = (o : Int) := by rw [IntKind.wrap_i64]; omega
  have HJ := hide hj
  clear hj
  rcases hq with hq | ⟨hq, hq1⟩
  all_goals
    go_enter Try.func50, Try.ntmps50
    go_wp2_with fail
    refine S.mono ?_
    rintro e w1 ⟨rfl, h1, k1⟩
    clear S c1
    go_wp2_with fail
    go_loopw [6] (fun v wr => ∃ i : Nat, v = .int .i64 (i : Int) ∧ i ≤ n ∧ Rf wr X D cap { μ with C := onL μ.C o i fun i c => c ||| arB μ.jk i } ∧ Kept2 X D w wr) (fun v _ => n - (intOf v).toNat)
    case atStart => exact ⟨0, rfl, Nat.zero_le _, by rw [onL_zero]; exact h1, k1⟩
    case round =>
      obtain ⟨i, rfl, hi, hF, hK⟩ := hrel
      by_cases hlt : i < n
      · have hdd : decide ((i : Int) < 4096) = true := decide_eq_true (by have := hn.out; omega)
        have hlen : (onL μ.C o i fun i c => c ||| arB μ.jk i).length = 8192 := hF.len
        have hlC : μ.C.length = 8192 := (onL_length μ.C o i fun i c => c ||| arB μ.jk i).symm.trans hlen
        obtain ⟨c, hc⟩ : ∃ c : Nat, (o : Int) + (i : Int) = (c : Int) := ⟨o + i, by omega⟩
        have hcN : o + i = c := by omega
        have hcl : c < μ.C.length := by have := hn.out; omega
        have c0 := hF.c0
        have c4 : wr.cell? ⟨X, 4, none⟩ = some (.string μ.jk) := hF.c4
        obtain ⟨x, hx⟩ : ∃ x, Hid (μ.C.getD (o + i) 0 = x) := ⟨_, hide rfl⟩
        have hlt2 : c < (onL μ.C o i fun i c => c ||| arB μ.jk i).length := by rw [onL_length]; exact hcl
        have hg : (onL μ.C o i fun i c => c ||| arB μ.jk i)[c]'hlt2 = x := by
          rw [← getD_at _ 0, ← hcN, onL_next _ _ _ _ (by rw [hcN]; exact hcl)]
          exact hx.out
        have cD : wr.cell? ⟨D, c, none⟩ = some (.int .u8 (x.toNat : Int)) := by
          have := (hF.row c hlt2).1
          rw [this]
          exact congrArg (fun y : UInt8 => some (Value.int .u8 (y.toNat : Int))) hg
        have fD := (hF.row c hlt2).2
        obtain ⟨m, hm⟩ : ∃ m, μ.C.length = m := ⟨_, rfl⟩
        rw [show ({ μ with C := onL μ.C o i fun i c => c ||| arB μ.jk i } : St).C.length = m from (onL_length μ.C o i fun i c => c ||| arB μ.jk i).trans hm] at c0
        rw [hm] at hcl
        obtain ⟨u, hu⟩ : ∃ u, Hid (arB μ.jk i = u) := ⟨_, hide rfl⟩
        obtain ⟨z, hz⟩ : ∃ z, Hid (x ||| u = z) := ⟨_, hide rfl⟩
        have o1 : bits .or .u8 (x.toNat : Int) (u.toNat : Int) = (z.toNat : Int) := by rw [or8, hz.out]
        have A : ∀ k, Calls Try.prog 67 #[.string μ.jk, .int .i64 (i : Int)] (wr.drewN k) fun e w' => e = .returned (.int .u8 (u.toNat : Int)) ∧ w' = wr.drewN k := fun k => by
          have := rjunk_any (wr.drewN k) μ.jk i (by have := HJ.out; omega) (by have := hn.out; omega)
          rw [hu.out] at this
          exact this
        have hm9 : m ≤ 8192 := by omega
        have hn9 : n ≤ 4096 := by have := hn.out; omega
        have b1 : (0 : Int) ≤ (c : Int) := by omega
        have b2 : (c : Int) < (m : Int) := by omega
        have HC := hide (And.intro hcN (And.intro hlC hm))
        clear hcN hlC hm hlen hg hlt2
        go_wp2_with fail
        refine region_last 20 rfl rfl _ rfl (by kernel_rfl) (by kernel_rfl) (by kernel_rfl) ?_
        simp only [List.take_succ_cons, List.take_zero]
        repeat (quiet_step (first | (go_at_call 67; exact Calls.quiet_of_same (A _))))
        refine wpQuiet_nil ?_
        intro nq
        go_simp
        clear A o1 cD fD c0 c4
        go_wp2_with fail
        go_roundw
        case rel =>
          refine ⟨i + 1, by go_num, by omega, ?_, (hK.drewN nq).setD _ _⟩
          have e := (hF.drewN nq).setD (o + i) z
          have e2 : onL μ.C o (i + 1) (fun i c => c ||| arB μ.jk i) = (onL μ.C o i fun i c => c ||| arB μ.jk i).set (o + i) z := by
            rw [← onL_succ _ _ _ _ (by rw [HC.out.2.2, HC.out.1]; exact hcl), hx.out, hu.out, hz.out]
          rw [e2]
          rw [HC.out.1] at e ⊢
          exact e
        case measure => simp [intOf]; omega
      · obtain rfl : i = n := by omega
        have hdd : decide ((i : Int) < 4096) = false := decide_eq_false (by have := hn.out; omega)
        go_wp2_with fail
        go_ret
        exact ⟨rfl, hF, hK⟩
theorem rerase_any (w : World) (X D cap : Nat) (ρ : St) (h : Rf w X D cap ρ) (hj : ρ.jk.size ≤ 140737488351232) (s : Int) : Calls Try.prog 50 #[fp X, .int .i64 s] w fun e w' => e = .returned (.int .i64 (eraseRR ρ s).2) ∧ Rf w' X D cap (eraseRR ρ s).1 ∧ Kept2 X D w w' := by
  unfold eraseRR
  cases ho : ρ.off
  · by_cases hi : s = 0 ∨ s = 1
    · obtain ⟨k, rfl⟩ := Int.eq_ofNat_of_zero_le (show 0 ≤ s by omega)
      simp only [if_pos hi, Bool.false_eq_true, if_false]
      have hk : k < 2 := by omega
      have c1 := h.c1
      rw [ho] at c1
      have P := rstep_any w X D cap ρ h
      have hjk : (stepR ρ).1.jk.size ≤ 140737488351232 := by rw [stepR_jk]; exact hj
      have hq : ((k : Int) != 0) = false ∨ (((k : Int) != 0) = true ∧ ((k : Int) != 1) = false) := by
        rcases (show k = 0 ∨ k = 1 by omega) with e | e <;> subst e
        · exact .inl rfl
        · exact .inr ⟨rfl, rfl⟩
      show Calls Try.prog 50 #[fp X, .int .i64 (k : Int)] w fun e w' => e = .returned (.int .i64 (if (eraseSR ρ k).2 = true then 0 else 60)) ∧ Rf w' X D cap (eraseSR ρ k).1 ∧ Kept2 X D w w'
      unfold eraseSR
      cases hw : (stepR ρ).2
      · rw [hw] at P
        exact rerase_part w X D cap (stepR ρ).1 k (k * 4096) c1 (by omega) (by omega) hjk P hq
      · rw [hw] at P
        exact rerase_whole w X D cap (stepR ρ).1 k (k * 4096) c1 (by omega) (by omega) P hq
    · simp only [if_neg hi, Bool.false_eq_true, if_false]
      refine (rerase_out w X D cap ρ h ho s hi).mono ?_
      rintro e w1 ⟨rfl, rfl⟩
      exact ⟨rfl, h, Kept2.refl _ _ _⟩
  · refine (rerase_off w X D cap ρ h ho s).mono ?_
    rintro e w1 ⟨rfl, rfl⟩
    exact ⟨rfl, h, Kept2.refl _ _ _⟩
end Go.Proofs.Ythccigikelinbaa
