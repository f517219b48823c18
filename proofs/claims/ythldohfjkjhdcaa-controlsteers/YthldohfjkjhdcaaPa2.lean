/- What package params finds wrong with parameters. -/
import Derived.Test.YthldohfjkjhdcaaPa1
namespace Go.Proofs.Ythldohfjkjhdcaa
open Go.RowKit Go.Great

theorem way_bounds (v b : Int) (h0 : 0 ≤ v) (h1 : v ≤ 100000) (b0 : 1 ≤ b) (b1 : b ≤ 64) : 0 ≤ v / b ∧ v / b ≤ 100000 ∧ 0 ≤ v / b * v ∧ v / b * v ≤ 10000000000 ∧ 0 ≤ b * (v / b) ∧ b * (v / b) ≤ v ∧ 0 ≤ b * (v / b) * (v / b + 1) ∧ b * (v / b) * (v / b + 1) ≤ 10000100000 := by
  have n0 : 0 ≤ v / b := Int.ediv_nonneg h0 (by omega)
  have n1 : v / b ≤ v := Int.ediv_le_self _ h0
  have m0 : 0 ≤ v / b * v := Int.mul_nonneg n0 h0
  have m1 : v / b * v ≤ 100000 * 100000 := Int.mul_le_mul (by omega) h1 h0 (by omega)
  have k0 : 0 ≤ b * (v / b) := Int.mul_nonneg (by omega) n0
  have k1 : b * (v / b) ≤ v := Int.mul_ediv_self_le (by omega)
  have q0 : 0 ≤ b * (v / b) * (v / b + 1) := Int.mul_nonneg k0 (by omega)
  have q1 : b * (v / b) * (v / b + 1) ≤ 100000 * 100001 := Int.mul_le_mul (by omega) (by omega) (by omega) (by omega)
  omega
/-- a list of 24 numbers, its cells -/
theorem Ints.open24 {w : World} {v : Value} {l : List Int} (h : Ints w v l) (hl : l.length = 24) : ∃ g o cap, v = .slice (some ⟨g, o, none⟩) 24 cap ∧ g < w.heap.size ∧ ∀ i, i < 24 → w.cell? ⟨g, o + i, none⟩ = some (.int .i64 (l.getD i 0)) := by
  obtain ⟨a, cap, rfl, hc⟩ := h
  rw [hl] at hc
  obtain ⟨g, o, rfl, hg, hcc⟩ := hc (by omega)
  exact ⟨g, o, cap, by rw [hl], hg, hcc⟩
theorem InR.bounds {l : List Int} (hr : InR l 24) : (0 ≤ l.getD 0 0 ∧ l.getD 0 0 ≤ 16) ∧ (1 ≤ l.getD 1 0 ∧ l.getD 1 0 ≤ 200) ∧ (0 ≤ l.getD 2 0 ∧ l.getD 2 0 ≤ 16) ∧ (1 ≤ l.getD 3 0 ∧ l.getD 3 0 ≤ 200) ∧ (0 ≤ l.getD 4 0 ∧ l.getD 4 0 ≤ 16) ∧ (0 ≤ l.getD 5 0 ∧ l.getD 5 0 ≤ 4) ∧ (4 ≤ l.getD 6 0 ∧ l.getD 6 0 ≤ 32) ∧ (1600 ≤ l.getD 7 0 ∧ l.getD 7 0 ≤ 64000) ∧ (1600 ≤ l.getD 8 0 ∧ l.getD 8 0 ≤ 32000) ∧ (2000 ≤ l.getD 9 0 ∧ l.getD 9 0 ≤ 16000) ∧ (1000 ≤ l.getD 10 0 ∧ l.getD 10 0 ≤ 120000) ∧ (500 ≤ l.getD 11 0 ∧ l.getD 11 0 ≤ 120000) ∧ (200 ≤ l.getD 12 0 ∧ l.getD 12 0 ≤ 10000) ∧ (0 ≤ l.getD 19 0 ∧ l.getD 19 0 ≤ 1000) ∧ (0 ≤ l.getD 20 0 ∧ l.getD 20 0 ≤ 1000) :=
  ⟨hr 0 (by omega), hr 1 (by omega), hr 2 (by omega), hr 3 (by omega), hr 4 (by omega), hr 5 (by omega), hr 6 (by omega), hr 7 (by omega), hr 8 (by omega), hr 9 (by omega), hr 10 (by omega), hr 11 (by omega), hr 12 (by omega), hr 19 (by omega), hr 20 (by omega)⟩
theorem InR.errs {l : List Int} (hr : InR l 24) : (0 ≤ speE l ∧ speE l ≤ 16) ∧ (1 ≤ plaE l ∧ plaE l ≤ 200) := by
  have b := hr.bounds
  unfold speE plaE
  omega
set_option maxHeartbeats 2000000 in
theorem together_any (l : List Int) (hl : l.length = 24) (hr : InR l 24) (v : Value) (w : World) (hv : Ints w v l) : Calls Try.prog 37 #[v] w fun e w' => e = .returned (.bool (rulB l)) ∧ ∃ n, w' = w.drewN n := by
  have HSp := hide (fun W hW => speE_any l (by omega) v W hW)
  have HPl := hide (fun W hW => plaE_any l (by omega) v W hW)
  have HV := hide (fun q => hv.drewN (w := w) q)
  obtain ⟨g, o, cap, rfl, hg, hcc⟩ := hv.open24 hl
  obtain ⟨b0, b1, b2, b3, b4, b5, b6, b7, b8, b9, b10, b11, b12, _⟩ := hr.bounds
  obtain ⟨e0, e1⟩ := hr.errs
  unfold rulB
  have d0 : w.cell? ⟨g, o, none⟩ = some (.int .i64 (l.getD 0 0)) := hcc 0 (by omega)
  have d6 := hcc 6 (by omega)
  have D10 : Hid (∀ q, (w.drewN q).cell? ⟨g, o + 10, none⟩ = some (.int .i64 (l.getD 10 0))) := fun q => by rw [drewN_cell]; exact hcc 10 (by omega)
  have D11 : Hid (∀ q, (w.drewN q).cell? ⟨g, o + 11, none⟩ = some (.int .i64 (l.getD 11 0))) := fun q => by rw [drewN_cell]; exact hcc 11 (by omega)
  have D12 : Hid (∀ q, (w.drewN q).cell? ⟨g, o + 12, none⟩ = some (.int .i64 (l.getD 12 0))) := fun q => by rw [drewN_cell]; exact hcc 12 (by omega)
  generalize speE l = x at HSp e0 ⊢
  generalize plaE l = y at HPl e1 ⊢
  generalize l.getD 0 0 = p0 at b0 d0 ⊢
  generalize l.getD 6 0 = p6 at b6 d6 ⊢
  generalize l.getD 10 0 = p10 at b10 D10 ⊢
  generalize l.getD 11 0 = p11 at b11 D11 ⊢
  generalize l.getD 12 0 = p12 at b12 D12 ⊢
  clear hr hcc b1 b2 b3 b4 b5 b7 b8 b9 hl hg hv
  by_cases c1 : p0 + p6 + 2 * x + 4 ≤ 64
  · by_cases c2 : 8 * y + 100 ≤ p12
    · rw [decide_eq_true c1, decide_eq_true c2, Bool.true_and, Bool.true_and]
      have f1 := decide_eq_true c1
      have f2 := decide_eq_true c2
      clear c1 c2
      go_enter Try.func37, Try.ntmps37
      go_wp2_with fail
      go_quiet (first | (go_at_call 51; exact Calls.quiet_of (HSp.out _ (HV.out _))))
      have d10 := D10.out nq
      have d11 := D11.out nq
      have d12 := D12.out nq
      have HV1 := hide (fun q => (HV.out nq).drewN q)
      obtain ⟨w1, HW⟩ : ∃ w1, Hid (w.drewN nq = w1) := ⟨_, rfl⟩
      rw [HW.out] at d10 d11 d12 HV1 ⊢
      clear d0 d6 HV D10 D11 D12
      go_wp2_with fail
      go_quiet (first | (go_at_call 52; exact Calls.quiet_of (HPl.out _ (HV1.out _))))
      rw [← HW.out, drewN_drewN]
      go_wp2_with fail
      go_ret
      exact ⟨rfl, _, rfl⟩
    · rw [decide_eq_true c1, decide_eq_false c2, Bool.false_and, Bool.and_false]
      have f1 := decide_eq_true c1
      have f2 := decide_eq_false c2
      clear c1 c2
      go_enter Try.func37, Try.ntmps37
      go_wp2_with fail
      go_quiet (first | (go_at_call 51; exact Calls.quiet_of (HSp.out _ (HV.out _))))
      have d12 := D12.out nq
      have HV1 := hide (fun q => (HV.out nq).drewN q)
      obtain ⟨w1, HW⟩ : ∃ w1, Hid (w.drewN nq = w1) := ⟨_, rfl⟩
      rw [HW.out] at d12 HV1 ⊢
      clear d0 d6 HV D10 D11 D12
      go_wp2_with fail
      go_quiet (first | (go_at_call 52; exact Calls.quiet_of (HPl.out _ (HV1.out _))))
      rw [← HW.out, drewN_drewN]
      go_wp2_with fail
      go_ret
      exact ⟨rfl, _, rfl⟩
  · rw [decide_eq_false c1, Bool.false_and]
    have f1 := decide_eq_false c1
    clear c1
    go_enter Try.func37, Try.ntmps37
    go_wp2_with fail
    go_quiet (first | (go_at_call 51; exact Calls.quiet_of (HSp.out _ (HV.out _))))
    obtain ⟨w1, HW⟩ : ∃ w1, Hid (w.drewN nq = w1) := ⟨_, rfl⟩
    rw [HW.out]
    clear d0 d6 HV D10 D11 D12
    go_wp2_with fail
    go_quiet (fail)
    rw [← HW.out, drewN_drewN]
    go_wp2_with fail
    go_ret
    exact ⟨rfl, _, rfl⟩
end Go.Proofs.Ythldohfjkjhdcaa
