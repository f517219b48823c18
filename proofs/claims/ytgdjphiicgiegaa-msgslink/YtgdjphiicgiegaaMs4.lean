/- What package msgs does with a list of widths and one of numbers: fit, payload. -/
import Derived.Test.YtgdjphiicgiegaaMs3
namespace Go.Proofs.Ytgdjphiicgiegaa
open Go.RowKit Go.Great

set_option maxHeartbeats 1000000 in
theorem fit_any (ws ns : List Int) (hw : ∀ w ∈ ws, Wid w) (hl : ws.length ≤ 7) (hn : ns.length = ws.length) (v u : Value) (w : World) (hv : Ints w v (ws.map fun x => 8 * x)) (hu : Ints w u ns) : Calls Try.prog 25 #[v, u] w fun e w' => e = .returned (.bool (fitsK ws ns ws.length)) ∧ ∃ q, w' = w.drewN q := by
  obtain ⟨a, cap, rfl, hc⟩ := hv
  obtain ⟨b, cbp, rfl, hd⟩ := hu
  rw [List.length_map] at hc ⊢
  rw [hn] at hd ⊢
  have HC := hide hc
  have HD := hide hd
  have HW := hide hw
  obtain ⟨m, hm⟩ : ∃ m, ws.length = m := ⟨_, rfl⟩
  rw [hm] at hl ⊢
  have HM := hide hm
  clear hc hd hw hm hn
  obtain ⟨r, HR⟩ : ∃ r, Hid (fitsK ws ns m = r) := ⟨_, rfl⟩
  rw [HR.out]
  go_enter Try.func25, Try.ntmps25
  go_wp2_with fail
  go_loopw [9] (fun i wx => ∃ k q : Nat, k ≤ m ∧ Hid (fitsK ws ns k = true) ∧ i = .int .i64 k ∧ wx = w.drewN q) (fun i _ => m - (intOf i).toNat)
  case atStart => exact ⟨0, 0, by omega, rfl, rfl, rfl⟩
  case round =>
    obtain ⟨k, q, hk, HK, rfl, hwr⟩ := hrel
    have HWR := hide hwr
    clear hwr
    by_cases hlt : k < m
    · have hkw : k < ws.length := by rw [HM.out]; exact hlt
      have hm0 : 0 < ws.length := by omega
      obtain ⟨g, o, rfl, hg, hcc⟩ := HC.out hm0
      obtain ⟨g2, o2, rfl, hg2, hcd⟩ := HD.out hm0
      have d1 : wr.cell? ⟨g, o + k, none⟩ = some (.int .i64 (8 * ws.getD k 0)) := by rw [HWR.out, drewN_cell, hcc k hkw, map8_at _ _ hkw]
      have d2 : wr.cell? ⟨g2, o2 + k, none⟩ = some (.int .i64 (ns.getD k 0)) := by rw [HWR.out, drewN_cell, hcd k hkw]
      have hL := fun W => least_any (ws.getD k 0) (widD HW.out k hkw) _ rfl W
      have hG := fun W => greatest_any (ws.getD k 0) (widD HW.out k hkw) _ rfl W
      have HB : Hid (fitB (ws.getD k 0) (ns.getD k 0) = (decide (leW (ws.getD k 0) ≤ ns.getD k 0) && decide (ns.getD k 0 ≤ grW (ws.getD k 0)))) := rfl
      have HS : Hid (fitsK ws ns (k + 1) = (fitsK ws ns k && fitB (ws.getD k 0) (ns.getD k 0))) := rfl
      have HNo : Hid (fitB (ws.getD k 0) (ns.getD k 0) = false → fitsK ws ns m = false) := fun h => fitsK_not hlt h
      generalize fitB (ws.getD k 0) (ns.getD k 0) = f at HB HS HNo
      generalize 8 * ws.getD k 0 = x at d1 hL hG
      generalize leW (ws.getD k 0) = le at hL HB
      generalize grW (ws.getD k 0) = gr at hG HB
      generalize ns.getD k 0 = n at d2 HB
      clear hcc hcd HC HD
      have hcs : n < le ∨ (le ≤ n ∧ gr < n) ∨ (le ≤ n ∧ n ≤ gr) := by omega
      rcases hcs with h1 | ⟨h1, h2⟩ | ⟨h1, h2⟩
      · go_wp2_with fail
        go_quiet (first | (go_at_call 41; exact Calls.quiet_of_same (hL _)) | (go_at_call 42; exact Calls.quiet_of_same (hG _)))
        go_wp2_with fail
        go_ret
        exact ⟨ret_bool (by rw [← HR.out, HNo.out (by rw [HB.out]; simp; omega)]), q + nq, by rw [HWR.out, drewN_drewN]⟩
      · go_wp2_with fail
        go_quiet (first | (go_at_call 41; exact Calls.quiet_of_same (hL _)) | (go_at_call 42; exact Calls.quiet_of_same (hG _)))
        go_wp2_with fail
        go_ret
        exact ⟨ret_bool (by rw [← HR.out, HNo.out (by rw [HB.out]; simp; omega)]), q + nq, by rw [HWR.out, drewN_drewN]⟩
      · go_wp2_with fail
        go_quiet (first | (go_at_call 41; exact Calls.quiet_of_same (hL _)) | (go_at_call 42; exact Calls.quiet_of_same (hG _)))
        go_wp2_with fail
        go_roundw
        case rel => exact ⟨k + 1, q + nq, by omega, by show _ = _; rw [HS.out, HK.out, HB.out]; simp; omega, by go_num, by rw [HWR.out, drewN_drewN]⟩
        case measure => simp [intOf]; omega
    · obtain rfl : k = m := by omega
      go_wp2_with fail
      go_ret
      exact ⟨ret_bool (by rw [← HR.out, HK.out]), q, HWR.out⟩
end Go.Proofs.Ytgdjphiicgiegaa
