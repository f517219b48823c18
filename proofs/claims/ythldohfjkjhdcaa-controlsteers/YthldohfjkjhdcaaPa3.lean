/- Check of package params. -/
import Derived.Test.YthldohfjkjhdcaaPa2
namespace Go.Proofs.Ythldohfjkjhdcaa
open Go.RowKit Go.Great

theorem InR.succ {l : List Int} {k : Nat} (h : InR l k) (h1 : loL.getD k 0 ≤ l.getD k 0) (h2 : l.getD k 0 ≤ hiL.getD k 0) : InR l (k + 1) := by
  intro i hi
  by_cases e : i = k
  · subst e; exact ⟨h1, h2⟩
  · exact h i (by omega)
set_option maxHeartbeats 2000000 in
theorem check_any (l : List Int) (v : Value) (w : World) (hv : Ints w v l) : Calls Try.prog 16 #[v] w fun e w' => e = .returned (.int .i64 (chk l)) ∧ Below w.heap.size w w' := by
  by_cases hl : l.length = 24
  · have HV := hide hv
    have HT := hide (fun hr W hW => together_any l hl hr v W hW)
    have hR := rows_any w
    have HX := hide tab_ix
    obtain ⟨g, o, cap, rfl, hg, hcc⟩ := hv.open24 hl
    have HC := hide hcc
    have HL := hide hl
    clear hcc hl hv
    go_enter Try.func16, Try.ntmps16
    go_wp2_with fail
    refine hR.mono ?_
    rintro e w1 ⟨rfl, hw1⟩
    have HB1 : Hid (Below w.heap.size w w1) := by rw [hw1]; exact below_alloc _ _
    clear hw1 hR
    obtain ⟨T, HTab⟩ : ∃ T, Hid (tabC = T) := ⟨_, rfl⟩
    rw [HTab.out] at HX ⊢
    go_wp2_with fail
    go_loopw [9] (fun i wx => ∃ k : Nat, k ≤ 24 ∧ i = .int .i64 k ∧ InR l k ∧ Below w.heap.size w wx) (fun i _ => 24 - (intOf i).toNat)
    case atStart => exact ⟨0, by omega, rfl, fun i h => absurd h (by omega), HB1.out⟩
    case round =>
      obtain ⟨k, hk, rfl, hR, hB⟩ := hrel
      have HB := hide hB
      have HR := hide hR
      clear hR hB HB1
      by_cases hlt : k < 24
      · have hx := HX.out k hlt
        have hvk := (HB.out.cell (p := ⟨g, o + k, none⟩) hg).trans (HC.out k hlt)
        have hs := HB.out.size
        have hgr : g < wr.heap.size := by omega
        have HW := fun W => hide (within_any (l.getD k 0) (loL.getD k 0) (hiL.getD k 0) W)
        unfold rowC at hx
        obtain ⟨x, HX1⟩ : ∃ x, Hid (l.getD k 0 = x) := ⟨_, rfl⟩
        obtain ⟨a, HA⟩ : ∃ a, Hid (loL.getD k 0 = a) := ⟨_, rfl⟩
        obtain ⟨b, HBB⟩ : ∃ b, Hid (hiL.getD k 0 = b) := ⟨_, rfl⟩
        rw [HX1.out] at hvk HW
        rw [HA.out] at hx HW
        rw [HBB.out] at hx HW
        generalize deL.getD k 0 = d at hx
        have HB2 : Hid (Below w.heap.size w (wr.alloc (.cells #[.int .i64 a, .int .i64 b, .int .i64 d] 36))) := HB.out.alloc hs _
        by_cases hin : a ≤ x ∧ x ≤ b
        · rw [decide_eq_true hin.1, decide_eq_true hin.2] at HW
          have HR2 : Hid (InR l (k + 1)) := HR.out.succ (by rw [HX1.out, HA.out]; exact hin.1) (by rw [HX1.out, HBB.out]; exact hin.2)
          clear hin HC HV
          go_wp2_with fail
          go_quiet (first | (go_at_call 36; exact Calls.quiet_of_same (HW _).out))
          have HB3 := hide (below_drewN HB2.out nq)
          go_wp2_with fail
          go_roundw
          case rel => exact ⟨k + 1, by omega, by go_num, HR2.out, HB3.out⟩
          case measure => simp [intOf]; omega
        · have hf : (decide (a ≤ x) && decide (x ≤ b)) = false := by
            by_cases h1 : a ≤ x
            · simp; omega
            · simp; omega
          rw [hf] at HW
          have HE : Hid (chk l = 5) := by
            show _ = _
            unfold chk
            rw [if_pos HL.out, if_neg]
            intro h
            have := (inRB_iff l).1 h k hlt
            rw [HX1.out, HA.out, HBB.out] at this
            exact hin this
          clear hin hf HC HV
          go_wp2_with fail
          go_quiet (first | (go_at_call 36; exact Calls.quiet_of_same (HW _).out))
          have HB3 := hide (below_drewN HB2.out nq)
          go_wp2_with fail
          go_ret
          exact ⟨ret_int HE.out.symm, HB3.out⟩
      · obtain rfl : k = 24 := by omega
        have HTT := fun W hW => hide (HT.out HR.out W hW)
        have HVr := hide (HV.out.below HB.out)
        have HE : Hid (∀ r, rulB l = r → chk l = if r = true then 0 else 80) := by
          intro r hr
          unfold chk
          rw [if_pos HL.out, if_pos ((inRB_iff l).2 HR.out), hr]
        generalize rulB l = r at HTT HE
        have HE2 := hide (HE.out r rfl)
        clear HE HT HX HC
        go_wp2_with fail
        refine (HTT _ HVr.out).out.mono ?_
        rintro e w2 ⟨rfl, q, rfl⟩
        have HB3 := hide (below_drewN HB.out q)
        cases r
        · go_wp2_with fail
          go_ret
          exact ⟨ret_int HE2.out.symm, HB3.out⟩
        · go_wp2_with fail
          go_ret
          exact ⟨ret_int HE2.out.symm, HB3.out⟩
  · have e : chk l = 3 := by unfold chk; rw [if_neg hl]
    rw [e]
    obtain ⟨a, cap, rfl, _⟩ := hv
    have hne : ((l.length : Int) != 24) = true := by simp; omega
    generalize l.length = n at hne ⊢
    clear hl e
    go_enter Try.func16, Try.ntmps16
    go_wp2_with fail
    go_ret
    exact ⟨rfl, Below.refl _ _⟩
end Go.Proofs.Ythldohfjkjhdcaa
