/- Package nor: a byte that is programmed, cells that are filled. -/
import Derived.Test.YtcjahdgppnmdkaaNoM
import Derived.Deep.RegionHeld3
set_option maxRecDepth 100000
namespace Go.Proofs.Ytcjahdgppnmdkaa
open Go.RowKit Go.Great

/-- one byte that is programmed -/
def progB (σ : St) (i : Nat) (b : UInt8) : St × Bool :=
  if (stepS σ).2.2 then ({ (stepS σ).1 with C := (stepS σ).1.C.set i ((stepS σ).1.C.getD i 0 &&& b) }, true)
  else ({ (stepS σ).1 with C := (stepS σ).1.C.set i ((stepS σ).1.C.getD i 0 &&& (b ||| arB (stepS σ).2.1 0)) }, false)
theorem stepS_C (σ : St) : (stepS σ).1.C = σ.C := by unfold stepS; split <;> rfl
set_option maxRecDepth 100000 in
theorem progB_any (w : World) (R : Nat) (σ : St) (h : Fl w R σ) (hj : σ.jk.size ≤ 9223372036854775807) (i : Nat) (hi : i < 8192) (b : UInt8) : Calls Try.prog 110 #[fp R, .int .i64 i, .int .u8 (b.toNat : Int)] w fun e w' => e = .returned (.int .i64 (if (progB σ i b).2 then 0 else 60)) ∧ Fl w' R (progB σ i b).1 ∧ Kept R w w' := by
  have S := step_any w R σ h
  have hjj : (stepS σ).2.1.size ≤ 9223372036854775807 := by
    unfold stepS; split
    · exact hj
    · show (0 : Nat) ≤ _; omega
  have hC := stepS_C σ
  unfold progB
  obtain ⟨⟨τ, jk, wh⟩, hs⟩ : ∃ x, stepS σ = x := ⟨_, rfl⟩
  rw [hs] at S hjj hC ⊢
  simp only at S hjj hC ⊢
  clear hs
  have hl : i < τ.C.length := by rw [hC, h.len]; exact hi
  have hg : τ.C.getD i 0 = τ.C[i] := by rw [List.getD_eq_getElem?_getD, List.getElem?_eq_getElem hl]; rfl
  rw [hg]
  clear hC
  obtain ⟨x, hx⟩ : ∃ x, Hid (τ.C[i] = x) := ⟨_, hide rfl⟩
  go_enter Try.func110, Try.ntmps110
  go_wp2_with fail
  refine S.mono ?_
  rintro e w1 ⟨rfl, h1, k1⟩
  have c : w1.cell? ⟨R, i, none⟩ = some (.int .u8 (x.toNat : Int)) := by rw [h1.cell i hl, hx.out]
  have f := h1.frozen i
  have hi' : (i : Int) < 8192 := by omega
  cases wh
  · obtain ⟨u, hu⟩ : ∃ u, Hid (arB jk 0 = u) := ⟨_, hide rfl⟩
    have A : ∀ wx, Calls Try.prog 107 #[.string jk, .int .i64 0] wx fun e w' => e = .returned (.int .u8 (u.toNat : Int)) ∧ w' = wx := fun wx => by
      have := around_any wx jk 0 hjj (by omega)
      rw [hu.out] at this
      exact this
    obtain ⟨y, hy⟩ : ∃ y, Hid (b ||| u = y) := ⟨_, hide rfl⟩
    have o1 : bits .or .u8 (b.toNat : Int) (u.toNat : Int) = (y.toNat : Int) := by rw [or8, hy.out]
    obtain ⟨z, hz⟩ : ∃ z, Hid (x &&& y = z) := ⟨_, hide rfl⟩
    have a1 : bits .and .u8 (x.toNat : Int) (y.toNat : Int) = (z.toNat : Int) := by rw [and8, hz.out]
    go_wp2_with fail
    go_region_with (go_at_call 107; refine (A _).mono ?_; rintro e w2 ⟨rfl, rfl⟩)
    all_goals
      clear o1 a1 A c f S hi'
      go_wp2_with fail
      go_ret
      refine ⟨by rfl, ?_, (k1.set _ _).drew⟩
      show Fl _ R { τ with C := τ.C.set i (τ.C[i] &&& (b ||| arB jk 0)) }
      rw [hx.out, hu.out, hy.out, hz.out]
      exact (h1.setCell i z hl).drew
  · obtain ⟨z, hz⟩ : ∃ z, Hid (x &&& b = z) := ⟨_, hide rfl⟩
    have a1 : bits .and .u8 (x.toNat : Int) (b.toNat : Int) = (z.toNat : Int) := by rw [and8, hz.out]
    go_wp2_with fail
    go_region
    go_wp2_with fail
    go_ret
    refine ⟨by rfl, ?_, (k1.set _ _).drew⟩
    show Fl _ R { τ with C := τ.C.set i (τ.C[i] &&& b) }
    rw [hx.out, hz.out]
    exact (h1.setCell i z hl).drew
/-- cells that are filled -/
theorem fill_any (w : World) (R : Nat) (σ : St) (h : Fl w R σ) (o n cap : Nat) (hn : o + n ≤ 8192) : Calls Try.prog 47 #[.slice (some ⟨R, o, none⟩) n cap] w fun e w' => e = .returned (.tuple #[]) ∧ Fl w' R { σ with C := onL σ.C o n fun _ _ => 255 } ∧ Kept R w w' := by
  have hl := h.len
  go_enter Try.func47, Try.ntmps47
  go_wp2_with fail
  go_loopw [5] (fun v5 wr => ∃ i : Nat, v5 = .int .i64 (i : Int) ∧ i ≤ n ∧ Fl wr R { σ with C := onL σ.C o i fun _ _ => 255 } ∧ Kept R w wr) (fun v5 _ => n - (intOf v5).toNat)
  case atStart => exact ⟨0, rfl, Nat.zero_le _, by rw [onL_zero]; exact h, Kept.refl _ _⟩
  case round =>
    obtain ⟨i, rfl, hi, hF, hK⟩ := hrel
    by_cases hlt : i < n
    · have hio : o + i < σ.C.length := by omega
      have c := hF.cell (o + i) (by rw [onL_length]; exact hio)
      have f := hF.frozen (o + i)
      go_wp2_with fail
      go_roundw
      case rel =>
        refine ⟨i + 1, by go_num, by omega, ?_, hK.set _ _⟩
        have := hF.setCell (o + i) 255 (by rw [onL_length]; exact hio)
        rw [← onL_succ _ _ _ _ hio]
        exact this
      case measure => simp [intOf]; omega
    · obtain rfl : i = n := by omega
      go_wp2_with fail
      go_end0
      exact ⟨rfl, hF, hK⟩
end Go.Proofs.Ytcjahdgppnmdkaa
