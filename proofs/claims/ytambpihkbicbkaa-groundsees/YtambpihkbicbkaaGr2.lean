/- The example that each statement of layer 15 looks at ('awake'). -/
import Derived.Test.YtambpihkbicbkaaGr1
namespace Go.Proofs.Ytambpihkbicbkaa
open Go.RowKit Go.Great

theorem gs_up (n : Int) (h : n < 65535) : gs n true 0 8000 = n + 1 := by
  unfold gs
  rw [show lk true 0 8000 = true from rfl, if_pos rfl, if_pos h]
theorem gs_off (n c a : Int) : gs n false c a = 0 := rfl
theorem i64_8000 : I64 8000 := by unfold I64; omega
set_option maxHeartbeats 1000000 in
theorem awakeG (w : World) : Calls Try.prog 11 #[] w fun e w' => e = .returned (.bool true) ∧ Below w.heap.size w w' := by
  go_enter Try.func11, Try.ntmps11
  go_upto_region 2 with (go_at_call 7; refine (newG_any _).mono ?_; rintro e w1 ⟨B, rfl, hB, hb, hBw⟩)
  have HB := hide hB
  have Hb := hide hb
  clear hB hb
  go_wp2_with fail
  go_loopw [2] (fun v wr => ∃ i : Nat, v = .int .i64 (i : Int) ∧ i ≤ 39 ∧ Det wr B (i : Int) ∧ Below w.heap.size w wr) (fun v _ => 39 - (intOf v).toNat)
  case atStart => exact ⟨0, rfl, by omega, HB.out, Hb.out⟩
  case round =>
    clear HB Hb
    obtain ⟨i, rfl, hi, hB, hb⟩ := hrel
    have HB := hide hB
    have Hb := hide hb
    clear hB hb
    by_cases hlt : i < 39
    · have ST := hide (fun W (hW : Det W B (i : Int)) => stepG_any W B (i : Int) true 0 8000 hW (by omega) i64_8000)
      rw [gs_up _ (by omega)] at ST
      have hd : decide ((40 : Int) ≤ (i : Int) + 1) = false := by simp; omega
      go_wp2_with (go_at_call 8; refine (ST.out _ HB.out).mono ?_; rintro e w2 ⟨rfl, hB2, hG2⟩; rw [hd])
      refine ⟨⟨i + 1, by simp, by omega, by simpa using hB2, below_grown Hb.out hG2 (fun q e => by injection e with e; omega)⟩, ?_⟩
      show 39 - ((i : Int) + 1).toNat < 39 - (i : Int).toNat
      omega
    · obtain rfl : i = 39 := by omega
      have S1 := hide (fun W (hW : Det W B ((39 : Nat) : Int)) => stepG_any W B ((39 : Nat) : Int) true 0 8000 hW (by omega) i64_8000)
      rw [gs_up _ (by omega)] at S1
      go_wp2_with fail
      refine (S1.out _ HB.out).mono ?_
      rintro e w2 ⟨rfl, hB2, hG2⟩
      have HB2 := hide hB2
      have Hb2 := hide (below_grown Hb.out hG2 (fun q e => by injection e with e; omega))
      clear hB2 hG2 HB Hb
      go_wp2_with fail
      refine (stepG_any w2 B _ false 0 8000 HB2.out (by omega) i64_8000).mono ?_
      rintro e w3 ⟨rfl, hB3, hG3⟩
      have HB3 : Hid (Det w3 B 0) := hide hB3
      have Hb3 := hide (below_grown Hb2.out hG3 (fun q e => by injection e with e; omega))
      clear hB3 hG3 HB2 Hb2
      go_wp2_with fail
      refine (seen_any w3 B 0 HB3.out).mono ?_
      rintro e w4 ⟨rfl, rfl⟩
      go_wp2_with fail
      go_ret
      exact ⟨rfl, Hb3.out⟩
end Go.Proofs.Ytambpihkbicbkaa
