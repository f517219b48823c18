/- ModesLead. -/
import Derived.Test.YtggjofkoggbklaaMoR
namespace Go.Proofs.Ytggjofkoggbklaa
open Go.RowKit Go.Great

set_option maxHeartbeats 2000000 in
theorem lead_any (m ev : Int) (w : World) : Calls Try.prog 3 #[.int .u8 m, .int .i64 ev] w fun e w' => e = .returned (.bool true) ∧ Below w.heap.size w w' := by
  have AW := hide awakeO
  have NX := hide (next_any m ev)
  have RN := hide (rnext_any m ev)
  have AR := hide (armed_any m)
  have RA := hide (rarmed_any m)
  have FL := hide (flying_any m)
  have RF := hide (rflying_any m)
  have Hb : Hid (Below w.heap.size w w) := hide (Below.refl _ _)
  generalize nx m ev = R at *
  generalize armB m = ar at *
  generalize flyB m = fy at *
  go_enter Try.func3, Try.ntmps3
  go_wp2_with (first | (go_at_call 8; refine (NX.out _).mono ?_; rintro e w1 ⟨rfl, hb⟩; replace Hb := hide (below_next Hb.out (Nat.le_refl _) hb); clear hb) | (go_at_call 9; refine (RN.out _).mono ?_; rintro e w2 ⟨rfl, hb⟩; replace Hb := hide (below_next Hb.out (Nat.le_refl _) hb); clear hb) | (go_at_call 10; refine (AR.out _).mono ?_; rintro e w3 ⟨rfl, hw⟩; obtain rfl := hw.symm) | (go_at_call 11; refine (RA.out _).mono ?_; rintro e w3 ⟨rfl, hw⟩; obtain rfl := hw.symm) | (go_at_call 12; refine (FL.out _).mono ?_; rintro e w3 ⟨rfl, hw⟩; obtain rfl := hw.symm) | (go_at_call 13; refine (RF.out _).mono ?_; rintro e w3 ⟨rfl, hw⟩; obtain rfl := hw.symm) | (go_at_call 14; refine (AW.out _).mono ?_; rintro e w5 ⟨rfl, hb⟩; replace Hb := hide (below_next Hb.out (Nat.le_refl _) hb); clear hb))
  go_ret
  exact ⟨rfl, Hb.out⟩
theorem ModesLead_walk (m ev : Int) (_hm : (Lit.int .u8 m).wf = true) (w : World) : Calls Try.prog 3 #[.int .u8 m, .int .i64 ev] w fun e w' => e = .returned (.bool true) ∧ Below w.heap.size w w' := lead_any m ev w
end Go.Proofs.Ytggjofkoggbklaa
