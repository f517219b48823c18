/- What MissionChecks answers: true, at every list of items. -/
import Derived.Test.YtnekjfidobglmaaMiW
import Derived.Test.YtnekjfidobglmaaMiL
import Derived.Test.YtnekjfidobglmaaMiA
namespace Go.Proofs.Ytnekjfidobglmaa
open Go.RowKit Go.Great Go.Maps

set_option maxHeartbeats 4000000 in
set_option maxRecDepth 100000 in
theorem checks_any (v : Value) (w : World) (L : List It) (hL : ItsN w v L) : Calls Try.prog 3 #[v] w fun e w' => e = .returned (.bool true) ∧ Below w.heap.size w w' := by
  have AW := hide awakeM
  have LE := hide (lent_any L v w hL)
  have HV := hide hL.1.1
  obtain ⟨_, na, np, rfl, _⟩ := hL.1.1
  clear hL
  generalize hn : L.length = n at *
  have HN := hide hn
  clear hn
  go_enter Try.func3, Try.ntmps3
  go_wp2_with fail
  refine LE.out.mono ?_
  rintro e w1 ⟨u, rfl, hu, hb1⟩
  have HU := hide hu
  have Hb := hide hb1
  obtain ⟨g, cap, rfl, _⟩ := hu
  rw [HN.out] at HU ⊢
  clear hb1 LE
  go_wp2_with fail
  refine (check_any L _ w1 HU.out.rws).mono ?_
  rintro e w2 ⟨rfl, hb2⟩
  replace HU := hide (HU.out.below hb2)
  replace Hb := hide (below_next Hb.out (Nat.le_refl _) hb2)
  clear hb2
  go_wp2_with fail
  refine (encode_any L _ w2 HU.out.rws).mono ?_
  rintro e w3 ⟨rfl, hb3⟩
  replace HU := hide (HU.out.below hb3)
  replace Hb := hide (below_next Hb.out (Nat.le_refl _) hb3)
  clear hb3
  go_wp2_with fail
  refine (rencode_any L _ w3 (HV.out.below Hb.out)).mono ?_
  rintro e w4 ⟨rfl, hb4⟩
  replace HU := hide (HU.out.below hb4)
  replace Hb := hide (below_next Hb.out (Nat.le_refl _) hb4)
  clear hb4
  have RC := hide (fun W (hb : Below w.heap.size w W) => rcheck_any L _ W (HV.out.below hb))
  generalize bs (encA L) = B at *
  generalize chk L = c at *
  go_wp2_with fail
  refine (RC.out w4 Hb.out).mono ?_
  rintro e w5 ⟨rfl, hb5⟩
  replace HU := hide (HU.out.below hb5)
  replace Hb := hide (below_next Hb.out (Nat.le_refl _) hb5)
  clear hb5 RC
  go_wp2_with fail
  refine (kept_true L _ _ w5 w.heap.size HU.out (HV.out.below Hb.out)).mono ?_
  rintro e w6 ⟨rfl, hb6⟩
  replace Hb := hide (below_next Hb.out (Nat.le_refl _) hb6)
  clear hb6 HU HV
  go_wp2_with fail
  refine (AW.out w6).mono ?_
  rintro e w7 ⟨rfl, hb7⟩
  go_wp2_with fail
  go_ret
  exact ⟨rfl, below_next Hb.out (Nat.le_refl _) hb7⟩
theorem MissionChecks_walk (v : Value) (w : World) (hv : ∃ L, ItsN w v L) : Calls Try.prog 3 #[v] w fun e w' => e = .returned (.bool true) ∧ Below w.heap.size w w' := by
  obtain ⟨L, hL⟩ := hv
  exact checks_any v w L hL
end Go.Proofs.Ytnekjfidobglmaa
