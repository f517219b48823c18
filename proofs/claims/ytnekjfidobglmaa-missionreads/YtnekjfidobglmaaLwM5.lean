/- What MissionReads answers: true, at every text and every list of rows. -/
import Derived.Test.YtnekjfidobglmaaMiN
import Derived.Test.YtnekjfidobglmaaMiQ
import Derived.Test.YtnekjfidobglmaaMiA
import Derived.Test.YtnekjfidobglmaaOpL
namespace Go.Proofs.Ytnekjfidobglmaa
open Go.RowKit Go.Great Go.Maps

theorem LstsIn.lstsM {w : World} {v : Value} {L : List (List Int)} (h : LstsIn w v L) : Lsts w v L ∧ L.length * 24 ≤ 140737488355328 := by
  obtain ⟨h0, a, cap, e, hc⟩ := h
  refine ⟨⟨a, cap, e, fun hp => ?_⟩, by omega⟩
  obtain ⟨g, o, e2, hg, hcc⟩ := hc hp
  refine ⟨g, o, e2, hg, fun i hi => ?_⟩
  obtain ⟨u, hu, hI⟩ := hcc i hi
  exact ⟨u, hu, hI.1⟩
set_option maxHeartbeats 4000000 in
set_option maxRecDepth 100000 in
theorem reads_any (s : ByteArray) (v : Value) (w : World) (hs : s.size ≤ 140737488351232) (M : List (List Int)) (hM : Lsts w v M ∧ M.length * 24 ≤ 140737488355328) : Calls Try.prog 4 #[.string s, v] w fun e w' => e = .returned (.bool true) ∧ Below w.heap.size w w' := by
  have AW := hide awakeM
  have D1 := hide (fun W => decode_any s (by omega) W)
  have D2 := hide (fun W => rdecode_any s (by omega) W)
  have O1 := hide (fun W (hb : Below w.heap.size w W) => of_any M v W (hM.1.below hb) hM.2)
  have O2 := hide (fun W (hb : Below w.heap.size w W) => rof_any M v W (hM.1.below hb) hM.2)
  have SA := hide same_true
  obtain ⟨na, np, rfl, _⟩ := hM.1
  clear hM
  generalize M.length = n at *
  generalize decE s.data.toList = E1 at *
  generalize decA s.data.toList = A1 at *
  generalize ofE M = E2 at *
  generalize ofA M = A2 at *
  go_enter Try.func4, Try.ntmps4
  go_wp2_with fail
  refine (D1.out w).mono ?_
  rintro e w1 ⟨u1, rfl, hu1, hb1⟩
  have U1 := hide hu1
  have Hb := hide hb1
  obtain ⟨x1, y1, rfl⟩ := hu1.shape
  clear hu1 hb1 D1
  go_wp2_with fail
  refine (D2.out w1).mono ?_
  rintro e w2 ⟨u2, rfl, hu2, hb2⟩
  have U2 := hide hu2
  replace U1 := hide (U1.out.below hb2)
  replace Hb := hide (below_next Hb.out (Nat.le_refl _) hb2)
  obtain ⟨x2, y2, rfl⟩ := hu2.shape
  clear hu2 hb2 D2
  go_wp2_with fail
  refine (O1.out w2 Hb.out).mono ?_
  rintro e w3 ⟨u3, rfl, hu3, hb3⟩
  have U3 := hide hu3
  replace U1 := hide (U1.out.below hb3)
  replace U2 := hide (U2.out.below hb3)
  replace Hb := hide (below_next Hb.out (Nat.le_refl _) hb3)
  obtain ⟨x3, y3, rfl⟩ := hu3.shape
  clear hu3 hb3 O1
  go_wp2_with fail
  refine (O2.out w3 Hb.out).mono ?_
  rintro e w4 ⟨u4, rfl, hu4, hb4⟩
  have U4 := hide hu4
  replace U1 := hide (U1.out.below hb4)
  replace U2 := hide (U2.out.below hb4)
  replace U3 := hide (U3.out.below hb4)
  replace Hb := hide (below_next Hb.out (Nat.le_refl _) hb4)
  obtain ⟨x4, y4, rfl⟩ := hu4.shape
  clear hu4 hb4 O2
  generalize A1.length = a1 at *
  generalize A2.length = a2 at *
  go_wp2_with fail
  refine (SA.out A1 _ _ w4 U1.out.rws U2.out.rws).mono ?_
  rintro e w5 ⟨rfl, hb5⟩
  replace U3 := hide (U3.out.below hb5)
  replace U4 := hide (U4.out.below hb5)
  replace Hb := hide (below_next Hb.out (Nat.le_refl _) hb5)
  clear hb5 U1 U2
  go_wp2_with fail
  refine (SA.out A2 _ _ w5 U3.out.rws U4.out.rws).mono ?_
  rintro e w6 ⟨rfl, hb6⟩
  replace Hb := hide (below_next Hb.out (Nat.le_refl _) hb6)
  clear hb6 U3 U4 SA
  go_wp2_with fail
  refine (AW.out w6).mono ?_
  rintro e w7 ⟨rfl, hb7⟩
  go_wp2_with fail
  go_ret
  exact ⟨rfl, below_next Hb.out (Nat.le_refl _) hb7⟩
theorem MissionReads_walk (s : ByteArray) (v : Value) (w : World) (hs : s.size ≤ 140737488351232) (hv : ∃ L, LstsIn w v L) : Calls Try.prog 4 #[.string s, v] w fun e w' => e = .returned (.bool true) ∧ Below w.heap.size w w' := by
  obtain ⟨L, hL⟩ := hv
  exact reads_any s v w hs L hL.lstsM
end Go.Proofs.Ytnekjfidobglmaa
