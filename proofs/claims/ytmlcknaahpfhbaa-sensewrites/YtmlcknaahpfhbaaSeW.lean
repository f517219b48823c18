/- SenseWrites. -/
import Derived.Test.YtmlcknaahpfhbaaSeO
import Derived.Test.YtmlcknaahpfhbaaSr2
namespace Go.Proofs.Ytmlcknaahpfhbaa
open Go.RowKit Go.Great

set_option maxRecDepth 100000 in
set_option maxHeartbeats 4000000 in
theorem SenseWrites_walk (s0 : Int) (u : Value) (w : World) (hws : (Lit.int .u8 s0).wf = true) (hi : ∃ ns, IntsIn w u ns) : Calls Try.prog 4 #[.int .u8 s0, u] w fun e w' => e = .returned (.bool true) ∧ Below w.heap.size w w' := by
  obtain ⟨c, rfl⟩ := wf_u8 hws
  have hs := c.toNat_lt
  generalize c.toNat = s at *
  clear hws c
  obtain ⟨ns, hI, hnil, hlen⟩ := hi
  have LN := lentI_any ns u w hI hnil hlen
  have AW := fun W => awakeS_any W
  have RW := fun W (hb : Below w.heap.size w W) => rwrite_any s hs ns u W (hI.below hb) (by omega)
  have KP := fun W g (hR : IRow W w.heap.size (.slice (some ⟨g, 0, none⟩) (ns.length + 4) (ns.length + 4)) (mk4 ns 4)) (hb : Below w.heap.size w W) => kept_true ns u W w.heap.size g hR (hI.below hb) (by omega)
  obtain ⟨au, cu, rfl, _⟩ := hI
  have LW := fun w1 g hR => lent_write s hs ns w w1 g hR (by omega)
  generalize wrE s ns = E at *
  generalize bs (wrB s ns) = B at *
  have hBB : (B.toList == B.toList) = true := by simp
  have hEE : (E == E) = true := by simp
  clear hnil
  go_enter Try.func4, Try.ntmps4
  go_wp2_with fail
  refine LN.mono ?_
  rintro e w1 ⟨rfl, hR1, hb1⟩
  have HB1 := hide hb1
  have HR1 := hide hR1
  have LWW := LW _ _ hR1
  clear hb1 LN LW hR1
  go_wp2_with fail
  refine LWW.mono ?_
  rintro e w2 ⟨rfl, hb2⟩
  have HB2 := hide (below_next HB1.out (Nat.le_refl _) hb2)
  have HR2 := hide (HR1.out.below hb2)
  clear hb2 LWW HB1 HR1
  go_wp2_with fail
  refine (RW _ HB2.out).mono ?_
  rintro e w3 ⟨rfl, hb3⟩
  have HB3 := hide (below_next HB2.out (Nat.le_refl _) hb3)
  have HR3 := hide (HR2.out.below hb3)
  clear hb3 RW HB2 HR2
  go_wp2_with fail
  refine (AW _).mono ?_
  rintro e w4 ⟨rfl, hb4⟩
  have HB4 := hide (below_next HB3.out (Nat.le_refl _) hb4)
  have HR4 := hide (HR3.out.below hb4)
  clear hb4 AW HB3 HR3
  have KPP := KP _ _ HR4.out HB4.out
  generalize ns.length = n at *
  clear KP
  go_wp2_with fail
  refine KPP.mono ?_
  rintro e w5 ⟨rfl, n5, hw5⟩
  have HB5 : Hid (Below w.heap.size w w5) := hide (by rw [hw5]; exact below_drewN HB4.out n5)
  clear hw5 KPP
  go_wp2_with fail
  go_ret
  exact ⟨rfl, HB5.out⟩
end Go.Proofs.Ytmlcknaahpfhbaa
