/- SenseReads. -/
import Derived.Test.YtmlcknaahpfhbaaSr4
import Derived.Test.YtmlcknaahpfhbaaKr5
namespace Go.Proofs.Ytmlcknaahpfhbaa
open Go.RowKit Go.Great

theorem rdR_len (s : Nat) (l : List UInt8) : (rdR s l).out.length ≤ 5 := by
  obtain ⟨_, _, h3, h4⟩ := rdR_says s l
  cases h : (rdR s l).is with
  | false => rw [h3 h]; exact Nat.zero_le _
  | true =>
    obtain ⟨_, _, b, _, _, _, ho⟩ := h4 h
    rw [ho, fieK_len]; exact wsS_len s
set_option maxRecDepth 100000 in
set_option maxHeartbeats 4000000 in
theorem SenseReads_walk (s0 : Int) (d : ByteArray) (hws : (Lit.int .u8 s0).wf = true) (hd : d.size ≤ 140737488351232) (w : World) : Calls Try.prog 3 #[.int .u8 s0, .string d] w fun e w' => e = .returned (.bool true) ∧ Below w.heap.size w w' := by
  obtain ⟨c, rfl⟩ := wf_u8 hws
  have hs := c.toNat_lt
  generalize c.toNat = s at *
  clear hws c
  obtain ⟨l, HDL⟩ : ∃ l, Hid (bs l = d) := ⟨_, hide (bs_of d)⟩
  have hll : l.length ≤ 140737488351232 := by rw [← HDL.out, bs_size] at hd; exact hd
  have RD := fun W => read_any s hs l (by omega) W
  have RR := fun W => rread_any s hs l (by omega) W
  rw [HDL.out] at RD RR
  have ho := rdR_len s l
  have AW := fun W => awakeS_any W
  generalize (rdR s l).is = ri at *
  generalize (rdR s l).bad = rb at *
  generalize (rdR s l).out = ro at *
  have SI := fun W v u hv hu => sameInts_true ro v u W hv hu (by omega)
  have e1 : (ri == ri) = true := by simp
  have e1n : (ri != ri) = false := by simp
  have e2n : ((rb : Int) != (rb : Int)) = false := by simp
  go_enter Try.func3, Try.ntmps3
  go_wp2_with fail
  refine (RD _).mono ?_
  rintro e w1 ⟨v1, rfl, hr1, hb1⟩
  have HB1 := hide hb1
  have HR1 := hide hr1
  obtain ⟨va1, vc1, hve⟩ := IRow.shape hr1
  subst hve
  clear hb1 hr1
  go_wp2_with fail
  refine (RD _).mono ?_
  rintro e w2 ⟨v2, rfl, hr2, hb2⟩
  have HB2 := hide (below_next HB1.out (Nat.le_refl _) hb2)
  have HR21 := hide (HR1.out.below hb2)
  have HR22 := hide hr2
  obtain ⟨va2, vc2, hve⟩ := IRow.shape hr2
  subst hve
  clear hb2 hr2
  go_wp2_with fail
  refine (RR _).mono ?_
  rintro e w3 ⟨v3, rfl, hr3, hb3⟩
  have HB3 := hide (below_next HB2.out (Nat.le_refl _) hb3)
  have HR31 := hide (HR21.out.below hb3)
  have HR32 := hide (HR22.out.below hb3)
  have HR33 := hide hr3.ints
  obtain ⟨va3, vc3, hve⟩ := IRow.shape hr3
  subst hve
  clear hb3 hr3 RD RR
  have HAP : Hid (∀ g, (Value.slice va1 ro.length vc1).ownBlock = some g → (Value.slice va2 ro.length vc2).ownBlock ≠ some g) := hide (fun g h1 h2 => by
    have a1 := (World.ownsRow.lt HR1.out g h1).2
    have a2 := (World.ownsRow.lt HR22.out g h2).1
    omega)
  generalize hn : ro.length = n at *
  have HN := hide hn
  clear hn
  go_wp2_with fail
  refine (SI _ _ _ HR31.out.ints HR33.out).mono ?_
  rintro e w4 ⟨rfl, n4, hw4⟩
  have hb4 : Below w3.heap.size w3 w4 := by rw [hw4]; exact below_drewN (Below.refl _ _) n4
  have HB4 := hide (below_next HB3.out (Nat.le_refl _) hb4)
  have HR41 := hide (HR31.out.below hb4)
  have HR42 := hide (HR32.out.below hb4)
  have HR43 := hide (HR33.out.below hb4)
  clear hw4 hb4
  go_wp2_with fail
  refine (SI _ _ _ HR42.out.ints HR43.out).mono ?_
  rintro e w5 ⟨rfl, n5, hw5⟩
  have hb5 : Below w4.heap.size w4 w5 := by rw [hw5]; exact below_drewN (Below.refl _ _) n5
  have HB5 := hide (below_next HB4.out (Nat.le_refl _) hb5)
  have HR51 := hide (HR41.out.below hb5)
  have HR52 := hide (HR42.out.below hb5)
  clear hw5 hb5 SI
  go_wp2_with fail
  refine (AW _).mono ?_
  rintro e w6 ⟨rfl, hb6⟩
  have HB6 := hide (below_next HB5.out (Nat.le_refl _) hb6)
  have HR61 := hide (HR51.out.below hb6)
  have HR62 := hide (HR52.out.below hb6)
  clear hb6 AW
  go_wp2_with fail
  have hbase : w.heap.size ≤ w1.heap.size := HB1.out.size
  have AP := apart_true n (by omega) (.slice va1 n vc1) (.slice va2 n vc2) ro ro HN.out HN.out (w6.alloc (.cells #[.slice va1 n vc1, .slice va2 n vc2] 22)) w.heap.size (HR61.out.alloc _) ((HR62.out.lower hbase).alloc _) HAP.out w6.heap.size (heap_alloc_new _ _) HB6.out.size
  refine AP.mono ?_
  rintro e w7 ⟨rfl, hb7⟩
  have HB7 : Hid (Below w.heap.size w w7) := hide ((below_next HB6.out (Nat.le_refl _) (below_alloc _ _)).trans hb7)
  clear hb7 AP
  go_wp2_with fail
  go_ret
  exact ⟨rfl, HB7.out⟩
end Go.Proofs.Ytmlcknaahpfhbaa
