/- WorldSees. -/
import Derived.Test.YtpoodmfhcoaleaaWs3
namespace Go.Proofs.Ytpoodmfhcoaleaa
open Go.RowKit Go.Great

theorem irow_low {w : World} {b b' : Nat} {v : Value} {l : List Int} (h : IRow w b v l) (hb : b' ≤ b) : IRow w b' v l := by
  refine ⟨h.1, ?_⟩
  rcases h.2 with q | ⟨g, cap, cur, q1, q2, q3⟩
  · exact .inl q
  · exact .inr ⟨g, cap, cur, q1, Nat.le_trans hb q2, q3⟩
set_option maxHeartbeats 4000000 in
set_option maxRecDepth 100000 in
theorem worldsees_any (o : Wo) (ho : WOk o) (s : Int) (f : List Int) (hf : ∀ j, I64 (f.getD j 0)) (u : Value) (w : World) (hI : IntsIn w u f) : Calls Try.prog 4 #[woV o, .int .u8 s, u] w fun e w' => e = .returned (.bool true) ∧ Below w.heap.size w w' := by
  obtain ⟨hu, hnil, hlen⟩ := hI
  have HU := hide hu
  obtain ⟨oa, oc, rfl, _⟩ := hu
  have LN := fun W hI => lentI_any f (.slice oa f.length oc) W hI hnil hlen
  have KT := fun W b g hR hI => kept_true f (.slice oa f.length oc) W b g hR hI (by omega)
  have LI := fun W b g cc hR => lent_ints (w := W) (base := b) (g := g) (c := cc) (l := f) hR
  have SE := hide (fun W v hv => sees_any o ho s f hf v W hv (by omega))
  have RS := hide (fun W v hv => rsees_any o ho s f hf v W hv (by omega))
  have hro := seeO_len o s f
  generalize seeO o s f = ro at *
  have SI := fun W v u hv hu => sameInts_true ro v u W hv hu (by omega)
  obtain ⟨n, hn⟩ : ∃ n, f.length = n := ⟨_, rfl⟩
  rw [hn] at LN KT LI HU ⊢
  replace LN := hide LN
  replace KT := hide KT
  replace LI := hide LI
  obtain ⟨rn, HN⟩ : ∃ rn, Hid (ro.length = rn) := ⟨_, hide rfl⟩
  have hr4 : rn ≤ 4 := by rw [← HN.out]; exact hro
  have AW := hide awakeW
  clear hn hnil hlen hf ho hro
  have HA := hide (Blk.new w (woA o) 24)
  have Hb := hide (below_alloc w (.cells (woA o) 24))
  go_enter Try.func4, Try.ntmps4
  go_upto_region 1 with fail
  generalize w.alloc (.cells (woA o) 24) = W0 at *
  go_wp2_with fail
  refine (LN.out W0 (HU.out.below Hb.out)).mono ?_
  rintro e w1 ⟨rfl, hR1, hb1⟩
  have HR1 := hide hR1
  have HB1 := hide (below_next Hb.out (Nat.le_refl _) hb1)
  have HA1 := hide (HA.out.after hb1)
  clear hR1 hb1 HA Hb LN
  generalize W0.heap.size = g at *
  obtain ⟨a0, a1, a2, a3, a4, a5, a6, a7, a8⟩ := nine_cells HA1.out
  go_wp2_with fail
  refine (SE.out w1 (.slice (some ⟨g, 0, none⟩) n (n + 4)) (LI.out w1 _ g _ HR1.out)).mono ?_
  rintro e w2 ⟨v2, rfl, hN2, hb2⟩
  obtain ⟨va2, rfl⟩ := hN2.shape
  have HQ2 := hide (hN2.irow (by rw [HN.out]; exact hr4))
  rw [HN.out] at HQ2 ⊢
  have HR2 := hide (IRow.below HR1.out hb2)
  have HB2 := hide (below_next HB1.out (Nat.le_refl _) hb2)
  have HA2 := hide (HA1.out.after hb2)
  have HS1 := hide HB1.out.size
  clear hN2 hb2 a0 a1 a2 a3 a4 a5 a6 a7 a8 HR1 HA1
  obtain ⟨a0, a1, a2, a3, a4, a5, a6, a7, a8⟩ := nine_cells HA2.out
  go_wp2_with fail
  refine (SE.out w2 (.slice (some ⟨g, 0, none⟩) n (n + 4)) (LI.out w2 _ g _ HR2.out)).mono ?_
  rintro e w3 ⟨v3, rfl, hN3, hb3⟩
  obtain ⟨va3, rfl⟩ := hN3.shape
  have HQ33 := hide (hN3.irow (by rw [HN.out]; exact hr4))
  rw [HN.out] at HQ33 ⊢
  have HAP : Hid (∀ q, (Value.slice va2 rn rn).ownBlock = some q → (Value.slice va3 rn rn).ownBlock ≠ some q) := hide (fun q h1 h2 => by
    have b1 := (World.ownsRow.lt HQ2.out q h1).2
    have b2 := (World.ownsRow.lt HQ33.out q h2).1
    omega)
  have HQ32 := hide (IRow.below HQ2.out hb3)
  have HR3 := hide (IRow.below HR2.out hb3)
  have HB3 := hide (below_next HB2.out (Nat.le_refl _) hb3)
  have HA3 := hide (HA2.out.after hb3)
  have HS2 := hide HB2.out.size
  clear hN3 hb3 a0 a1 a2 a3 a4 a5 a6 a7 a8 HR2 HA2 HQ2 SE LI
  obtain ⟨a0, a1, a2, a3, a4, a5, a6, a7, a8⟩ := nine_cells HA3.out
  go_wp2_with fail
  refine (RS.out w3 (.slice oa n oc) (HU.out.below HB3.out)).mono ?_
  rintro e w4 ⟨v4, rfl, hN4, hb4⟩
  obtain ⟨va4, rfl⟩ := hN4.shape
  have HQ44 := hide (hN4.irow (by rw [HN.out]; exact hr4)).ints
  rw [HN.out] at HQ44 ⊢
  have HQ42 := hide (IRow.below HQ32.out hb4)
  have HQ43 := hide (IRow.below HQ33.out hb4)
  have HR4 := hide (IRow.below HR3.out hb4)
  have HB4 := hide (below_next HB3.out (Nat.le_refl _) hb4)
  clear hN4 hb4 a0 a1 a2 a3 a4 a5 a6 a7 a8 HR3 HA3 HQ32 HQ33 RS
  go_wp2_with fail
  refine (SI _ _ _ HQ42.out.ints HQ44.out).mono ?_
  rintro e w5 ⟨rfl, n5, hw5⟩
  have hb5 : Below w4.heap.size w4 w5 := by rw [hw5]; exact below_drewN (Below.refl _ _) n5
  have HQ52 := hide (IRow.below HQ42.out hb5)
  have HQ53 := hide (IRow.below HQ43.out hb5)
  have HQ54 := hide (Ints.below HQ44.out hb5)
  have HR5 := hide (IRow.below HR4.out hb5)
  have HB5 := hide (below_next HB4.out (Nat.le_refl _) hb5)
  clear hw5 hb5 HQ42 HQ43 HQ44 HR4
  go_wp2_with fail
  refine (SI _ _ _ HQ53.out.ints HQ54.out).mono ?_
  rintro e w6 ⟨rfl, n6, hw6⟩
  have hb6 : Below w5.heap.size w5 w6 := by rw [hw6]; exact below_drewN (Below.refl _ _) n6
  have HQ62 := hide (IRow.below HQ52.out hb6)
  have HQ63 := hide (IRow.below HQ53.out hb6)
  have HR6 := hide (IRow.below HR5.out hb6)
  have HB6 := hide (below_next HB5.out (Nat.le_refl _) hb6)
  clear hw6 hb6 HQ52 HQ53 HQ54 HR5 SI
  go_wp2_with fail
  refine (KT.out w6 _ g HR6.out (HU.out.below HB6.out)).mono ?_
  rintro e w7 ⟨rfl, n7, hw7⟩
  have hb7 : Below w6.heap.size w6 w7 := by rw [hw7]; exact below_drewN (Below.refl _ _) n7
  have HQ72 := hide (IRow.below HQ62.out hb7)
  have HQ73 := hide (IRow.below HQ63.out hb7)
  have HB7 := hide (below_next HB6.out (Nat.le_refl _) hb7)
  clear hw7 hb7 HQ62 HQ63 HR6 KT
  go_wp2_with fail
  have AP := apart_true rn (by omega) (.slice va2 rn rn) (.slice va3 rn rn) ro ro HN.out HN.out (w7.alloc (.cells #[.slice va2 rn rn, .slice va3 rn rn] 34)) w.heap.size ((irow_low HQ72.out HS1.out).alloc _) ((irow_low HQ73.out HS2.out).alloc _) HAP.out w7.heap.size (heap_alloc_new _ _) HB7.out.size
  refine AP.mono ?_
  rintro e w8 ⟨rfl, hb8⟩
  have HB8 : Hid (Below w.heap.size w w8) := hide ((below_next HB7.out (Nat.le_refl _) (below_alloc _ _)).trans hb8)
  clear hb8 AP
  go_wp2_with (go_at_call 9; refine (AW.out _).mono ?_; rintro e w9 ⟨rfl, hb9⟩; have Hb9 := hide hb9; clear hb9)
  go_ret
  exact ⟨rfl, below_next HB8.out (Nat.le_refl _) Hb9.out⟩
theorem WorldSees_walk (v : Value) (s : Int) (u : Value) (w : World) (hv : ∃ o : Wo, WOk o ∧ v = woV o) (_ : (Lit.int .u8 s).wf = true) (hu : ∃ ns, (∀ j, I64 (ns.getD j 0)) ∧ IntsIn w u ns) : Calls Try.prog 4 #[v, .int .u8 s, u] w fun e w' => e = .returned (.bool true) ∧ Below w.heap.size w w' := by
  obtain ⟨o, ho, rfl⟩ := hv
  obtain ⟨f, hf, hI⟩ := hu
  exact worldsees_any o ho s f hf u w hI
end Go.Proofs.Ytpoodmfhcoaleaa
