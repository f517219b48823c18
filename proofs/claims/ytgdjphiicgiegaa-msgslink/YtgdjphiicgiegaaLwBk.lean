/- MsgsBack. -/
import Derived.Test.YtgdjphiicgiegaaOp1
import Derived.Deep.DeepCutAuto
namespace Go.Proofs.Ytgdjphiicgiegaa
open Go.RowKit Go.Great

theorem cell_set3i {w : World} {R g i : Nat} (h : R ≠ g) (a b c : Value) : (((w.setCell ⟨g, 0, none⟩ a).setCell ⟨g, 1, none⟩ b).setCell ⟨g, 2, none⟩ c).cell? ⟨R, i, none⟩ = w.cell? ⟨R, i, none⟩ :=
  World.cell?_of_block (a := ⟨R, i, none⟩) ((Below.heap_setCell _ _ _ _ h).trans ((Below.heap_setCell _ _ _ _ h).trans (Below.heap_setCell _ _ _ _ h)))
/-- behind 'f, e := msgs.Encode(seq, api.Message{.., Fields: Lent(..)})' -/
def BackMid (w0 : World) (fa fb : Int) (fp : ByteArray) (fe : Int) (v5 v6 : Value) (wx : World) : Prop :=
  ∃ g, v5 = .pointer (some ⟨g, 0, none⟩) ∧ v6 = .int .i64 fe ∧ Frm wx g (.int .i64 fa) (.int .i64 fb) (.string fp) ∧ Below w0.heap.size w0 wx
set_option maxHeartbeats 2000000 in
theorem back_region (seq k : Int) (ns : List Int) (ua : Option Addr) (uc : Nat) (w : World) (hk0 : 0 ≤ k) (hk1 : k ≤ 255) (hI : IntsIn w (.slice ua ns.length uc) ns) : Calls Try.prog 5 #[.int .i64 seq, .agg #[.int .u8 k, .slice ua ns.length uc]] w fun e w' => e = .returned (.bool true) ∧ Below w.heap.size w w' := by
  obtain ⟨hu, hnil, hlen⟩ := hI
  have hen := fun v w hv => mencode_any seq k hk0 hk1 ns v w hv (by omega)
  have hlt := fun w hv => lent_any ns (.slice ua ns.length uc) w hv hnil hlen
  obtain ⟨E, HE⟩ : ∃ E, Hid (encM seq k ns = E) := ⟨_, rfl⟩
  simp only [HE.out] at hen
  obtain ⟨⟨fa, fb, fp⟩, fe⟩ := E
  simp only [] at hen
  have HU := hide hu
  have HLN := hide hlen
  clear hnil hu hlen
  go_enter Try.func5, Try.ntmps5
  go_wp2_with fail
  have HM0 := hide (msg_new w (.int .u8 k) (.slice ua ns.length uc))
  have HU0 := hide (HU.out.below (below_alloc w (.cells #[.int .u8 k, .slice ua ns.length uc] 25)))
  have HB0 := hide (below_alloc w (.cells #[.int .u8 k, .slice ua ns.length uc] 25))
  have hsz : (w.alloc (.cells #[.int .u8 k, .slice ua ns.length uc] 25)).heap.size = w.heap.size + 1 := size_alloc _ _
  generalize w.alloc (.cells #[.int .u8 k, .slice ua ns.length uc] 25) = w0 at HM0 HU0 HB0 hsz ⊢
  have m0 := HM0.out.c0
  have m1 := HM0.out.c1
  have hlt0 : w.heap.size < w0.heap.size := by omega
  have HSZ := hide hsz
  clear hsz
  go_cut [5, 6] (fun v5 v6 wx => BackMid w0 fa fb fp fe v5 v6 wx)
  case first =>
    go_region_held3 (fun wx => wx.cell? ⟨w.heap.size, 0, none⟩ = some (.int .u8 k) ∧ wx.cell? ⟨w.heap.size, 1, none⟩ = some (.slice ua ns.length uc)) (first | go_keep | exact ⟨(cell_set3i (by have := KB1.out.size; omega) _ _ _).trans q02, (cell_set3i (by have := KB1.out.size; omega) _ _ _).trans q12⟩) (first
      | (go_at_call 9; refine (hlt _ (HU0.out.below (by first | exact (Below.refl _ _).drew | exact ((Below.refl _ _).drew).alloc (Nat.le_refl _) _ | exact ((Below.refl _ _).alloc (Nat.le_refl _) _).drew))).mono ?_; rintro e w1 ⟨rfl, hR1, hB1⟩; have KB1 : Hid (Below w0.heap.size w0 w1) := (by first | exact below_next (Below.refl _ _).drew (Nat.le_refl _) hB1 | exact below_next (((Below.refl _ _).drew).alloc (Nat.le_refl _) _) (Nat.le_refl _) hB1 | exact below_next (((Below.refl _ _).alloc (Nat.le_refl _) _).drew) (Nat.le_refl _) hB1); have q0 := (HM0.out.below KB1.out).c0; have q1 := (HM0.out.below KB1.out).c1; (first | (change IRow w1 (w0.alloc (.cells #[.int .i64 0, .int .i64 0, .string ⟨#[]⟩] 28)).heap.size (.slice (some ⟨(w0.alloc (.cells #[.int .i64 0, .int .i64 0, .string ⟨#[]⟩] 28)).heap.size, 0, none⟩) _ _) _ at hR1; rw [size_alloc] at hR1; have HR1 : Hid (IRow w1 (w0.heap.size + 1) (.slice (some ⟨w0.heap.size + 1, 0, none⟩) (ns.length + 4) (ns.length + 4)) (mk4 ns 4)) := hR1; have HZ1 : Hid (Frm w1 w0.heap.size (.int .i64 0) (.int .i64 0) (.string ⟨#[]⟩)) := Frm.below (show Frm (w0.alloc (.cells #[.int .i64 0, .int .i64 0, .string ⟨#[]⟩] 28)).drew w0.heap.size _ _ _ from frm_new w0 (.int .i64 0) (.int .i64 0) (.string ⟨#[]⟩)) hB1; have y0 := HZ1.out.c0; have y1 := HZ1.out.c1; have y2 := HZ1.out.c2; have y3 := HZ1.out.fz) | (have HR1 : Hid (IRow w1 w0.heap.size (.slice (some ⟨w0.heap.size, 0, none⟩) (ns.length + 4) (ns.length + 4)) (mk4 ns 4)) := hR1)); clear hR1 hB1)
      | (go_at_call 10; refine (hen _ _ (by first | exact lent_ints HR1.out | exact (lent_ints HR1.out).below (below_alloc _ _) | exact (show Ints w1.drew _ _ from lent_ints HR1.out).below (below_alloc _ _))).mono ?_; rintro e w2 ⟨rfl, hB2⟩; have KB2 : Hid (Below w0.heap.size w0 w2) := (by first | exact below_next KB1.out (Nat.le_refl _) hB2 | exact below_next KB1.out.drew (Nat.le_refl _) hB2 | exact below_next (KB1.out.drew.alloc KB1.out.size _) (Nat.le_refl _) hB2 | exact below_next (KB1.out.alloc KB1.out.size _) (Nat.le_refl _) hB2); have q02 := (HM0.out.below KB2.out).c0; have q12 := (HM0.out.below KB2.out).c1; (first | (have HZ2 : Hid (Frm w2 w0.heap.size (.int .i64 0) (.int .i64 0) (.string ⟨#[]⟩)) := Frm.below (HZ1.out) hB2; have y02 := HZ2.out.c0; have y12 := HZ2.out.c1; have y22 := HZ2.out.c2; have y32 := HZ2.out.fz) | (have HZ2 : Hid (Frm w2 w1.heap.size (.int .i64 0) (.int .i64 0) (.string ⟨#[]⟩)) := (by first | exact Frm.below (frm_new w1.drew (.int .i64 0) (.int .i64 0) (.string ⟨#[]⟩)) hB2 | exact Frm.below (frm_new w1 (.int .i64 0) (.int .i64 0) (.string ⟨#[]⟩)) hB2); have y02 := HZ2.out.c0; have y12 := HZ2.out.c1; have y22 := HZ2.out.c2; have y32 := HZ2.out.fz) | skip); clear hB2))
    all_goals go_wp2_with fail
    all_goals go_meet
    · exact ⟨_, rfl, rfl, frm_new w2 _ _ _, KB2.out.alloc KB2.out.size _⟩
    · exact ⟨_, rfl, rfl, HZ2.out.set _ _ _, below_set3 KB2.out KB1.out.size _ _ _⟩
    · exact ⟨_, rfl, rfl, HZ2.out.set _ _ _, below_set3 KB2.out (Nat.le_refl _) _ _ _⟩
  case rest =>
    obtain ⟨g, rfl, rfl, hF, hB⟩ := hcut
    have HF := hide hF
    have HBc := hide (below_next HB0.out (Nat.le_refl _) hB)
    have HMc := hide (HM0.out.below hB)
    have HUc := hide (HU0.out.below hB)
    clear hF hB m0 m1 hlt hen hlt0 HSZ HM0 HU0 HB0
    by_cases hfe : fe = 0
    · subst hfe
      obtain ⟨d1, d2, d3, d4⟩ := dec_enc seq k ns (by rw [HE.out])
      simp only [HE.out] at d1 d2 d3 d4
      subst d1 d2
      have hd := fun w => mdecode_any fa fb fp w
      simp only [d4] at hd
      have hkk : (fb == fb) = true := by simp
      have hss : (fa == fa) = true := by simp
      have hw : IntKind.i64.wrap fb = fb := by rw [IntKind.wrap_i64]; omega
      have h64 : ((fp.size : Nat) : Int) ≤ 64 := by omega
      clear HE d4 d3
      have f0 := HF.out.c0
      have f1 := HF.out.c1
      have f2 := HF.out.c2
      go_wp2_with fail
      refine (hd _).mono ?_
      rintro e w3 ⟨u3, rfl, hR3, hB3⟩
      have HF3 := hide (HF.out.below hB3)
      have HM3 := hide (HMc.out.below hB3)
      have HU3 := hide (HUc.out.below hB3)
      have HB3 := hide (below_next HBc.out (Nat.le_refl _) hB3)
      have HI3 := hide hR3.ints
      obtain ⟨va, vc, rfl⟩ := hR3.shape
      clear hB3 hR3 HF HMc HUc HBc hd f0 f1 f2
      have hba := below_alloc w3 (.cells #[.int .u8 fb, .slice va ns.length vc] 25)
      have HN4 := hide (msg_new w3 (.int .u8 fb) (.slice va ns.length vc))
      have HF4 := hide (HF3.out.below hba)
      have HM4 := hide (HM3.out.below hba)
      have HU4 := hide (HU3.out.below hba)
      have HI4 := hide (HI3.out.below hba)
      have HB4 := hide (below_next HB3.out (Nat.le_refl _) hba)
      clear hba HF3 HM3 HU3 HI3 HB3
      go_wp2_with fail
      refine (awake5_any _).mono ?_
      rintro e w5 ⟨rfl, hB5⟩
      have hF5 := HF4.out.below hB5
      have hM5 := HM4.out.below hB5
      have hN5 := HN4.out.below hB5
      have HU5 := hide (HU4.out.below hB5)
      have HI5 := hide (HI4.out.below hB5)
      have HB5 := hide (below_next HB4.out (Nat.le_refl _) hB5)
      have m0 := hM5.c0
      have m1 := hM5.c1
      have n0 := hN5.c0
      have n1 := hN5.c1
      have HF5 := hide hF5
      have HM5 := hide hM5
      clear hB5 hM5 hN5 hF5 HF4 HM4 HN4 HU4 HI4 HB4
      go_wp2_with fail
      refine (same_true5 fb ns _ _ _ HU5.out HI5.out (by have := HLN.out; omega)).mono ?_
      rintro e w6 ⟨rfl, hB6⟩
      have hF6 := HF5.out.below hB6
      have hM6 := HM5.out.below hB6
      have HB6 := hide (below_next HB5.out (Nat.le_refl _) hB6)
      have f0 := hF6.c0
      have f1 := hF6.c1
      have f2 := hF6.c2
      have m02 := hM6.c0
      clear hB6 hF6 hM6 m0 m1 n0 n1
      go_wp2_with fail
      go_ret
      exact ⟨rfl, HB6.out⟩
    · have herr := enc_err (seq := seq) (k := k) (ns := ns) (by rw [HE.out]; exact hfe)
      rw [HE.out] at herr
      simp only [Prod.mk.injEq] at herr
      obtain ⟨rfl, rfl, rfl⟩ := herr
      have hne : (fe != 0) = true := by simpa using hfe
      have heq := fun wx => frame_eq 0 0 0 0 ⟨#[]⟩ ⟨#[]⟩ wx
      simp only [decide_true] at heq
      clear HE hfe
      go_wp2_with fail
      refine (awake5_any _).mono ?_
      rintro e w5 ⟨rfl, hB5⟩
      have hF5 := HF.out.below hB5
      have HB5 := hide (below_next HBc.out (Nat.le_refl _) hB5)
      have f0 := hF5.c0
      have f1 := hF5.c1
      have f2 := hF5.c2
      clear hB5 hF5
      go_wp2_with fail
      go_ret
      exact ⟨rfl, HB5.out⟩
theorem MsgsBack_walk (seq : Int) (v : Value) (w : World) (hm : ∃ k u ns, MsgIn w v k u ns) : Calls Try.prog 5 #[.int .i64 seq, v] w fun e w' => e = .returned (.bool true) ∧ Below w.heap.size w w' := by
  obtain ⟨k, u, ns, rfl, hk0, hk1, hI⟩ := hm
  have hI2 := hI
  obtain ⟨⟨ua, uc, rfl, _⟩, _⟩ := hI
  exact back_region seq k ns ua uc w hk0 hk1 hI2
end Go.Proofs.Ytgdjphiicgiegaa
