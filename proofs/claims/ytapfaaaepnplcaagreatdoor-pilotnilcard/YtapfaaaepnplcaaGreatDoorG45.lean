/- Qsf, Qsg, Qsh. -/
import Derived.Test.YtapfaaaepnplcaaGreatDoorG33
import Derived.Test.YtapfaaaepnplcaaGreatDoorG24
import Derived.Test.YtapfaaaepnplcaaGreatDoorG37
import Derived.Test.YtapfaaaepnplcaaGreatDoorG44
import Derived.Test.YtapfaaaepnplcaaGreatDoorG08
import Derived.Test.YtapfaaaepnplcaaGreatDoorG36
import Derived.Test.YtapfaaaepnplcaaGreatDoorG06
import Derived.Test.YtapfaaaepnplcaaGreatDoorG18
set_option maxRecDepth 100000
set_option maxHeartbeats 8000000
namespace Go.Proofs.YtapfaaaepnplcaaGreatDoor
open Go.RowKit Go.Great
theorem Bt.map {w0 : World} {b0 : Nat} {w w' : World} {a : Ad} (h : Bt w0 b0 w a) {T : TypeId} (hT : T = 124 ∨ T = 28) {z : Nat} {ds : Array Value} (hz : Blk w z ds T) (hg : w.grownBy w' (some z)) (hP : ∃ t q, Blk w' a.Pl #[.int .i64 t, q] 124) : Bt w' b0 w' a := by
  have kp : ∀ {g : Nat} {cs : Array Value} {t : TypeId}, Blk w g cs t → t ≠ T → Blk w' g cs t := fun {g cs t} q ht => q.grown hg (fun e => by injection e with e; exact blk_ne q hz ht e.symm)
  rcases hT with rfl | rfl
  all_goals exact {
    P := kp h.P (by decide)
    V := fun i hi => (h.V i hi).imp fun _ q => kp q (by decide)
    F := fun i hi => kp (h.F i hi) (by decide)
    Cm := kp h.Cm (by decide)
    Ba := kp h.Ba (by decide)
    Rd := kp h.Rd (by decide)
    Dg := kp h.Dg (by decide)
    D1 := kp h.D1 (by decide)
    D2 := kp h.D2 (by decide)
    Mc := kp h.Mc (by decide)
    Rn := h.Rn.imp fun _ q => q.imp fun _ q => kp q (by decide)
    St := kp h.St (by decide)
    De := kp h.De (by decide)
    Bk := kp h.Bk (by decide)
    Vg := h.Vg.grown (h.Vg.ne hz (by decide)) hg
    Pl := hP
    Jb := kp h.Jb (by decide)
    ext := ⟨rfl, rfl, rfl, Nat.le_refl _, fun _ _ _ => rfl⟩
    lo := h.lo }
theorem Bt.due {w0 : World} {b0 : Nat} {w w' : World} {a : Ad} (h : Bt w0 b0 w a) (hg : w.grownBy w' (some a.Pl)) (hP : ∃ t q, Blk w' a.Pl #[.int .i64 t, q] 124) : Bt w' b0 w' a := by
  obtain ⟨_, _, hpl⟩ := id h.Pl
  exact h.map (.inl rfl) hpl hg hP
theorem Bt.side {w0 : World} {b0 : Nat} {w w' : World} {a : Ad} (h : Bt w0 b0 w a) {z : Nat} {ds : Array Value} (hz : Blk w z ds 28) (hg : w.grownBy w' (some z)) : Bt w' b0 w' a :=
  h.map (.inr rfl) hz hg (h.Pl.imp fun _ q => q.imp fun _ q => q.grown hg (fun e => by injection e with e; exact blk_ne q hz (by decide) e.symm))
/-- behind j jobs of the first tick -/
def StR (a : Ad) (W1 : World) (b0 j : Nat) (wx : World) : Prop := ∃ (le si : Int) (bk : Nat) (out : Value) (sq : Int), Bt W1 b0 wx { a with le := le, si := si, bk := bk, out := out, sq := sq } ∧ (j ≤ 3 → le = 0 ∧ si = 0) ∧ (j ≤ 5 → out = .slice none 0 0 ∧ sq = 0) ∧ (j = 6 → ∃ b, BRow wx b out LH)
theorem StR.ext {a : Ad} {W1 : World} {b0 j : Nat} {wx : World} (h : StR a W1 b0 j wx) : W1.grownBy wx (some a.B) := by
  obtain ⟨_, _, _, _, _, h, _⟩ := h
  exact h.ext
theorem StR.at {a : Ad} {W1 : World} {b0 j : Nat} {wx : World} (h : StR a W1 b0 j wx) (hj : a.jc = 7) : wx.cell? ⟨a.B, 161, none⟩ = some (.slice (some ⟨a.Jg, 0, none⟩) 7 7) := by
  obtain ⟨_, _, _, _, _, h, _⟩ := h
  have := h.at 161 (.slice (some ⟨a.Jg, 0, none⟩) 7 a.jc) (by omega) rfl
  rw [hj] at this
  exact this
theorem StR.job {a : Ad} {W1 : World} {b0 j : Nat} {wx : World} (h : StR a W1 b0 j wx) : Blk wx a.Jg (jbsV a.B) 94 := by
  obtain ⟨_, _, _, _, _, h, _⟩ := h
  exact h.Jb
abbrev ouH : Array Value := #[.int .i64 0, .int .i64 0, .int .i64 0, .int .i64 0, .int .i64 0, .int .i64 0, .int .i64 0, .int .i64 0, .string (bs LH)]
theorem in_sameL {w0 : World} {b0 : Nat} {w : World} {a : Ad} (h : Bt w0 b0 w a) : w.setCells a.B 162 inE.toList = w := h.P.sameL 162 inE.toList (by decide) (in_same a)
theorem due7 : (dueS L7 0).map Int.ofNat = [0, 1, 2, 3, 4, 5] := by kernel_rfl
theorem row_keep7 {w w' : World} {b g c B : Nat} {l : List Int} {cs : Array Value} (h : IRow w b (.slice (some ⟨g, 0, none⟩) 6 c) l) (hB : Blk w B cs 90) (hg : w.grownBy w' (some B)) : IRow w' b (.slice (some ⟨g, 0, none⟩) 6 c) l := World.ownsRow.kept h hg (.inr (blk_apart h hB (by decide)))
theorem step_first (w w0 : World) (b0 bq : Nat) (a : Ad) (h : Bt w0 b0 w a) (hP : PlanW w bq a.Pl L7 0) (hj : a.jc = 7) (hle : a.le = 0) (hsi : a.si = 0) (ho : a.out = .slice none 0 0) (hsq : a.sq = 0) : Calls Tryz.prog 4 #[pt a.B, .agg inE] w fun e w' => e = .returned (.tuple #[.agg ouH, .int .i64 0]) ∧ ∃ w1 a', Bt w1 b0 w' a' ∧ a'.B = a.B ∧ (b0 ≤ w.heap.size → Below b0 w w') := by
  obtain ⟨W0, hW0, hB, B0, B1, hz⟩ := two_boxes w inE ou0 24 28
  obtain ⟨z, hz1⟩ : ∃ z, w.heap.size = z := ⟨_, rfl⟩
  rw [hz1] at B0 B1
  obtain ⟨z1, hz2⟩ : ∃ z1, z + 1 = z1 := ⟨_, rfl⟩
  rw [hz2] at B1
  have HB := hide hB
  have HI := hide B0
  have HZ := hide B1
  have H0 := hide (h.after hB)
  have HJ := hide hj
  have HS0 : Hid (StR a W0 b0 0 W0 → True) := hide (fun _ => trivial)
  have HX := hide (⟨hle, hsi⟩ : a.le = 0 ∧ a.si = 0)
  have HY := hide (⟨ho, hsq⟩ : a.out = .slice none 0 0 ∧ a.sq = 0)
  have HPl := hide (HQ.after hP hB : PlanW W0 bq a.Pl L7 0)
  have HZ1 := hide hz1
  have HZ2 := hide hz2
  clear HS0
  go_enter Tryz.func4, Tryz.ntmps4
  go_upto_region 3 with fail
  clear hW0 hz1 hz2 hB B0 B1 h hP hj hle hsi ho hsq hz
  rename_i K0 hK0
  apply wp_region_lit
  refine wpList_same rfl (some 11) rfl (pt a.B) (by kernel_rfl) ?_
  refine wpList_load_row rfl 24 _ rfl z rfl 24 inE (0, 0) _ HI.out Tryz.underlying24 rfl (by kernel_rfl) ?_
  refine wpList_same rfl (some 13) rfl (pt a.B) (by kernel_rfl) ?_
  refine wpList_same rfl (some 14) rfl (.pointer (some ⟨a.B, 162, none⟩)) (by kernel_rfl) ?_
  refine wpList_store_mid rfl 24 _ _ rfl a.B 162 inE rfl rfl (H0.out.P.there 162 12 (by omega)) (by kernel_rfl) (by kernel_rfl) ?_
  rw [in_sameL H0.out]
  go_simp
  have c160 := H0.out.at 160 (pt a.Pl) (by omega) rfl
  have DU := hide (due_any W0 bq a.Pl L7 0 HPl.out ⟨by decide, by decide, l7_ok⟩ (by omega) (by omega))
  clear HPl
  apply wpList_nil
  refine hK0 _ _ ?_
  clear hK0 K0
  go_wp2_with fail
  refine DU.out.mono ?_
  rintro e w2 ⟨v, rfl, hr, hp, hg⟩
  rw [due7] at hr
  have H2 : Hid (Bt w2 b0 w2 a) := hide (H0.out.due hg (by obtain ⟨x1, x2, x3, hb⟩ := hp.blk; exact ⟨_, _, hb⟩))
  obtain ⟨g, c, rfl⟩ : ∃ g c, v = .slice (some ⟨g, 0, none⟩) 6 c := by
    rcases hr.2 with ⟨_, h0⟩ | ⟨g, cap, cur, h1, _⟩
    · cases h0
    · exact ⟨g, cap, h1⟩
  have HR := hide hr
  have HZ4 := hide (HZ.out.grown hg (fun e => by
    injection e with e
    obtain ⟨_, _, r⟩ := H0.out.Pl
    exact blk_ne HZ.out r (by decide) e.symm))
  have HG : Hid (b0 ≤ w.heap.size → Below b0 w w2) := hide (fun h0 => (HB.out.mono h0).grown hg (Nat.le_trans h0 HB.out.size) (fun k e => by injection e with e; rw [← e]; exact H0.out.lo.2))
  clear hr hp hg DU c160 H0 HZ HB HI
  go_wp2_with fail
  go_loopw [21] (fun i wx => ∃ j : Nat, i = .int .i64 (j : Int) ∧ j ≤ 6 ∧ Hid (StR a w2 b0 j wx)) (fun i _ => 6 - (intOf i).toNat)
  case atStart => exact ⟨0, rfl, by omega, hide ⟨a.le, a.si, a.bk, a.out, a.sq, H2.out, fun _ => HX.out, fun _ => HY.out, fun e => by cases e⟩⟩
  case round =>
    obtain ⟨j, rfl, hj, HS⟩ := hrel
    by_cases h6 : j = 6
    · subst h6
      obtain ⟨le, si, bk, out, sq, hq, _, _, k3⟩ := HS.out
      have HQ := hide hq
      have hin : wr.setCells a.B 162 inE.toList = wr := in_sameL (a := { a with le := le, si := si, bk := bk, out := out, sq := sq }) hq
      have HZ6 := hide (HZ4.out.grown HS.out.ext (fun e => by injection e with e; exact blk_ne HZ4.out H2.out.P (by decide) e.symm))
      have HG6 : Hid (b0 ≤ w.heap.size → Below b0 w wr) := hide (fun h0 => (HG.out h0).grown HS.out.ext (Nat.le_trans h0 (HG.out h0).size) (fun k e => by injection e with e; rw [← e]; exact H2.out.lo.1))
      obtain ⟨bv, hv⟩ := k3 rfl
      have HV := hide hv
      clear hq k3 hv HS HG HZ4 H2 HR
      go_upto_region 9 with fail
      rename_i K0 hK0
      apply wp_region_lit
      refine wpList_same rfl (some 35) rfl (pt a.B) (by kernel_rfl) ?_
      refine wpList_same rfl (some 36) rfl (.agg inE) (by kernel_rfl) ?_
      refine wpList_same rfl (some 37) rfl (pt a.B) (by kernel_rfl) ?_
      refine wpList_same rfl (some 38) rfl (.pointer (some ⟨a.B, 162, none⟩)) (by kernel_rfl) ?_
      refine wpList_store_mid rfl 24 _ _ rfl a.B 162 inE rfl rfl (HQ.out.P.there 162 12 (by omega)) (by kernel_rfl) (by kernel_rfl) ?_
      rw [hin]
      clear hin
      go_simp
      apply wpList_nil
      refine hK0 _ _ ?_
      clear hK0 K0
      go_upto_region 10 with fail
      have hM : ∀ W : World, Bt w2 b0 W { a with le := le, si := si, bk := bk, out := out, sq := sq } → W.cell? ⟨a.B, 152, none⟩ = some (.int .i64 0) ∧ W.cell? ⟨a.B, 153, none⟩ = some (.int .i64 0) ∧ W.cell? ⟨a.B, 154, none⟩ = some (.int .i64 0) ∧ W.cell? ⟨a.B, 155, none⟩ = some (.int .i64 0) ∧ W.cell? ⟨a.B, 156, none⟩ = some (.int .i64 0) ∧ W.cell? ⟨a.B, 157, none⟩ = some (.int .i64 0) ∧ W.cell? ⟨a.B, 158, none⟩ = some (.int .i64 0) ∧ W.cell? ⟨a.B, 159, none⟩ = some (.int .i64 0) := fun W h => ⟨h.at 152 _ (by omega) rfl, h.at 153 _ (by omega) rfl, h.at 154 _ (by omega) rfl, h.at 155 _ (by omega) rfl, h.at 156 _ (by omega) rfl, h.at 157 _ (by omega) rfl, h.at 158 _ (by omega) rfl, h.at 159 _ (by omega) rfl⟩
      refine wp_region_held_drew (S := (fun wx => wx.cell? ⟨a.B, 152, none⟩ = some (.int .i64 0) ∧ wx.cell? ⟨a.B, 153, none⟩ = some (.int .i64 0) ∧ wx.cell? ⟨a.B, 154, none⟩ = some (.int .i64 0) ∧ wx.cell? ⟨a.B, 155, none⟩ = some (.int .i64 0) ∧ wx.cell? ⟨a.B, 156, none⟩ = some (.int .i64 0) ∧ wx.cell? ⟨a.B, 157, none⟩ = some (.int .i64 0) ∧ wx.cell? ⟨a.B, 158, none⟩ = some (.int .i64 0) ∧ wx.cell? ⟨a.B, 159, none⟩ = some (.int .i64 0))) (by kernel_rfl) (hM _ HQ.out.drew) (fun hHeld => ?_)
      replace HQ := hide (HQ.out.drew)
      replace HZ6 := hide (HZ6.out.after (Below.refl _ _).drew)
      replace HV := hide (HV.out.below (Below.refl _ _).drew)
      replace HG6 := hide (fun h0 => (HG6.out h0).drew)
      generalize wr.drew = Wd at *
      refine take_at (i := 0) (v := pt a.B) (d := some 39) rfl rfl (by kernel_rfl) (by kernel_rfl) (by kernel_rfl) (fun _ _ _ h => h) (Or.inl ⟨by rfl, fun wS ⟨hS0, hS1, hS2, hS3, hS4, hS5, hS6, hS7⟩ => by go_simp; all_goals (rw [IntKind.wrap_i64]; omega)⟩) (by assumption) ?_
      simp only [Act.put, List.setIfInBounds_toArray, List.set_cons_zero, List.set_cons_succ]
      refine take_at (i := 1) (v := pt a.B) (d := some 40) rfl rfl (by kernel_rfl) (by kernel_rfl) (by kernel_rfl) (fun _ _ _ h => h) (Or.inl ⟨by rfl, fun wS ⟨hS0, hS1, hS2, hS3, hS4, hS5, hS6, hS7⟩ => by go_simp; all_goals (rw [IntKind.wrap_i64]; omega)⟩) (by assumption) ?_
      simp only [Act.put, List.setIfInBounds_toArray, List.set_cons_zero, List.set_cons_succ]
      refine take_at (i := 2) (v := .pointer (some ⟨a.B, 126, none⟩)) (d := some 41) rfl rfl (by kernel_rfl) (by kernel_rfl) (by kernel_rfl) (fun _ _ _ h => h) (Or.inl ⟨by rfl, fun wS ⟨hS0, hS1, hS2, hS3, hS4, hS5, hS6, hS7⟩ => by go_simp; all_goals (rw [IntKind.wrap_i64]; omega)⟩) (by assumption) ?_
      simp only [Act.put, List.setIfInBounds_toArray, List.set_cons_zero, List.set_cons_succ]
      refine take_at (i := 3) (v := .pointer (some ⟨a.B, 152, none⟩)) (d := some 42) rfl rfl (by kernel_rfl) (by kernel_rfl) (by kernel_rfl) (fun _ _ _ h => h) (Or.inl ⟨by rfl, fun wS ⟨hS0, hS1, hS2, hS3, hS4, hS5, hS6, hS7⟩ => by go_simp; all_goals (rw [IntKind.wrap_i64]; omega)⟩) (by assumption) ?_
      simp only [Act.put, List.setIfInBounds_toArray, List.set_cons_zero, List.set_cons_succ]
      refine take_at (i := 4) (v := .agg #[.int .i64 0, .int .i64 0, .int .i64 0, .int .i64 0, .int .i64 0, .int .i64 0, .int .i64 0, .int .i64 0]) (d := some 43) rfl rfl (by kernel_rfl) (by kernel_rfl) (by kernel_rfl) (fun _ _ _ h => h) (Or.inl ⟨by rfl, fun wS ⟨hS0, hS1, hS2, hS3, hS4, hS5, hS6, hS7⟩ => by go_simp; all_goals (rw [IntKind.wrap_i64]; omega)⟩) (by assumption) ?_
      simp only [Act.put, List.setIfInBounds_toArray, List.set_cons_zero, List.set_cons_succ]
      refine take_at (i := 5) (v := pt a.B) (d := some 44) rfl rfl (by kernel_rfl) (by kernel_rfl) (by kernel_rfl) (fun _ _ _ h => h) (Or.inl ⟨by rfl, fun wS ⟨hS0, hS1, hS2, hS3, hS4, hS5, hS6, hS7⟩ => by go_simp; all_goals (rw [IntKind.wrap_i64]; omega)⟩) (by assumption) ?_
      simp only [Act.put, List.setIfInBounds_toArray, List.set_cons_zero, List.set_cons_succ]
      refine take_at (i := 6) (v := pt a.B) (d := some 45) rfl rfl (by kernel_rfl) (by kernel_rfl) (by kernel_rfl) (fun _ _ _ h => h) (Or.inl ⟨by rfl, fun wS ⟨hS0, hS1, hS2, hS3, hS4, hS5, hS6, hS7⟩ => by go_simp; all_goals (rw [IntKind.wrap_i64]; omega)⟩) (by assumption) ?_
      simp only [Act.put, List.setIfInBounds_toArray, List.set_cons_zero, List.set_cons_succ]
      refine take_at (i := 7) (v := .pointer (some ⟨a.B, 120, none⟩)) (d := some 46) rfl rfl (by kernel_rfl) (by kernel_rfl) (by kernel_rfl) (fun _ _ _ h => h) (Or.inl ⟨by rfl, fun wS ⟨hS0, hS1, hS2, hS3, hS4, hS5, hS6, hS7⟩ => by go_simp; all_goals (rw [IntKind.wrap_i64]; omega)⟩) (by assumption) ?_
      simp only [Act.put, List.setIfInBounds_toArray, List.set_cons_zero, List.set_cons_succ]
      clear hHeld
      refine wpAnyH_ready (rs := [8]) (by kernel_rfl) (by simp) ?_
      refine AllReadyH.cons rfl (fun K hK => ?_) AllReadyH.nil
      go_simp
      refine (sent_any Wd a.B bv _ out LH HQ.out.P rfl HV.out).mono ?_
      rintro e w4 ⟨rfl, hw4⟩
      have h5 : Bt w2 b0 w4 { a with le := le, si := si, bk := bk, out := .slice none 0 0, sq := sq } := by
        rw [hw4]
        exact HQ.out.put 125 (.slice none 0 0) le si (.slice none 0 0) sq (by kernel_rfl)
      have H5 := hide h5
      have HZ7 : Hid (Blk w4 z1 ou0 28) := hide (by rw [hw4]; exact HZ6.out.setOther (blk_ne HZ6.out HQ.out.P (by decide)) _ _)
      have HG7 : Hid (b0 ≤ w.heap.size → Below b0 w w4) := hide (fun h0 => by rw [hw4]; exact below_set (HG6.out h0) a.B 125 _ HQ.out.lo.1 (Nat.le_trans h0 (HG6.out h0).size))
      refine hK.out _ _ ⟨h5.at 152 _ (by omega) rfl, h5.at 153 _ (by omega) rfl, h5.at 154 _ (by omega) rfl, h5.at 155 _ (by omega) rfl, h5.at 156 _ (by omega) rfl, h5.at 157 _ (by omega) rfl, h5.at 158 _ (by omega) rfl, h5.at 159 _ (by omega) rfl⟩ (fun hHeld => ?_)
      clear hK K hM h5 hw4 HQ HZ6 HG6
      refine take_at (i := 9) (v := .agg ouH) (d := some 48) rfl rfl (by kernel_rfl) (by kernel_rfl) (by kernel_rfl) (fun _ _ _ h => h) (Or.inl ⟨by rfl, fun wS ⟨hS0, hS1, hS2, hS3, hS4, hS5, hS6, hS7⟩ => by go_simp; all_goals (rw [IntKind.wrap_i64]; omega)⟩) (by assumption) ?_
      simp only [Act.put, List.setIfInBounds_toArray, List.set_cons_zero, List.set_cons_succ]
      clear hHeld
      refine wpAnyH_ready (rs := [10]) (by kernel_rfl) (by simp) ?_
      refine AllReadyH.cons rfl (fun K hK => ?_) AllReadyH.nil
      refine wp_store_row 28 _ _ rfl z1 ouH rfl rfl 28 ou0 HZ7.out (by kernel_rfl) rfl (by kernel_rfl) ?_
      have HZ8 := hide (setRow_heap w4 z1 ou0 ouH _ _ HZ7.out)
      have X8 : Hid (w4.grownBy (w4.setRow z1 ouH) (some z1)) := hide ⟨rfl, rfl, rfl, by simp, fun k _ hk => setRow_other w4 z1 k _ (fun e => hk (by rw [e]))⟩
      have h9 := H5.out.side HZ7.out X8.out
      refine hK _ _ ⟨h9.at 152 _ (by omega) rfl, h9.at 153 _ (by omega) rfl, h9.at 154 _ (by omega) rfl, h9.at 155 _ (by omega) rfl, h9.at 156 _ (by omega) rfl, h9.at 157 _ (by omega) rfl, h9.at 158 _ (by omega) rfl, h9.at 159 _ (by omega) rfl⟩ (fun hHeld => ?_)
      have H9 := hide h9
      clear hK K h9 HZ7
      simp only [Act.put]
      refine take_at (i := 11) (v := .int .i64 0) (d := some 5) rfl rfl (by kernel_rfl) (by kernel_rfl) (by kernel_rfl) (fun _ _ _ h => h) (Or.inl ⟨by rfl, fun wS ⟨hS0, hS1, hS2, hS3, hS4, hS5, hS6, hS7⟩ => by go_simp; all_goals (rw [IntKind.wrap_i64]; omega)⟩) (by assumption) ?_
      simp only [Act.put, List.setIfInBounds_toArray]
      clear hHeld
      refine wpAnyH_done (by kernel_rfl) ?_ _
      go_simp
      go_wp2_with fail
      refine bodyPost_ret (res_back2 Tryz.results4 Tryz.underlying28 (by kernel_rfl) _ _ z1 (.int .i64 0) rfl rfl HZ8.out) rfl ?_
      exact ⟨rfl, _, _, H9.out, rfl, fun h0 => (HG7.out h0).grown X8.out (Nat.le_trans h0 (HG7.out h0).size) (fun k e => by injection e with e; rw [← e, ← HZ2.out, ← HZ1.out]; omega)⟩
    · have cA := HS.out.at HJ.out
      have hrw := row_keep7 HR.out H2.out.P HS.out.ext
      have hjb := HS.out.job
      obtain rfl | rfl | rfl | rfl | rfl | rfl : j = 0 ∨ j = 1 ∨ j = 2 ∨ j = 3 ∨ j = 4 ∨ j = 5 := by omega
      · have cN : wr.cell? ⟨g, 0, none⟩ = some (.int .i64 0) := IRow.cell (l := [0, 1, 2, 3, 4, 5]) hrw 0 (by decide)
        have cF : wr.cell? ⟨a.Jg, 3, none⟩ = some (.func (.func 56) #[pt a.B] #[]) := hjb.cell 3 rfl
        obtain ⟨le, si, bk, out, sq, hq, k1, k2, k3⟩ := HS.out
        have HQ := hide hq
        clear hq hrw hjb k3 HS
        go_wp2_with fail
        refine (sense_no HQ.out).mono ?_
        rintro e w3 ⟨rfl, hb⟩
        have HN : Hid (StR a w2 b0 1 w3) := hide ⟨_, _, _, _, _, HQ.out.after hb, fun _ => k1 (by omega), fun _ => k2 (by omega), fun e => by cases e⟩
        clear hb HQ k1 k2
        go_wp2_with fail
        go_roundw
        case rel => exact ⟨0 + 1, by go_num, by omega, HN⟩
        case measure => simp [intOf]
      · have cN : wr.cell? ⟨g, 1, none⟩ = some (.int .i64 1) := IRow.cell (l := [0, 1, 2, 3, 4, 5]) hrw 1 (by decide)
        have cF : wr.cell? ⟨a.Jg, 7, none⟩ = some (.func (.func 57) #[pt a.B] #[]) := hjb.cell 7 rfl
        obtain ⟨le, si, bk, out, sq, hq, k1, k2, k3⟩ := HS.out
        have HQ := hide hq
        clear hq hrw hjb k3 HS
        go_wp2_with fail
        refine (hear_no HQ.out).mono ?_
        rintro e w3 ⟨rfl, hb⟩
        have HN : Hid (StR a w2 b0 2 w3) := hide ⟨_, _, _, _, _, HQ.out.after hb, fun _ => k1 (by omega), fun _ => k2 (by omega), fun e => by cases e⟩
        clear hb HQ k1 k2
        go_wp2_with fail
        go_roundw
        case rel => exact ⟨1 + 1, by go_num, by omega, HN⟩
        case measure => simp [intOf]
      · have cN : wr.cell? ⟨g, 2, none⟩ = some (.int .i64 2) := IRow.cell (l := [0, 1, 2, 3, 4, 5]) hrw 2 (by decide)
        have cF : wr.cell? ⟨a.Jg, 11, none⟩ = some (.func (.func 58) #[pt a.B] #[]) := hjb.cell 11 rfl
        obtain ⟨le, si, bk, out, sq, hq, k1, k2, k3⟩ := HS.out
        have HQ := hide hq
        clear hq hrw hjb k3 HS
        go_wp2_with fail
        refine (look_no HQ.out).mono ?_
        rintro e w3 ⟨rfl, hb⟩
        have HN : Hid (StR a w2 b0 3 w3) := hide ⟨_, _, _, _, _, HQ.out.after hb, fun _ => k1 (by omega), fun _ => k2 (by omega), fun e => by cases e⟩
        clear hb HQ k1 k2
        go_wp2_with fail
        go_roundw
        case rel => exact ⟨2 + 1, by go_num, by omega, HN⟩
        case measure => simp [intOf]
      · have cN : wr.cell? ⟨g, 3, none⟩ = some (.int .i64 3) := IRow.cell (l := [0, 1, 2, 3, 4, 5]) hrw 3 (by decide)
        have cF : wr.cell? ⟨a.Jg, 15, none⟩ = some (.func (.func 59) #[pt a.B] #[]) := hjb.cell 15 rfl
        obtain ⟨le, si, bk, out, sq, hq, k1, k2, k3⟩ := HS.out
        have HQ := hide hq
        clear hq hrw hjb k3 HS
        go_wp2_with fail
        refine (think_no HQ.out (k1 (by omega)).1 (k1 (by omega)).2).mono ?_
        rintro e w3 ⟨rfl, hb⟩
        have HN : Hid (StR a w2 b0 4 w3) := hide ⟨1, 1, _, _, _, hb, fun e => absurd e (by omega), fun _ => k2 (by omega), fun e => by cases e⟩
        clear hb HQ k1 k2
        go_wp2_with fail
        go_roundw
        case rel => exact ⟨3 + 1, by go_num, by omega, HN⟩
        case measure => simp [intOf]
      · have cN : wr.cell? ⟨g, 4, none⟩ = some (.int .i64 4) := IRow.cell (l := [0, 1, 2, 3, 4, 5]) hrw 4 (by decide)
        have cF : wr.cell? ⟨a.Jg, 19, none⟩ = some (.func (.func 60) #[pt a.B] #[]) := hjb.cell 19 rfl
        obtain ⟨le, si, bk, out, sq, hq, k1, k2, k3⟩ := HS.out
        have HQ := hide hq
        clear hq hrw hjb k3 HS
        go_wp2_with fail
        refine (fly_no HQ.out).mono ?_
        rintro e w3 ⟨rfl, g3, hb⟩
        have HN : Hid (StR a w2 b0 5 w3) := hide ⟨_, _, g3, _, _, hb, fun e => absurd e (by omega), fun _ => k2 (by omega), fun e => by cases e⟩
        clear hb HQ k1 k2
        go_wp2_with fail
        go_roundw
        case rel => exact ⟨4 + 1, by go_num, by omega, HN⟩
        case measure => simp [intOf]
      · have cN : wr.cell? ⟨g, 5, none⟩ = some (.int .i64 5) := IRow.cell (l := [0, 1, 2, 3, 4, 5]) hrw 5 (by decide)
        have cF : wr.cell? ⟨a.Jg, 23, none⟩ = some (.func (.func 61) #[pt a.B] #[]) := hjb.cell 23 rfl
        obtain ⟨le, si, bk, out, sq, hq, k1, k2, k3⟩ := HS.out
        have HQ := hide hq
        clear hq hrw hjb k3 HS
        go_wp2_with fail
        refine (tell_no HQ.out (k2 (by omega)).1 (k2 (by omega)).2).mono ?_
        rintro e w3 ⟨rfl, ov, bv, hb, hv⟩
        have HN : Hid (StR a w2 b0 6 w3) := hide ⟨_, _, _, ov, 1, hb, fun e => absurd e (by omega), fun e => absurd e (by omega), fun _ => ⟨bv, hv⟩⟩
        clear hb hv HQ k1 k2
        go_wp2_with fail
        go_roundw
        case rel => exact ⟨5 + 1, by go_num, by omega, HN⟩
        case measure => simp [intOf]
end Go.Proofs.YtapfaaaepnplcaaGreatDoor
set_option maxRecDepth 100000
set_option maxHeartbeats 8000000
namespace Go.Proofs.YtapfaaaepnplcaaGreatDoor
open Go.RowKit Go.Great
theorem box_run (w : World) (ρ : Operand → Value) (o : Oper) (T : TypeId) (x : Operand) (cs : Array Value) (ho : o.op = .box T x) (hx : ρ x = .agg cs) : (execOp ρ o).run Tryz.prog w = .ok (.value (.pointer (some ⟨w.heap.size, 0, none⟩))) (w.alloc (.cells cs T)) := by
  simp [execOp, ho, hx, go_sem, Value.cells]
/-- a pilot's cells ahead of equip -/
def nwL (S g vc Rd M B G : Nat) : List Value := [pt S, .slice (some ⟨g, 0, none⟩) 24 vc, .bool false, .int .i64 58, .int .i64 12, .int .i64 258, .int .i64 16398, .int .i64 701, .int .i64 4, .slice none 0 0, .slice none 0 0, .int .i64 0, .int .i64 0, .slice none 0 0, .bool false] ++ senA.toList ++ [pt Rd, .slice none 0 0, .int .i64 65535, .int .i64 0, .int .i64 0, .slice none 0 0] ++ (fliC M B G).toList ++ [.pointer none, .slice none 0 0] ++ List.replicate 12 (.string ⟨#[]⟩)
theorem mar_dfl : marV (marE dfl) = .agg #[.int .i64 58, .int .i64 12, .int .i64 258, .int .i64 16398, .int .i64 701, .int .i64 4] := by kernel_rfl
theorem chk_dfl : chk dfl = 0 := by decide
theorem on1 : On n1 := ⟨im_len _ (by decide), rfl, by decide⟩
theorem get_none (i : Int) (h : i = 0 ∨ i = 1 ∨ i = 2) : getV (getS n1.C v1 i) = .tuple #[noS, .bool false] := by
  rcases h with rfl | rfl | rfl <;> rfl
/-- the pilot's cells behind equip -/
theorem eq_cells {c c4 : Nat → Value} {V0 V1 V2 V3 V4 V5 V6 V7 V8 V9 F0 F1 F2 Cm Ba Rn St : Nat} (off : ∀ q, (q < 85 ∨ 95 ≤ q) → (q < 115 ∨ 120 ≤ q) → q ≠ 127 → q ≠ 128 → c4 q = c q) (a0 : c4 85 = pt V0) (a1 : c4 86 = pt V1) (a2 : c4 87 = pt V2) (a3 : c4 88 = pt V3) (a4 : c4 89 = pt V4) (a5 : c4 90 = pt V5) (a6 : c4 91 = pt V6) (a7 : c4 92 = pt V7) (a8 : c4 93 = pt V8) (a9 : c4 94 = pt V9) (f0 : c4 115 = pt F0) (f1 : c4 116 = pt F1) (f2 : c4 117 = pt F2) (x0 : c4 118 = pt Cm) (x1 : c4 119 = pt Ba) (x2 : c4 127 = pt Rn) (x3 : c4 128 = pt St) : c4 = updV (updV (updV (updV (updV (updV (updV (updV (updV (updV (updV (updV (updV (updV (updV (updV (updV (c) 85 (pt V0)) 86 (pt V1)) 87 (pt V2)) 88 (pt V3)) 89 (pt V4)) 90 (pt V5)) 91 (pt V6)) 92 (pt V7)) 93 (pt V8)) 94 (pt V9)) 115 (pt F0)) 116 (pt F1)) 117 (pt F2)) 118 (pt Cm)) 119 (pt Ba)) 127 (pt Rn)) 128 (pt St) := by
  funext k
  by_cases e128 : k = 128
  · subst e128; rw [updV_at]; exact x3
  rw [updV_ne _ _ e128]
  by_cases e127 : k = 127
  · subst e127; rw [updV_at]; exact x2
  rw [updV_ne _ _ e127]
  by_cases e119 : k = 119
  · subst e119; rw [updV_at]; exact x1
  rw [updV_ne _ _ e119]
  by_cases e118 : k = 118
  · subst e118; rw [updV_at]; exact x0
  rw [updV_ne _ _ e118]
  by_cases e117 : k = 117
  · subst e117; rw [updV_at]; exact f2
  rw [updV_ne _ _ e117]
  by_cases e116 : k = 116
  · subst e116; rw [updV_at]; exact f1
  rw [updV_ne _ _ e116]
  by_cases e115 : k = 115
  · subst e115; rw [updV_at]; exact f0
  rw [updV_ne _ _ e115]
  by_cases e94 : k = 94
  · subst e94; rw [updV_at]; exact a9
  rw [updV_ne _ _ e94]
  by_cases e93 : k = 93
  · subst e93; rw [updV_at]; exact a8
  rw [updV_ne _ _ e93]
  by_cases e92 : k = 92
  · subst e92; rw [updV_at]; exact a7
  rw [updV_ne _ _ e92]
  by_cases e91 : k = 91
  · subst e91; rw [updV_at]; exact a6
  rw [updV_ne _ _ e91]
  by_cases e90 : k = 90
  · subst e90; rw [updV_at]; exact a5
  rw [updV_ne _ _ e90]
  by_cases e89 : k = 89
  · subst e89; rw [updV_at]; exact a4
  rw [updV_ne _ _ e89]
  by_cases e88 : k = 88
  · subst e88; rw [updV_at]; exact a3
  rw [updV_ne _ _ e88]
  by_cases e87 : k = 87
  · subst e87; rw [updV_at]; exact a2
  rw [updV_ne _ _ e87]
  by_cases e86 : k = 86
  · subst e86; rw [updV_at]; exact a1
  rw [updV_ne _ _ e86]
  by_cases e85 : k = 85
  · subst e85; rw [updV_at]; exact a0
  rw [updV_ne _ _ e85]
  exact off k (by omega) (by omega) (by omega) (by omega)
theorem HQ.setB {w : World} {b P o : Nat} {pre : List Value} {ty : TypeId} {s : List Tu} (hQ : HQ w b P o pre ty s) {B : Nat} {cs : Array Value} {t : TypeId} (hB : Blk w B cs t) (ht : t ≠ ty) (ht2 : t ≠ 183) (k : Nat) (v : Value) : HQ (w.setCell ⟨B, k, none⟩ v) b P o pre ty s := by
  obtain ⟨a, cap, l, h1, h2, h3⟩ := hQ
  refine ⟨a, cap, l, ⟨h1.po, by rw [setCell_size]; exact h1.bs, h1.box.setOther (blk_ne h1.box hB (fun e => ht e.symm)) k v, World.ownsRow.kept h1.own (grown_set w B k v) (.inr (blk_apart h1.own hB (fun e => ht2 e.symm))), h1.ok, h1.ht⟩, h2, h3⟩
theorem vals_of {w : World} {b g vc : Nat} {l : List Int} (h : IRow w b (.slice (some ⟨g, 0, none⟩) l.length vc) l) : Vals w g l := by
  have h0 := h
  rcases h.2 with ⟨h1, _⟩ | ⟨g', cap, cur, h1, _, hh, _⟩
  · cases h1
  · injection h1 with h1
    injection h1 with h1
    injection h1 with h1
    subst h1
    refine ⟨cur, _, hh, fun i hi => ?_⟩
    have := IRow.cell h0 i hi
    simpa [World.cell?, hh] using this
theorem new_first (w : World) (R : Nat) (hF : Fl w R n0) : Calls Tryz.prog 6 #[fp R] w fun e w' => ∃ (a : Ad) (bq : Nat), e = .returned (.tuple #[pt a.B, .int .i64 0]) ∧ Bt w' w.heap.size w' a ∧ PlanW w' bq a.Pl L7 0 ∧ a.jc = 7 ∧ a.le = 0 ∧ a.si = 0 ∧ a.out = .slice none 0 0 ∧ a.sq = 0 ∧ Kept R w w' := by
  have BO := hide (boot_at w R n0 n1 v1 hF rfl za1)
  clear hF
  go_enter Tryz.func6, Tryz.ntmps6
  go_wp2_with fail
  refine BO.out.mono ?_
  rintro e w1 ⟨S, rfl, f1, s1, u1, k1⟩
  have K1 := hide k1
  have GA : Hid (∀ W : World, Below w1.heap.size w1 W → ∀ i : Int, (i = 0 ∨ i = 1 ∨ i = 2) → Calls Tryz.prog 85 #[pt S, .int .i64 i] W fun e w' => e = .returned (.tuple #[noS, .bool false]) ∧ Below W.heap.size W w') := hide (fun W hb i hi => by
    have := get_any W S R n1 on1 v1 ask1 (f1.below hb) (s1.below hb) i
    rw [get_none i hi] at this
    exact this)
  have MA : Hid (∀ (W : World) (v : Value), Ints W v dfl → Calls Tryz.prog 89 #[v] W fun e w' => e = .returned (.tuple #[.agg #[.int .i64 58, .int .i64 12, .int .i64 258, .int .i64 16398, .int .i64 701, .int .i64 4], .int .i64 0]) ∧ Below W.heap.size W w') := hide (fun W v hv => by
    have := margins_any dfl v W hv
    rw [mar_dfl, chk_dfl] at this
    exact this)
  clear f1 s1 k1 BO u1
  go_wp2_with fail
  refine (recall_any w1 S dfl 58 12 258 16398 701 4 0 3 3
    (fun W hb => (deco_p W S (fun W' hb' => GA.out W' (below_next hb (Nat.le_refl _) hb') 0 (by omega))).mono fun _ _ h => ⟨_, h⟩)
    (fun W => defaults_any W) MA.out
    (fun W hb => deco_m W S (fun W' hb' => GA.out W' (below_next hb (Nat.le_refl _) hb') 1 (by omega)))
    (fun W hb => deco_f W S (fun W' hb' => GA.out W' (below_next hb (Nat.le_refl _) hb') 2 (by omega))) (by omega)).mono ?_
  rintro e w2 ⟨v, rfl, hI, hb⟩
  obtain ⟨g, vc, rfl⟩ : ∃ g vc, v = .slice (some ⟨g, 0, none⟩) 24 vc := by
    rcases hI.2 with ⟨_, h0⟩ | ⟨g, cap, cur, h1, _⟩
    · cases h0
    · exact ⟨g, cap, h1⟩
  have HI := hide hI
  have HB := hide hb
  clear hI hb GA MA
  go_wp2_with fail
  refine (newSensors_any _).mono ?_
  rintro e w3 ⟨rfl, hb⟩
  replace HI := hide (HI.out.below hb)
  replace HB := hide (below_two HB.out hb)
  clear hb
  go_wp2_with fail
  refine (newLink_any _ newRE).mono ?_
  rintro e w4 ⟨Rd, rfl, hR, u1, hb⟩
  replace HI := hide (HI.out.below hb)
  replace HB := hide (below_two HB.out hb)
  have HR := hide hR
  clear hb hR u1
  go_wp2_with fail
  refine (newFlight_any _ #[.int .u8 0, .int .i64 0] #[.func (.func 95) #[] #[], .int .i64 0] (gC 0) 161 218 222 newM_any (fun w => (newBkE w).mono fun _ _ h => ⟨_, h.1, by rw [h.2]; exact Blk.new _ _ _, by rw [h.2]; exact below_alloc _ _, Nat.le_refl _⟩) newG_any).mono ?_
  rintro e w5 ⟨M, B, G, rfl, hM, hBk, hG, u1, u2, u3, hb⟩
  replace HI := hide (HI.out.below hb)
  replace HB := hide (below_two HB.out hb)
  replace HR := hide (HR.out.after hb)
  have HM := hide hM
  have HBk := hide hBk
  have HG := hide hG
  clear hb hM hBk hG u1 u2 u3
  obtain ⟨P, hP⟩ : ∃ P : Array Value, Hid ((nwL S g vc Rd M B G).toArray = P) := ⟨_, hide rfl⟩
  have hb := below_alloc w5 (.cells P 90)
  have HP : Hid (BF (w5.alloc (.cells P 90)) w5.heap.size 174 (fun k => (nwL S g vc Rd M B G).getD k undef) 90) := hide (BF.of (by rw [hP.out]; exact Blk.new _ _ _) rfl)
  replace HI := hide (HI.out.below hb)
  have HS : Hid (w1.heap.size ≤ w5.heap.size) := hide HB.out.size
  replace HB := hide (below_two HB.out hb)
  replace HR := hide (HR.out.after hb)
  replace HM := hide (HM.out.after hb)
  replace HBk := hide (HBk.out.after hb)
  replace HG := hide (HG.out.after hb)
  clear hb
  rename_i K hK
  refine hK _ _ ?_
  clear hK
  refine wpList_same rfl (some 20) rfl (.agg P) (by rw [← hP.out]; kernel_rfl) ?_
  refine wpList_run rfl (some 21) rfl (.pointer (some ⟨w5.heap.size, 0, none⟩)) (w5.alloc (.cells P 90)) (box_run _ _ _ _ _ P rfl rfl) ?_
  generalize w5.alloc (.cells P 90) = w6 at *
  generalize w5.heap.size = Bp at *
  clear hP
  go_wp2_with fail
  obtain ⟨c, hc⟩ : ∃ c : Nat → Value, Hid ((fun k => (nwL S g vc Rd M B G).getD k undef) = c) := ⟨_, hide rfl⟩
  rw [hc.out] at HP
  refine (equip_dfl w6 Bp g vc c HP.out (vals_of HI.out) (by rw [← hc.out]; rfl) (by rw [← hc.out]; rfl)).mono ?_
  rintro e w7 ⟨rfl, c4, E1, E2, E3, E4, ⟨Cm, x0, y0⟩, ⟨Ba, x1, y1⟩, ⟨Rn, xr, xm, x2, y2⟩, ⟨St, x3, y3⟩, E9⟩
  obtain ⟨V0, p0, a0, b0⟩ := E3 0 (by omega)
  obtain ⟨V1, p1, a1, b1⟩ := E3 1 (by omega)
  obtain ⟨V2, p2, a2, b2⟩ := E3 2 (by omega)
  obtain ⟨V3, p3, a3, b3⟩ := E3 3 (by omega)
  obtain ⟨V4, p4, a4, b4⟩ := E3 4 (by omega)
  obtain ⟨V5, p5, a5, b5⟩ := E3 5 (by omega)
  obtain ⟨V6, p6, a6, b6⟩ := E3 6 (by omega)
  obtain ⟨V7, p7, a7, b7⟩ := E3 7 (by omega)
  obtain ⟨V8, p8, a8, b8⟩ := E3 8 (by omega)
  obtain ⟨V9, p9, a9, b9⟩ := E3 9 (by omega)
  obtain ⟨F0, f0, g0⟩ := E4 0 (by omega)
  obtain ⟨F1, f1, g1⟩ := E4 1 (by omega)
  obtain ⟨F2, f2, g2⟩ := E4 2 (by omega)
  have HN : Hid (g ≠ Bp) := hide ((vals_of HI.out).ne HP.out (by decide))
  have HV := hide ((vals_of HI.out).grown HN.out E9)
  have kp : ∀ {q : Nat} {cs : Array Value} {t : TypeId}, Blk w6 q cs t → t ≠ 90 → Blk w7 q cs t := fun {q cs t} h ht => h.grown E9 (fun e => by injection e with e; exact blk_ne h HP.out ht e.symm)
  have YS := hide (show (_ ∧ _ ∧ _ ∧ _ ∧ _ ∧ _ ∧ _ ∧ _) from ⟨kp HR.out (by decide), kp HM.out (by decide), kp HBk.out (by decide), kp HG.out (by decide), y0, y1, y2, y3⟩)
  have YV := hide (show (_ ∧ _ ∧ _ ∧ _ ∧ _ ∧ _ ∧ _ ∧ _ ∧ _ ∧ _) from ⟨b0, b1, b2, b3, b4, b5, b6, b7, b8, b9⟩)
  have YF := hide (show (_ ∧ _ ∧ _) from ⟨g0, g1, g2⟩)
  have EC := hide (eq_cells E2 a0 a1 a2 a3 a4 a5 a6 a7 a8 a9 f0 f1 f2 x0 x1 x2 x3)
  have HE1 := hide E1
  have TR : Hid (∀ (q : Nat) (cs : Array Value) (t : TypeId), Blk w7 q cs t → t ≠ 90 → Blk w7 q cs t) := hide (fun _ _ _ h _ => h)
  replace HB := hide (HB.out.grown E9 HB.out.size (fun k e => by injection e with e; rw [← e]; exact HS.out))
  clear E1 E2 E3 E4 E9 x0 x1 x2 x3 y0 y1 y2 y3 a0 a1 a2 a3 a4 a5 a6 a7 a8 a9 b0 b1 b2 b3 b4 b5 b6 b7 b8 b9 f0 f1 f2 g0 g1 g2 kp HR HM HBk HG HP HI
  go_wp2_with fail
  refine (makeDesks_any w7 Bp).mono ?_
  rintro e w8 ⟨Dg, D1, D2, rfl, hDg, hD1, hD2, hb⟩
  have c121 : w8.cell? ⟨Bp, 121, none⟩ = some (c4 121) := (HE1.out.after hb).cell 121 (by omega) rfl
  have f121 := (HE1.out.after hb).fz 121
  have h8 := HE1.out.after hb
  have Y8 := hide (show (_ ∧ _ ∧ _) from ⟨hDg.setOther (blk_ne hDg h8 (by decide)) 121 (.slice (some ⟨Dg, 0, none⟩) 2 2), Blk.setOther hD1 (blk_ne hD1 h8 (by decide)) 121 (.slice (some ⟨Dg, 0, none⟩) 2 2), Blk.setOther hD2 (blk_ne hD2 h8 (by decide)) 121 (.slice (some ⟨Dg, 0, none⟩) 2 2)⟩)
  replace TR := hide (fun (q : Nat) (cs : Array Value) (t : TypeId) (h : Blk w7 q cs t) (ht : t ≠ 90) => keep_set (k := 121) (v := .slice (some ⟨Dg, 0, none⟩) 2 2) HE1.out hb (TR.out q cs t h ht) ht)
  replace HV := hide ((HV.out.after hb).grown HN.out (grown_set w8 Bp 121 (.slice (some ⟨Dg, 0, none⟩) 2 2)))
  replace HB := hide (below_set (below_two HB.out hb) Bp 121 (.slice (some ⟨Dg, 0, none⟩) 2 2) HS.out (Nat.le_trans HB.out.size hb.size))
  replace HE1 := hide (h8.set 121 (.slice (some ⟨Dg, 0, none⟩) 2 2))
  clear hb h8 hDg hD1 hD2
  go_upto_region 7 with fail
  clear c121 f121
  generalize w8.setCell ⟨Bp, 121, none⟩ (.slice (some ⟨Dg, 0, none⟩) 2 2) = w9 at *
  go_wp2_with fail
  refine (makeJobs_any w9 Bp).mono ?_
  rintro e w10 ⟨rfl, hJ, hb⟩
  obtain ⟨Jg, hJg⟩ : ∃ Jg, Hid (w9.heap.size = Jg) := ⟨_, hide rfl⟩
  rw [hJg.out] at hJ ⊢
  have hJ : Blk w10 Jg (jbsV Bp) 94 := hJ
  have h10 := HE1.out.after hb
  have c161 : w10.cell? ⟨Bp, 161, none⟩ = some (updV c4 121 (.slice (some ⟨Dg, 0, none⟩) 2 2) 161) := h10.cell 161 (by omega) rfl
  have f161 := h10.fz 161
  have YJ := hide (hJ.setOther (blk_ne hJ h10 (by decide)) 161 (.slice (some ⟨Jg, 0, none⟩) 7 7))
  have Y9 := hide (show (_ ∧ _ ∧ _) from ⟨keep_set (k := 161) (v := .slice (some ⟨Jg, 0, none⟩) 7 7) HE1.out hb Y8.out.1 (by decide), keep_set (k := 161) (v := .slice (some ⟨Jg, 0, none⟩) 7 7) HE1.out hb Y8.out.2.1 (by decide), keep_set (k := 161) (v := .slice (some ⟨Jg, 0, none⟩) 7 7) HE1.out hb Y8.out.2.2 (by decide)⟩)
  replace TR := hide (fun (q : Nat) (cs : Array Value) (t : TypeId) (h : Blk w7 q cs t) (ht : t ≠ 90) => keep_set (k := 161) (v := .slice (some ⟨Jg, 0, none⟩) 7 7) HE1.out hb (TR.out q cs t h ht) ht)
  replace HV := hide ((HV.out.after hb).grown HN.out (grown_set w10 Bp 161 (.slice (some ⟨Jg, 0, none⟩) 7 7)))
  replace HB := hide (below_set (below_two HB.out hb) Bp 161 (.slice (some ⟨Jg, 0, none⟩) 7 7) HS.out (Nat.le_trans HB.out.size hb.size))
  replace HE1 := hide (h10.set 161 (.slice (some ⟨Jg, 0, none⟩) 7 7))
  clear hb h10 hJ Y8 hJg
  go_upto_region 8 with fail
  clear c161 f161
  generalize w10.setCell ⟨Bp, 161, none⟩ (.slice (some ⟨Jg, 0, none⟩) 7 7) = w11 at *
  have c161 : w11.cell? ⟨Bp, 161, none⟩ = some (.slice (some ⟨Jg, 0, none⟩) 7 7) := HE1.out.cell 161 (by omega) (updV_at _ _ _)
  go_wp2_with fail
  refine (planOf_any w11 Bp Jg YJ.out).mono ?_
  rintro e w12 ⟨Pl, rfl, hb, hle, bq, hPl⟩
  have h12 := HE1.out.after hb
  have c160 : w12.cell? ⟨Bp, 160, none⟩ = some (updV (updV c4 121 (.slice (some ⟨Dg, 0, none⟩) 2 2)) 161 (.slice (some ⟨Jg, 0, none⟩) 7 7) 160) := h12.cell 160 (by omega) rfl
  have f160 := h12.fz 160
  have YP := hide (HQ.setB hPl h12 (by decide) (by decide) 160 (pt Pl))
  have YL : Hid (w1.heap.size ≤ Pl) := hide (Nat.le_trans HB.out.size hle)
  replace TR := hide (fun (q : Nat) (cs : Array Value) (t : TypeId) (h : Blk w7 q cs t) (ht : t ≠ 90) => keep_set (k := 160) (v := pt Pl) HE1.out hb (TR.out q cs t h ht) ht)
  have YJ2 := hide (keep_set (k := 160) (v := pt Pl) HE1.out hb YJ.out (by decide))
  have YD := hide (show (_ ∧ _ ∧ _) from ⟨keep_set (k := 160) (v := pt Pl) HE1.out hb Y9.out.1 (by decide), keep_set (k := 160) (v := pt Pl) HE1.out hb Y9.out.2.1 (by decide), keep_set (k := 160) (v := pt Pl) HE1.out hb Y9.out.2.2 (by decide)⟩)
  replace HV := hide ((HV.out.after hb).grown HN.out (grown_set w12 Bp 160 (pt Pl)))
  replace HB := hide (below_set (below_two HB.out hb) Bp 160 (pt Pl) HS.out (Nat.le_trans HB.out.size hb.size))
  replace HE1 := hide (h12.set 160 (pt Pl))
  clear hb h12 hPl hle Y9 c161 YJ
  go_upto_region 9 with fail
  clear c160 f160
  generalize w12.setCell ⟨Bp, 160, none⟩ (pt Pl) = w13 at *
  go_wp2_with fail
  go_ret2
  have hws : w.heap.size ≤ w1.heap.size := K1.out.size
  refine ⟨{ B := Bp, S := S, V := fun i => [V0, V1, V2, V3, V4, V5, V6, V7, V8, V9].getD i 0, F := fun i => [F0, F1, F2].getD i 0, Cm := Cm, Ba := Ba, Rd := Rd, Dg := Dg, D1 := D1, D2 := D2, Mc := M, Rn := Rn, St := St, De := G, Pl := Pl, Jg := Jg, Vg := g, vc := vc, dc := 2, jc := 7, bk := B, le := 0, si := 0, out := .slice none 0 0, sq := 0 }, bq, rfl, ?_, YP.out, rfl, rfl, rfl, rfl, rfl, Kept.step K1.out (grown_below HB.out none) (fun k e => by cases e)⟩
  obtain ⟨y1, y2, y3, y4, y5, y6, y7, y8⟩ := YS.out
  obtain ⟨b0, b1, b2, b3, b4, b5, b6, b7, b8, b9⟩ := YV.out
  obtain ⟨g0, g1, g2⟩ := YF.out
  exact {
    P := by
      have h := HE1.out
      have ha : cN 174 (updV (updV (updV (updV (updV (updV (updV (updV (updV (updV (updV (updV (updV (updV (updV (updV (updV (updV (updV (updV ((fun k => (nwL S g vc Rd M B G).getD k undef)) 85 (pt V0)) 86 (pt V1)) 87 (pt V2)) 88 (pt V3)) 89 (pt V4)) 90 (pt V5)) 91 (pt V6)) 92 (pt V7)) 93 (pt V8)) 94 (pt V9)) 115 (pt F0)) 116 (pt F1)) 117 (pt F2)) 118 (pt Cm)) 119 (pt Ba)) 127 (pt Rn)) 128 (pt St)) 121 (.slice (some ⟨Dg, 0, none⟩) 2 2)) 161 (.slice (some ⟨Jg, 0, none⟩) 7 7)) 160 (pt Pl)) = cN 174 (pilF { B := Bp, S := S, V := fun i => [V0, V1, V2, V3, V4, V5, V6, V7, V8, V9].getD i 0, F := fun i => [F0, F1, F2].getD i 0, Cm := Cm, Ba := Ba, Rd := Rd, Dg := Dg, D1 := D1, D2 := D2, Mc := M, Rn := Rn, St := St, De := G, Pl := Pl, Jg := Jg, Vg := g, vc := vc, dc := 2, jc := 7, bk := B, le := 0, si := 0, out := .slice none 0 0, sq := 0 }) := by kernel_rfl
      rw [EC.out, ← hc.out] at h
      unfold BF at h ⊢
      rwa [ha] at h
    V := fun i hi => by
      have : i = 0 ∨ i = 1 ∨ i = 2 ∨ i = 3 ∨ i = 4 ∨ i = 5 ∨ i = 6 ∨ i = 7 ∨ i = 8 ∨ i = 9 := by omega
      rcases this with rfl | rfl | rfl | rfl | rfl | rfl | rfl | rfl | rfl | rfl
      · exact ⟨_, TR.out _ _ _ b0 (by decide)⟩
      · exact ⟨_, TR.out _ _ _ b1 (by decide)⟩
      · exact ⟨_, TR.out _ _ _ b2 (by decide)⟩
      · exact ⟨_, TR.out _ _ _ b3 (by decide)⟩
      · exact ⟨_, TR.out _ _ _ b4 (by decide)⟩
      · exact ⟨_, TR.out _ _ _ b5 (by decide)⟩
      · exact ⟨_, TR.out _ _ _ b6 (by decide)⟩
      · exact ⟨_, TR.out _ _ _ b7 (by decide)⟩
      · exact ⟨_, TR.out _ _ _ b8 (by decide)⟩
      · exact ⟨_, TR.out _ _ _ b9 (by decide)⟩
    F := fun i hi => by
      have : i = 0 ∨ i = 1 ∨ i = 2 := by omega
      rcases this with rfl | rfl | rfl
      · exact TR.out _ _ _ g0 (by decide)
      · exact TR.out _ _ _ g1 (by decide)
      · exact TR.out _ _ _ g2 (by decide)
    Cm := TR.out _ _ _ y5 (by decide)
    Ba := TR.out _ _ _ y6 (by decide)
    Rd := TR.out _ _ _ y1 (by decide)
    Dg := YD.out.1
    D1 := YD.out.2.1
    D2 := YD.out.2.2
    Mc := TR.out _ _ _ y2 (by decide)
    Rn := ⟨_, _, TR.out _ _ _ y7 (by decide)⟩
    St := TR.out _ _ _ y8 (by decide)
    De := TR.out _ _ _ y4 (by decide)
    Bk := TR.out _ _ _ y3 (by decide)
    Vg := HV.out
    Pl := by obtain ⟨x1, x2, x3, hb⟩ := PlanW.blk YP.out; exact ⟨_, _, hb⟩
    Jb := YJ2.out
    ext := ⟨rfl, rfl, rfl, Nat.le_refl _, fun _ _ _ => rfl⟩
    lo := ⟨Nat.le_trans hws HS.out, Nat.le_trans hws YL.out⟩ }
end Go.Proofs.YtapfaaaepnplcaaGreatDoor
set_option maxRecDepth 100000
set_option maxHeartbeats 8000000
namespace Go.Proofs.YtapfaaaepnplcaaGreatDoor
open Go.RowKit Go.Great
theorem eql_m8 (w : World) : (binOp .eql 26 (.agg #[.int .i64 0, .int .i64 0, .int .i64 0, .int .i64 0, .int .i64 0, .int .i64 0, .int .i64 0, .int .i64 0]) (.agg #[.int .i64 0, .int .i64 0, .int .i64 0, .int .i64 0, .int .i64 0, .int .i64 0, .int .i64 0, .int .i64 0])).run Tryz.prog w = .ok (.bool true) w := by kernel_rfl
theorem fld_vw (w : World) : (Instr.field 46 (.agg vw0) 0).run Tryz.prog w = .ok (.int .u8 0) w := by kernel_rfl
theorem eql_ou (w : World) : (binOp .eql 28 (.agg ou0) (.agg ou0)).run Tryz.prog w = .ok (.bool true) w := by kernel_rfl
theorem eql_vw (w : World) : (binOp .eql 46 (.agg vw0) (.agg vw0)).run Tryz.prog w = .ok (.bool true) w := by kernel_rfl
theorem lh_len : 6 < LH.length := of_decide_eq_true (by kernel_rfl)
theorem lh_head : LH[0]? = some 253 := by kernel_rfl
theorem rdefaults8 (w : World) : Calls Tryz.prog 34 #[] w fun e w' => ∃ v, e = .returned v ∧ Ints w' v dfl ∧ Below w.heap.size w w' := by
  go_enter Tryz.func34, Tryz.ntmps34
  go_wp2_with fail
  refine (starts_any _).mono ?_
  rintro e w1 ⟨rfl, hw⟩
  have HI : Hid (Ints w1 (.slice (some ⟨w.heap.size, 0, none⟩) 24 24) dfl) := hide (by rw [hw]; exact ints_row (l := dfl) (heap_alloc_new w (.cells (rowI deL) 3)) 24 24 rfl)
  have HB : Hid (Below w.heap.size w w1) := hide (by rw [hw]; exact below_alloc _ _)
  clear hw
  go_wp2_with fail
  go_ret
  exact ⟨_, rfl, HI.out, HB.out⟩
theorem awake_first (w : World) : Calls Tryz.prog 10 #[] w fun e w' => e = .returned (.bool true) ∧ Below w.heap.size w w' := by
  obtain ⟨s, hs⟩ : ∃ s, Hid (bs LH = s) := ⟨_, hide rfl⟩
  have hsz : (6 : Int) < (s.size : Int) := by rw [← hs.out, bs_size]; have := lh_len; omega
  have hs0 : ∀ h : 0 < s.size, ((s[0]'h).toNat : Int) = 253 := by
    intro h
    have h1 : s.data[0]? = some 253 := by rw [← hs.out]; have := lh_head; unfold bs; simpa using this
    obtain ⟨h2, e⟩ := Array.getElem?_eq_some_iff.1 h1
    have : s[0]'h = 253 := e
    rw [this]; rfl
  go_enter Tryz.func10, Tryz.ntmps10
  go_wp2_with fail
  refine (new_any _).mono ?_
  rintro e w1 ⟨rfl, hF, hb⟩
  obtain ⟨R, hR⟩ : ∃ R, Hid (w.heap.size = R) := ⟨_, hide rfl⟩
  have HB1 := hide hb
  have HF : Hid (Fl w1 R n0) := hide (by rw [← hR.out]; exact hF)
  rw [show fp w.heap.size = fp R by rw [hR.out]]
  clear hF hb
  go_wp2_with fail
  refine (new_first w1 R HF.out).mono ?_
  rintro e w2 ⟨a, bq, rfl, hB, hP, j1, j2, j3, j4, j5, k⟩
  have HB2 := hide hB
  have HP2 := hide hP
  have HJ := hide (show (_ ∧ _ ∧ _ ∧ _ ∧ _) from ⟨j1, j2, j3, j4, j5⟩)
  have HW2 : Hid (Below w.heap.size w w2) := hide (HB1.out.grown k HB1.out.size (fun q e => by injection e with e; rw [← e, ← hR.out]; exact Nat.le_refl _))
  have HL2 : Hid (w.heap.size ≤ w1.heap.size ∧ w1.heap.size ≤ w2.heap.size) := hide ⟨HB1.out.size, k.size⟩
  clear hB hP j1 j2 j3 j4 j5 k HF HB1
  go_wp2_with fail
  have ST := step_first w2 w2 _ bq a HB2.out HP2.out HJ.out.1 HJ.out.2.1 HJ.out.2.2.1 HJ.out.2.2.2.1 HJ.out.2.2.2.2
  unfold ouH at ST
  rw [hs.out] at ST
  refine ST.mono ?_
  rintro e w3 ⟨rfl, wx, a', hB, heq, hbl⟩
  have HW3 : Hid (Below w.heap.size w w3) := hide (HW2.out.trans ((hbl HL2.out.2).mono HL2.out.1))
  have HQ := hide heq
  obtain ⟨B, hBB⟩ : ∃ B, Hid (a.B = B) := ⟨_, hide rfl⟩
  have hb4 := below_alloc w3 (.cells #[.int .i64 0, .int .i64 0, .int .i64 0, .int .i64 0, .int .i64 0, .int .i64 0, .int .i64 0, .int .i64 0, .string s] 28)
  have HO := hide (Blk.new w3 #[.int .i64 0, .int .i64 0, .int .i64 0, .int .i64 0, .int .i64 0, .int .i64 0, .int .i64 0, .int .i64 0, .string s] 28)
  have H4 := hide (hB.after hb4)
  have HW4 := hide (below_two HW3.out hb4)
  have hpa : pt a'.B = pt B := by rw [heq, hBB.out]
  rw [show pt a.B = pt B by rw [hBB.out]]
  have HPA := hide hpa
  clear hB heq hbl ST HB2 HP2 HJ HW2 HW3 HL2 hb4 hpa HQ
  go_upto_region 5 with fail
  generalize w3.alloc (.cells #[.int .i64 0, .int .i64 0, .int .i64 0, .int .i64 0, .int .i64 0, .int .i64 0, .int .i64 0, .int .i64 0, .string s] 28) = w4 at *
  generalize w3.heap.size = o at *
  go_wp2_with fail
  have FV := fenceV_no H4.out
  rw [HPA.out] at FV
  refine FV.mono ?_
  rintro e w5 ⟨rfl, hb⟩
  have hb2 := below_two hb (below_alloc w5 (.cells feN 34))
  replace H4 := hide (H4.out.after hb2)
  replace HW4 := hide (below_two HW4.out hb2)
  replace HO := hide (HO.out.after hb2)
  clear hb hb2 FV
  go_upto_region 6 with fail
  generalize w5.alloc (.cells feN 34) = w6 at *
  have o0 := HO.out.cell 0 (v := .int .i64 0) rfl
  have o1 := HO.out.cell 1 (v := .int .i64 0) rfl
  have o2 := HO.out.cell 2 (v := .int .i64 0) rfl
  have o3 := HO.out.cell 3 (v := .int .i64 0) rfl
  have o4 := HO.out.cell 4 (v := .int .i64 0) rfl
  have o5 := HO.out.cell 5 (v := .int .i64 0) rfl
  have o6 := HO.out.cell 6 (v := .int .i64 0) rfl
  have o7 := HO.out.cell 7 (v := .int .i64 0) rfl
  have o8 := HO.out.cell 8 (v := .string s) rfl
  have em := eql_m8
  have ev := fld_vw
  go_wp2_with fail
  have VW := view_no H4.out
  rw [HPA.out] at VW
  refine VW.mono ?_
  rintro e w7 ⟨rfl, hb⟩
  replace H4 := hide (H4.out.after hb)
  replace HW4 := hide (below_two HW4.out hb)
  clear hb VW o0 o1 o2 o3 o4 o5 o6 o7 o8 em HO hs0 hsz
  go_wp2_with fail
  have PV := paramsV_no H4.out
  rw [HPA.out] at PV
  refine PV.mono ?_
  rintro e w8 ⟨u, rfl, hu, hb⟩
  replace H4 := hide (H4.out.after hb)
  replace HW4 := hide (below_two HW4.out hb)
  have HU : Hid (Ints w8 u dfl) := hide hu.ints
  obtain ⟨ua, uc, rfl⟩ := hu.shape
  clear hb PV hu ev
  go_wp2_with fail
  refine (rdefaults8 _).mono ?_
  rintro e w9 ⟨u2, rfl, hu2, hb⟩
  replace H4 := hide (H4.out.after hb)
  replace HW4 := hide (below_two HW4.out hb)
  replace HU := hide (HU.out.below hb)
  have HU2 := hide hu2
  obtain ⟨ua2, uc2, rfl, _⟩ := hu2
  clear hb
  go_wp2_with fail
  refine (sameInts_true dfl _ _ _ HU.out HU2.out (by decide)).mono ?_
  rintro e w10 ⟨rfl, n, hw⟩
  have hb : Below w9.heap.size w9 w10 := by rw [hw]; exact below_drewN (Below.refl _ _) n
  replace H4 := hide (H4.out.after hb)
  replace HW4 := hide (below_two HW4.out hb)
  clear hb hw HU HU2
  go_wp2_with fail
  have MV := missionV_no H4.out
  rw [HPA.out] at MV
  refine MV.mono ?_
  rintro e w11 ⟨rfl, hw⟩
  obtain rfl := hw.symm
  clear MV hw
  go_wp2_with fail
  go_ret
  exact ⟨rfl, HW4.out⟩
theorem pilotNil_walk (x0 x1 x2 x3 x4 x5 x6 x7 x8 x9 xa xb : ByteArray) (w : World) : Calls Tryz.prog 3 #[.agg #[.string x0, .string x1, .string x2, .string x3, .string x4, .string x5, .string x6, .string x7, .string x8, .string x9, .string xa, .string xb]] w fun e w' => e = .returned (.bool true) ∧ Below w.heap.size w w' := by
  have hb0 := below_alloc w (.cells #[.string x0, .string x1, .string x2, .string x3, .string x4, .string x5, .string x6, .string x7, .string x8, .string x9, .string xa, .string xb] 24)
  have HI := hide (Blk.new w #[.string x0, .string x1, .string x2, .string x3, .string x4, .string x5, .string x6, .string x7, .string x8, .string x9, .string xa, .string xb] 24)
  have HW := hide hb0
  clear hb0
  go_enter Tryz.func3, Tryz.ntmps3
  go_upto_region 2 with fail
  generalize w.alloc (.cells #[.string x0, .string x1, .string x2, .string x3, .string x4, .string x5, .string x6, .string x7, .string x8, .string x9, .string xa, .string xb] 24) = w1 at *
  rename_i K0 hK0
  apply wp_region_lit
  refine wpList_same rfl (some 11) rfl (.pointer none) (by kernel_rfl) ?_
  refine wpList_load_row rfl 24 _ rfl w.heap.size rfl 24 #[.string x0, .string x1, .string x2, .string x3, .string x4, .string x5, .string x6, .string x7, .string x8, .string x9, .string xa, .string xb] (0, 0) _ HI.out Tryz.underlying24 rfl (by kernel_rfl) ?_
  go_simp
  go_wp2_with (go_at_call 4; refine (stepN _ x0 x1 x2 x3 x4 x5 x6 x7 x8 x9 xa xb).mono ?_; rintro e w2 ⟨rfl, hb⟩)
  have HO := hide (Blk.new w2 ou0 28)
  have HW2 := hide (below_two (below_two HW.out hb) (below_alloc w2 (.cells ou0 28)))
  clear hb HI HW
  unfold ou0 at HO HW2
  generalize w2.alloc (.cells #[.int .i64 0, .int .i64 0, .int .i64 0, .int .i64 0, .int .i64 0, .int .i64 0, .int .i64 0, .int .i64 0, .string ⟨#[]⟩] 28) = w3 at *
  generalize w2.heap.size = o at *
  refine (fenceN w3).mono ?_
  rintro e w4 ⟨rfl, hb⟩
  have hb2 := below_two hb (below_alloc w4 (.cells feN 34))
  replace HO := hide (HO.out.after hb2)
  replace HW2 := hide (below_two HW2.out hb2)
  have HFe := hide (Blk.new w4 feN 34)
  clear hb hb2
  go_upto_region 4 with fail
  generalize w4.alloc (.cells feN 34) = w5 at *
  generalize w4.heap.size = fz at *
  go_wp2_with fail
  refine (newN w5).mono ?_
  rintro e w6 ⟨rfl, hw⟩
  obtain rfl := hw.symm
  clear hw
  have o0 := HO.out.cell 0 (v := .int .i64 0) rfl
  have o1 := HO.out.cell 1 (v := .int .i64 0) rfl
  have o2 := HO.out.cell 2 (v := .int .i64 0) rfl
  have o3 := HO.out.cell 3 (v := .int .i64 0) rfl
  have o4 := HO.out.cell 4 (v := .int .i64 0) rfl
  have o5 := HO.out.cell 5 (v := .int .i64 0) rfl
  have o6 := HO.out.cell 6 (v := .int .i64 0) rfl
  have o7 := HO.out.cell 7 (v := .int .i64 0) rfl
  have o8 := HO.out.cell 8 (v := .string ⟨#[]⟩) rfl
  have eo := eql_ou
  unfold ou0 at eo
  have ev := eql_vw
  unfold vw0 at ev
  go_wp2_with fail
  clear o0 o1 o2 o3 o4 o5 o6 o7 o8 eo HO
  refine (viewN _).mono ?_
  rintro e w6 ⟨rfl, hb⟩
  replace HFe := hide (HFe.out.after hb)
  replace HW2 := hide (below_two HW2.out hb)
  clear hb
  unfold vw0
  go_wp2_with fail
  clear ev
  refine (paramsN _).mono ?_
  rintro e w7 ⟨rfl, hw⟩
  obtain rfl := hw.symm
  clear hw
  go_wp2_with fail
  refine (missionN _).mono ?_
  rintro e w7 ⟨rfl, hw⟩
  obtain rfl := hw.symm
  clear hw
  have q0 := HFe.out.cell 0 (v := .slice none 0 0) rfl
  go_wp2_with fail
  refine (awake_first _).mono ?_
  rintro e w8 ⟨rfl, hb⟩
  replace HW2 := hide (below_two HW2.out hb)
  clear hb HFe q0
  go_wp2_with fail
  go_ret
  exact ⟨rfl, HW2.out⟩
end Go.Proofs.YtapfaaaepnplcaaGreatDoor
