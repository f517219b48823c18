/- Package store: format. -/
import Derived.Test.YtcjahdgppnmdkaaSo9
set_option maxRecDepth 100000
namespace Go.Proofs.Ytcjahdgppnmdkaa
open Go.RowKit Go.Great

/-- what Boot's steps leave -/
def OrdEnd (x : St × Option Sv) (S R : Nat) (w : World) (e : Ending) (w' : World) : Prop :=
  ∃ (ok : Bool) (τ : St) (s' : Sv), e = .returned (.int .i64 (if ok then 0 else 60)) ∧ x = (τ, if ok then some s' else none) ∧ Fl w' R τ ∧ (ok = true → So w' S (fp R) s'.ac s'.tu s'.en s'.k) ∧ Kep2 R S w w'
theorem StEnd.ord {x : St × Option Sv} {s : Sv} {S R : Nat} {w : World} {e : Ending} {w' : World} (h : StEnd x s S R w e w') : OrdEnd x S R w e w' := by
  obtain ⟨ok, τ, s', h1, h2, h3, h4, h5⟩ := h
  refine ⟨ok, τ, s', h1, h2, h3, fun he => ?_, h5⟩
  rw [if_pos he] at h4
  exact h4
theorem OrdEnd.from {x : St × Option Sv} {S R : Nat} {w w0 : World} {e : Ending} {w' : World} (h : OrdEnd x S R w e w') (k : Kep2 R S w0 w) : OrdEnd x S R w0 e w' := by
  obtain ⟨ok, τ, s', h1, h2, h3, h4, h5⟩ := h
  exact ⟨ok, τ, s', h1, h2, h3, h4, k.trans h5⟩
theorem erase_on (w : World) (R : Nat) (σ : St) (h : Fl w R σ) (ho : On σ) (s : Nat) (hs : s < 2) : Calls Try.prog 82 #[fp R, .int .i64 (s : Int)] w fun e w' => e = .returned (.int .i64 (if (eraseS σ s).2 then 0 else 60)) ∧ Fl w' R (eraseS σ s).1 ∧ Kept R w w' := erase_in w R σ h ho.jk ho.off s hs
theorem kept3 (S : Nat) (w : World) (a b c : Nat) (x y z : Value) : Kept S w (((w.setCell ⟨S, a, none⟩ x).setCell ⟨S, b, none⟩ y).setCell ⟨S, c, none⟩ z) := (((Kept.refl S w).set _ _).set _ _).set _ _
set_option maxHeartbeats 2000000 in
theorem format_any (w : World) (S R : Nat) (σ : St) (hon : On σ) (ac tu en : Int) (hF : Fl w R σ) (h : So w S (fp R) ac tu en kz) (b : UInt8) :
    Calls Try.prog 79 #[fp S, .int .u8 (b.toNat : Int)] w fun e w' => OrdEnd (fmtS σ b) S R w e w' := by
  have hRS := hF.ne h
  have hne : ((b.toNat : Int) != 255) = !decide (b = 255) := congrArg (!·) (nat_u8 b 255 (by omega))
  have c0 := h.c0
  have HS := hide h
  have HF := hide hF
  clear h hF
  by_cases hb : b = 255
  · rw [decide_eq_true hb] at hne
    have HFM : Hid (fmtS σ b = fmt2 σ) := by show _ = _; unfold fmtS; rw [if_pos hb]
    clear hb
    go_enter Try.func79, Try.ntmps79
    have E2 := erase_on w R σ HF.out hon 0 (by omega)
    have hE2 := @eraseS_on σ 0 hon
    obtain ⟨⟨σ2, ok2⟩, hx2⟩ : ∃ x, eraseS σ 0 = x := ⟨_, rfl⟩
    rw [hx2] at E2 hE2
    simp only at E2 hE2
    cases ok2
    · simp only [Bool.false_eq_true, if_false] at E2
      have XX : Hid (fmt2 σ = (σ2, none)) := by show _ = _; unfold fmt2; rw [hx2]; rfl
      clear hx2 hE2
      go_wp2_with fail
      refine E2.mono ?_
      rintro e w2 ⟨rfl, f2, k2⟩
      clear E2
      go_wp2_with fail
      go_ret
      exact (show OrdEnd _ _ _ _ _ _ from ⟨false, σ2, ⟨0, 0, 0, kz⟩, rfl, by rw [HFM.out, XX.out]; rfl, f2, (fun he => by cases he), (Kep2.refl R S w).trans (k2.l2 S)⟩)
    · simp only [if_true] at E2
      have hon2 := hE2 rfl
      have XX : Hid (fmt2 σ = ((progS σ2 0 [15]).1, if (progS σ2 0 [15]).2 then some ⟨0, 0, 1, kz⟩ else none)) := by show _ = _; unfold fmt2; rw [hx2]; rfl
      clear hx2 hE2
      go_wp2_with fail
      refine E2.mono ?_
      rintro e w2 ⟨rfl, f2, k2⟩
      have s2 := HS.out.kept k2 (Ne.symm hRS)
      have m1 := s2.c1
      have m2 := s2.c2
      have m3 := s2.c3
      have z1 := s2.frozen 1
      have z2 := s2.frozen 2
      have z3 := s2.frozen 3
      have s3 := ((s2.s1 0).s2 0).s3 1
      have f3 := f2.kept (kept3 S w2 1 2 3 (.int .i64 0) (.int .i64 0) (.int .i64 1)) hRS
      have SG := sign_any _ S R σ2 hon2 0 0 1 kz f3 s3 (by omega) (by omega)
      rw [show (0 * 4096 : Nat) = 0 from rfl, show codeN 0 = 15 from rfl] at SG
      obtain ⟨⟨τ, ok3⟩, hx3⟩ : ∃ x, progS σ2 0 [15] = x := ⟨_, rfl⟩
      rw [hx3] at SG XX
      simp only at SG XX
      obtain ⟨r3, hr3⟩ : ∃ r : Int, Hid ((if ok3 then 0 else 60) = r) := ⟨_, hide rfl⟩
      rw [show (if ok3 = true then (0 : Int) else 60) = r3 from hr3.out] at SG
      have HF3 := hide f3
      have HS3 := hide s3
      clear hx3 E2 f3 s3
      go_wp2_with fail
      refine SG.mono ?_
      rintro e w5 ⟨rfl, f5, k5⟩
      go_wp2_with fail
      go_ret
      exact (show OrdEnd _ _ _ _ _ _ from ⟨ok3, τ, ⟨0, 0, 1, kz⟩, by rw [hr3.out]; rfl, by rw [HFM.out, XX.out], f5, fun _ => HS3.out.kept k5 (Ne.symm hRS), ((Kep2.refl R S w).trans (k2.l2 S)).trans (((kept3 S w2 1 2 3 (.int .i64 0) (.int .i64 0) (.int .i64 1)).r2 R).trans (k5.l2 S))⟩)
  · rw [decide_eq_false hb] at hne
    have E1 := erase_on w R σ HF.out hon 1 (by omega)
    have hE1 := @eraseS_on σ 1 hon
    have HF0 : Hid (fmtS σ b = if (eraseS σ 1).2 then fmt2 (eraseS σ 1).1 else ((eraseS σ 1).1, none)) := by show _ = _; unfold fmtS; rw [if_neg hb]
    clear hb
    obtain ⟨⟨σ1, ok1⟩, hx1⟩ : ∃ x, eraseS σ 1 = x := ⟨_, rfl⟩
    rw [hx1] at E1 hE1 HF0
    simp only at E1 hE1 HF0
    clear hx1
    go_enter Try.func79, Try.ntmps79
    cases ok1
    · simp only [Bool.false_eq_true, if_false] at E1 HF0
      go_wp2_with fail
      refine E1.mono ?_
      rintro e w1 ⟨rfl, f1, k1⟩
      clear E1
      go_wp2_with fail
      go_ret
      exact (show OrdEnd _ _ _ _ _ _ from ⟨false, σ1, ⟨0, 0, 0, kz⟩, rfl, HF0.out, f1, (fun he => by cases he), k1.l2 S⟩)
    · simp only [if_true] at E1 HF0
      have hon1 := hE1 rfl
      have HFM : Hid (fmtS σ b = fmt2 σ1) := HF0
      go_wp2_with fail
      refine E1.mono ?_
      rintro e w1 ⟨rfl, f1, k1⟩
      have HS1 := hide (HS.out.kept k1 (Ne.symm hRS))
      have c01 := HS1.out.c0
      have HF1 := hide f1
      have K1 := hide (k1.l2 S)
      clear E1 f1 k1 HF0 hE1 c0
      have E2 := erase_on w1 R σ1 HF1.out hon1 0 (by omega)
      have hE2 := @eraseS_on σ1 0 hon1
      obtain ⟨⟨σ2, ok2⟩, hx2⟩ : ∃ x, eraseS σ1 0 = x := ⟨_, rfl⟩
      rw [hx2] at E2 hE2
      simp only at E2 hE2
      cases ok2
      · simp only [Bool.false_eq_true, if_false] at E2
        have XX : Hid (fmt2 σ1 = (σ2, none)) := by show _ = _; unfold fmt2; rw [hx2]; rfl
        clear hx2 hE2
        go_wp2_with fail
        refine E2.mono ?_
        rintro e w2 ⟨rfl, f2, k2⟩
        clear E2
        go_wp2_with fail
        go_ret
        exact (show OrdEnd _ _ _ _ _ _ from ⟨false, σ2, ⟨0, 0, 0, kz⟩, rfl, by rw [HFM.out, XX.out]; rfl, f2, (fun he => by cases he), K1.out.trans (k2.l2 S)⟩)
      · simp only [if_true] at E2
        have hon2 := hE2 rfl
        have XX : Hid (fmt2 σ1 = ((progS σ2 0 [15]).1, if (progS σ2 0 [15]).2 then some ⟨0, 0, 1, kz⟩ else none)) := by show _ = _; unfold fmt2; rw [hx2]; rfl
        clear hx2 hE2
        go_wp2_with fail
        refine E2.mono ?_
        rintro e w2 ⟨rfl, f2, k2⟩
        have s2 := HS1.out.kept k2 (Ne.symm hRS)
        have m1 := s2.c1
        have m2 := s2.c2
        have m3 := s2.c3
        have z1 := s2.frozen 1
        have z2 := s2.frozen 2
        have z3 := s2.frozen 3
        have s3 := ((s2.s1 0).s2 0).s3 1
        have f3 := f2.kept (kept3 S w2 1 2 3 (.int .i64 0) (.int .i64 0) (.int .i64 1)) hRS
        have SG := sign_any _ S R σ2 hon2 0 0 1 kz f3 s3 (by omega) (by omega)
        rw [show (0 * 4096 : Nat) = 0 from rfl, show codeN 0 = 15 from rfl] at SG
        obtain ⟨⟨τ, ok3⟩, hx3⟩ : ∃ x, progS σ2 0 [15] = x := ⟨_, rfl⟩
        rw [hx3] at SG XX
        simp only at SG XX
        obtain ⟨r3, hr3⟩ : ∃ r : Int, Hid ((if ok3 then 0 else 60) = r) := ⟨_, hide rfl⟩
        rw [show (if ok3 = true then (0 : Int) else 60) = r3 from hr3.out] at SG
        have HF3 := hide f3
        have HS3 := hide s3
        clear hx3 E2 f3 s3
        go_wp2_with fail
        refine SG.mono ?_
        rintro e w5 ⟨rfl, f5, k5⟩
        go_wp2_with fail
        go_ret
        exact (show OrdEnd _ _ _ _ _ _ from ⟨ok3, τ, ⟨0, 0, 1, kz⟩, by rw [hr3.out]; rfl, by rw [HFM.out, XX.out], f5, fun _ => HS3.out.kept k5 (Ne.symm hRS), (K1.out.trans (k2.l2 S)).trans (((kept3 S w2 1 2 3 (.int .i64 0) (.int .i64 0) (.int .i64 1)).r2 R).trans (k5.l2 S))⟩)
end Go.Proofs.Ytcjahdgppnmdkaa
