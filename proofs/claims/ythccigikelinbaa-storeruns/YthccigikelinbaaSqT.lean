/- StoreRuns: both stores and both flashes, alike; Boot. -/
import Derived.Test.YthccigikelinbaaSqS
namespace Go.Proofs.Ythccigikelinbaa
open Go.RowKit Go.Great

/-- the two stores: none, both alive and alike, or both standing -/
def Md (w : World) (B P R X D : Nat) (σ : St) (sp tp : Value) : Prop :=
  (sp = .pointer none ∧ tp = .pointer none) ∨
  ∃ S T, sp = fp S ∧ tp = fp T ∧ (B ≤ S ∧ B ≤ T ∧ S ≠ P ∧ S ≠ R ∧ S ≠ X ∧ S ≠ D ∧ S ≠ T ∧ T ≠ P ∧ T ≠ R ∧ T ≠ X ∧ T ≠ D) ∧
    ((∃ s V, So w S (fp R) s.ac s.tu s.en s.k ∧ Live σ.C s V ∧ On σ ∧ Bl w T (skC X (s.ac : Int) V (s.en : Int) false false) 105) ∨
     (∃ sec V en, sec < 2 ∧ en ≤ 4096 ∧ (∀ i, i < 3 → ((V i).getD []).length ≤ 2000) ∧ So w S (.pointer none) 0 0 0 kz ∧ Bl w T (skC X ((sec : Nat) : Int) V ((en : Nat) : Int) false true) 105))
structure Tw (B : Nat) (w0 w : World) (P R X D cap : Nat) (σ ρ : St) (sp tp : Value) : Prop where
  hP : B ≤ P
  hR : B ≤ R
  hX : B ≤ X
  hD : B ≤ D
  hB : B ≤ w0.heap.size
  n1 : P ≠ R
  n2 : P ≠ X
  n3 : P ≠ D
  n4 : R ≠ X
  n5 : R ≠ D
  f : Fl w R σ
  q : Rf w X D cap ρ
  r : Rel σ ρ
  p : Bl w P #[fp R, sp, fp X, tp] 28
  b : Below B w0 w
  m : Md w B P R X D σ sp tp
theorem Live.lens {C : List UInt8} {s : Sv} {V : Vl} (h : Live C s V) : ∀ i, i < 3 → ((V i).getD []).length ≤ 2000 := by
  intro i hi
  obtain ⟨g1, _, g3⟩ := h.en.kok (secL_len h.up.len h.up.a2)
  rw [h.val i hi]
  unfold cont
  by_cases e : (s.k i).th = true
  · rw [if_pos e]
    have := g3.1 i e
    show (txt C s.ac (s.k i)).length ≤ 2000
    rw [txt_len C h.up.len s.ac h.up.a2 (s.k i) (by omega)]
    omega
  · rw [if_neg e]; simp
theorem on_on {σ : St} {w : World} {R : Nat} (hF : Fl w R σ) : On (onS σ) := ⟨hF.len, rfl, by show (0 : Nat) ≤ _; omega⟩
theorem So.kept2 {w w' : World} {S X D : Nat} {p : Value} {ac tu en : Int} {k : Kp} (h : So w S p ac tu en k) (hb : Kept2 X D w w') (h1 : S ≠ X) (h2 : S ≠ D) : So w' S p ac tu en k := ⟨(hb.block S h.lt h1 h2).trans h.blk⟩
theorem So.setO {w : World} {S B : Nat} {p : Value} {ac tu en : Int} {k : Kp} (h : So w S p ac tu en k) (hne : S ≠ B) (i : Nat) (u : Value) : So (w.setCell ⟨B, i, none⟩ u) S p ac tu en k := ⟨(set_other _ _ hne).trans h.blk⟩
theorem Fl.setO {w : World} {R B : Nat} {σ : St} (h : Fl w R σ) (hne : R ≠ B) (i : Nat) (u : Value) : Fl (w.setCell ⟨B, i, none⟩ u) R σ := ⟨h.len, (set_other _ _ hne).trans h.blk⟩
theorem Md.setO {w : World} {B P R X D : Nat} {σ : St} {sp tp : Value} (h : Md w B P R X D σ sp tp) (i : Nat) (u : Value) : Md (w.setCell ⟨P, i, none⟩ u) B P R X D σ sp tp := by
  rcases h with h | ⟨S, T, e1, e2, hn, h⟩
  · exact .inl h
  · refine .inr ⟨S, T, e1, e2, hn, ?_⟩
    rcases h with ⟨s, V, a1, a2, a3, a4⟩ | ⟨sec, V, en, a1, a2, a3, a4, a5⟩
    · exact .inl ⟨s, V, a1.setO (by omega) _ _, a2, a3, a4.setOther (by omega) _ _⟩
    · exact .inr ⟨sec, V, en, a1, a2, a3, a4.setO (by omega) _ _, a5.setOther (by omega) _ _⟩
/-- both stores are put in the pair -/
theorem Tw.put {B : Nat} {w0 w w4 : World} {P R X D cap : Nat} {σ ρ τ ρ' : St} {sp tp sp' tp' : Value} (h : Tw B w0 w P R X D cap σ ρ sp tp) (hP : Bl w4 P #[fp R, sp, fp X, tp] 28) (hF : Fl w4 R τ) (hQ : Rf w4 X D cap ρ') (hr : Rel τ ρ') (hb : Below B w0 w4) (hm : Md w4 B P R X D τ sp' tp') : Tw B w0 ((w4.setCell ⟨P, 1, none⟩ sp').setCell ⟨P, 3, none⟩ tp') P R X D cap τ ρ' sp' tp' := by
  have hz : B ≤ w4.heap.size := Nat.le_trans h.hB hb.size
  refine ⟨h.hP, h.hR, h.hX, h.hD, h.hB, h.n1, h.n2, h.n3, h.n4, h.n5, (hF.setO h.n1.symm _ _).setO h.n1.symm _ _, (hQ.set3 h.n2 h.n3 _ _).set3 h.n2 h.n3 _ _, hr, ?_, set_below (set_below hb P 1 _ h.hP hz) P 3 _ h.hP (by rw [size_set]; exact hz), (hm.setO _ _).setO _ _⟩
  have g1 : Bl _ P #[fp R, sp', fp X, tp] 28 := hP.set 1 sp'
  exact g1.set 3 tp'
set_option maxRecDepth 100000 in
set_option maxHeartbeats 4000000 in
theorem pboot_any (B : Nat) (w0 w : World) (P R X D cap : Nat) (σ ρ : St) (sp tp : Value) (h : Tw B w0 w P R X D cap σ ρ sp tp) : Calls Try.prog 12 #[fp P] w fun e w' => e = .returned (.bool true) ∧ ∃ σ' ρ' sp' tp', Tw B w0 w' P R X D cap σ' ρ' sp' tp' := by
  have H := hide h
  have c0 := h.p.cell 0 (v := fp R) rfl
  have F1 := on_any w R σ h.f
  have HREL := hide (boot_rel h.r.on (on_on h.f))
  have HRO := hide h.r.on
  obtain ⟨⟨τ, os⟩, hbs⟩ : ∃ x, bootS (onS σ) = x := ⟨_, rfl⟩
  obtain ⟨⟨ρ', ok', er⟩, hbr⟩ : ∃ x, bootR (onR ρ) = x := ⟨_, rfl⟩
  have BO := fun W hf => boot_any W R (onS σ) hf HRO.out.js
  have RB := fun W hr => rboot_any W X D cap (onR ρ) hr HRO.out.jr
  rw [hbs] at BO HREL
  rw [hbr] at RB HREL
  clear hbs hbr h
  go_enter Try.func12, Try.ntmps12
  go_wp2_with fail
  refine F1.mono ?_
  rintro e w1 ⟨rfl, f1, k1⟩
  have P1 := hide (show Bl w1 P #[fp R, sp, fp X, tp] 28 from k1.other H.out.p H.out.n1)
  have Q1 := hide (H.out.q.kept k1 H.out.n4.symm H.out.n5.symm)
  have c2 := P1.out.cell 2 (v := fp X) rfl
  have FF1 := hide f1
  have K1 := hide k1
  have G1 := ron_any w1 X D cap ρ Q1.out
  clear f1 k1 F1 c0
  go_wp2_with fail
  refine G1.mono ?_
  rintro e w2 ⟨rfl, q2, k2⟩
  have P2 := hide (P1.out.kept2 k2 H.out.n2 H.out.n3)
  have FF2 := hide (FF1.out.kept2 k2 H.out.n4 H.out.n5)
  have Q2 := hide q2
  have K2 := hide k2
  have c0 := P2.out.cell 0 (v := fp R) rfl
  have B2 := BO w2 FF2.out
  clear q2 k2 G1 c2 BO
  go_wp2_with fail
  refine B2.mono ?_
  rintro e w3 ⟨ok, τ', s', S, rfl, hx, f3, hso, hS, k3⟩
  have P3 := hide (show Bl w3 P #[fp R, sp, fp X, tp] 28 from k3.other P2.out H.out.n1)
  have Q3 := hide (Q2.out.kept k3 H.out.n4.symm H.out.n5.symm)
  have c2 := P3.out.cell 2 (v := fp X) rfl
  have FF3 := hide f3
  have K3' := hide k3
  have HSO := hide hso
  have B3 := RB w3 Q3.out
  have HX := hide hx
  have HS := hide hS
  clear f3 k3 hso hx B2 c0 RB hS
  have hz1 := K1.out.size
  have hz2 := K2.out.size
  have hz3 := K3'.out.size
  have hPl := H.out.p.lt
  have hRl := H.out.f.lt
  have hXl := H.out.q.ltX
  have hDl := H.out.q.lt
  have hSz := FF3.out.lt
  have HB3 : Hid (Below B w0 w3) := hide (K3'.out.toBelow (K2.out.toBelow (K1.out.toBelow H.out.b (Nat.le_trans H.out.hB H.out.b.size) H.out.hR) (by have := H.out.hB; have := H.out.b.size; omega) H.out.hX H.out.hD) (by have := H.out.hB; have := H.out.b.size; omega) H.out.hR)
  cases ok with
  | true =>
    have hx := HX.out
    simp only [if_true] at hx
    injection hx with hx1 hx2
    subst hx1
    subst hx2
    obtain ⟨hr1, hr2⟩ := HREL.out
    rcases hr2 with ⟨s'', V, e1, e2, e3, hL, hOn⟩ | ⟨e1, _⟩
    · injection e1 with e1
      subst e1
      simp only at e2 e3
      subst e2 e3
      have HL := hide hL
      have HO := hide hOn
      have HR1 := hide hr1
      clear hr1 hL hOn HREL HX
      go_wp2_with fail
      refine B3.mono ?_
      rintro e w4 ⟨T, rfl, q4, hbl, hT, k4⟩
      have hz4 := k4.size
      have P4 := hide (P3.out.kept2 k4 H.out.n2 H.out.n3)
      have FF4 := hide (FF3.out.kept2 k4 H.out.n4 H.out.n5)
      have HSl : S < w3.heap.size := (HSO.out (by trivial)).lt
      have hS := HS.out
      have SO4 := hide ((HSO.out (by trivial)).kept2 k4 (by omega) (by omega))
      have BL4 := hide (hbl _ rfl)
      have Q4 := hide q4
      have HB4 := hide (k4.toBelow HB3.out (by have := H.out.hB; have := H.out.b.size; omega) H.out.hX H.out.hD)
      have hTn : w3.heap.size ≤ T := hT
      clear q4 hbl k4 B3 c2 hT hS
      have ft := P4.out.fz
      have d1 := P4.out.cell 1 (v := sp) rfl
      have d3 := P4.out.cell 3 (v := tp) rfl
      go_wp2_with fail
      go_ret
      have hP' := H.out.hP
      have hB' := H.out.hB
      have hb' := H.out.b.size
      refine ⟨rfl, _, _, _, _, H.out.put P4.out FF4.out Q4.out HR1.out HB4.out (.inr ⟨S, T, rfl, rfl, by have := HS.out; omega, .inl ⟨s', V, SO4.out, HL.out, HO.out, BL4.out⟩⟩)⟩
    · cases e1
  | false =>
    have hx := HX.out
    simp only [Bool.false_eq_true, if_false] at hx
    injection hx with hx1 hx2
    subst hx1
    subst hx2
    obtain ⟨hr1, hr2⟩ := HREL.out
    rcases hr2 with ⟨s'', V, e1, _⟩ | ⟨_, e2, e3⟩
    · cases e1
    · simp only at e2 e3
      subst e2 e3
      have HR1 := hide hr1
      clear hr1 HREL HX
      go_wp2_with fail
      refine B3.mono ?_
      rintro e w4 ⟨T, rfl, q4, hbl, hT, k4⟩
      have hz4 := k4.size
      have P4 := hide (P3.out.kept2 k4 H.out.n2 H.out.n3)
      have FF4 := hide (FF3.out.kept2 k4 H.out.n4 H.out.n5)
      have Q4 := hide q4
      have HB4 := hide (k4.toBelow HB3.out (by have := H.out.hB; have := H.out.b.size; omega) H.out.hX H.out.hD)
      clear q4 hbl k4 B3 c2 hT
      have ft := P4.out.fz
      have d1 := P4.out.cell 1 (v := sp) rfl
      have d3 := P4.out.cell 3 (v := tp) rfl
      go_wp2_with fail
      go_ret
      exact ⟨rfl, _, _, _, _, H.out.put P4.out FF4.out Q4.out HR1.out HB4.out (.inl ⟨rfl, rfl⟩)⟩
end Go.Proofs.Ythccigikelinbaa
