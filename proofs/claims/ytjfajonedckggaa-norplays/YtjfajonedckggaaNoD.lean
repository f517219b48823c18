/- One call of a script: both flashes answer alike. -/
import Derived.Test.YtjfajonedckggaaNoR
namespace Go.Proofs.Ytjfajonedckggaa
open Go.RowKit Go.Great

structure CallB (w : World) (P : Nat) (k a n : Int) (d : ByteArray) : Prop where
  blk : w.heap[P]? = some (.cells #[.int .i64 k, .int .i64 a, .int .i64 n, .string d] 30 (0, 0))
theorem CallB.c0 {w : World} {P : Nat} {k a n : Int} {d : ByteArray} (h : CallB w P k a n d) : w.cell? ⟨P, 0, none⟩ = some (.int .i64 k) := by simp [World.cell?, h.blk]
theorem CallB.c1 {w : World} {P : Nat} {k a n : Int} {d : ByteArray} (h : CallB w P k a n d) : w.cell? ⟨P, 1, none⟩ = some (.int .i64 a) := by simp [World.cell?, h.blk]
theorem CallB.c2 {w : World} {P : Nat} {k a n : Int} {d : ByteArray} (h : CallB w P k a n d) : w.cell? ⟨P, 2, none⟩ = some (.int .i64 n) := by simp [World.cell?, h.blk]
theorem CallB.c3 {w : World} {P : Nat} {k a n : Int} {d : ByteArray} (h : CallB w P k a n d) : w.cell? ⟨P, 3, none⟩ = some (.string d) := by simp [World.cell?, h.blk]
theorem CallB.below {w w' : World} {P : Nat} {k a n : Int} {d : ByteArray} (h : CallB w P k a n d) (hb : Below w.heap.size w w') : CallB w' P k a n d := ⟨by rw [hb.block _ (lt_of_block h.blk), h.blk]⟩
theorem CallB.kept {w w' : World} {P R : Nat} {k a n : Int} {d : ByteArray} (h : CallB w P k a n d) (hb : Kept R w w') (hne : P ≠ R) : CallB w' P k a n d := ⟨hb.other h.blk hne⟩
theorem CallB.kept2 {w w' : World} {P X D : Nat} {k a n : Int} {d : ByteArray} (h : CallB w P k a n d) (hb : Kept2 X D w w') (h1 : P ≠ X) (h2 : P ≠ D) : CallB w' P k a n d := ⟨by rw [hb.block _ (lt_of_block h.blk) h1 h2, h.blk]⟩
abbrev callV (k a n : Int) (d : ByteArray) : Value := .agg #[.int .i64 k, .int .i64 a, .int .i64 n, .string d]
theorem call_new (w : World) (k a n : Int) (d : ByteArray) : CallB (w.alloc (.cells #[.int .i64 k, .int .i64 a, .int .i64 n, .string d] 30)) w.heap.size k a n d := ⟨heap_alloc_new _ _⟩
theorem tmod6 (k : Int) : k.tmod 6 = if 0 ≤ k then k % 6 else -((-k) % 6) := by
  by_cases h : 0 ≤ k
  · rw [if_pos h, Int.tmod_eq_emod_of_nonneg h]
  · rw [if_neg h]
    have := Int.neg_tmod (-k) 6
    rw [Int.neg_neg] at this
    rw [this, Int.tmod_eq_emod_of_nonneg (by omega)]
theorem tmod6_neg (k : Int) (h : k.tmod 6 < 0) : k.tmod 6 + 6 = k % 6 := by
  rw [tmod6] at h ⊢
  split at h
  · omega
  · rw [if_neg (by assumption)]; omega
theorem tmod6_pos (k : Int) (h : ¬ k.tmod 6 < 0) : k.tmod 6 = k % 6 := by
  rw [tmod6] at h ⊢
  split at h
  · rw [if_pos (by assumption)]
  · rw [if_neg (by assumption)]; omega
theorem which_any (w : World) (k a n : Int) (d : ByteArray) (_hk : I64 k) : Calls Try.prog 25 #[callV k a n d] w fun e w' => e = .returned (.int .i64 (k % 6)) ∧ Below w.heap.size w w' := by
  unfold I64 at _hk
  go_enter Try.func25, Try.ntmps25
  by_cases h : k.tmod 6 < 0
  · have e : k.tmod 6 + 6 = k % 6 := tmod6_neg k h
    go_wp2
    go_ret
    exact ⟨rfl, below_alloc _ _⟩
  · have e : k.tmod 6 = k % 6 := tmod6_pos k h
    go_wp2
    go_ret
    exact ⟨rfl, below_alloc _ _⟩
/-- the two flashes, alike -/
structure Both (B : Nat) (w0 w : World) (R X D cap : Nat) (σ ρ : St) : Prop where
  hR : B ≤ R
  hX : B ≤ X
  hD : B ≤ D
  hB : B ≤ w0.heap.size
  n1 : R ≠ X
  n2 : R ≠ D
  f : Fl w R σ
  q : Rf w X D cap ρ
  r : Rel σ ρ
  b : Below B w0 w
theorem Both.le {B : Nat} {w0 w : World} {R X D cap : Nat} {σ ρ : St} (h : Both B w0 w R X D cap σ ρ) : B ≤ w.heap.size := Nat.le_trans h.hB h.b.size
theorem Both.below {B : Nat} {w0 w w' : World} {R X D cap : Nat} {σ ρ : St} (h : Both B w0 w R X D cap σ ρ) (hb : Below w.heap.size w w') : Both B w0 w' R X D cap σ ρ :=
  ⟨h.hR, h.hX, h.hD, h.hB, h.n1, h.n2, h.f.below hb, h.q.below hb, h.r, below_next h.b h.hB hb⟩
theorem Both.step {B : Nat} {w0 w w1 w2 : World} {R X D cap : Nat} {σ ρ σ' ρ' : St} (h : Both B w0 w R X D cap σ ρ) (k1 : Kept R w w1) (h1 : Fl w1 R σ') (k2 : Kept2 X D w1 w2) (h2 : Rf w2 X D cap ρ') (hr : Rel σ' ρ') : Both B w0 w2 R X D cap σ' ρ' := by
  have hl := h.le
  have hs := k1.size
  exact ⟨h.hR, h.hX, h.hD, h.hB, h.n1, h.n2, h1.kept2 k2 h.n1 h.n2, h2, hr, k2.toBelow (k1.toBelow h.b hl h.hR) (by omega) h.hX h.hD⟩
theorem Both.drew {B : Nat} {w0 w : World} {R X D cap : Nat} {σ ρ : St} (h : Both B w0 w R X D cap σ ρ) : Both B w0 w.drew R X D cap σ ρ := h.below (Below.refl _ _).drew
theorem Both.drewN {B : Nat} {w0 w : World} {R X D cap : Nat} {σ ρ : St} (h : Both B w0 w R X D cap σ ρ) (n : Nat) : Both B w0 (w.drewN n) R X D cap σ ρ :=
  ⟨h.hR, h.hX, h.hD, h.hB, h.n1, h.n2, ⟨h.f.len, h.f.blk⟩, h.q.drewN n, h.r, ⟨h.b.os, h.b.tape, h.b.output, h.b.size, h.b.block⟩⟩
def Does (B : Nat) (w0 : World) (R X D cap : Nat) (e : Ending) (w' : World) : Prop := e = .returned (.bool true) ∧ ∃ σ ρ, Both B w0 w' R X D cap σ ρ
set_option maxHeartbeats 1000000 in
set_option maxRecDepth 100000 in
theorem does_prog (B : Nat) (w0 w : World) (R X D cap : Nat) (σ ρ : St) (h : Both B w0 w R X D cap σ ρ) (k a n : Int) (d : ByteArray) (hk : I64 k) (ha : I64 a) (h0 : k % 6 = 0) : Calls Try.prog 11 #[fp R, fp X, callV k a n d] w fun e w' => Does B w0 R X D cap e w' := by
  have HA := hide (And.intro hk ha)
  have W := fun w => which_any w k a n d hk
  rw [h0] at W
  have H := hide h
  clear h hk ha h0
  go_enter Try.func11, Try.ntmps11
  go_wp2_with fail
  refine (W _).mono ?_
  rintro e w1 ⟨rfl, b1⟩
  have H1 := hide ((H.out.below (below_alloc w _)).below b1)
  have HC1 := hide ((call_new w k a n d).below b1)
  have hlt := H.out.f.lt
  have hltX := H.out.q.ltX
  have hltD := H.out.q.lt
  obtain ⟨P, hP⟩ : ∃ P, w.heap.size = P := ⟨_, rfl⟩
  rw [hP] at HC1 hlt hltX hltD ⊢
  have HN := hide (And.intro (show P ≠ R by omega) (And.intro (show P ≠ X by omega) (show P ≠ D by omega)))
  clear W b1 H hP hlt hltX hltD
  have c1 := HC1.out.c1
  have c3 := HC1.out.c3
  obtain ⟨v, hv⟩ : ∃ v, Hid ((progR σ a d).2 = v) := ⟨_, hide rfl⟩
  have F1 : ∀ wx, Fl wx R σ → Calls Try.prog 13 #[fp R, .int .i64 a, .string d] wx fun e w' => e = .returned (.int .i64 v) ∧ Fl w' R (progR σ a d).1 ∧ Kept R wx w' := fun wx hx => by
    have := prog_any wx R σ hx H1.out.r.js a HA.out.2 d
    rw [hv.out] at this
    exact this
  have Q1 : ∀ wx, Rf wx X D cap ρ → Calls Try.prog 26 #[fp X, .int .i64 a, .string d] wx fun e w' => e = .returned (.int .i64 v) ∧ Rf w' X D cap (progRR ρ a d).1 ∧ Kept2 X D wx w' := fun wx hx => by
    have := rprog_any wx X D cap ρ hx H1.out.r.jr a HA.out.2 d
    rw [← (H1.out.r.prog a d).2, hv.out] at this
    exact this
  go_wp2_with fail
  go_region_held3 (fun wx => wx.cell? ⟨P, 1, none⟩ = some (.int .i64 a) ∧ wx.cell? ⟨P, 3, none⟩ = some (.string d)) (go_keep) (first
    | (go_at_call 13; refine (F1 _ (by first | exact H1.out.f | exact H1.out.f.drew)).mono ?_; rintro e w2 ⟨rfl, h2, k2⟩; have K2 : Hid (Kept R w1 w2) := (by first | exact k2 | exact (Kept.drew (Kept.refl R w1)).trans k2); have H2 := hide h2; have x1 := (HC1.out.kept K2.out HN.out.1).c1; have x3 := (HC1.out.kept K2.out HN.out.1).c3; clear h2 k2)
    | (go_at_call 26; refine (Q1 _ (by first | exact H1.out.q.kept K2.out H1.out.n1.symm H1.out.n2.symm | exact (H1.out.q.kept K2.out H1.out.n1.symm H1.out.n2.symm).drew)).mono ?_; rintro e w3 ⟨rfl, h3, k3⟩; have K3 : Hid (Kept2 X D w2 w3) := (by first | exact k3 | exact (Kept2.drew (Kept2.refl X D w2)).trans k3); have H3 := hide h3; have y1 := ((HC1.out.kept K2.out HN.out.1).kept2 K3.out HN.out.2.1 HN.out.2.2).c1; have y3 := ((HC1.out.kept K2.out HN.out.1).kept2 K3.out HN.out.2.1 HN.out.2.2).c3; clear h3 k3))
  all_goals go_wp2_with fail
  all_goals go_ret
  all_goals exact ⟨rfl, _, _, H1.out.step K2.out H2.out K3.out H3.out (H1.out.r.prog a d).1⟩
set_option maxHeartbeats 1000000 in
set_option maxRecDepth 100000 in
theorem does_erase (B : Nat) (w0 w : World) (R X D cap : Nat) (σ ρ : St) (h : Both B w0 w R X D cap σ ρ) (k a n : Int) (d : ByteArray) (hk : I64 k) (ha : I64 a) (h0 : k % 6 = 1) : Calls Try.prog 11 #[fp R, fp X, callV k a n d] w fun e w' => Does B w0 R X D cap e w' := by
  have HA := hide (And.intro hk ha)
  have W := fun w => which_any w k a n d hk
  rw [h0] at W
  have H := hide h
  clear h hk ha h0
  go_enter Try.func11, Try.ntmps11
  go_wp2_with fail
  refine (W _).mono ?_
  rintro e w1 ⟨rfl, b1⟩
  have H1 := hide ((H.out.below (below_alloc w _)).below b1)
  have HC1 := hide ((call_new w k a n d).below b1)
  have hlt := H.out.f.lt
  have hltX := H.out.q.ltX
  have hltD := H.out.q.lt
  obtain ⟨P, hP⟩ : ∃ P, w.heap.size = P := ⟨_, rfl⟩
  rw [hP] at HC1 hlt hltX hltD ⊢
  have HN := hide (And.intro (show P ≠ R by omega) (And.intro (show P ≠ X by omega) (show P ≠ D by omega)))
  clear W b1 H hP hlt hltX hltD
  have c1 := HC1.out.c1
  have c3 := HC1.out.c3
  obtain ⟨v, hv⟩ : ∃ v, Hid ((eraseR σ a).2 = v) := ⟨_, hide rfl⟩
  have F1 : ∀ wx, Fl wx R σ → Calls Try.prog 18 #[fp R, .int .i64 a] wx fun e w' => e = .returned (.int .i64 v) ∧ Fl w' R (eraseR σ a).1 ∧ Kept R wx w' := fun wx hx => by
    have := erase_any wx R σ hx H1.out.r.js a
    rw [hv.out] at this
    exact this
  have Q1 : ∀ wx, Rf wx X D cap ρ → Calls Try.prog 27 #[fp X, .int .i64 a] wx fun e w' => e = .returned (.int .i64 v) ∧ Rf w' X D cap (eraseRR ρ a).1 ∧ Kept2 X D wx w' := fun wx hx => by
    have := rerase_any wx X D cap ρ hx H1.out.r.jr a
    rw [← (H1.out.r.erase a).2, hv.out] at this
    exact this
  go_wp2_with fail
  go_region_held3 (fun wx => wx.cell? ⟨P, 1, none⟩ = some (.int .i64 a) ∧ wx.cell? ⟨P, 3, none⟩ = some (.string d)) (go_keep) (first
    | (go_at_call 18; refine (F1 _ (by first | exact H1.out.f | exact H1.out.f.drew)).mono ?_; rintro e w2 ⟨rfl, h2, k2⟩; have K2 : Hid (Kept R w1 w2) := (by first | exact k2 | exact (Kept.drew (Kept.refl R w1)).trans k2); have H2 := hide h2; have x1 := (HC1.out.kept K2.out HN.out.1).c1; have x3 := (HC1.out.kept K2.out HN.out.1).c3; clear h2 k2)
    | (go_at_call 27; refine (Q1 _ (by first | exact H1.out.q.kept K2.out H1.out.n1.symm H1.out.n2.symm | exact (H1.out.q.kept K2.out H1.out.n1.symm H1.out.n2.symm).drew)).mono ?_; rintro e w3 ⟨rfl, h3, k3⟩; have K3 : Hid (Kept2 X D w2 w3) := (by first | exact k3 | exact (Kept2.drew (Kept2.refl X D w2)).trans k3); have H3 := hide h3; have y1 := ((HC1.out.kept K2.out HN.out.1).kept2 K3.out HN.out.2.1 HN.out.2.2).c1; have y3 := ((HC1.out.kept K2.out HN.out.1).kept2 K3.out HN.out.2.1 HN.out.2.2).c3; clear h3 k3))
  all_goals go_wp2_with fail
  all_goals go_ret
  all_goals exact ⟨rfl, _, _, H1.out.step K2.out H2.out K3.out H3.out (H1.out.r.erase a).1⟩
set_option maxHeartbeats 1000000 in
set_option maxRecDepth 100000 in
theorem does_cut (B : Nat) (w0 w : World) (R X D cap : Nat) (σ ρ : St) (h : Both B w0 w R X D cap σ ρ) (k a n : Int) (d : ByteArray) (hk : I64 k) (ha : I64 a) (hd : d.size ≤ 140737488351232) (h0 : k % 6 = 2) : Calls Try.prog 11 #[fp R, fp X, callV k a n d] w fun e w' => Does B w0 R X D cap e w' := by
  have HA := hide (And.intro hk ha)
  have W := fun w => which_any w k a n d hk
  rw [h0] at W
  have H := hide h
  have HD := hide hd
  clear h hk ha h0 hd
  go_enter Try.func11, Try.ntmps11
  go_wp2_with fail
  refine (W _).mono ?_
  rintro e w1 ⟨rfl, b1⟩
  have H1 := hide ((H.out.below (below_alloc w _)).below b1)
  have HC1 := hide ((call_new w k a n d).below b1)
  have hlt := H.out.f.lt
  have hltX := H.out.q.ltX
  have hltD := H.out.q.lt
  obtain ⟨P, hP⟩ : ∃ P, w.heap.size = P := ⟨_, rfl⟩
  rw [hP] at HC1 hlt hltX hltD ⊢
  have HN := hide (And.intro (show P ≠ R by omega) (And.intro (show P ≠ X by omega) (show P ≠ D by omega)))
  clear W b1 H hP hlt hltX hltD
  have c1 := HC1.out.c1
  have c3 := HC1.out.c3
  obtain ⟨v, hv⟩ : ∃ v, Hid ((cutR σ a d).2 = v) := ⟨_, hide rfl⟩
  have F1 : ∀ wx, Fl wx R σ → Calls Try.prog 15 #[fp R, .int .i64 a, .string d] wx fun e w' => e = .returned (.int .i64 v) ∧ Fl w' R (cutR σ a d).1 ∧ Kept R wx w' := fun wx hx => by
    have := cut_any wx R σ hx a d (by have := HD.out; omega)
    rw [hv.out] at this
    exact this
  have Q1 : ∀ wx, Rf wx X D cap ρ → Calls Try.prog 28 #[fp X, .int .i64 a, .string d] wx fun e w' => e = .returned (.int .i64 v) ∧ Rf w' X D cap (cutRR ρ a d).1 ∧ Kept2 X D wx w' := fun wx hx => by
    have := rcut_any wx X D cap ρ hx a d
    rw [← (H1.out.r.cut a d HD.out).2, hv.out] at this
    exact this
  go_wp2_with fail
  go_region_held3 (fun wx => wx.cell? ⟨P, 1, none⟩ = some (.int .i64 a) ∧ wx.cell? ⟨P, 3, none⟩ = some (.string d)) (go_keep) (first
    | (go_at_call 15; refine (F1 _ (by first | exact H1.out.f | exact H1.out.f.drew)).mono ?_; rintro e w2 ⟨rfl, h2, k2⟩; have K2 : Hid (Kept R w1 w2) := (by first | exact k2 | exact (Kept.drew (Kept.refl R w1)).trans k2); have H2 := hide h2; have x1 := (HC1.out.kept K2.out HN.out.1).c1; have x3 := (HC1.out.kept K2.out HN.out.1).c3; clear h2 k2)
    | (go_at_call 28; refine (Q1 _ (by first | exact H1.out.q.kept K2.out H1.out.n1.symm H1.out.n2.symm | exact (H1.out.q.kept K2.out H1.out.n1.symm H1.out.n2.symm).drew)).mono ?_; rintro e w3 ⟨rfl, h3, k3⟩; have K3 : Hid (Kept2 X D w2 w3) := (by first | exact k3 | exact (Kept2.drew (Kept2.refl X D w2)).trans k3); have H3 := hide h3; have y1 := ((HC1.out.kept K2.out HN.out.1).kept2 K3.out HN.out.2.1 HN.out.2.2).c1; have y3 := ((HC1.out.kept K2.out HN.out.1).kept2 K3.out HN.out.2.1 HN.out.2.2).c3; clear h3 k3))
  all_goals go_wp2_with fail
  all_goals go_ret
  all_goals exact ⟨rfl, _, _, H1.out.step K2.out H2.out K3.out H3.out (H1.out.r.cut a d HD.out).1⟩
set_option maxHeartbeats 1000000 in
set_option maxRecDepth 100000 in
theorem does_on (B : Nat) (w0 w : World) (R X D cap : Nat) (σ ρ : St) (h : Both B w0 w R X D cap σ ρ) (k a n : Int) (d : ByteArray) (hk : I64 k) (ha : I64 a) (h0 : k % 6 = 3) : Calls Try.prog 11 #[fp R, fp X, callV k a n d] w fun e w' => Does B w0 R X D cap e w' := by
  have HA := hide (And.intro hk ha)
  have W := fun w => which_any w k a n d hk
  rw [h0] at W
  have H := hide h
  clear h hk ha h0
  go_enter Try.func11, Try.ntmps11
  go_wp2_with fail
  refine (W _).mono ?_
  rintro e w1 ⟨rfl, b1⟩
  have H1 := hide ((H.out.below (below_alloc w _)).below b1)
  have HC1 := hide ((call_new w k a n d).below b1)
  obtain ⟨P, hP⟩ : ∃ P, w.heap.size = P := ⟨_, rfl⟩
  rw [hP] at HC1 ⊢
  clear W b1 H hP
  go_wp2_with fail
  refine (on_any w1 R σ H1.out.f).mono ?_
  rintro e w2 ⟨rfl, h2, k2⟩
  have H2 := hide (And.intro h2 k2)
  have q2 := H1.out.q.kept k2 H1.out.n1.symm H1.out.n2.symm
  have HQ2 := hide q2
  clear h2 k2 q2
  go_wp2_with fail
  refine (ron_any w2 X D cap ρ HQ2.out).mono ?_
  rintro e w3 ⟨rfl, h3, k3⟩
  have HB := hide (H1.out.step H2.out.2 H2.out.1 k3 h3 H1.out.r.on)
  have c1 : w3.cell? ⟨X, 1, none⟩ = some (.bool false) := h3.c1
  have P3 : ∀ n, Calls Try.prog 16 #[fp R] (w3.drewN n) fun e w' => e = .returned (.bool true) ∧ w' = w3.drewN n := fun n => powered_any _ R (onS σ) (HB.out.drewN n).f
  clear h3 k3 H2 HQ2 H1
  go_wp2_with fail
  go_quiet (first | (go_at_call 16; exact Calls.quiet_of_same (P3 _)))
  go_wp2_with fail
  go_ret
  exact ⟨rfl, _, _, HB.out.drewN nq⟩
set_option maxHeartbeats 1000000 in
set_option maxRecDepth 100000 in
theorem does_read (B : Nat) (w0 w : World) (R X D cap : Nat) (σ ρ : St) (h : Both B w0 w R X D cap σ ρ) (k a n : Int) (d : ByteArray) (hk : I64 k) (ha : I64 a) (h0 : k % 6 = 4) : Calls Try.prog 11 #[fp R, fp X, callV k a n d] w fun e w' => Does B w0 R X D cap e w' := by
  have HA := hide (And.intro hk ha)
  have W := fun w => which_any w k a n d hk
  rw [h0] at W
  have H := hide h
  clear h hk ha h0
  go_enter Try.func11, Try.ntmps11
  go_wp2_with fail
  refine (W _).mono ?_
  rintro e w1 ⟨rfl, b1⟩
  have H1 := hide ((H.out.below (below_alloc w _)).below b1)
  have HC1 := hide ((call_new w k a n d).below b1)
  obtain ⟨P, hP⟩ : ∃ P, w.heap.size = P := ⟨_, rfl⟩
  rw [hP] at HC1 ⊢
  clear W b1 H hP
  have c1 := HC1.out.c1
  have c2 := HC1.out.c2
  have F1 := read_any w1 R σ H1.out.f a n HA.out.2
  have Q1 := rread_any w1 X D cap ρ H1.out.q a n HA.out.2
  rw [← H1.out.r.read a n] at Q1
  obtain ⟨⟨t, v⟩, ht⟩ : ∃ t, readR σ a n = t := ⟨_, rfl⟩
  rw [ht] at F1 Q1
  clear ht
  go_wp2_with fail
  refine F1.mono ?_
  rintro e w2 ⟨rfl, hw⟩
  obtain rfl := hw.symm
  clear hw F1
  go_wp2_with fail
  refine Q1.mono ?_
  rintro e w2 ⟨rfl, hw⟩
  obtain rfl := hw.symm
  clear hw Q1
  go_wp2_with fail
  go_ret
  exact ⟨rfl, _, _, H1.out⟩
set_option maxHeartbeats 1000000 in
set_option maxRecDepth 100000 in
theorem does_image (B : Nat) (w0 w : World) (R X D cap : Nat) (σ ρ : St) (h : Both B w0 w R X D cap σ ρ) (k a n : Int) (d : ByteArray) (hk : I64 k) (ha : I64 a) (h0 : k % 6 = 5) : Calls Try.prog 11 #[fp R, fp X, callV k a n d] w fun e w' => Does B w0 R X D cap e w' := by
  have HA := hide (And.intro hk ha)
  have W := fun w => which_any w k a n d hk
  rw [h0] at W
  have H := hide h
  clear h hk ha h0
  go_enter Try.func11, Try.ntmps11
  go_wp2_with fail
  refine (W _).mono ?_
  rintro e w1 ⟨rfl, b1⟩
  have H1 := hide ((H.out.below (below_alloc w _)).below b1)
  have HC1 := hide ((call_new w k a n d).below b1)
  obtain ⟨P, hP⟩ : ∃ P, w.heap.size = P := ⟨_, rfl⟩
  rw [hP] at HC1 ⊢
  clear W b1 H hP
  obtain ⟨t, ht⟩ : ∃ t, Hid (bs σ.C = t) := ⟨_, hide rfl⟩
  obtain ⟨s, hs⟩ : ∃ s, Hid (σ.st = s) := ⟨_, hide rfl⟩
  obtain ⟨o, ho⟩ : ∃ o, Hid (σ.off = o) := ⟨_, hide rfl⟩
  have I1 : ∀ n, Calls Try.prog 12 #[fp R] (w1.drewN n) fun e w' => e = .returned (.string t) ∧ w' = w1.drewN n := fun n => by
    have := image_any _ R σ (H1.out.drewN n).f
    rw [ht.out] at this
    exact this
  have J1 : ∀ n, Calls Try.prog 31 #[fp X] (w1.drewN n) fun e w' => e = .returned (.string t) ∧ w' = w1.drewN n := fun n => by
    have := rimage_any _ X D cap ρ (H1.out.drewN n).q
    rw [← H1.out.r.C, ht.out] at this
    exact this
  have S1 : ∀ n, Calls Try.prog 14 #[fp R] (w1.drewN n) fun e w' => e = .returned (.int .i64 s) ∧ w' = w1.drewN n := fun n => by
    have := steps_any _ R σ (H1.out.drewN n).f
    rw [hs.out] at this
    exact this
  have P1 : ∀ n, Calls Try.prog 16 #[fp R] (w1.drewN n) fun e w' => e = .returned (.bool !o) ∧ w' = w1.drewN n := fun n => by
    have := powered_any _ R σ (H1.out.drewN n).f
    rw [ho.out] at this
    exact this
  have c1 := H1.out.q.c1
  rw [← H1.out.r.off, ho.out] at c1
  have c5 := H1.out.q.c5
  rw [← H1.out.r.st, hs.out] at c5
  cases o
  all_goals
    go_wp2_with fail
    go_quiet (first | (go_at_call 12; exact Calls.quiet_of_same (I1 _)) | (go_at_call 31; exact Calls.quiet_of_same (J1 _)) | (go_at_call 14; exact Calls.quiet_of_same (S1 _)) | (go_at_call 16; exact Calls.quiet_of_same (P1 _)))
    go_wp2_with fail
    go_ret
    exact ⟨rfl, _, _, H1.out.drewN nq⟩
theorem does_any (B : Nat) (w0 w : World) (R X D cap : Nat) (σ ρ : St) (h : Both B w0 w R X D cap σ ρ) (k a n : Int) (d : ByteArray) (hk : I64 k) (ha : I64 a) (hd : d.size ≤ 140737488351232) : Calls Try.prog 11 #[fp R, fp X, callV k a n d] w fun e w' => Does B w0 R X D cap e w' := by
  rcases (show k % 6 = 0 ∨ k % 6 = 1 ∨ k % 6 = 2 ∨ k % 6 = 3 ∨ k % 6 = 4 ∨ k % 6 = 5 by omega) with e | e | e | e | e | e
  · exact does_prog B w0 w R X D cap σ ρ h k a n d hk ha e
  · exact does_erase B w0 w R X D cap σ ρ h k a n d hk ha e
  · exact does_cut B w0 w R X D cap σ ρ h k a n d hk ha hd e
  · exact does_on B w0 w R X D cap σ ρ h k a n d hk ha e
  · exact does_read B w0 w R X D cap σ ρ h k a n d hk ha e
  · exact does_image B w0 w R X D cap σ ρ h k a n d hk ha e
end Go.Proofs.Ytjfajonedckggaa
