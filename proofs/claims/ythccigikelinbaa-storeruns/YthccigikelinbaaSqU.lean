/- StoreRuns: one call of a script: both answer alike. -/
import Derived.Test.YthccigikelinbaaSqT
import Derived.Deep.RegionHeld3
namespace Go.Proofs.Ythccigikelinbaa
open Go.RowKit Go.Great

theorem tmod5 (k : Int) : k.tmod 5 = if 0 ≤ k then k % 5 else -((-k) % 5) := by
  by_cases h : 0 ≤ k
  · rw [if_pos h, Int.tmod_eq_emod_of_nonneg h]
  · rw [if_neg h]
    have := Int.neg_tmod (-k) 5
    rw [Int.neg_neg] at this
    rw [this, Int.tmod_eq_emod_of_nonneg (by omega)]
theorem tmod5_neg (k : Int) (h : k.tmod 5 < 0) : k.tmod 5 + 5 = k % 5 := by
  rw [tmod5] at h ⊢
  split at h
  · omega
  · rw [if_neg (by assumption)]; omega
theorem tmod5_pos (k : Int) (h : ¬ k.tmod 5 < 0) : k.tmod 5 = k % 5 := by
  rw [tmod5] at h ⊢
  split at h
  · rw [if_pos (by assumption)]
  · rw [if_neg (by assumption)]; omega
abbrev clV (k n : Int) (d : ByteArray) : Value := .agg #[.int .i64 k, .int .i64 n, .string d]
theorem which5 (w : World) (k n : Int) (d : ByteArray) (_hk : I64 k) : Calls Try.prog 30 #[clV k n d] w fun e w' => e = .returned (.int .i64 (k % 5)) ∧ Below w.heap.size w w' := by
  unfold I64 at _hk
  go_enter Try.func30, Try.ntmps30
  by_cases h : k.tmod 5 < 0
  · have e : k.tmod 5 + 5 = k % 5 := tmod5_neg k h
    go_wp2
    go_ret
    exact ⟨rfl, below_alloc _ _⟩
  · have e : k.tmod 5 = k % 5 := tmod5_pos k h
    go_wp2
    go_ret
    exact ⟨rfl, below_alloc _ _⟩
theorem Md.mono {w w' : World} {B P R X D : Nat} {σ τ : St} {sp tp : Value} (h : Md w B P R X D σ sp tp) (hC : τ.C = σ.C) (ho : On σ → On τ) (hk : ∀ k, k < w.heap.size → k ≠ P → k ≠ R → k ≠ X → k ≠ D → w'.heap[k]? = w.heap[k]?) : Md w' B P R X D τ sp tp := by
  rcases h with h | ⟨S, T, e1, e2, hn, h⟩
  · exact .inl h
  · refine .inr ⟨S, T, e1, e2, hn, ?_⟩
    obtain ⟨_, _, x1, x2, x3, x4, _, y1, y2, y3, y4⟩ := hn
    rcases h with ⟨s, V, a1, a2, a3, a4⟩ | ⟨sec, V, en, a1, a2, a3, a4, a5⟩
    · exact .inl ⟨s, V, ⟨(hk S a1.lt x1 x2 x3 x4).trans a1.blk⟩, by rw [hC]; exact a2, ho a3, (hk T a4.lt y1 y2 y3 y4).trans a4⟩
    · exact .inr ⟨sec, V, en, a1, a2, a3, ⟨(hk S a4.lt x1 x2 x3 x4).trans a4.blk⟩, (hk T a5.lt y1 y2 y3 y4).trans a5⟩
theorem Tw.below {B : Nat} {w0 w w' : World} {P R X D cap : Nat} {σ ρ : St} {sp tp : Value} (h : Tw B w0 w P R X D cap σ ρ sp tp) (hb : Below w.heap.size w w') : Tw B w0 w' P R X D cap σ ρ sp tp :=
  ⟨h.hP, h.hR, h.hX, h.hD, h.hB, h.n1, h.n2, h.n3, h.n4, h.n5, h.f.below hb, h.q.below hb, h.r, h.p.below hb, below_next h.b h.hB hb, h.m.mono rfl id (fun k hk _ _ _ _ => hb.block k hk)⟩
theorem Tw.drewN {B : Nat} {w0 w : World} {P R X D cap : Nat} {σ ρ : St} {sp tp : Value} (h : Tw B w0 w P R X D cap σ ρ sp tp) (n : Nat) : Tw B w0 (w.drewN n) P R X D cap σ ρ sp tp := h.below (drewN_below w n)
theorem Tw.drew {B : Nat} {w0 w : World} {P R X D cap : Nat} {σ ρ : St} {sp tp : Value} (h : Tw B w0 w P R X D cap σ ρ sp tp) : Tw B w0 w.drew P R X D cap σ ρ sp tp := h.below (Below.refl _ _).drew
theorem Tw.cut {B : Nat} {w0 w w1 w2 : World} {P R X D cap : Nat} {σ ρ : St} {sp tp : Value} (h : Tw B w0 w P R X D cap σ ρ sp tp) (n : Int) (j : ByteArray) (hj : j.size ≤ 140737488351232) (k1 : Kept R w w1) (h1 : Fl w1 R (cutR σ n j).1) (k2 : Kept2 X D w1 w2) (h2 : Rf w2 X D cap (cutRR ρ n j).1) : Tw B w0 w2 P R X D cap (cutR σ n j).1 (cutRR ρ n j).1 sp tp := by
  have hz : B ≤ w.heap.size := Nat.le_trans h.hB h.b.size
  have hz1 := k1.size
  have hr := (h.r.cut n j hj).1
  have hC : (cutR σ n j).1.C = σ.C := by unfold cutR; repeat' split
                                         all_goals rfl
  have hO : (cutR σ n j).1.off = σ.off := by unfold cutR; repeat' split
                                             all_goals rfl
  have hp1 : Bl w1 P #[fp R, sp, fp X, tp] 28 := k1.other h.p h.n1
  refine ⟨h.hP, h.hR, h.hX, h.hD, h.hB, h.n1, h.n2, h.n3, h.n4, h.n5, h1.kept2 k2 h.n4 h.n5, h2, hr, hp1.kept2 k2 h.n2 h.n3, k2.toBelow (k1.toBelow h.b hz h.hR) (by omega) h.hX h.hD, h.m.mono hC (fun ho => ⟨by rw [hC]; exact ho.len, by rw [hO]; exact ho.off, hr.js⟩) (fun k hk _ x2 x3 x4 => ?_)⟩
  rw [k2.block k (by omega) x3 x4]
  exact k1.block k hk (fun e => x2 (by injection e))
def Dz (B : Nat) (w0 : World) (P R X D cap : Nat) (e : Ending) (w' : World) : Prop := e = .returned (.bool true) ∧ ∃ σ ρ sp tp, Tw B w0 w' P R X D cap σ ρ sp tp
set_option maxHeartbeats 2000000 in
set_option maxRecDepth 100000 in
theorem dz_boot (B : Nat) (w0 w : World) (P R X D cap : Nat) (σ ρ : St) (sp tp : Value) (h : Tw B w0 w P R X D cap σ ρ sp tp) (k n : Int) (d : ByteArray) (hk : I64 k) (hn : I64 n) (hd : d.size ≤ 140737488351232) (h0 : k % 5 = 3) : Calls Try.prog 13 #[fp P, clV k n d] w fun e w' => Dz B w0 P R X D cap e w' := by
  have WH := fun w => which5 w k n d hk
  rw [h0] at WH
  clear h0
  have H := hide h
  have HN := hide hn
  have HDD := hide hd
  clear h hk hn hd
  go_enter Try.func13, Try.ntmps13
  go_wp2_with fail
  refine (WH _).mono ?_
  rintro e w1 ⟨rfl, b1⟩
  have H1 := hide ((H.out.below (below_alloc w _)).below b1)
  have HC1 : Hid (Bl w1 w.heap.size #[.int .i64 k, .int .i64 n, .string d] 34) := hide ((Bl.new w _ _).below b1)
  have hlP := H.out.p.lt
  have hlR := H.out.f.lt
  have hlX := H.out.q.ltX
  have hlD := H.out.q.lt
  have HMD := hide H.out.m
  obtain ⟨C, hCC⟩ : ∃ C, w.heap.size = C := ⟨_, rfl⟩
  rw [hCC] at HC1 hlP hlR hlX hlD ⊢
  have HN := hide (And.intro (show C ≠ P by omega) (And.intro (show C ≠ R by omega) (And.intro (show C ≠ X by omega) (show C ≠ D by omega))))
  clear b1 hCC hlP hlR hlX hlD
  have BT := pboot_any B w0 w1 P R X D cap σ ρ sp tp H1.out
  clear WH
  go_wp2_with fail
  refine BT.mono ?_
  rintro e w2 ⟨rfl, σ', ρ', sp', tp', h2⟩
  have H2 := hide h2
  clear h2 BT
  go_wp2_with fail
  go_ret
  exact ⟨rfl, _, _, _, _, H2.out⟩
set_option maxHeartbeats 2000000 in
set_option maxRecDepth 100000 in
theorem dz_image (B : Nat) (w0 w : World) (P R X D cap : Nat) (σ ρ : St) (sp tp : Value) (h : Tw B w0 w P R X D cap σ ρ sp tp) (k n : Int) (d : ByteArray) (hk : I64 k) (hn : I64 n) (hd : d.size ≤ 140737488351232) (h0 : k % 5 = 4) : Calls Try.prog 13 #[fp P, clV k n d] w fun e w' => Dz B w0 P R X D cap e w' := by
  have WH := fun w => which5 w k n d hk
  rw [h0] at WH
  clear h0
  have H := hide h
  have HN := hide hn
  have HDD := hide hd
  clear h hk hn hd
  go_enter Try.func13, Try.ntmps13
  go_wp2_with fail
  refine (WH _).mono ?_
  rintro e w1 ⟨rfl, b1⟩
  have H1 := hide ((H.out.below (below_alloc w _)).below b1)
  have HC1 : Hid (Bl w1 w.heap.size #[.int .i64 k, .int .i64 n, .string d] 34) := hide ((Bl.new w _ _).below b1)
  have hlP := H.out.p.lt
  have hlR := H.out.f.lt
  have hlX := H.out.q.ltX
  have hlD := H.out.q.lt
  have HMD := hide H.out.m
  obtain ⟨C, hCC⟩ : ∃ C, w.heap.size = C := ⟨_, rfl⟩
  rw [hCC] at HC1 hlP hlR hlX hlD ⊢
  have HN := hide (And.intro (show C ≠ P by omega) (And.intro (show C ≠ R by omega) (And.intro (show C ≠ X by omega) (show C ≠ D by omega))))
  clear b1 hCC hlP hlR hlX hlD
  clear WH
  obtain ⟨t, ht⟩ : ∃ t, Hid (bs σ.C = t) := ⟨_, hide rfl⟩
  obtain ⟨s, hs⟩ : ∃ s, Hid (σ.st = s) := ⟨_, hide rfl⟩
  have I1 : ∀ n, Calls Try.prog 22 #[fp R] (w1.drewN n) fun e w' => e = .returned (.string t) ∧ w' = w1.drewN n := fun n => by
    have := image_any _ R σ (H1.out.drewN n).f
    rw [ht.out] at this
    exact this
  have J1 : ∀ n, Calls Try.prog 32 #[fp X] (w1.drewN n) fun e w' => e = .returned (.string t) ∧ w' = w1.drewN n := fun n => by
    have := rimage_any _ X D cap ρ (H1.out.drewN n).q
    rw [← H1.out.r.C, ht.out] at this
    exact this
  have S1 : ∀ n, Calls Try.prog 21 #[fp R] (w1.drewN n) fun e w' => e = .returned (.int .i64 s) ∧ w' = w1.drewN n := fun n => by
    have := steps_any _ R σ (H1.out.drewN n).f
    rw [hs.out] at this
    exact this
  have c5 := H1.out.q.c5
  rw [← H1.out.r.st, hs.out] at c5
  have p0 := H1.out.p.cell 0 (v := fp R) rfl
  have p2 := H1.out.p.cell 2 (v := fp X) rfl
  go_wp2_with fail
  go_quiet (first | (go_at_call 22; exact Calls.quiet_of_same (I1 _)) | (go_at_call 32; exact Calls.quiet_of_same (J1 _)) | (go_at_call 21; exact Calls.quiet_of_same (S1 _)))
  go_wp2_with fail
  go_ret
  exact ⟨rfl, _, _, _, _, H1.out.drewN nq⟩
set_option maxHeartbeats 2000000 in
set_option maxRecDepth 100000 in
theorem dz_cut (B : Nat) (w0 w : World) (P R X D cap : Nat) (σ ρ : St) (sp tp : Value) (h : Tw B w0 w P R X D cap σ ρ sp tp) (k n : Int) (d : ByteArray) (hk : I64 k) (hn : I64 n) (hd : d.size ≤ 140737488351232) (h0 : k % 5 = 2) : Calls Try.prog 13 #[fp P, clV k n d] w fun e w' => Dz B w0 P R X D cap e w' := by
  have WH := fun w => which5 w k n d hk
  rw [h0] at WH
  clear h0
  have H := hide h
  have HN := hide hn
  have HDD := hide hd
  clear h hk hn hd
  go_enter Try.func13, Try.ntmps13
  go_wp2_with fail
  refine (WH _).mono ?_
  rintro e w1 ⟨rfl, b1⟩
  have H1 := hide ((H.out.below (below_alloc w _)).below b1)
  have HC1 : Hid (Bl w1 w.heap.size #[.int .i64 k, .int .i64 n, .string d] 34) := hide ((Bl.new w _ _).below b1)
  have hlP := H.out.p.lt
  have hlR := H.out.f.lt
  have hlX := H.out.q.ltX
  have hlD := H.out.q.lt
  have HMD := hide H.out.m
  obtain ⟨C, hCC⟩ : ∃ C, w.heap.size = C := ⟨_, rfl⟩
  rw [hCC] at HC1 hlP hlR hlX hlD ⊢
  have HN := hide (And.intro (show C ≠ P by omega) (And.intro (show C ≠ R by omega) (And.intro (show C ≠ X by omega) (show C ≠ D by omega))))
  clear b1 hCC hlP hlR hlX hlD
  clear WH
  obtain ⟨v, hv⟩ : ∃ v, Hid ((cutR σ n d).2 = v) := ⟨_, hide rfl⟩
  have F1 : ∀ wx, Fl wx R σ → Calls Try.prog 16 #[fp R, .int .i64 n, .string d] wx fun e w' => e = .returned (.int .i64 v) ∧ Fl w' R (cutR σ n d).1 ∧ Kept R wx w' := fun wx hx => by
    have := cut_any wx R σ hx n d (Nat.le_trans HDD.out (by decide))
    rw [hv.out] at this
    exact this
  have Q1 : ∀ wx, Rf wx X D cap ρ → Calls Try.prog 31 #[fp X, .int .i64 n, .string d] wx fun e w' => e = .returned (.int .i64 v) ∧ Rf w' X D cap (cutRR ρ n d).1 ∧ Kept2 X D wx w' := fun wx hx => by
    have := rcut_any wx X D cap ρ hx n d
    rw [← (H1.out.r.cut n d HDD.out).2, hv.out] at this
    exact this
  have p0 := H1.out.p.cell 0 (v := fp R) rfl
  have p2 := H1.out.p.cell 2 (v := fp X) rfl
  have k1 := HC1.out.cell 1 (v := .int .i64 n) rfl
  have k2 := HC1.out.cell 2 (v := .string d) rfl
  go_wp2_with fail
  refine wp_region_held_drew (S := fun wx => wx.cell? ⟨P, 0, none⟩ = some (fp R) ∧ wx.cell? ⟨P, 2, none⟩ = some (fp X) ∧ wx.cell? ⟨C, 1, none⟩ = some (.int .i64 n) ∧ wx.cell? ⟨C, 2, none⟩ = some (.string d)) (by kernel_rfl) (⟨p0, p2, k1, k2⟩) (fun hHeld => ?_)
  refine takeQ (i := 0) (v := fp P) (d := some 13) rfl rfl (by kernel_rfl) (by kernel_rfl) (by kernel_rfl) (fun _ _ _ h => h) (Or.inl ⟨by rfl, fun wS ⟨hS0, hS1, hS2, hS3⟩ => by go_simp; all_goals (rw [IntKind.wrap_i64]; omega)⟩) (by assumption) ?_
  simp only [Act.put, List.setIfInBounds_toArray, List.set_cons_zero, List.set_cons_succ]
  refine takeQ (i := 1) (v := .pointer (some ⟨P, 0, none⟩)) (d := some 14) rfl rfl (by kernel_rfl) (by kernel_rfl) (by kernel_rfl) (fun _ _ _ h => h) (Or.inl ⟨by rfl, fun wS ⟨hS0, hS1, hS2, hS3⟩ => by go_simp; all_goals (rw [IntKind.wrap_i64]; omega)⟩) (by assumption) ?_
  simp only [Act.put, List.setIfInBounds_toArray, List.set_cons_zero, List.set_cons_succ]
  refine takeQ (i := 2) (v := .pointer (some ⟨P, 0, none⟩)) (d := some 15) rfl rfl (by kernel_rfl) (by kernel_rfl) (by kernel_rfl) (fun _ _ _ h => h) (Or.inl ⟨by rfl, fun wS ⟨hS0, hS1, hS2, hS3⟩ => by go_simp; all_goals (rw [IntKind.wrap_i64]; omega)⟩) (by assumption) ?_
  simp only [Act.put, List.setIfInBounds_toArray, List.set_cons_zero, List.set_cons_succ]
  refine takeQ (i := 3) (v := fp R) (d := some 16) rfl rfl (by kernel_rfl) (by kernel_rfl) (by kernel_rfl) (fun _ _ _ h => h) (Or.inl ⟨by rfl, fun wS ⟨hS0, hS1, hS2, hS3⟩ => by go_simp; all_goals (rw [IntKind.wrap_i64]; omega)⟩) (by assumption) ?_
  simp only [Act.put, List.setIfInBounds_toArray, List.set_cons_zero, List.set_cons_succ]
  refine takeQ (i := 4) (v := .pointer (some ⟨C, 1, none⟩)) (d := some 17) rfl rfl (by kernel_rfl) (by kernel_rfl) (by kernel_rfl) (fun _ _ _ h => h) (Or.inl ⟨by rfl, fun wS ⟨hS0, hS1, hS2, hS3⟩ => by go_simp; all_goals (rw [IntKind.wrap_i64]; omega)⟩) (by assumption) ?_
  simp only [Act.put, List.setIfInBounds_toArray, List.set_cons_zero, List.set_cons_succ]
  refine takeQ (i := 5) (v := .int .i64 n) (d := some 18) rfl rfl (by kernel_rfl) (by kernel_rfl) (by kernel_rfl) (fun _ _ _ h => h) (Or.inl ⟨by rfl, fun wS ⟨hS0, hS1, hS2, hS3⟩ => by go_simp; all_goals (rw [IntKind.wrap_i64]; omega)⟩) (by assumption) ?_
  simp only [Act.put, List.setIfInBounds_toArray, List.set_cons_zero, List.set_cons_succ]
  refine takeQ (i := 6) (v := .pointer (some ⟨C, 2, none⟩)) (d := some 19) rfl rfl (by kernel_rfl) (by kernel_rfl) (by kernel_rfl) (fun _ _ _ h => h) (Or.inl ⟨by rfl, fun wS ⟨hS0, hS1, hS2, hS3⟩ => by go_simp; all_goals (rw [IntKind.wrap_i64]; omega)⟩) (by assumption) ?_
  simp only [Act.put, List.setIfInBounds_toArray, List.set_cons_zero, List.set_cons_succ]
  refine takeQ (i := 7) (v := .string d) (d := some 20) rfl rfl (by kernel_rfl) (by kernel_rfl) (by kernel_rfl) (fun _ _ _ h => h) (Or.inl ⟨by rfl, fun wS ⟨hS0, hS1, hS2, hS3⟩ => by go_simp; all_goals (rw [IntKind.wrap_i64]; omega)⟩) (by assumption) ?_
  simp only [Act.put, List.setIfInBounds_toArray, List.set_cons_zero, List.set_cons_succ]
  refine takeQ (i := 9) (v := fp P) (d := some 22) rfl rfl (by kernel_rfl) (by kernel_rfl) (by kernel_rfl) (fun _ _ _ h => h) (Or.inl ⟨by rfl, fun wS ⟨hS0, hS1, hS2, hS3⟩ => by go_simp; all_goals (rw [IntKind.wrap_i64]; omega)⟩) (by assumption) ?_
  simp only [Act.put, List.setIfInBounds_toArray, List.set_cons_zero, List.set_cons_succ]
  refine takeQ (i := 10) (v := .pointer (some ⟨P, 0, none⟩)) (d := some 23) rfl rfl (by kernel_rfl) (by kernel_rfl) (by kernel_rfl) (fun _ _ _ h => h) (Or.inl ⟨by rfl, fun wS ⟨hS0, hS1, hS2, hS3⟩ => by go_simp; all_goals (rw [IntKind.wrap_i64]; omega)⟩) (by assumption) ?_
  simp only [Act.put, List.setIfInBounds_toArray, List.set_cons_zero, List.set_cons_succ]
  refine takeQ (i := 11) (v := .pointer (some ⟨P, 2, none⟩)) (d := some 24) rfl rfl (by kernel_rfl) (by kernel_rfl) (by kernel_rfl) (fun _ _ _ h => h) (Or.inl ⟨by rfl, fun wS ⟨hS0, hS1, hS2, hS3⟩ => by go_simp; all_goals (rw [IntKind.wrap_i64]; omega)⟩) (by assumption) ?_
  simp only [Act.put, List.setIfInBounds_toArray, List.set_cons_zero, List.set_cons_succ]
  refine takeQ (i := 12) (v := fp X) (d := some 25) rfl rfl (by kernel_rfl) (by kernel_rfl) (by kernel_rfl) (fun _ _ _ h => h) (Or.inl ⟨by rfl, fun wS ⟨hS0, hS1, hS2, hS3⟩ => by go_simp; all_goals (rw [IntKind.wrap_i64]; omega)⟩) (by assumption) ?_
  simp only [Act.put, List.setIfInBounds_toArray, List.set_cons_zero, List.set_cons_succ]
  refine takeQ (i := 13) (v := .pointer (some ⟨C, 1, none⟩)) (d := some 26) rfl rfl (by kernel_rfl) (by kernel_rfl) (by kernel_rfl) (fun _ _ _ h => h) (Or.inl ⟨by rfl, fun wS ⟨hS0, hS1, hS2, hS3⟩ => by go_simp; all_goals (rw [IntKind.wrap_i64]; omega)⟩) (by assumption) ?_
  simp only [Act.put, List.setIfInBounds_toArray, List.set_cons_zero, List.set_cons_succ]
  refine takeQ (i := 14) (v := .int .i64 n) (d := some 27) rfl rfl (by kernel_rfl) (by kernel_rfl) (by kernel_rfl) (fun _ _ _ h => h) (Or.inl ⟨by rfl, fun wS ⟨hS0, hS1, hS2, hS3⟩ => by go_simp; all_goals (rw [IntKind.wrap_i64]; omega)⟩) (by assumption) ?_
  simp only [Act.put, List.setIfInBounds_toArray, List.set_cons_zero, List.set_cons_succ]
  refine takeQ (i := 15) (v := .pointer (some ⟨C, 2, none⟩)) (d := some 28) rfl rfl (by kernel_rfl) (by kernel_rfl) (by kernel_rfl) (fun _ _ _ h => h) (Or.inl ⟨by rfl, fun wS ⟨hS0, hS1, hS2, hS3⟩ => by go_simp; all_goals (rw [IntKind.wrap_i64]; omega)⟩) (by assumption) ?_
  simp only [Act.put, List.setIfInBounds_toArray, List.set_cons_zero, List.set_cons_succ]
  refine takeQ (i := 16) (v := .string d) (d := some 29) rfl rfl (by kernel_rfl) (by kernel_rfl) (by kernel_rfl) (fun _ _ _ h => h) (Or.inl ⟨by rfl, fun wS ⟨hS0, hS1, hS2, hS3⟩ => by go_simp; all_goals (rw [IntKind.wrap_i64]; omega)⟩) (by assumption) ?_
  simp only [Act.put, List.setIfInBounds_toArray, List.set_cons_zero, List.set_cons_succ]
  clear hHeld p0 p2 k1 k2
  refine wpAnyH_ready (rs := [8]) (by kernel_rfl) (by simp) ?_
  refine AllReadyH.cons rfl (fun K hK => ?_) AllReadyH.nil
  go_simp
  refine (F1 _ H1.out.drew.f).mono ?_
  rintro e w2 ⟨rfl, f2, g2⟩
  have FF2 := hide f2
  have G2 : Hid (Kept R w1.drew w2) := hide g2
  have HP2 : Hid (Bl w2 P #[fp R, sp, fp X, tp] 28) := hide (g2.other H1.out.drew.p H1.out.n1)
  have HC2 : Hid (Bl w2 C #[.int .i64 k, .int .i64 n, .string d] 34) := hide (g2.other HC1.out.drew HN.out.2.1)
  clear f2 g2
  refine hK.out _ _ ⟨HP2.out.cell 0 rfl, HP2.out.cell 2 rfl, HC2.out.cell 1 rfl, HC2.out.cell 2 rfl⟩ (fun hHeld => ?_)
  clear hK K hHeld
  refine wpAnyH_ready (rs := [17]) (by kernel_rfl) (by simp) ?_
  refine AllReadyH.cons rfl (fun K hK => ?_) AllReadyH.nil
  go_simp
  refine (Q1 _ (H1.out.drew.q.kept G2.out H1.out.n4.symm H1.out.n5.symm)).mono ?_
  rintro e w3 ⟨rfl, q3, g3⟩
  have QQ3 := hide q3
  have G3 := hide g3
  have HP3 := hide (HP2.out.kept2 g3 H1.out.n2 H1.out.n3)
  have HC3 := hide (HC2.out.kept2 g3 HN.out.2.2.1 HN.out.2.2.2)
  clear q3 g3
  refine hK.out _ _ ⟨HP3.out.cell 0 rfl, HP3.out.cell 2 rfl, HC3.out.cell 1 rfl, HC3.out.cell 2 rfl⟩ (fun hHeld => ?_)
  clear hK K
  refine wpAnyH_ready (rs := [18]) (by kernel_rfl) (by simp) ?_
  refine AllReadyH.cons rfl (fun K hK => ?_) AllReadyH.nil
  go_simp
  refine hK.out _ _ hHeld (fun hHeld => ?_)
  clear hK K
  refine wpAnyH_ready (rs := [19]) (by kernel_rfl) (by simp) ?_
  refine AllReadyH.cons rfl (fun K hK => ?_) AllReadyH.nil
  go_simp
  refine hK.out _ _ hHeld (fun hHeld => ?_)
  clear hK K hHeld
  refine wpAnyH_done (by kernel_rfl) ?_ _
  go_wp2_with fail
  go_ret
  exact ⟨rfl, _, _, _, _, H1.out.drew.cut n d HDD.out G2.out FF2.out G3.out QQ3.out⟩
end Go.Proofs.Ythccigikelinbaa
