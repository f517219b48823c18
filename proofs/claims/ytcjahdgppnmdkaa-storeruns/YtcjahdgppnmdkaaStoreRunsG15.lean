/- SqV. -/
import Derived.Test.YtcjahdgppnmdkaaStoreRunsG14
set_option maxRecDepth 100000
namespace Go.Proofs.Ytcjahdgppnmdkaa
open Go.RowKit Go.Great
theorem Rf.kep2 {w w' : World} {X D cap R S : Nat} {ρ : St} (h : Rf w X D cap ρ) (g : Kep2 R S w w') (h1 : X ≠ R) (h2 : X ≠ S) (h3 : D ≠ R) (h4 : D ≠ S) : Rf w' X D cap ρ :=
  ⟨h.len, h.ne, h.cle, Nat.lt_of_lt_of_le h.lt g.size, (g.block X h.ltX h1 h2).trans h.blk, row_block h.row (g.block D h.lt h3 h4)⟩
theorem Bl.kep2 {w w' : World} {B R S : Nat} {cs : Array Value} {t : TypeId} (h : Bl w B cs t) (g : Kep2 R S w w') (h1 : B ≠ R) (h2 : B ≠ S) : Bl w' B cs t := (g.block B h.lt h1 h2).trans h
theorem Fl.k3 {w w' : World} {R X D T : Nat} {σ : St} (h : Fl w R σ) (g : K3 X D T w w') (h1 : R ≠ X) (h2 : R ≠ D) (h3 : R ≠ T) : Fl w' R σ := ⟨h.len, (g.block R h.lt h1 h2 h3).trans h.blk⟩
theorem So.k3 {w w' : World} {S X D T : Nat} {p : Value} {ac tu en : Int} {k : Kp} (h : So w S p ac tu en k) (g : K3 X D T w w') (h1 : S ≠ X) (h2 : S ≠ D) (h3 : S ≠ T) : So w' S p ac tu en k := ⟨(g.block S h.lt h1 h2 h3).trans h.blk⟩
theorem K3.toBelow {X D T B : Nat} {a w w1 : World} (h : Below B a w) (g : K3 X D T w w1) (hB : B ≤ w.heap.size) (h1 : B ≤ X) (h2 : B ≤ D) (h3 : B ≤ T) : Below B a w1 :=
  ⟨g.os.trans h.os, g.tape.trans h.tape, g.output.trans h.output, Nat.le_trans h.size g.size, fun k hk => (g.block k (by omega) (by omega) (by omega) (by omega)).trans (h.block k hk)⟩
theorem putR_stand {ρ : St} {sec en : Nat} {V : Nat → Option (List UInt8)} {id : Int} {v : List UInt8} (h : (putR ρ sec V en false id v).2.2.1 = true) : (putR ρ sec V en false id v).2.1 = (sec, V, en) := by
  unfold putR at h ⊢
  rw [if_neg (show ¬ (false = true) by decide)] at h ⊢
  by_cases hb : ¬ (0 ≤ id ∧ id < 3) ∨ 2000 < v.length
  · rw [if_pos hb]
  · rw [if_neg hb] at h ⊢
    unfold putA at h ⊢
    by_cases h1 : 4096 < sumV (upV V id.toNat v) 3
    · rw [if_pos h1]
    · rw [if_neg h1] at h ⊢
      by_cases h2 : en + (4 + v.length) ≤ 4096
      · rw [if_pos h2] at h ⊢
        by_cases h3 : (progRR ρ ((sec * 4096 + en : Nat) : Int) (bs (recB id.toNat v))).2 = 0
        · rw [if_pos h3] at h; cases h
        · rw [if_neg h3]
      · rw [if_neg h2] at h ⊢
        by_cases h3 : (moveR ρ sec (upV V id.toNat v)).2.2 = 0
        · rw [if_pos h3] at h; cases h
        · rw [if_neg h3]
theorem putR_true (ρ : St) (sec en : Nat) (V : Nat → Option (List UInt8)) (id : Int) (v : List UInt8) : putR ρ sec V en true id v = (ρ, (sec, V, en), true, 60) := by unfold putR; rw [if_pos rfl]
theorem getV_gV (x : Option (List UInt8)) : getV x = gV x := by cases x <;> rfl
set_option maxHeartbeats 2000000 in
set_option maxRecDepth 100000 in
theorem dz_none0 (B : Nat) (w0 w : World) (P R X D cap : Nat) (σ ρ : St) (sp tp : Value) (h : Tw B w0 w P R X D cap σ ρ sp tp) (k n : Int) (d : ByteArray) (hk : I64 k) (hn : I64 n) (hd : d.size ≤ 140737488351232) (h0 : k % 5 = 0) (hs : sp = .pointer none) : Calls Try.prog 17 #[fp P, clV k n d] w fun e w' => Dz B w0 P R X D cap e w' := by
  have WH := fun w => which5 w k n d hk
  rw [h0] at WH
  clear h0
  have H := hide h
  have HN := hide hn
  have HDD := hide hd
  clear h hk hn hd
  go_enter Try.func17, Try.ntmps17
  go_wp2_with fail
  refine (WH _).mono ?_
  rintro e w1 ⟨rfl, b1⟩
  have H1 := hide ((H.out.below (below_alloc w _)).below b1)
  have HC1 : Hid (Bl w1 w.heap.size #[.int .i64 k, .int .i64 n, .string d] 34) := hide ((Bl.new w _ _).below b1)
  have hlP := H.out.p.lt
  have hlR := H.out.f.lt
  have hlX := H.out.q.ltX
  have hlD := H.out.q.lt
  have HMD := hide H.out.m
  obtain ⟨C, hCC⟩ : ∃ C, w.heap.size = C := ⟨_, rfl⟩
  rw [hCC] at HC1 hlP hlR hlX hlD ⊢
  have HN := hide (And.intro (show C ≠ P by omega) (And.intro (show C ≠ R by omega) (And.intro (show C ≠ X by omega) (show C ≠ D by omega))))
  clear b1 hCC hlP hlR hlX hlD
  have p1 := H1.out.p.cell 1 (v := sp) rfl
  rw [hs] at p1
  clear WH
  go_wp2_with fail
  go_ret
  exact ⟨rfl, _, _, _, _, H1.out⟩
set_option maxHeartbeats 2000000 in
set_option maxRecDepth 100000 in
theorem dz_none1 (B : Nat) (w0 w : World) (P R X D cap : Nat) (σ ρ : St) (sp tp : Value) (h : Tw B w0 w P R X D cap σ ρ sp tp) (k n : Int) (d : ByteArray) (hk : I64 k) (hn : I64 n) (hd : d.size ≤ 140737488351232) (h0 : k % 5 = 1) (hs : sp = .pointer none) : Calls Try.prog 17 #[fp P, clV k n d] w fun e w' => Dz B w0 P R X D cap e w' := by
  have WH := fun w => which5 w k n d hk
  rw [h0] at WH
  clear h0
  have H := hide h
  have HN := hide hn
  have HDD := hide hd
  clear h hk hn hd
  go_enter Try.func17, Try.ntmps17
  go_wp2_with fail
  refine (WH _).mono ?_
  rintro e w1 ⟨rfl, b1⟩
  have H1 := hide ((H.out.below (below_alloc w _)).below b1)
  have HC1 : Hid (Bl w1 w.heap.size #[.int .i64 k, .int .i64 n, .string d] 34) := hide ((Bl.new w _ _).below b1)
  have hlP := H.out.p.lt
  have hlR := H.out.f.lt
  have hlX := H.out.q.ltX
  have hlD := H.out.q.lt
  have HMD := hide H.out.m
  obtain ⟨C, hCC⟩ : ∃ C, w.heap.size = C := ⟨_, rfl⟩
  rw [hCC] at HC1 hlP hlR hlX hlD ⊢
  have HN := hide (And.intro (show C ≠ P by omega) (And.intro (show C ≠ R by omega) (And.intro (show C ≠ X by omega) (show C ≠ D by omega))))
  clear b1 hCC hlP hlR hlX hlD
  have p1 := H1.out.p.cell 1 (v := sp) rfl
  rw [hs] at p1
  clear WH
  go_wp2_with fail
  go_ret
  exact ⟨rfl, _, _, _, _, H1.out⟩
set_option maxHeartbeats 2000000 in
set_option maxRecDepth 100000 in
theorem dz_putL (B : Nat) (w0 w : World) (P R X D cap : Nat) (σ ρ : St) (sp tp : Value) (h : Tw B w0 w P R X D cap σ ρ sp tp) (k n : Int) (d : ByteArray) (hk : I64 k) (hn : I64 n) (hd : d.size ≤ 140737488351232) (h0 : k % 5 = 0) (S T : Nat) (s : Sv) (V : Vl) (hsp : sp = fp S) (htp : tp = fp T) (hst : (B ≤ S ∧ B ≤ T ∧ S ≠ P ∧ S ≠ R ∧ S ≠ X ∧ S ≠ D ∧ S ≠ T ∧ T ≠ P ∧ T ≠ R ∧ T ≠ X ∧ T ≠ D)) (hL : Live σ.C s V) (hon : On σ) (hm : So w S (fp R) s.ac s.tu s.en s.k ∧ Bl w T (skC X (s.ac : Int) V (s.en : Int) false false) 133) : Calls Try.prog 17 #[fp P, clV k n d] w fun e w' => Dz B w0 P R X D cap e w' := by
  have WH := fun w => which5 w k n d hk
  rw [h0] at WH
  clear h0
  subst hsp htp
  have HST := hide hst
  have HSl : Hid (S < w.heap.size ∧ T < w.heap.size) := hide ⟨hm.1.lt, hm.2.lt⟩
  have HM0 := hide hm
  clear hst hm
  have H := hide h
  have HN := hide hn
  have HDD := hide hd
  clear h hk hn hd
  go_enter Try.func17, Try.ntmps17
  go_wp2_with fail
  refine (WH _).mono ?_
  rintro e w1 ⟨rfl, b1⟩
  have H1 := hide ((H.out.below (below_alloc w _)).below b1)
  have HC1 : Hid (Bl w1 w.heap.size #[.int .i64 k, .int .i64 n, .string d] 34) := hide ((Bl.new w _ _).below b1)
  have hlP := H.out.p.lt
  have hlR := H.out.f.lt
  have hlX := H.out.q.ltX
  have hlD := H.out.q.lt
  have HMB := hide (And.intro (((HM0.out.1.below (below_alloc w (.cells #[.int .i64 k, .int .i64 n, .string d] 34))).below b1)) (((HM0.out.2.below (below_alloc w (.cells #[.int .i64 k, .int .i64 n, .string d] 34))).below b1)))
  obtain ⟨C, hCC⟩ : ∃ C, w.heap.size = C := ⟨_, rfl⟩
  rw [hCC] at HC1 HSl hlP hlR hlX hlD ⊢
  have HN := hide (And.intro (show C ≠ P by omega) (And.intro (show C ≠ R by omega) (And.intro (show C ≠ X by omega) (show C ≠ D by omega))))
  clear b1 hCC hlP hlR hlX hlD
  have HL := hide hL
  have HO := hide hon
  have HPR := hide (put_rel H1.out.r hL hon n d.data.toList)
  have HPS := hide (fun h => putR_stand (ρ := ρ) (sec := s.ac) (en := s.en) (V := V) (id := n) (v := d.data.toList) h)
  have F1 := fun wx hf hs => put_any wx S R σ HO.out s HL.out.ask hf hs n d
  have hdl : d.data.toList.length ≤ 140737488355328 := by rw [list_size]; exact Nat.le_trans HDD.out (by decide)
  have Q1 := fun wx hq ht => rput_any wx X D cap T ρ hq H1.out.r.jr s.ac HL.out.up.a2 V HL.out.lens s.en HL.out.ask.en false ht HST.out.2.2.2.2.2.2.2.2.2.1 HST.out.2.2.2.2.2.2.2.2.2.2 n d.data.toList hdl
  rw [bs_of] at Q1
  clear hL hon hdl
  obtain ⟨⟨τ, oo, r⟩, hps⟩ : ∃ x, putS σ s n d.data.toList = x := ⟨_, rfl⟩
  obtain ⟨⟨ρ', kp, st, r2⟩, hpr⟩ : ∃ x, putR ρ s.ac V s.en false n d.data.toList = x := ⟨_, rfl⟩
  rw [hps] at F1 HPR
  rw [hpr] at Q1 HPR HPS
  obtain ⟨z1, z2, z3⟩ := HPR.out
  simp only at z1 z2 z3
  subst z2
  have HZ1 := hide z1
  have HZ3 := hide z3
  clear hps hpr HPR z1 z3
  have p1 := H1.out.p.cell 1 (v := fp S) rfl
  have p3 := H1.out.p.cell 3 (v := fp T) rfl
  have k0 := HC1.out.cell 0 (v := .int .i64 k) rfl
  have k1 := HC1.out.cell 1 (v := .int .i64 n) rfl
  have k2 := HC1.out.cell 2 (v := .string d) rfl
  go_wp2_with fail
  refine (WH _).mono ?_
  rintro e w2 ⟨rfl, b2⟩
  have H2 := hide (H1.out.below b2)
  have HC2 := hide (HC1.out.below b2)
  have HM2 := hide (And.intro (HMB.out.1.below b2) (HMB.out.2.below b2))
  clear b2 WH p1 p3 k0 k1 k2
  have p1 := H2.out.p.cell 1 (v := fp S) rfl
  have p3 := H2.out.p.cell 3 (v := fp T) rfl
  have k1 := HC2.out.cell 1 (v := .int .i64 n) rfl
  have k2 := HC2.out.cell 2 (v := .string d) rfl
  obtain ⟨c1, c2, c3, c4⟩ := HN.out
  have hn1 := H2.out.n1
  have hn2 := H2.out.n2
  have hn3 := H2.out.n3
  have hn4 := H2.out.n4
  have hn5 := H2.out.n5
  obtain ⟨x0, y0, x1, x2, x3, x4, x5, y1, y2, y3, y4⟩ := HST.out
  go_wp2_with fail
  refine wp_region_held_drew (S := fun wx => wx.cell? ⟨P, 1, none⟩ = some (fp S) ∧ wx.cell? ⟨P, 3, none⟩ = some (fp T) ∧ wx.cell? ⟨C, 1, none⟩ = some (.int .i64 n) ∧ wx.cell? ⟨C, 2, none⟩ = some (.string d)) (by kernel_rfl) (⟨p1, p3, k1, k2⟩) (fun hHeld => ?_)
  refine takeQ (i := 0) (v := fp P) (d := some 79) rfl rfl (by kernel_rfl) (by kernel_rfl) (by kernel_rfl) (fun _ _ _ h => h) (Or.inl ⟨by rfl, fun wS ⟨hS0, hS1, hS2, hS3⟩ => by go_simp; all_goals (rw [IntKind.wrap_i64]; omega)⟩) (by assumption) ?_
  simp only [Act.put, List.setIfInBounds_toArray, List.set_cons_zero, List.set_cons_succ]
  refine takeQ (i := 1) (v := .pointer (some ⟨P, 0, none⟩)) (d := some 80) rfl rfl (by kernel_rfl) (by kernel_rfl) (by kernel_rfl) (fun _ _ _ h => h) (Or.inl ⟨by rfl, fun wS ⟨hS0, hS1, hS2, hS3⟩ => by go_simp; all_goals (rw [IntKind.wrap_i64]; omega)⟩) (by assumption) ?_
  simp only [Act.put, List.setIfInBounds_toArray, List.set_cons_zero, List.set_cons_succ]
  refine takeQ (i := 2) (v := .pointer (some ⟨P, 1, none⟩)) (d := some 81) rfl rfl (by kernel_rfl) (by kernel_rfl) (by kernel_rfl) (fun _ _ _ h => h) (Or.inl ⟨by rfl, fun wS ⟨hS0, hS1, hS2, hS3⟩ => by go_simp; all_goals (rw [IntKind.wrap_i64]; omega)⟩) (by assumption) ?_
  simp only [Act.put, List.setIfInBounds_toArray, List.set_cons_zero, List.set_cons_succ]
  refine takeQ (i := 3) (v := fp S) (d := some 82) rfl rfl (by kernel_rfl) (by kernel_rfl) (by kernel_rfl) (fun _ _ _ h => h) (Or.inl ⟨by rfl, fun wS ⟨hS0, hS1, hS2, hS3⟩ => by go_simp; all_goals (rw [IntKind.wrap_i64]; omega)⟩) (by assumption) ?_
  simp only [Act.put, List.setIfInBounds_toArray, List.set_cons_zero, List.set_cons_succ]
  refine takeQ (i := 4) (v := .pointer (some ⟨C, 1, none⟩)) (d := some 83) rfl rfl (by kernel_rfl) (by kernel_rfl) (by kernel_rfl) (fun _ _ _ h => h) (Or.inl ⟨by rfl, fun wS ⟨hS0, hS1, hS2, hS3⟩ => by go_simp; all_goals (rw [IntKind.wrap_i64]; omega)⟩) (by assumption) ?_
  simp only [Act.put, List.setIfInBounds_toArray, List.set_cons_zero, List.set_cons_succ]
  refine takeQ (i := 5) (v := .int .i64 n) (d := some 84) rfl rfl (by kernel_rfl) (by kernel_rfl) (by kernel_rfl) (fun _ _ _ h => h) (Or.inl ⟨by rfl, fun wS ⟨hS0, hS1, hS2, hS3⟩ => by go_simp; all_goals (rw [IntKind.wrap_i64]; omega)⟩) (by assumption) ?_
  simp only [Act.put, List.setIfInBounds_toArray, List.set_cons_zero, List.set_cons_succ]
  refine takeQ (i := 6) (v := .pointer (some ⟨C, 2, none⟩)) (d := some 85) rfl rfl (by kernel_rfl) (by kernel_rfl) (by kernel_rfl) (fun _ _ _ h => h) (Or.inl ⟨by rfl, fun wS ⟨hS0, hS1, hS2, hS3⟩ => by go_simp; all_goals (rw [IntKind.wrap_i64]; omega)⟩) (by assumption) ?_
  simp only [Act.put, List.setIfInBounds_toArray, List.set_cons_zero, List.set_cons_succ]
  refine takeQ (i := 7) (v := .string d) (d := some 86) rfl rfl (by kernel_rfl) (by kernel_rfl) (by kernel_rfl) (fun _ _ _ h => h) (Or.inl ⟨by rfl, fun wS ⟨hS0, hS1, hS2, hS3⟩ => by go_simp; all_goals (rw [IntKind.wrap_i64]; omega)⟩) (by assumption) ?_
  simp only [Act.put, List.setIfInBounds_toArray, List.set_cons_zero, List.set_cons_succ]
  refine takeQ (i := 9) (v := fp P) (d := some 88) rfl rfl (by kernel_rfl) (by kernel_rfl) (by kernel_rfl) (fun _ _ _ h => h) (Or.inl ⟨by rfl, fun wS ⟨hS0, hS1, hS2, hS3⟩ => by go_simp; all_goals (rw [IntKind.wrap_i64]; omega)⟩) (by assumption) ?_
  simp only [Act.put, List.setIfInBounds_toArray, List.set_cons_zero, List.set_cons_succ]
  refine takeQ (i := 10) (v := .pointer (some ⟨P, 0, none⟩)) (d := some 89) rfl rfl (by kernel_rfl) (by kernel_rfl) (by kernel_rfl) (fun _ _ _ h => h) (Or.inl ⟨by rfl, fun wS ⟨hS0, hS1, hS2, hS3⟩ => by go_simp; all_goals (rw [IntKind.wrap_i64]; omega)⟩) (by assumption) ?_
  simp only [Act.put, List.setIfInBounds_toArray, List.set_cons_zero, List.set_cons_succ]
  refine takeQ (i := 11) (v := .pointer (some ⟨P, 3, none⟩)) (d := some 90) rfl rfl (by kernel_rfl) (by kernel_rfl) (by kernel_rfl) (fun _ _ _ h => h) (Or.inl ⟨by rfl, fun wS ⟨hS0, hS1, hS2, hS3⟩ => by go_simp; all_goals (rw [IntKind.wrap_i64]; omega)⟩) (by assumption) ?_
  simp only [Act.put, List.setIfInBounds_toArray, List.set_cons_zero, List.set_cons_succ]
  refine takeQ (i := 12) (v := fp T) (d := some 91) rfl rfl (by kernel_rfl) (by kernel_rfl) (by kernel_rfl) (fun _ _ _ h => h) (Or.inl ⟨by rfl, fun wS ⟨hS0, hS1, hS2, hS3⟩ => by go_simp; all_goals (rw [IntKind.wrap_i64]; omega)⟩) (by assumption) ?_
  simp only [Act.put, List.setIfInBounds_toArray, List.set_cons_zero, List.set_cons_succ]
  refine takeQ (i := 13) (v := .pointer (some ⟨C, 1, none⟩)) (d := some 92) rfl rfl (by kernel_rfl) (by kernel_rfl) (by kernel_rfl) (fun _ _ _ h => h) (Or.inl ⟨by rfl, fun wS ⟨hS0, hS1, hS2, hS3⟩ => by go_simp; all_goals (rw [IntKind.wrap_i64]; omega)⟩) (by assumption) ?_
  simp only [Act.put, List.setIfInBounds_toArray, List.set_cons_zero, List.set_cons_succ]
  refine takeQ (i := 14) (v := .int .i64 n) (d := some 93) rfl rfl (by kernel_rfl) (by kernel_rfl) (by kernel_rfl) (fun _ _ _ h => h) (Or.inl ⟨by rfl, fun wS ⟨hS0, hS1, hS2, hS3⟩ => by go_simp; all_goals (rw [IntKind.wrap_i64]; omega)⟩) (by assumption) ?_
  simp only [Act.put, List.setIfInBounds_toArray, List.set_cons_zero, List.set_cons_succ]
  refine takeQ (i := 15) (v := .pointer (some ⟨C, 2, none⟩)) (d := some 94) rfl rfl (by kernel_rfl) (by kernel_rfl) (by kernel_rfl) (fun _ _ _ h => h) (Or.inl ⟨by rfl, fun wS ⟨hS0, hS1, hS2, hS3⟩ => by go_simp; all_goals (rw [IntKind.wrap_i64]; omega)⟩) (by assumption) ?_
  simp only [Act.put, List.setIfInBounds_toArray, List.set_cons_zero, List.set_cons_succ]
  refine takeQ (i := 16) (v := .string d) (d := some 95) rfl rfl (by kernel_rfl) (by kernel_rfl) (by kernel_rfl) (fun _ _ _ h => h) (Or.inl ⟨by rfl, fun wS ⟨hS0, hS1, hS2, hS3⟩ => by go_simp; all_goals (rw [IntKind.wrap_i64]; omega)⟩) (by assumption) ?_
  simp only [Act.put, List.setIfInBounds_toArray, List.set_cons_zero, List.set_cons_succ]
  clear hHeld p1 p3 k1 k2
  refine wpAnyH_ready (rs := [8]) (by kernel_rfl) (by simp) ?_
  refine AllReadyH.cons rfl (fun K hK => ?_) AllReadyH.nil
  go_simp
  refine (F1 _ H2.out.drew.f (HM2.out.1.below (Below.refl _ _).drew)).mono ?_
  rintro e w3 ⟨τ', o', r', rfl, hx, f3, hso, hsn, g3⟩
  injection hx with e1 hx
  injection hx with e2 e3
  subst e1 e2 e3
  have FF3 := hide f3
  have HSN := hide hsn
  have G3 := hide g3
  have HP3 := hide (H2.out.drew.p.kep2 g3 hn1 (Ne.symm x1))
  have HC3 := hide (HC2.out.drew.kep2 g3 c2 (by have := HSl.out; omega))
  have HQ3 := hide (H2.out.drew.q.kep2 g3 (Ne.symm hn4) (Ne.symm x3) (Ne.symm hn5) (Ne.symm x4))
  have HT3 := hide (HM2.out.2.drew.kep2 g3 y2 (Ne.symm x5))
  have HSO := hide hso
  clear f3 g3 hsn hso
  refine hK.out _ _ ⟨HP3.out.cell 1 rfl, HP3.out.cell 3 rfl, HC3.out.cell 1 rfl, HC3.out.cell 2 rfl⟩ (fun hHeld => ?_)
  clear hK K hHeld
  refine wpAnyH_ready (rs := [17]) (by kernel_rfl) (by simp) ?_
  refine AllReadyH.cons rfl (fun K hK => ?_) AllReadyH.nil
  go_simp
  refine (Q1 _ HQ3.out HT3.out).mono ?_
  rintro e w4 ⟨rfl, q4, t4, g4⟩
  have QQ4 := hide q4
  have HT4 := hide t4
  have G4 := hide g4
  have HP4 := hide (HP3.out.k3 g4 hn2 hn3 (Ne.symm y1))
  have HC4 := hide (HC3.out.k3 g4 c3 c4 (by have := HSl.out; omega))
  clear q4 g4 t4
  refine hK.out _ _ ⟨HP4.out.cell 1 rfl, HP4.out.cell 3 rfl, HC4.out.cell 1 rfl, HC4.out.cell 2 rfl⟩ (fun hHeld => ?_)
  clear hK K
  refine wpAnyH_ready (rs := [18]) (by kernel_rfl) (by simp) ?_
  refine AllReadyH.cons rfl (fun K hK => ?_) AllReadyH.nil
  go_simp
  refine hK.out _ _ hHeld (fun hHeld => ?_)
  clear hK K
  refine wpAnyH_ready (rs := [19]) (by kernel_rfl) (by simp) ?_
  refine AllReadyH.cons rfl (fun K hK => ?_) AllReadyH.nil
  go_simp
  refine hK.out _ _ hHeld (fun hHeld => ?_)
  clear hK K hHeld
  refine wpAnyH_done (by kernel_rfl) ?_ _
  go_wp2_with fail
  go_ret
  have hb3 := G3.out.toBelow H2.out.drew.b (Nat.le_trans H2.out.hB H2.out.drew.b.size) H2.out.hR x0
  have hb4 := G4.out.toBelow hb3 (Nat.le_trans H2.out.hB hb3.size) H2.out.hX H2.out.hD y0
  refine ⟨rfl, τ, ρ', fp S, fp T, H2.out.hP, H2.out.hR, H2.out.hX, H2.out.hD, H2.out.hB, hn1, hn2, hn3, hn4, hn5, FF3.out.k3 G4.out hn4 hn5 (Ne.symm y2), QQ4.out, HZ1.out, HP4.out, hb4, .inr ⟨S, T, rfl, rfl, HST.out, ?_⟩⟩
  rcases HZ3.out with ⟨s', V', a1, a2, a3, a4, a5⟩ | ⟨a1, a2⟩
  · subst a1
    have ht := HT4.out
    rw [a2, a3] at ht
    exact .inl ⟨s', V', (HSO.out s' rfl).k3 G4.out x3 x4 x5, a4, a5, ht⟩
  · subst a1
    have ht := HT4.out
    have e := HPS.out a2
    rw [show kp = (s.ac, V, s.en) from e, a2] at ht
    exact .inr ⟨s.ac, V, s.en, HL.out.up.a2, HL.out.ask.en, HL.out.lens, (HSN.out rfl).k3 G4.out x3 x4 x5, ht⟩
set_option maxHeartbeats 2000000 in
set_option maxRecDepth 100000 in
theorem dz_putS (B : Nat) (w0 w : World) (P R X D cap : Nat) (σ ρ : St) (sp tp : Value) (h : Tw B w0 w P R X D cap σ ρ sp tp) (k n : Int) (d : ByteArray) (hk : I64 k) (hn : I64 n) (hd : d.size ≤ 140737488351232) (h0 : k % 5 = 0) (S T : Nat) (sec en : Nat) (V : Vl) (hsp : sp = fp S) (htp : tp = fp T) (hst : (B ≤ S ∧ B ≤ T ∧ S ≠ P ∧ S ≠ R ∧ S ≠ X ∧ S ≠ D ∧ S ≠ T ∧ T ≠ P ∧ T ≠ R ∧ T ≠ X ∧ T ≠ D)) (hsec : sec < 2) (hen : en ≤ 4096) (hV : ∀ i, i < 3 → ((V i).getD []).length ≤ 2000) (hm : So w S (.pointer none) 0 0 0 kz ∧ Bl w T (skC X (sec : Int) V (en : Int) false true) 133) : Calls Try.prog 17 #[fp P, clV k n d] w fun e w' => Dz B w0 P R X D cap e w' := by
  have WH := fun w => which5 w k n d hk
  rw [h0] at WH
  clear h0
  subst hsp htp
  have HST := hide hst
  have HSl : Hid (S < w.heap.size ∧ T < w.heap.size) := hide ⟨hm.1.lt, hm.2.lt⟩
  have HM0 := hide hm
  clear hst hm
  have H := hide h
  have HN := hide hn
  have HDD := hide hd
  clear h hk hn hd
  go_enter Try.func17, Try.ntmps17
  go_wp2_with fail
  refine (WH _).mono ?_
  rintro e w1 ⟨rfl, b1⟩
  have H1 := hide ((H.out.below (below_alloc w _)).below b1)
  have HC1 : Hid (Bl w1 w.heap.size #[.int .i64 k, .int .i64 n, .string d] 34) := hide ((Bl.new w _ _).below b1)
  have hlP := H.out.p.lt
  have hlR := H.out.f.lt
  have hlX := H.out.q.ltX
  have hlD := H.out.q.lt
  have HMB := hide (And.intro (((HM0.out.1.below (below_alloc w (.cells #[.int .i64 k, .int .i64 n, .string d] 34))).below b1)) (((HM0.out.2.below (below_alloc w (.cells #[.int .i64 k, .int .i64 n, .string d] 34))).below b1)))
  obtain ⟨C, hCC⟩ : ∃ C, w.heap.size = C := ⟨_, rfl⟩
  rw [hCC] at HC1 HSl hlP hlR hlX hlD ⊢
  have HN := hide (And.intro (show C ≠ P by omega) (And.intro (show C ≠ R by omega) (And.intro (show C ≠ X by omega) (show C ≠ D by omega))))
  clear b1 hCC hlP hlR hlX hlD
  have HV := hide (And.intro hsec (And.intro hen hV))
  have F1 := fun wx hs => put_stands wx S 0 0 0 kz hs n d
  have hdl : d.data.toList.length ≤ 140737488355328 := by rw [list_size]; exact Nat.le_trans HDD.out (by decide)
  have Q1 := fun wx hq ht => rput_any wx X D cap T ρ hq H1.out.r.jr sec hsec V hV en hen true ht HST.out.2.2.2.2.2.2.2.2.2.1 HST.out.2.2.2.2.2.2.2.2.2.2 n d.data.toList hdl
  rw [bs_of, putR_true] at Q1
  clear hdl hsec hen hV
  have p1 := H1.out.p.cell 1 (v := fp S) rfl
  have p3 := H1.out.p.cell 3 (v := fp T) rfl
  have k0 := HC1.out.cell 0 (v := .int .i64 k) rfl
  have k1 := HC1.out.cell 1 (v := .int .i64 n) rfl
  have k2 := HC1.out.cell 2 (v := .string d) rfl
  go_wp2_with fail
  refine (WH _).mono ?_
  rintro e w2 ⟨rfl, b2⟩
  have H2 := hide (H1.out.below b2)
  have HC2 := hide (HC1.out.below b2)
  have HM2 := hide (And.intro (HMB.out.1.below b2) (HMB.out.2.below b2))
  clear b2 WH p1 p3 k0 k1 k2
  have p1 := H2.out.p.cell 1 (v := fp S) rfl
  have p3 := H2.out.p.cell 3 (v := fp T) rfl
  have k1 := HC2.out.cell 1 (v := .int .i64 n) rfl
  have k2 := HC2.out.cell 2 (v := .string d) rfl
  obtain ⟨c1, c2, c3, c4⟩ := HN.out
  have hn1 := H2.out.n1
  have hn2 := H2.out.n2
  have hn3 := H2.out.n3
  have hn4 := H2.out.n4
  have hn5 := H2.out.n5
  obtain ⟨x0, y0, x1, x2, x3, x4, x5, y1, y2, y3, y4⟩ := HST.out
  go_wp2_with fail
  refine wp_region_held_drew (S := fun wx => wx.cell? ⟨P, 1, none⟩ = some (fp S) ∧ wx.cell? ⟨P, 3, none⟩ = some (fp T) ∧ wx.cell? ⟨C, 1, none⟩ = some (.int .i64 n) ∧ wx.cell? ⟨C, 2, none⟩ = some (.string d)) (by kernel_rfl) (⟨p1, p3, k1, k2⟩) (fun hHeld => ?_)
  refine takeQ (i := 0) (v := fp P) (d := some 79) rfl rfl (by kernel_rfl) (by kernel_rfl) (by kernel_rfl) (fun _ _ _ h => h) (Or.inl ⟨by rfl, fun wS ⟨hS0, hS1, hS2, hS3⟩ => by go_simp; all_goals (rw [IntKind.wrap_i64]; omega)⟩) (by assumption) ?_
  simp only [Act.put, List.setIfInBounds_toArray, List.set_cons_zero, List.set_cons_succ]
  refine takeQ (i := 1) (v := .pointer (some ⟨P, 0, none⟩)) (d := some 80) rfl rfl (by kernel_rfl) (by kernel_rfl) (by kernel_rfl) (fun _ _ _ h => h) (Or.inl ⟨by rfl, fun wS ⟨hS0, hS1, hS2, hS3⟩ => by go_simp; all_goals (rw [IntKind.wrap_i64]; omega)⟩) (by assumption) ?_
  simp only [Act.put, List.setIfInBounds_toArray, List.set_cons_zero, List.set_cons_succ]
  refine takeQ (i := 2) (v := .pointer (some ⟨P, 1, none⟩)) (d := some 81) rfl rfl (by kernel_rfl) (by kernel_rfl) (by kernel_rfl) (fun _ _ _ h => h) (Or.inl ⟨by rfl, fun wS ⟨hS0, hS1, hS2, hS3⟩ => by go_simp; all_goals (rw [IntKind.wrap_i64]; omega)⟩) (by assumption) ?_
  simp only [Act.put, List.setIfInBounds_toArray, List.set_cons_zero, List.set_cons_succ]
  refine takeQ (i := 3) (v := fp S) (d := some 82) rfl rfl (by kernel_rfl) (by kernel_rfl) (by kernel_rfl) (fun _ _ _ h => h) (Or.inl ⟨by rfl, fun wS ⟨hS0, hS1, hS2, hS3⟩ => by go_simp; all_goals (rw [IntKind.wrap_i64]; omega)⟩) (by assumption) ?_
  simp only [Act.put, List.setIfInBounds_toArray, List.set_cons_zero, List.set_cons_succ]
  refine takeQ (i := 4) (v := .pointer (some ⟨C, 1, none⟩)) (d := some 83) rfl rfl (by kernel_rfl) (by kernel_rfl) (by kernel_rfl) (fun _ _ _ h => h) (Or.inl ⟨by rfl, fun wS ⟨hS0, hS1, hS2, hS3⟩ => by go_simp; all_goals (rw [IntKind.wrap_i64]; omega)⟩) (by assumption) ?_
  simp only [Act.put, List.setIfInBounds_toArray, List.set_cons_zero, List.set_cons_succ]
  refine takeQ (i := 5) (v := .int .i64 n) (d := some 84) rfl rfl (by kernel_rfl) (by kernel_rfl) (by kernel_rfl) (fun _ _ _ h => h) (Or.inl ⟨by rfl, fun wS ⟨hS0, hS1, hS2, hS3⟩ => by go_simp; all_goals (rw [IntKind.wrap_i64]; omega)⟩) (by assumption) ?_
  simp only [Act.put, List.setIfInBounds_toArray, List.set_cons_zero, List.set_cons_succ]
  refine takeQ (i := 6) (v := .pointer (some ⟨C, 2, none⟩)) (d := some 85) rfl rfl (by kernel_rfl) (by kernel_rfl) (by kernel_rfl) (fun _ _ _ h => h) (Or.inl ⟨by rfl, fun wS ⟨hS0, hS1, hS2, hS3⟩ => by go_simp; all_goals (rw [IntKind.wrap_i64]; omega)⟩) (by assumption) ?_
  simp only [Act.put, List.setIfInBounds_toArray, List.set_cons_zero, List.set_cons_succ]
  refine takeQ (i := 7) (v := .string d) (d := some 86) rfl rfl (by kernel_rfl) (by kernel_rfl) (by kernel_rfl) (fun _ _ _ h => h) (Or.inl ⟨by rfl, fun wS ⟨hS0, hS1, hS2, hS3⟩ => by go_simp; all_goals (rw [IntKind.wrap_i64]; omega)⟩) (by assumption) ?_
  simp only [Act.put, List.setIfInBounds_toArray, List.set_cons_zero, List.set_cons_succ]
  refine takeQ (i := 9) (v := fp P) (d := some 88) rfl rfl (by kernel_rfl) (by kernel_rfl) (by kernel_rfl) (fun _ _ _ h => h) (Or.inl ⟨by rfl, fun wS ⟨hS0, hS1, hS2, hS3⟩ => by go_simp; all_goals (rw [IntKind.wrap_i64]; omega)⟩) (by assumption) ?_
  simp only [Act.put, List.setIfInBounds_toArray, List.set_cons_zero, List.set_cons_succ]
  refine takeQ (i := 10) (v := .pointer (some ⟨P, 0, none⟩)) (d := some 89) rfl rfl (by kernel_rfl) (by kernel_rfl) (by kernel_rfl) (fun _ _ _ h => h) (Or.inl ⟨by rfl, fun wS ⟨hS0, hS1, hS2, hS3⟩ => by go_simp; all_goals (rw [IntKind.wrap_i64]; omega)⟩) (by assumption) ?_
  simp only [Act.put, List.setIfInBounds_toArray, List.set_cons_zero, List.set_cons_succ]
  refine takeQ (i := 11) (v := .pointer (some ⟨P, 3, none⟩)) (d := some 90) rfl rfl (by kernel_rfl) (by kernel_rfl) (by kernel_rfl) (fun _ _ _ h => h) (Or.inl ⟨by rfl, fun wS ⟨hS0, hS1, hS2, hS3⟩ => by go_simp; all_goals (rw [IntKind.wrap_i64]; omega)⟩) (by assumption) ?_
  simp only [Act.put, List.setIfInBounds_toArray, List.set_cons_zero, List.set_cons_succ]
  refine takeQ (i := 12) (v := fp T) (d := some 91) rfl rfl (by kernel_rfl) (by kernel_rfl) (by kernel_rfl) (fun _ _ _ h => h) (Or.inl ⟨by rfl, fun wS ⟨hS0, hS1, hS2, hS3⟩ => by go_simp; all_goals (rw [IntKind.wrap_i64]; omega)⟩) (by assumption) ?_
  simp only [Act.put, List.setIfInBounds_toArray, List.set_cons_zero, List.set_cons_succ]
  refine takeQ (i := 13) (v := .pointer (some ⟨C, 1, none⟩)) (d := some 92) rfl rfl (by kernel_rfl) (by kernel_rfl) (by kernel_rfl) (fun _ _ _ h => h) (Or.inl ⟨by rfl, fun wS ⟨hS0, hS1, hS2, hS3⟩ => by go_simp; all_goals (rw [IntKind.wrap_i64]; omega)⟩) (by assumption) ?_
  simp only [Act.put, List.setIfInBounds_toArray, List.set_cons_zero, List.set_cons_succ]
  refine takeQ (i := 14) (v := .int .i64 n) (d := some 93) rfl rfl (by kernel_rfl) (by kernel_rfl) (by kernel_rfl) (fun _ _ _ h => h) (Or.inl ⟨by rfl, fun wS ⟨hS0, hS1, hS2, hS3⟩ => by go_simp; all_goals (rw [IntKind.wrap_i64]; omega)⟩) (by assumption) ?_
  simp only [Act.put, List.setIfInBounds_toArray, List.set_cons_zero, List.set_cons_succ]
  refine takeQ (i := 15) (v := .pointer (some ⟨C, 2, none⟩)) (d := some 94) rfl rfl (by kernel_rfl) (by kernel_rfl) (by kernel_rfl) (fun _ _ _ h => h) (Or.inl ⟨by rfl, fun wS ⟨hS0, hS1, hS2, hS3⟩ => by go_simp; all_goals (rw [IntKind.wrap_i64]; omega)⟩) (by assumption) ?_
  simp only [Act.put, List.setIfInBounds_toArray, List.set_cons_zero, List.set_cons_succ]
  refine takeQ (i := 16) (v := .string d) (d := some 95) rfl rfl (by kernel_rfl) (by kernel_rfl) (by kernel_rfl) (fun _ _ _ h => h) (Or.inl ⟨by rfl, fun wS ⟨hS0, hS1, hS2, hS3⟩ => by go_simp; all_goals (rw [IntKind.wrap_i64]; omega)⟩) (by assumption) ?_
  simp only [Act.put, List.setIfInBounds_toArray, List.set_cons_zero, List.set_cons_succ]
  clear hHeld p1 p3 k1 k2
  refine wpAnyH_ready (rs := [8]) (by kernel_rfl) (by simp) ?_
  refine AllReadyH.cons rfl (fun K hK => ?_) AllReadyH.nil
  go_simp
  refine (F1 _ (HM2.out.1.below (Below.refl _ _).drew)).mono ?_
  rintro e w3 ⟨rfl, hw3⟩
  have g3 : Kep2 R S w2.drew w3 := by rw [hw3]; exact ⟨rfl, rfl, rfl, Nat.le_refl _, fun _ _ _ _ => rfl⟩
  have f3 : Fl w3 R σ := by rw [hw3]; exact H2.out.drew.f
  have hsn : So w3 S (.pointer none) 0 0 0 kz := by rw [hw3]; exact HM2.out.1.below (Below.refl _ _).drew
  clear hw3
  have FF3 := hide f3
  have HSN := hide hsn
  have G3 := hide g3
  have HP3 := hide (H2.out.drew.p.kep2 g3 hn1 (Ne.symm x1))
  have HC3 := hide (HC2.out.drew.kep2 g3 c2 (by have := HSl.out; omega))
  have HQ3 := hide (H2.out.drew.q.kep2 g3 (Ne.symm hn4) (Ne.symm x3) (Ne.symm hn5) (Ne.symm x4))
  have HT3 := hide (HM2.out.2.drew.kep2 g3 y2 (Ne.symm x5))
  clear f3 g3 hsn
  refine hK.out _ _ ⟨HP3.out.cell 1 rfl, HP3.out.cell 3 rfl, HC3.out.cell 1 rfl, HC3.out.cell 2 rfl⟩ (fun hHeld => ?_)
  clear hK K hHeld
  refine wpAnyH_ready (rs := [17]) (by kernel_rfl) (by simp) ?_
  refine AllReadyH.cons rfl (fun K hK => ?_) AllReadyH.nil
  go_simp
  refine (Q1 _ HQ3.out HT3.out).mono ?_
  rintro e w4 ⟨rfl, q4, t4, g4⟩
  have QQ4 := hide q4
  have HT4 := hide t4
  have G4 := hide g4
  have HP4 := hide (HP3.out.k3 g4 hn2 hn3 (Ne.symm y1))
  have HC4 := hide (HC3.out.k3 g4 c3 c4 (by have := HSl.out; omega))
  clear q4 g4 t4
  refine hK.out _ _ ⟨HP4.out.cell 1 rfl, HP4.out.cell 3 rfl, HC4.out.cell 1 rfl, HC4.out.cell 2 rfl⟩ (fun hHeld => ?_)
  clear hK K
  refine wpAnyH_ready (rs := [18]) (by kernel_rfl) (by simp) ?_
  refine AllReadyH.cons rfl (fun K hK => ?_) AllReadyH.nil
  go_simp
  refine hK.out _ _ hHeld (fun hHeld => ?_)
  clear hK K
  refine wpAnyH_ready (rs := [19]) (by kernel_rfl) (by simp) ?_
  refine AllReadyH.cons rfl (fun K hK => ?_) AllReadyH.nil
  go_simp
  refine hK.out _ _ hHeld (fun hHeld => ?_)
  clear hK K hHeld
  refine wpAnyH_done (by kernel_rfl) ?_ _
  go_wp2_with fail
  go_ret
  have hb3 := G3.out.toBelow H2.out.drew.b (Nat.le_trans H2.out.hB H2.out.drew.b.size) H2.out.hR x0
  have hb4 := G4.out.toBelow hb3 (Nat.le_trans H2.out.hB hb3.size) H2.out.hX H2.out.hD y0
  exact ⟨rfl, σ, ρ, fp S, fp T, H2.out.hP, H2.out.hR, H2.out.hX, H2.out.hD, H2.out.hB, hn1, hn2, hn3, hn4, hn5, FF3.out.k3 G4.out hn4 hn5 (Ne.symm y2), QQ4.out, H2.out.r, HP4.out, hb4, .inr ⟨S, T, rfl, rfl, HST.out, .inr ⟨sec, V, en, HV.out.1, HV.out.2.1, HV.out.2.2, HSN.out.k3 G4.out x3 x4 x5, HT4.out⟩⟩⟩
set_option maxHeartbeats 2000000 in
set_option maxRecDepth 100000 in
theorem dz_getL (B : Nat) (w0 w : World) (P R X D cap : Nat) (σ ρ : St) (sp tp : Value) (h : Tw B w0 w P R X D cap σ ρ sp tp) (k n : Int) (d : ByteArray) (hk : I64 k) (hn : I64 n) (hd : d.size ≤ 140737488351232) (h0 : k % 5 = 1) (S T : Nat) (s : Sv) (V : Vl) (hsp : sp = fp S) (htp : tp = fp T) (hst : (B ≤ S ∧ B ≤ T ∧ S ≠ P ∧ S ≠ R ∧ S ≠ X ∧ S ≠ D ∧ S ≠ T ∧ T ≠ P ∧ T ≠ R ∧ T ≠ X ∧ T ≠ D)) (hL : Live σ.C s V) (hon : On σ) (hm : So w S (fp R) s.ac s.tu s.en s.k ∧ Bl w T (skC X (s.ac : Int) V (s.en : Int) false false) 133) : Calls Try.prog 17 #[fp P, clV k n d] w fun e w' => Dz B w0 P R X D cap e w' := by
  have WH := fun w => which5 w k n d hk
  rw [h0] at WH
  clear h0
  subst hsp htp
  have HST := hide hst
  have HSl : Hid (S < w.heap.size ∧ T < w.heap.size) := hide ⟨hm.1.lt, hm.2.lt⟩
  have HM0 := hide hm
  clear hst hm
  have H := hide h
  have HN := hide hn
  have HDD := hide hd
  clear h hk hn hd
  go_enter Try.func17, Try.ntmps17
  go_wp2_with fail
  refine (WH _).mono ?_
  rintro e w1 ⟨rfl, b1⟩
  have H1 := hide ((H.out.below (below_alloc w _)).below b1)
  have HC1 : Hid (Bl w1 w.heap.size #[.int .i64 k, .int .i64 n, .string d] 34) := hide ((Bl.new w _ _).below b1)
  have hlP := H.out.p.lt
  have hlR := H.out.f.lt
  have hlX := H.out.q.ltX
  have hlD := H.out.q.lt
  have HMB := hide (And.intro (((HM0.out.1.below (below_alloc w (.cells #[.int .i64 k, .int .i64 n, .string d] 34))).below b1)) (((HM0.out.2.below (below_alloc w (.cells #[.int .i64 k, .int .i64 n, .string d] 34))).below b1)))
  obtain ⟨C, hCC⟩ : ∃ C, w.heap.size = C := ⟨_, rfl⟩
  rw [hCC] at HC1 HSl hlP hlR hlX hlD ⊢
  have HN := hide (And.intro (show C ≠ P by omega) (And.intro (show C ≠ R by omega) (And.intro (show C ≠ X by omega) (show C ≠ D by omega))))
  clear b1 hCC hlP hlR hlX hlD
  have HL := hide hL
  have HO := hide hon
  obtain ⟨gx, hgx⟩ : ∃ gx, getR V false n = gx := ⟨_, rfl⟩
  have F1 : ∀ wx, Tw B w0 wx P R X D cap σ ρ (fp S) (fp T) → So wx S (fp R) s.ac s.tu s.en s.k → Calls Try.prog 24 #[fp S, .int .i64 n] wx fun e w' => e = .returned (.tuple #[.string (bs (gx.getD [])), .bool gx.isSome]) ∧ Below wx.heap.size wx w' := fun wx hw hs => by
    have := get_any wx S R σ HO.out s HL.out.ask hw.f hs n
    rw [get_rel HL.out, hgx, getV_gV] at this
    exact this
  have Q1 : ∀ wx, Bl wx T (skC X (s.ac : Int) V (s.en : Int) false false) 133 → Calls Try.prog 46 #[fp T, .int .i64 n] wx fun e w' => e = .returned (.tuple #[.string (bs (gx.getD [])), .bool gx.isSome]) ∧ Below wx.heap.size wx w' := fun wx ht => by
    have := rget_any wx X T s.ac s.en V false false ht n
    rw [hgx] at this
    exact this
  clear hL hon
  obtain ⟨t, ht⟩ : ∃ t, bs (gx.getD []) = t := ⟨_, rfl⟩
  obtain ⟨b, hb⟩ : ∃ b, gx.isSome = b := ⟨_, rfl⟩
  rw [ht, hb] at F1 Q1
  clear ht hb hgx
  have p1 := H1.out.p.cell 1 (v := fp S) rfl
  have p3 := H1.out.p.cell 3 (v := fp T) rfl
  have k0 := HC1.out.cell 0 (v := .int .i64 k) rfl
  have k1 := HC1.out.cell 1 (v := .int .i64 n) rfl
  have k2 := HC1.out.cell 2 (v := .string d) rfl
  go_wp2_with fail
  refine (WH _).mono ?_
  rintro e w2 ⟨rfl, b2⟩
  have H2 := hide (H1.out.below b2)
  have HC2 := hide (HC1.out.below b2)
  have HM2 := hide (And.intro (HMB.out.1.below b2) (HMB.out.2.below b2))
  clear b2 WH p1 p3 k0 k1 k2
  have p1 := H2.out.p.cell 1 (v := fp S) rfl
  have p3 := H2.out.p.cell 3 (v := fp T) rfl
  have k1 := HC2.out.cell 1 (v := .int .i64 n) rfl
  have k2 := HC2.out.cell 2 (v := .string d) rfl
  obtain ⟨c1, c2, c3, c4⟩ := HN.out
  have hn1 := H2.out.n1
  have hn2 := H2.out.n2
  have hn3 := H2.out.n3
  have hn4 := H2.out.n4
  have hn5 := H2.out.n5
  obtain ⟨x0, y0, x1, x2, x3, x4, x5, y1, y2, y3, y4⟩ := HST.out
  go_wp2_with fail
  refine wp_region_held_drew (S := fun wx => wx.cell? ⟨P, 1, none⟩ = some (fp S) ∧ wx.cell? ⟨C, 1, none⟩ = some (.int .i64 n)) (by kernel_rfl) (⟨p1, k1⟩) (fun hHeld => ?_)
  refine takeQ (i := 0) (v := fp P) (d := some 99) rfl rfl (by kernel_rfl) (by kernel_rfl) (by kernel_rfl) (fun _ _ _ h => h) (Or.inl ⟨by rfl, fun wS ⟨hS0, hS1⟩ => by go_simp; all_goals (rw [IntKind.wrap_i64]; omega)⟩) (by assumption) ?_
  simp only [Act.put, List.setIfInBounds_toArray, List.set_cons_zero, List.set_cons_succ]
  refine takeQ (i := 1) (v := .pointer (some ⟨P, 0, none⟩)) (d := some 100) rfl rfl (by kernel_rfl) (by kernel_rfl) (by kernel_rfl) (fun _ _ _ h => h) (Or.inl ⟨by rfl, fun wS ⟨hS0, hS1⟩ => by go_simp; all_goals (rw [IntKind.wrap_i64]; omega)⟩) (by assumption) ?_
  simp only [Act.put, List.setIfInBounds_toArray, List.set_cons_zero, List.set_cons_succ]
  refine takeQ (i := 2) (v := .pointer (some ⟨P, 1, none⟩)) (d := some 101) rfl rfl (by kernel_rfl) (by kernel_rfl) (by kernel_rfl) (fun _ _ _ h => h) (Or.inl ⟨by rfl, fun wS ⟨hS0, hS1⟩ => by go_simp; all_goals (rw [IntKind.wrap_i64]; omega)⟩) (by assumption) ?_
  simp only [Act.put, List.setIfInBounds_toArray, List.set_cons_zero, List.set_cons_succ]
  refine takeQ (i := 3) (v := fp S) (d := some 102) rfl rfl (by kernel_rfl) (by kernel_rfl) (by kernel_rfl) (fun _ _ _ h => h) (Or.inl ⟨by rfl, fun wS ⟨hS0, hS1⟩ => by go_simp; all_goals (rw [IntKind.wrap_i64]; omega)⟩) (by assumption) ?_
  simp only [Act.put, List.setIfInBounds_toArray, List.set_cons_zero, List.set_cons_succ]
  refine takeQ (i := 4) (v := .pointer (some ⟨C, 1, none⟩)) (d := some 103) rfl rfl (by kernel_rfl) (by kernel_rfl) (by kernel_rfl) (fun _ _ _ h => h) (Or.inl ⟨by rfl, fun wS ⟨hS0, hS1⟩ => by go_simp; all_goals (rw [IntKind.wrap_i64]; omega)⟩) (by assumption) ?_
  simp only [Act.put, List.setIfInBounds_toArray, List.set_cons_zero, List.set_cons_succ]
  refine takeQ (i := 5) (v := .int .i64 n) (d := some 104) rfl rfl (by kernel_rfl) (by kernel_rfl) (by kernel_rfl) (fun _ _ _ h => h) (Or.inl ⟨by rfl, fun wS ⟨hS0, hS1⟩ => by go_simp; all_goals (rw [IntKind.wrap_i64]; omega)⟩) (by assumption) ?_
  simp only [Act.put, List.setIfInBounds_toArray, List.set_cons_zero, List.set_cons_succ]
  clear hHeld p1 p3 k1 k2
  refine wpAnyH_ready (rs := [6]) (by kernel_rfl) (by simp) ?_
  refine AllReadyH.cons rfl (fun K hK => ?_) AllReadyH.nil
  go_simp
  refine (F1 _ H2.out.drew (HM2.out.1.below (Below.refl _ _).drew)).mono ?_
  rintro e w3 ⟨rfl, b3⟩
  have H3 := hide (H2.out.drew.below b3)
  have HC3 := hide (HC2.out.drew.below b3)
  have HT3 := hide (HM2.out.2.drew.below b3)
  clear b3
  refine hK.out _ _ ⟨H3.out.p.cell 1 rfl, HC3.out.cell 1 rfl⟩ (fun hHeld => ?_)
  clear hK K
  refine takeQ (i := 7) (v := .tuple #[.string t, .bool b]) (d := some 98) rfl rfl (by kernel_rfl) (by kernel_rfl) (by kernel_rfl) (fun _ _ _ h => h) (Or.inl ⟨by rfl, fun wS ⟨hS0, hS1⟩ => by go_simp; all_goals (rw [IntKind.wrap_i64]; omega)⟩) (by assumption) ?_
  simp only [Act.put, List.setIfInBounds_toArray, List.set_cons_zero, List.set_cons_succ]
  refine takeQ (i := 8) (v := .string t) (d := some 106) rfl rfl (by kernel_rfl) (by kernel_rfl) (by kernel_rfl) (fun _ _ _ h => h) (Or.inl ⟨by rfl, fun wS ⟨hS0, hS1⟩ => by go_simp; all_goals (rw [IntKind.wrap_i64]; omega)⟩) (by assumption) ?_
  simp only [Act.put, List.setIfInBounds_toArray, List.set_cons_zero, List.set_cons_succ]
  refine takeQ (i := 9) (v := .bool b) (d := some 107) rfl rfl (by kernel_rfl) (by kernel_rfl) (by kernel_rfl) (fun _ _ _ h => h) (Or.inl ⟨by rfl, fun wS ⟨hS0, hS1⟩ => by go_simp; all_goals (rw [IntKind.wrap_i64]; omega)⟩) (by assumption) ?_
  simp only [Act.put, List.setIfInBounds_toArray, List.set_cons_zero, List.set_cons_succ]
  refine takeQ (i := 10) (v := .string t) (d := some 5) rfl rfl (by kernel_rfl) (by kernel_rfl) (by kernel_rfl) (fun _ _ _ h => h) (Or.inl ⟨by rfl, fun wS ⟨hS0, hS1⟩ => by go_simp; all_goals (rw [IntKind.wrap_i64]; omega)⟩) (by assumption) ?_
  simp only [Act.put, List.setIfInBounds_toArray, List.set_cons_zero, List.set_cons_succ]
  refine takeQ (i := 11) (v := .bool b) (d := some 6) rfl rfl (by kernel_rfl) (by kernel_rfl) (by kernel_rfl) (fun _ _ _ h => h) (Or.inl ⟨by rfl, fun wS ⟨hS0, hS1⟩ => by go_simp; all_goals (rw [IntKind.wrap_i64]; omega)⟩) (by assumption) ?_
  simp only [Act.put, List.setIfInBounds_toArray, List.set_cons_zero, List.set_cons_succ]
  clear hHeld
  refine wpAnyH_done (by kernel_rfl) ?_ _
  have p3 := H3.out.p.cell 3 (v := fp T) rfl
  have k1 := HC3.out.cell 1 (v := .int .i64 n) rfl
  go_wp2_with fail
  refine wp_region_held_drew (S := fun wx => wx.cell? ⟨P, 3, none⟩ = some (fp T) ∧ wx.cell? ⟨C, 1, none⟩ = some (.int .i64 n)) (by kernel_rfl) (⟨p3, k1⟩) (fun hHeld => ?_)
  refine takeQ (i := 0) (v := fp P) (d := some 109) rfl rfl (by kernel_rfl) (by kernel_rfl) (by kernel_rfl) (fun _ _ _ h => h) (Or.inl ⟨by rfl, fun wS ⟨hS0, hS1⟩ => by go_simp; all_goals (rw [IntKind.wrap_i64]; omega)⟩) (by assumption) ?_
  simp only [Act.put, List.setIfInBounds_toArray, List.set_cons_zero, List.set_cons_succ]
  refine takeQ (i := 1) (v := .pointer (some ⟨P, 0, none⟩)) (d := some 110) rfl rfl (by kernel_rfl) (by kernel_rfl) (by kernel_rfl) (fun _ _ _ h => h) (Or.inl ⟨by rfl, fun wS ⟨hS0, hS1⟩ => by go_simp; all_goals (rw [IntKind.wrap_i64]; omega)⟩) (by assumption) ?_
  simp only [Act.put, List.setIfInBounds_toArray, List.set_cons_zero, List.set_cons_succ]
  refine takeQ (i := 2) (v := .pointer (some ⟨P, 3, none⟩)) (d := some 111) rfl rfl (by kernel_rfl) (by kernel_rfl) (by kernel_rfl) (fun _ _ _ h => h) (Or.inl ⟨by rfl, fun wS ⟨hS0, hS1⟩ => by go_simp; all_goals (rw [IntKind.wrap_i64]; omega)⟩) (by assumption) ?_
  simp only [Act.put, List.setIfInBounds_toArray, List.set_cons_zero, List.set_cons_succ]
  refine takeQ (i := 3) (v := fp T) (d := some 112) rfl rfl (by kernel_rfl) (by kernel_rfl) (by kernel_rfl) (fun _ _ _ h => h) (Or.inl ⟨by rfl, fun wS ⟨hS0, hS1⟩ => by go_simp; all_goals (rw [IntKind.wrap_i64]; omega)⟩) (by assumption) ?_
  simp only [Act.put, List.setIfInBounds_toArray, List.set_cons_zero, List.set_cons_succ]
  refine takeQ (i := 4) (v := .pointer (some ⟨C, 1, none⟩)) (d := some 113) rfl rfl (by kernel_rfl) (by kernel_rfl) (by kernel_rfl) (fun _ _ _ h => h) (Or.inl ⟨by rfl, fun wS ⟨hS0, hS1⟩ => by go_simp; all_goals (rw [IntKind.wrap_i64]; omega)⟩) (by assumption) ?_
  simp only [Act.put, List.setIfInBounds_toArray, List.set_cons_zero, List.set_cons_succ]
  refine takeQ (i := 5) (v := .int .i64 n) (d := some 114) rfl rfl (by kernel_rfl) (by kernel_rfl) (by kernel_rfl) (fun _ _ _ h => h) (Or.inl ⟨by rfl, fun wS ⟨hS0, hS1⟩ => by go_simp; all_goals (rw [IntKind.wrap_i64]; omega)⟩) (by assumption) ?_
  simp only [Act.put, List.setIfInBounds_toArray, List.set_cons_zero, List.set_cons_succ]
  clear hHeld p3 k1
  refine wpAnyH_ready (rs := [6]) (by kernel_rfl) (by simp) ?_
  refine AllReadyH.cons rfl (fun K hK => ?_) AllReadyH.nil
  go_simp
  refine (Q1 _ HT3.out.drew).mono ?_
  rintro e w4 ⟨rfl, b4⟩
  have H4 := hide (H3.out.drew.below b4)
  have HC4 := hide (HC3.out.drew.below b4)
  clear b4
  refine hK.out _ _ ⟨H4.out.p.cell 3 rfl, HC4.out.cell 1 rfl⟩ (fun hHeld => ?_)
  clear hK K
  refine takeQ (i := 7) (v := .tuple #[.string t, .bool b]) (d := some 108) rfl rfl (by kernel_rfl) (by kernel_rfl) (by kernel_rfl) (fun _ _ _ h => h) (Or.inl ⟨by rfl, fun wS ⟨hS0, hS1⟩ => by go_simp; all_goals (rw [IntKind.wrap_i64]; omega)⟩) (by assumption) ?_
  simp only [Act.put, List.setIfInBounds_toArray, List.set_cons_zero, List.set_cons_succ]
  refine takeQ (i := 8) (v := .string t) (d := some 116) rfl rfl (by kernel_rfl) (by kernel_rfl) (by kernel_rfl) (fun _ _ _ h => h) (Or.inl ⟨by rfl, fun wS ⟨hS0, hS1⟩ => by go_simp; all_goals (rw [IntKind.wrap_i64]; omega)⟩) (by assumption) ?_
  simp only [Act.put, List.setIfInBounds_toArray, List.set_cons_zero, List.set_cons_succ]
  refine takeQ (i := 9) (v := .bool b) (d := some 117) rfl rfl (by kernel_rfl) (by kernel_rfl) (by kernel_rfl) (fun _ _ _ h => h) (Or.inl ⟨by rfl, fun wS ⟨hS0, hS1⟩ => by go_simp; all_goals (rw [IntKind.wrap_i64]; omega)⟩) (by assumption) ?_
  simp only [Act.put, List.setIfInBounds_toArray, List.set_cons_zero, List.set_cons_succ]
  refine takeQ (i := 10) (v := .string t) (d := some 7) rfl rfl (by kernel_rfl) (by kernel_rfl) (by kernel_rfl) (fun _ _ _ h => h) (Or.inl ⟨by rfl, fun wS ⟨hS0, hS1⟩ => by go_simp; all_goals (rw [IntKind.wrap_i64]; omega)⟩) (by assumption) ?_
  simp only [Act.put, List.setIfInBounds_toArray, List.set_cons_zero, List.set_cons_succ]
  refine takeQ (i := 11) (v := .bool b) (d := some 8) rfl rfl (by kernel_rfl) (by kernel_rfl) (by kernel_rfl) (fun _ _ _ h => h) (Or.inl ⟨by rfl, fun wS ⟨hS0, hS1⟩ => by go_simp; all_goals (rw [IntKind.wrap_i64]; omega)⟩) (by assumption) ?_
  simp only [Act.put, List.setIfInBounds_toArray, List.set_cons_zero, List.set_cons_succ]
  clear hHeld
  refine wpAnyH_done (by kernel_rfl) ?_ _
  go_wp2_with fail
  go_ret
  exact ⟨rfl, _, _, _, _, H4.out⟩
set_option maxHeartbeats 2000000 in
set_option maxRecDepth 100000 in
theorem dz_getS (B : Nat) (w0 w : World) (P R X D cap : Nat) (σ ρ : St) (sp tp : Value) (h : Tw B w0 w P R X D cap σ ρ sp tp) (k n : Int) (d : ByteArray) (hk : I64 k) (hn : I64 n) (hd : d.size ≤ 140737488351232) (h0 : k % 5 = 1) (S T : Nat) (sec en : Nat) (V : Vl) (hsp : sp = fp S) (htp : tp = fp T) (hst : (B ≤ S ∧ B ≤ T ∧ S ≠ P ∧ S ≠ R ∧ S ≠ X ∧ S ≠ D ∧ S ≠ T ∧ T ≠ P ∧ T ≠ R ∧ T ≠ X ∧ T ≠ D)) (_hsec : sec < 2) (_hen : en ≤ 4096) (_hV : ∀ i, i < 3 → ((V i).getD []).length ≤ 2000) (hm : So w S (.pointer none) 0 0 0 kz ∧ Bl w T (skC X (sec : Int) V (en : Int) false true) 133) : Calls Try.prog 17 #[fp P, clV k n d] w fun e w' => Dz B w0 P R X D cap e w' := by
  have WH := fun w => which5 w k n d hk
  rw [h0] at WH
  clear h0
  subst hsp htp
  have HST := hide hst
  have HSl : Hid (S < w.heap.size ∧ T < w.heap.size) := hide ⟨hm.1.lt, hm.2.lt⟩
  have HM0 := hide hm
  clear hst hm
  have H := hide h
  have HN := hide hn
  have HDD := hide hd
  clear h hk hn hd
  go_enter Try.func17, Try.ntmps17
  go_wp2_with fail
  refine (WH _).mono ?_
  rintro e w1 ⟨rfl, b1⟩
  have H1 := hide ((H.out.below (below_alloc w _)).below b1)
  have HC1 : Hid (Bl w1 w.heap.size #[.int .i64 k, .int .i64 n, .string d] 34) := hide ((Bl.new w _ _).below b1)
  have hlP := H.out.p.lt
  have hlR := H.out.f.lt
  have hlX := H.out.q.ltX
  have hlD := H.out.q.lt
  have HMB := hide (And.intro (((HM0.out.1.below (below_alloc w (.cells #[.int .i64 k, .int .i64 n, .string d] 34))).below b1)) (((HM0.out.2.below (below_alloc w (.cells #[.int .i64 k, .int .i64 n, .string d] 34))).below b1)))
  obtain ⟨C, hCC⟩ : ∃ C, w.heap.size = C := ⟨_, rfl⟩
  rw [hCC] at HC1 HSl hlP hlR hlX hlD ⊢
  have HN := hide (And.intro (show C ≠ P by omega) (And.intro (show C ≠ R by omega) (And.intro (show C ≠ X by omega) (show C ≠ D by omega))))
  clear b1 hCC hlP hlR hlX hlD
  have F1 : ∀ wx, Tw B w0 wx P R X D cap σ ρ (fp S) (fp T) → So wx S (.pointer none) 0 0 0 kz → Calls Try.prog 24 #[fp S, .int .i64 n] wx fun e w' => e = .returned (.tuple #[.string (bs ((none : Option (List UInt8)).getD [])), .bool (none : Option (List UInt8)).isSome]) ∧ Below wx.heap.size wx w' := fun wx _ hs => by
    refine (get_stands wx S _ 0 0 0 hs n).mono ?_
    rintro e w' ⟨rfl, rfl⟩
    exact ⟨rfl, Below.refl _ _⟩
  have Q1 : ∀ wx, Bl wx T (skC X (sec : Int) V (en : Int) false true) 133 → Calls Try.prog 46 #[fp T, .int .i64 n] wx fun e w' => e = .returned (.tuple #[.string (bs ((none : Option (List UInt8)).getD [])), .bool (none : Option (List UInt8)).isSome]) ∧ Below wx.heap.size wx w' := fun wx ht => by
    have := rget_any wx X T sec en V false true ht n
    have e : getR V true n = none := by unfold getR; rw [if_neg (fun h => by cases h.1)]
    rw [e] at this
    exact this
  obtain ⟨gx, hgx⟩ : ∃ gx, (none : Option (List UInt8)) = gx := ⟨_, rfl⟩
  rw [hgx] at F1 Q1
  clear _hsec _hen _hV
  obtain ⟨t, ht⟩ : ∃ t, bs (gx.getD []) = t := ⟨_, rfl⟩
  obtain ⟨b, hb⟩ : ∃ b, gx.isSome = b := ⟨_, rfl⟩
  rw [ht, hb] at F1 Q1
  clear ht hb hgx
  have p1 := H1.out.p.cell 1 (v := fp S) rfl
  have p3 := H1.out.p.cell 3 (v := fp T) rfl
  have k0 := HC1.out.cell 0 (v := .int .i64 k) rfl
  have k1 := HC1.out.cell 1 (v := .int .i64 n) rfl
  have k2 := HC1.out.cell 2 (v := .string d) rfl
  go_wp2_with fail
  refine (WH _).mono ?_
  rintro e w2 ⟨rfl, b2⟩
  have H2 := hide (H1.out.below b2)
  have HC2 := hide (HC1.out.below b2)
  have HM2 := hide (And.intro (HMB.out.1.below b2) (HMB.out.2.below b2))
  clear b2 WH p1 p3 k0 k1 k2
  have p1 := H2.out.p.cell 1 (v := fp S) rfl
  have p3 := H2.out.p.cell 3 (v := fp T) rfl
  have k1 := HC2.out.cell 1 (v := .int .i64 n) rfl
  have k2 := HC2.out.cell 2 (v := .string d) rfl
  obtain ⟨c1, c2, c3, c4⟩ := HN.out
  have hn1 := H2.out.n1
  have hn2 := H2.out.n2
  have hn3 := H2.out.n3
  have hn4 := H2.out.n4
  have hn5 := H2.out.n5
  obtain ⟨x0, y0, x1, x2, x3, x4, x5, y1, y2, y3, y4⟩ := HST.out
  go_wp2_with fail
  refine wp_region_held_drew (S := fun wx => wx.cell? ⟨P, 1, none⟩ = some (fp S) ∧ wx.cell? ⟨C, 1, none⟩ = some (.int .i64 n)) (by kernel_rfl) (⟨p1, k1⟩) (fun hHeld => ?_)
  refine takeQ (i := 0) (v := fp P) (d := some 99) rfl rfl (by kernel_rfl) (by kernel_rfl) (by kernel_rfl) (fun _ _ _ h => h) (Or.inl ⟨by rfl, fun wS ⟨hS0, hS1⟩ => by go_simp; all_goals (rw [IntKind.wrap_i64]; omega)⟩) (by assumption) ?_
  simp only [Act.put, List.setIfInBounds_toArray, List.set_cons_zero, List.set_cons_succ]
  refine takeQ (i := 1) (v := .pointer (some ⟨P, 0, none⟩)) (d := some 100) rfl rfl (by kernel_rfl) (by kernel_rfl) (by kernel_rfl) (fun _ _ _ h => h) (Or.inl ⟨by rfl, fun wS ⟨hS0, hS1⟩ => by go_simp; all_goals (rw [IntKind.wrap_i64]; omega)⟩) (by assumption) ?_
  simp only [Act.put, List.setIfInBounds_toArray, List.set_cons_zero, List.set_cons_succ]
  refine takeQ (i := 2) (v := .pointer (some ⟨P, 1, none⟩)) (d := some 101) rfl rfl (by kernel_rfl) (by kernel_rfl) (by kernel_rfl) (fun _ _ _ h => h) (Or.inl ⟨by rfl, fun wS ⟨hS0, hS1⟩ => by go_simp; all_goals (rw [IntKind.wrap_i64]; omega)⟩) (by assumption) ?_
  simp only [Act.put, List.setIfInBounds_toArray, List.set_cons_zero, List.set_cons_succ]
  refine takeQ (i := 3) (v := fp S) (d := some 102) rfl rfl (by kernel_rfl) (by kernel_rfl) (by kernel_rfl) (fun _ _ _ h => h) (Or.inl ⟨by rfl, fun wS ⟨hS0, hS1⟩ => by go_simp; all_goals (rw [IntKind.wrap_i64]; omega)⟩) (by assumption) ?_
  simp only [Act.put, List.setIfInBounds_toArray, List.set_cons_zero, List.set_cons_succ]
  refine takeQ (i := 4) (v := .pointer (some ⟨C, 1, none⟩)) (d := some 103) rfl rfl (by kernel_rfl) (by kernel_rfl) (by kernel_rfl) (fun _ _ _ h => h) (Or.inl ⟨by rfl, fun wS ⟨hS0, hS1⟩ => by go_simp; all_goals (rw [IntKind.wrap_i64]; omega)⟩) (by assumption) ?_
  simp only [Act.put, List.setIfInBounds_toArray, List.set_cons_zero, List.set_cons_succ]
  refine takeQ (i := 5) (v := .int .i64 n) (d := some 104) rfl rfl (by kernel_rfl) (by kernel_rfl) (by kernel_rfl) (fun _ _ _ h => h) (Or.inl ⟨by rfl, fun wS ⟨hS0, hS1⟩ => by go_simp; all_goals (rw [IntKind.wrap_i64]; omega)⟩) (by assumption) ?_
  simp only [Act.put, List.setIfInBounds_toArray, List.set_cons_zero, List.set_cons_succ]
  clear hHeld p1 p3 k1 k2
  refine wpAnyH_ready (rs := [6]) (by kernel_rfl) (by simp) ?_
  refine AllReadyH.cons rfl (fun K hK => ?_) AllReadyH.nil
  go_simp
  refine (F1 _ H2.out.drew (HM2.out.1.below (Below.refl _ _).drew)).mono ?_
  rintro e w3 ⟨rfl, b3⟩
  have H3 := hide (H2.out.drew.below b3)
  have HC3 := hide (HC2.out.drew.below b3)
  have HT3 := hide (HM2.out.2.drew.below b3)
  clear b3
  refine hK.out _ _ ⟨H3.out.p.cell 1 rfl, HC3.out.cell 1 rfl⟩ (fun hHeld => ?_)
  clear hK K
  refine takeQ (i := 7) (v := .tuple #[.string t, .bool b]) (d := some 98) rfl rfl (by kernel_rfl) (by kernel_rfl) (by kernel_rfl) (fun _ _ _ h => h) (Or.inl ⟨by rfl, fun wS ⟨hS0, hS1⟩ => by go_simp; all_goals (rw [IntKind.wrap_i64]; omega)⟩) (by assumption) ?_
  simp only [Act.put, List.setIfInBounds_toArray, List.set_cons_zero, List.set_cons_succ]
  refine takeQ (i := 8) (v := .string t) (d := some 106) rfl rfl (by kernel_rfl) (by kernel_rfl) (by kernel_rfl) (fun _ _ _ h => h) (Or.inl ⟨by rfl, fun wS ⟨hS0, hS1⟩ => by go_simp; all_goals (rw [IntKind.wrap_i64]; omega)⟩) (by assumption) ?_
  simp only [Act.put, List.setIfInBounds_toArray, List.set_cons_zero, List.set_cons_succ]
  refine takeQ (i := 9) (v := .bool b) (d := some 107) rfl rfl (by kernel_rfl) (by kernel_rfl) (by kernel_rfl) (fun _ _ _ h => h) (Or.inl ⟨by rfl, fun wS ⟨hS0, hS1⟩ => by go_simp; all_goals (rw [IntKind.wrap_i64]; omega)⟩) (by assumption) ?_
  simp only [Act.put, List.setIfInBounds_toArray, List.set_cons_zero, List.set_cons_succ]
  refine takeQ (i := 10) (v := .string t) (d := some 5) rfl rfl (by kernel_rfl) (by kernel_rfl) (by kernel_rfl) (fun _ _ _ h => h) (Or.inl ⟨by rfl, fun wS ⟨hS0, hS1⟩ => by go_simp; all_goals (rw [IntKind.wrap_i64]; omega)⟩) (by assumption) ?_
  simp only [Act.put, List.setIfInBounds_toArray, List.set_cons_zero, List.set_cons_succ]
  refine takeQ (i := 11) (v := .bool b) (d := some 6) rfl rfl (by kernel_rfl) (by kernel_rfl) (by kernel_rfl) (fun _ _ _ h => h) (Or.inl ⟨by rfl, fun wS ⟨hS0, hS1⟩ => by go_simp; all_goals (rw [IntKind.wrap_i64]; omega)⟩) (by assumption) ?_
  simp only [Act.put, List.setIfInBounds_toArray, List.set_cons_zero, List.set_cons_succ]
  clear hHeld
  refine wpAnyH_done (by kernel_rfl) ?_ _
  have p3 := H3.out.p.cell 3 (v := fp T) rfl
  have k1 := HC3.out.cell 1 (v := .int .i64 n) rfl
  go_wp2_with fail
  refine wp_region_held_drew (S := fun wx => wx.cell? ⟨P, 3, none⟩ = some (fp T) ∧ wx.cell? ⟨C, 1, none⟩ = some (.int .i64 n)) (by kernel_rfl) (⟨p3, k1⟩) (fun hHeld => ?_)
  refine takeQ (i := 0) (v := fp P) (d := some 109) rfl rfl (by kernel_rfl) (by kernel_rfl) (by kernel_rfl) (fun _ _ _ h => h) (Or.inl ⟨by rfl, fun wS ⟨hS0, hS1⟩ => by go_simp; all_goals (rw [IntKind.wrap_i64]; omega)⟩) (by assumption) ?_
  simp only [Act.put, List.setIfInBounds_toArray, List.set_cons_zero, List.set_cons_succ]
  refine takeQ (i := 1) (v := .pointer (some ⟨P, 0, none⟩)) (d := some 110) rfl rfl (by kernel_rfl) (by kernel_rfl) (by kernel_rfl) (fun _ _ _ h => h) (Or.inl ⟨by rfl, fun wS ⟨hS0, hS1⟩ => by go_simp; all_goals (rw [IntKind.wrap_i64]; omega)⟩) (by assumption) ?_
  simp only [Act.put, List.setIfInBounds_toArray, List.set_cons_zero, List.set_cons_succ]
  refine takeQ (i := 2) (v := .pointer (some ⟨P, 3, none⟩)) (d := some 111) rfl rfl (by kernel_rfl) (by kernel_rfl) (by kernel_rfl) (fun _ _ _ h => h) (Or.inl ⟨by rfl, fun wS ⟨hS0, hS1⟩ => by go_simp; all_goals (rw [IntKind.wrap_i64]; omega)⟩) (by assumption) ?_
  simp only [Act.put, List.setIfInBounds_toArray, List.set_cons_zero, List.set_cons_succ]
  refine takeQ (i := 3) (v := fp T) (d := some 112) rfl rfl (by kernel_rfl) (by kernel_rfl) (by kernel_rfl) (fun _ _ _ h => h) (Or.inl ⟨by rfl, fun wS ⟨hS0, hS1⟩ => by go_simp; all_goals (rw [IntKind.wrap_i64]; omega)⟩) (by assumption) ?_
  simp only [Act.put, List.setIfInBounds_toArray, List.set_cons_zero, List.set_cons_succ]
  refine takeQ (i := 4) (v := .pointer (some ⟨C, 1, none⟩)) (d := some 113) rfl rfl (by kernel_rfl) (by kernel_rfl) (by kernel_rfl) (fun _ _ _ h => h) (Or.inl ⟨by rfl, fun wS ⟨hS0, hS1⟩ => by go_simp; all_goals (rw [IntKind.wrap_i64]; omega)⟩) (by assumption) ?_
  simp only [Act.put, List.setIfInBounds_toArray, List.set_cons_zero, List.set_cons_succ]
  refine takeQ (i := 5) (v := .int .i64 n) (d := some 114) rfl rfl (by kernel_rfl) (by kernel_rfl) (by kernel_rfl) (fun _ _ _ h => h) (Or.inl ⟨by rfl, fun wS ⟨hS0, hS1⟩ => by go_simp; all_goals (rw [IntKind.wrap_i64]; omega)⟩) (by assumption) ?_
  simp only [Act.put, List.setIfInBounds_toArray, List.set_cons_zero, List.set_cons_succ]
  clear hHeld p3 k1
  refine wpAnyH_ready (rs := [6]) (by kernel_rfl) (by simp) ?_
  refine AllReadyH.cons rfl (fun K hK => ?_) AllReadyH.nil
  go_simp
  refine (Q1 _ HT3.out.drew).mono ?_
  rintro e w4 ⟨rfl, b4⟩
  have H4 := hide (H3.out.drew.below b4)
  have HC4 := hide (HC3.out.drew.below b4)
  clear b4
  refine hK.out _ _ ⟨H4.out.p.cell 3 rfl, HC4.out.cell 1 rfl⟩ (fun hHeld => ?_)
  clear hK K
  refine takeQ (i := 7) (v := .tuple #[.string t, .bool b]) (d := some 108) rfl rfl (by kernel_rfl) (by kernel_rfl) (by kernel_rfl) (fun _ _ _ h => h) (Or.inl ⟨by rfl, fun wS ⟨hS0, hS1⟩ => by go_simp; all_goals (rw [IntKind.wrap_i64]; omega)⟩) (by assumption) ?_
  simp only [Act.put, List.setIfInBounds_toArray, List.set_cons_zero, List.set_cons_succ]
  refine takeQ (i := 8) (v := .string t) (d := some 116) rfl rfl (by kernel_rfl) (by kernel_rfl) (by kernel_rfl) (fun _ _ _ h => h) (Or.inl ⟨by rfl, fun wS ⟨hS0, hS1⟩ => by go_simp; all_goals (rw [IntKind.wrap_i64]; omega)⟩) (by assumption) ?_
  simp only [Act.put, List.setIfInBounds_toArray, List.set_cons_zero, List.set_cons_succ]
  refine takeQ (i := 9) (v := .bool b) (d := some 117) rfl rfl (by kernel_rfl) (by kernel_rfl) (by kernel_rfl) (fun _ _ _ h => h) (Or.inl ⟨by rfl, fun wS ⟨hS0, hS1⟩ => by go_simp; all_goals (rw [IntKind.wrap_i64]; omega)⟩) (by assumption) ?_
  simp only [Act.put, List.setIfInBounds_toArray, List.set_cons_zero, List.set_cons_succ]
  refine takeQ (i := 10) (v := .string t) (d := some 7) rfl rfl (by kernel_rfl) (by kernel_rfl) (by kernel_rfl) (fun _ _ _ h => h) (Or.inl ⟨by rfl, fun wS ⟨hS0, hS1⟩ => by go_simp; all_goals (rw [IntKind.wrap_i64]; omega)⟩) (by assumption) ?_
  simp only [Act.put, List.setIfInBounds_toArray, List.set_cons_zero, List.set_cons_succ]
  refine takeQ (i := 11) (v := .bool b) (d := some 8) rfl rfl (by kernel_rfl) (by kernel_rfl) (by kernel_rfl) (fun _ _ _ h => h) (Or.inl ⟨by rfl, fun wS ⟨hS0, hS1⟩ => by go_simp; all_goals (rw [IntKind.wrap_i64]; omega)⟩) (by assumption) ?_
  simp only [Act.put, List.setIfInBounds_toArray, List.set_cons_zero, List.set_cons_succ]
  clear hHeld
  refine wpAnyH_done (by kernel_rfl) ?_ _
  go_wp2_with fail
  go_ret
  exact ⟨rfl, _, _, _, _, H4.out⟩
theorem dz_any (B : Nat) (w0 w : World) (P R X D cap : Nat) (σ ρ : St) (sp tp : Value) (h : Tw B w0 w P R X D cap σ ρ sp tp) (k n : Int) (d : ByteArray) (hk : I64 k) (hn : I64 n) (hd : d.size ≤ 140737488351232) : Calls Try.prog 17 #[fp P, clV k n d] w fun e w' => Dz B w0 P R X D cap e w' := by
  rcases (show k % 5 = 0 ∨ k % 5 = 1 ∨ k % 5 = 2 ∨ k % 5 = 3 ∨ k % 5 = 4 by omega) with e | e | e | e | e
  · rcases h.m with ⟨m1, m2⟩ | ⟨S, T, m1, m2, ms, ⟨s, V, a1, a2, a3, a4⟩ | ⟨sec, V, en, a1, a2, a3, a4, a5⟩⟩
    · exact dz_none0 B w0 w P R X D cap σ ρ sp tp h k n d hk hn hd e m1
    · exact dz_putL B w0 w P R X D cap σ ρ sp tp h k n d hk hn hd e S T s V m1 m2 ms a2 a3 ⟨a1, a4⟩
    · exact dz_putS B w0 w P R X D cap σ ρ sp tp h k n d hk hn hd e S T sec en V m1 m2 ms a1 a2 a3 ⟨a4, a5⟩
  · rcases h.m with ⟨m1, m2⟩ | ⟨S, T, m1, m2, ms, ⟨s, V, a1, a2, a3, a4⟩ | ⟨sec, V, en, a1, a2, a3, a4, a5⟩⟩
    · exact dz_none1 B w0 w P R X D cap σ ρ sp tp h k n d hk hn hd e m1
    · exact dz_getL B w0 w P R X D cap σ ρ sp tp h k n d hk hn hd e S T s V m1 m2 ms a2 a3 ⟨a1, a4⟩
    · exact dz_getS B w0 w P R X D cap σ ρ sp tp h k n d hk hn hd e S T sec en V m1 m2 ms a1 a2 a3 ⟨a4, a5⟩
  · exact dz_cut B w0 w P R X D cap σ ρ sp tp h k n d hk hn hd e
  · exact dz_boot B w0 w P R X D cap σ ρ sp tp h k n d hk hn hd e
  · exact dz_image B w0 w P R X D cap σ ρ sp tp h k n d hk hn hd e
end Go.Proofs.Ytcjahdgppnmdkaa
