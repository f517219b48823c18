/- So6, So7, So8, So7s, So9, So10, So11. -/
import Derived.Test.YtcjahdgppnmdkaaStoreRunsG08
import Derived.Deep.DeepCutAuto
set_option maxRecDepth 100000
namespace Go.Proofs.Ytcjahdgppnmdkaa
open Go.RowKit Go.Great
theorem So.drewN {w : World} {S : Nat} {p : Value} {ac tu en : Int} {k : Kp} (h : So w S p ac tu en k) (n : Nat) : So (w.drewN n) S p ac tu en k := by
  induction n with
  | zero => exact h
  | succ n ih => exact ih.drew
theorem Fl.drewM {w : World} {R : Nat} {σ : St} (h : Fl w R σ) (n : Nat) : Fl (w.drewN n) R σ := by
  induction n with
  | zero => exact h
  | succ n ih => exact ih.drew
theorem Kept.drewM {R : Nat} {w w1 : World} (h : Kept R w w1) (n : Nat) : Kept R w (w1.drewN n) := by
  induction n with
  | zero => exact h
  | succ n ih => exact ih.drew
theorem below_drewM {B : Nat} {w w1 : World} (h : Below B w w1) (n : Nat) : Below B w (w1.drewN n) := by
  induction n with
  | zero => exact h
  | succ n ih => exact below_drew1 ih
set_option maxHeartbeats 1000000 in
theorem read_st (w : World) (S R : Nat) (σ : St) (hF : Fl w R σ) (ho : σ.off = false) (ac : Nat) (tu en : Int) (k : Kp) (h : So w S (fp R) ac tu en k) (hac : ac < 2) (i : Nat) (hi : i < 3) (hl : (k i).lo + (k i).n ≤ 4096) : Calls Try.prog 53 #[fp S, .int .i64 (i : Int)] w fun e w' => e = .returned (.tuple #[.string (bs (txt σ.C ac (k i))), .int .i64 0]) ∧ Below w.heap.size w w' := by
  obtain ⟨⟨t, lo, n⟩, hk⟩ : ∃ x, k i = x := ⟨_, rfl⟩
  rw [hk] at hl ⊢
  simp only at hl
  have b1 := below_alloc w (.cells #[.bool t, .int .i64 (lo : Int), .int .i64 (n : Int)] 105)
  obtain ⟨W, hW⟩ : ∃ W, w.alloc (.cells #[.bool t, .int .i64 (lo : Int), .int .i64 (n : Int)] 105) = W := ⟨_, rfl⟩
  have v1 : W.cell? ⟨w.heap.size, 1, none⟩ = some (.int .i64 (lo : Int)) := by rw [← hW, World.cell?_alloc_new]; rfl
  have v2 : W.cell? ⟨w.heap.size, 2, none⟩ = some (.int .i64 (n : Int)) := by rw [← hW, World.cell?_alloc_new]; rfl
  rw [hW] at b1
  have h1 := h.below b1
  have f1 := hF.below b1
  have c0 := h1.c0
  obtain ⟨q, hq⟩ : ∃ q, Hid (ac * 4096 + lo = q) := ⟨_, hide rfl⟩
  have P : ∀ m, Calls Try.prog 77 #[fp S, .int .i64 (lo : Int)] (W.drewN m) fun e w' => e = .returned (.int .i64 (q : Int)) ∧ w' = W.drewN m := fun m => by
    have := place_any (W.drewN m) S (fp R) ac lo tu en k (h1.drewN m) hac (by omega)
    rw [hq.out] at this
    exact this
  have A : ∀ m, Calls Try.prog 39 #[fp R, .int .i64 (q : Int), .int .i64 (n : Int)] (W.drewN m) fun e w' => e = .returned (.tuple #[.string (bs ((σ.C.drop q).take n)), .int .i64 0]) ∧ w' = W.drewN m := fun m => read_in _ R σ (f1.drewM m) ho q n (by have := hq.out; omega)
  have HT : Hid (txt σ.C ac ⟨t, lo, n⟩ = (σ.C.drop q).take n) := by show (σ.C.drop (ac * 4096 + lo)).take n = _; rw [hq.out]
  rw [HT.out]
  have HB := hide b1
  have c4 := h.c4
  have c5 := h.c5
  have c6 := h.c6
  have c7 := h.c7
  have c8 := h.c8
  have c9 := h.c9
  have c10 := h.c10
  have c11 := h.c11
  have c12 := h.c12
  obtain rfl | rfl | rfl : i = 0 ∨ i = 1 ∨ i = 2 := by omega
  all_goals
    simp only [hk] at c4 c5 c6 c7 c8 c9 c10 c11 c12
    clear b1 h1 f1 hF h hk
    go_enter Try.func53, Try.ntmps53
    go_wp2_with fail
    try rw [hW]
    go_quiet (first | (go_at_call 77; exact Calls.quiet_of_same (P _)) | (go_at_call 39; exact Calls.quiet_of_same (A _)))
    go_wp2_with fail
    go_ret2
    exact ⟨rfl, below_drewM HB.out _⟩
theorem Kep2.alloc {X D : Nat} {w w1 : World} (h : Kep2 X D w w1) (o : Obj) : Kep2 X D w (w1.alloc o) := h.below (below_alloc _ _)
theorem Kep2.setX {X D : Nat} {w w1 : World} (h : Kep2 X D w w1) (i : Nat) (u : Value) : Kep2 X D w (w1.setCell ⟨X, i, none⟩ u) := h.trans ((Kept.set (Kept.refl X w1) i u).l2 D)
theorem Kep2.setD {X D : Nat} {w w1 : World} (h : Kep2 X D w w1) (i : Nat) (u : Value) : Kep2 X D w (w1.setCell ⟨D, i, none⟩ u) := h.trans ((Kept.set (Kept.refl D w1) i u).r2 X)
theorem Kep2.drew {X D : Nat} {w w1 : World} (h : Kep2 X D w w1) : Kep2 X D w w1.drew := h.trans ((Kept.drew (Kept.refl X w1)).l2 D)
theorem Sgv.below {w w' : World} {g : Nat} {x y z : Value} (h : Sgv w g x y z) (hb : Below w.heap.size w w') : Sgv w' g x y z := by
  unfold Sgv; rw [hb.block g (lt_of_block h), h]
theorem Sgv.kept {w w' : World} {g X : Nat} {x y z : Value} (h : Sgv w g x y z) (hb : Kept X w w') (hne : g ≠ X) : Sgv w' g x y z := hb.other h hne
theorem Sgv.c0 {w : World} {g : Nat} {x y z : Value} (h : Sgv w g x y z) : w.cell? ⟨g, 0, none⟩ = some x := by simp [World.cell?, show w.heap[g]? = _ from h]
theorem Sgv.c1 {w : World} {g : Nat} {x y z : Value} (h : Sgv w g x y z) : w.cell? ⟨g, 1, none⟩ = some y := by simp [World.cell?, show w.heap[g]? = _ from h]
theorem Sgv.c2 {w : World} {g : Nat} {x y z : Value} (h : Sgv w g x y z) : w.cell? ⟨g, 2, none⟩ = some z := by simp [World.cell?, show w.heap[g]? = _ from h]
theorem kept4 (S : Nat) (w : World) (a b c d : Nat) (x y z u : Value) : Kept S w ((((w.setCell ⟨S, a, none⟩ x).setCell ⟨S, b, none⟩ y).setCell ⟨S, c, none⟩ z).setCell ⟨S, d, none⟩ u).drew.drew := (((((Kept.refl S w).set _ _).set _ _).set _ _).set _ _).drew.drew
structure AddMid (w : World) (S R : Nat) (τ : St) (ac tu : Int) (en n : Nat) (k : Kp) (r : Int) (v : Value) (wx : World) : Prop where
  v : v = .int .i64 r
  f : Fl wx R τ
  s : So wx S (fp R) ac tu en k
  g : Sgv wx w.heap.size (.bool true) (.int .i64 ((en : Int) + 3)) (.int .i64 (n : Int))
  k : Kep2 R S w wx
set_option maxHeartbeats 2000000 in
theorem add_core (w : World) (S R : Nat) (σ τ : St) (r : Int) (ac : Nat) (tu : Int) (en : Nat) (k : Kp) (i : Nat) (t : ByteArray) (n q : Nat) (d : ByteArray)
    (hF : Fl w R σ) (h : So w S (fp R) ac tu en k) (hac : ac < 2) (hi : i < 3) (htn : t.size = n) (he : en ≤ 4096) (hq : Hid (ac * 4096 + en = q))
    (D : ∀ wx, Calls Try.prog 97 #[.int .i64 (i : Int), .string t] wx fun e w' => e = .returned (.string d) ∧ Below wx.heap.size wx w')
    (A : ∀ wx, Fl wx R σ → Calls Try.prog 96 #[fp R, .int .i64 (q : Int), .string d] wx fun e w' => e = .returned (.int .i64 r) ∧ Fl w' R τ ∧ Kept R wx w')
    (hr : r = 0 ∧ en + 4 + n ≤ 4096 ∨ r = 60) :
    Calls Try.prog 75 #[fp S, .int .i64 (i : Int), .string t] w fun e w' => e = .returned (.int .i64 r) ∧ Fl w' R τ ∧ (if r = 0 then So w' S (fp R) ac tu ((en + 4 + n : Nat) : Int) (upd k i ⟨true, en + 3, n⟩) else So w' S (fp R) ac tu en k) ∧ Kep2 R S w w' := by
  have hne := hF.ne h
  have hls := h.lt
  have hlr := hF.lt
  have b1 := below_drew1 (below_alloc w (.cells #[.bool true, .int .i64 ((en : Int) + 3), .int .i64 (n : Int)] 105))
  have hg := (sgv_new w (.bool true) (.int .i64 ((en : Int) + 3)) (.int .i64 (n : Int))).drew
  obtain ⟨W, hW⟩ : ∃ W, w.alloc (.cells #[.bool true, .int .i64 ((en : Int) + 3), .int .i64 (n : Int)] 105) = W := ⟨_, rfl⟩
  rw [hW] at b1 hg
  have h1 : So W.drew S (fp R) ac tu en k := h.below b1
  have f1 : Fl W.drew R σ := hF.below b1
  have k1 : Kep2 R S w W.drew := (Kep2.refl R S w).below b1
  have c3 := h.c3
  have e0 := h1.c0
  have e3 := h1.c3
  have P : Calls Try.prog 77 #[fp S, .int .i64 (en : Int)] W.drew fun e w' => e = .returned (.int .i64 (q : Int)) ∧ w' = W.drew := by
    have := place_any W.drew S (fp R) ac en tu en k h1 hac he
    rw [hq.out] at this
    exact this
  have HE := hide he
  have he' : (en : Int) ≤ 4096 := by omega
  clear he
  go_enter Try.func75, Try.ntmps75
  go_wp2_with fail
  try rw [hW]
  go_cut [8] (fun v wx => AddMid w S R τ ac tu en n k r v wx)
  case first =>
    clear c3
    go_region_with (first
      | (go_at_call 77; refine P.mono ?_; rintro e w2 ⟨rfl, hw⟩; obtain rfl := hw.symm; clear hw)
      | (go_at_call 97; refine (D _).mono ?_; rintro e w3 ⟨rfl, b3⟩; have h3 := h1.below b3; have f3 := f1.below b3; have g3 := hg.below b3; have k3 := k1.below b3; have i0 := h3.c0; have i3 := h3.c3)
      | (go_at_call 96; refine (A _ f3).mono ?_; rintro e w4 ⟨rfl, f4, k4⟩))
    all_goals go_wp2_with fail
    all_goals go_meet
    all_goals exact ⟨rfl, f4, h3.kept k4 (Ne.symm hne), g3.kept k4 (by omega), k3.trans (k4.l2 S)⟩
  case rest =>
    obtain ⟨rfl, f4, s4, g4, k4⟩ := hcut
    rcases hr with ⟨rfl, hen⟩ | rfl
    · have a0 := g4.c0
      have a1 := g4.c1
      have a2 := g4.c2
      have m3 := s4.c3
      have z3 := s4.frozen 3
      have hen' : (en : Int) + (4 + (n : Int)) ≤ 4096 := by omega
      have hgS : w.heap.size ≠ S := by omega
      clear A D P hq b1 h1 f1 k1 c3 e0 e3 hg hW
      obtain rfl | rfl | rfl : i = 0 ∨ i = 1 ∨ i = 2 := by omega
      · have z4 := s4.frozen 4
        have z5 := s4.frozen 5
        have z6 := s4.frozen 6
        have m4 := s4.c4
        have m5 := s4.c5
        have m6 := s4.c6
        go_wp2_with fail
        go_region
        go_wp2_with fail
        go_region
        go_wp2_with fail
        go_ret
        refine ⟨rfl, f4.kept (kept4 S wc _ _ _ _ _ _ _ _) hne, ?_, k4.trans ((kept4 S wc _ _ _ _ _ _ _ _).r2 R)⟩
        first
          | (rw [Int.add_assoc]; exact ((s4.k0 true (en + 3) n).s3 _).drew.drew)
          | (rw [if_pos rfl, Int.natCast_add, Int.natCast_add, Int.add_assoc]; exact ((s4.k0 true (en + 3) n).s3 _).drew.drew)
      · have z4 := s4.frozen 7
        have z5 := s4.frozen 8
        have z6 := s4.frozen 9
        have m4 := s4.c7
        have m5 := s4.c8
        have m6 := s4.c9
        go_wp2_with fail
        go_region
        go_wp2_with fail
        go_region
        go_wp2_with fail
        go_ret
        refine ⟨rfl, f4.kept (kept4 S wc _ _ _ _ _ _ _ _) hne, ?_, k4.trans ((kept4 S wc _ _ _ _ _ _ _ _).r2 R)⟩
        first
          | (rw [Int.add_assoc]; exact ((s4.k1 true (en + 3) n).s3 _).drew.drew)
          | (rw [if_pos rfl, Int.natCast_add, Int.natCast_add, Int.add_assoc]; exact ((s4.k1 true (en + 3) n).s3 _).drew.drew)
      · have z4 := s4.frozen 10
        have z5 := s4.frozen 11
        have z6 := s4.frozen 12
        have m4 := s4.c10
        have m5 := s4.c11
        have m6 := s4.c12
        go_wp2_with fail
        go_region
        go_wp2_with fail
        go_region
        go_wp2_with fail
        go_ret
        refine ⟨rfl, f4.kept (kept4 S wc _ _ _ _ _ _ _ _) hne, ?_, k4.trans ((kept4 S wc _ _ _ _ _ _ _ _).r2 R)⟩
        first
          | (rw [Int.add_assoc]; exact ((s4.k2 true (en + 3) n).s3 _).drew.drew)
          | (rw [if_pos rfl, Int.natCast_add, Int.natCast_add, Int.add_assoc]; exact ((s4.k2 true (en + 3) n).s3 _).drew.drew)
    · clear A D P hq b1 h1 f1 k1 c3 e0 e3 hg hW
      go_wp2_with fail
      go_ret
      exact ⟨rfl, f4, by first | exact s4 | (rw [if_neg (by omega)]; exact s4), k4⟩
end Go.Proofs.Ytcjahdgppnmdkaa
set_option maxRecDepth 100000
namespace Go.Proofs.Ytcjahdgppnmdkaa
open Go.RowKit Go.Great
/-- power is on -/
structure On (σ : St) : Prop where
  len : σ.C.length = 8192
  off : σ.off = false
  jk : σ.jk.size ≤ 4096
theorem stepS_off {σ : St} (h : (stepS σ).2.2 = true) : (stepS σ).1.off = σ.off := by
  unfold stepS at h ⊢
  split at h
  · cases h
  · rename_i hc; rw [if_neg hc]
theorem progB_off {σ : St} {a : Nat} {b : UInt8} (h : (progB σ a b).2 = true) : (progB σ a b).1.off = σ.off := by
  unfold progB at h ⊢
  by_cases hc : (stepS σ).2.2 = true
  · rw [if_pos hc]; exact stepS_off hc
  · rw [if_neg hc] at h; cases h
theorem progB_len (σ : St) (a : Nat) (b : UInt8) : (progB σ a b).1.C.length = σ.C.length := by
  unfold progB; split
  · show (List.set _ _ _).length = _; rw [List.length_set, stepS_C]
  · show (List.set _ _ _).length = _; rw [List.length_set, stepS_C]
theorem progS_len (d : List UInt8) : ∀ (σ : St) (a : Nat), (progS σ a d).1.C.length = σ.C.length := by
  induction d with
  | nil => intro σ a; rfl
  | cons b t ih =>
    intro σ a
    rw [progS]; split
    · rw [ih, progB_len]
    · exact progB_len _ _ _
theorem progS_jk (d : List UInt8) : ∀ (σ : St) (a : Nat), σ.jk.size ≤ 4096 → (progS σ a d).1.jk.size ≤ 4096 := by
  induction d with
  | nil => intro σ a h; exact h
  | cons b t ih =>
    intro σ a h
    rw [progS]; split
    · exact ih _ _ (progB_jk σ a b h)
    · exact progB_jk σ a b h
theorem progS_on (d : List UInt8) : ∀ (σ : St) (a : Nat), On σ → (progS σ a d).2 = true → On (progS σ a d).1 := by
  induction d with
  | nil => intro σ a h _; exact h
  | cons b t ih =>
    intro σ a h h2
    rw [progS] at h2 ⊢
    by_cases hc : (progB σ a b).2 = true
    · rw [if_pos hc] at h2 ⊢
      exact ih _ _ ⟨by rw [progB_len, h.len], by rw [progB_off hc, h.off], progB_jk σ a b h.jk⟩ h2
    · rw [if_neg hc] at h2; cases h2
theorem eraseS_len (σ : St) (s : Nat) : (eraseS σ s).1.C.length = σ.C.length := by
  unfold eraseS; split
  · simp only [onL_length, stepS_C]
  · simp only [onL_length, stepS_C]
theorem eraseS_jk (σ : St) (s : Nat) (h : σ.jk.size ≤ 4096) : (eraseS σ s).1.jk.size ≤ 4096 := by
  unfold eraseS; split
  · exact (stepS_jk σ h).2
  · exact (stepS_jk σ h).2
theorem eraseS_on {σ : St} {s : Nat} (h : On σ) (h2 : (eraseS σ s).2 = true) : On (eraseS σ s).1 := by
  refine ⟨by rw [eraseS_len, h.len], ?_, eraseS_jk σ s h.jk⟩
  unfold eraseS at h2 ⊢
  by_cases hc : (stepS σ).2.2 = true
  · rw [if_pos hc]
    show (stepS σ).1.off = false
    rw [stepS_off hc, h.off]
  · rw [if_neg hc] at h2; cases h2
theorem add_any (w : World) (S R : Nat) (σ : St) (ho : On σ) (ac : Nat) (tu : Int) (en : Nat) (k : Kp) (i : Nat) (t : ByteArray)
    (hF : Fl w R σ) (h : So w S (fp R) ac tu en k) (hac : ac < 2) (hi : i < 3) (ht : t.size ≤ 2000) (he : en + 4 + t.size ≤ 4096) :
    Calls Try.prog 75 #[fp S, .int .i64 (i : Int), .string t] w fun e w' => e = .returned (.int .i64 (if (addS ac i t.data.toList ⟨σ, en, k⟩).2 then 0 else 60)) ∧ Fl w' R (addS ac i t.data.toList ⟨σ, en, k⟩).1.σ ∧ So w' S (fp R) ac tu (addS ac i t.data.toList ⟨σ, en, k⟩).1.en (addS ac i t.data.toList ⟨σ, en, k⟩).1.k ∧ Kep2 R S w w' := by
  have A : ∀ wx, Fl wx R σ → Calls Try.prog 96 #[fp R, .int .i64 ((ac * 4096 + en : Nat) : Int), .string (bs (recB i t.data.toList))] wx fun e w' => e = .returned (.int .i64 (if (progS σ (ac * 4096 + en) (recB i t.data.toList)).2 then 0 else 60)) ∧ Fl w' R (progS σ (ac * 4096 + en) (recB i t.data.toList)).1 ∧ Kept R wx w' := fun wx hx => by
    have := prog_in wx R σ hx ho.jk ho.off (ac * 4096 + en) (bs (recB i t.data.toList)) (by rw [bs_size, recB_length, list_size]; omega)
    rw [bs_list] at this
    exact this
  have C := add_core w S R σ _ _ ac tu en k i t t.size (ac * 4096 + en) _ hF h hac hi rfl (by omega) (hide rfl) (fun wx => recOf_any wx i t ht) A (by
    cases (progS σ (ac * 4096 + en) (recB i t.data.toList)).2
    · exact .inr rfl
    · exact .inl ⟨rfl, he⟩)
  refine C.mono ?_
  rintro e w1 ⟨rfl, f1, s1, k1⟩
  unfold addS
  cases hb : (progS σ (ac * 4096 + en) (recB i t.data.toList)).2
  · rw [hb, if_neg (by simp)] at s1
    exact ⟨rfl, f1, s1, k1⟩
  · rw [hb, if_pos (by simp)] at s1
    simp only [if_true]
    rw [list_size]
    exact ⟨trivial, f1, s1, k1⟩
/-- the closure of move -/
theorem put1_any (w : World) (B S R : Nat) (hB : w.heap[B]? = some (.cells #[fp S] 24 (0, 0))) (σ : St) (ho : On σ) (ac : Nat) (tu : Int) (en : Nat) (k : Kp) (i : Nat) (t : ByteArray)
    (hF : Fl w R σ) (h : So w S (fp R) ac tu en k) (hac : ac < 2) (hi : i < 3) (ht : t.size ≤ 2000) (he : en + 4 + t.size ≤ 4096) :
    Calls Try.prog 100 #[.int .i64 (i : Int), .string t, fp B] w fun e w' => e = .returned (.int .i64 (if (addS ac i t.data.toList ⟨σ, en, k⟩).2 then 0 else 60)) ∧ Fl w' R (addS ac i t.data.toList ⟨σ, en, k⟩).1.σ ∧ So w' S (fp R) ac tu (addS ac i t.data.toList ⟨σ, en, k⟩).1.en (addS ac i t.data.toList ⟨σ, en, k⟩).1.k ∧ Kep2 R S w w' := by
  have A := add_any w S R σ ho ac tu en k i t hF h hac hi ht he
  have cB := cell_of_one hB
  obtain ⟨⟨m, ok⟩, hm⟩ : ∃ x, addS ac i t.data.toList ⟨σ, en, k⟩ = x := ⟨_, rfl⟩
  rw [hm] at A ⊢
  clear hm
  simp only at A ⊢
  obtain ⟨v, hv⟩ : ∃ v : Int, (if ok then 0 else 60) = v := ⟨_, rfl⟩
  rw [hv] at A ⊢
  clear hv
  go_enter Try.func100, Try.ntmps100
  go_wp2_with fail
  refine A.mono ?_
  rintro e w1 ⟨rfl, f1, s1, k1⟩
  go_wp2_with fail
  go_ret
  exact ⟨rfl, f1, s1, k1⟩
end Go.Proofs.Ytcjahdgppnmdkaa
set_option maxRecDepth 100000
namespace Go.Proofs.Ytcjahdgppnmdkaa
open Go.RowKit Go.Great
def szM (k : Kp) (id : Int) (vl i : Nat) : Nat := if (i : Int) = id then 4 + vl else szK k i
def restM (k : Kp) (id : Int) (vl : Nat) : Nat → Nat → Nat
  | _, 0 => 0
  | i, n + 1 => szM k id vl i + restM k id vl (i + 1) n
theorem txt_len (C : List UInt8) (hC : C.length = 8192) (ac : Nat) (hac : ac < 2) (s : Sg) (hs : s.lo + s.n ≤ 4096) : (txt C ac s).length = s.n := by
  unfold txt; rw [List.length_take, List.length_drop]; omega
theorem addS_ok {s i : Nat} {t : List UInt8} {m : Mv} (ho : On m.σ) (h : (addS s i t m).2 = true) : On (addS s i t m).1.σ ∧ (addS s i t m).1.en = m.en + 4 + t.length := by
  unfold addS at h ⊢
  by_cases hc : (progS m.σ (s * 4096 + m.en) (recB i t)).2 = true
  · rw [if_pos hc]; exact ⟨progS_on _ _ _ ho hc, rfl⟩
  · rw [if_neg hc] at h; cases h
structure EachMid (w : World) (B N S R : Nat) (ac : Nat) (tu tn : Int) (en : Int) (k : Kp) (m : Mv) (wr : World) : Prop where
  on : On m.σ
  f : Fl wr R m.σ
  n : So wr N (fp R) ((1 - ac : Nat) : Int) tn m.en m.k
  s : So wr S (fp R) ac tu en k
  b : wr.heap[B]? = some (.cells #[fp N] 24 (0, 0))
  k : Kep2 R N w wr
theorem EachMid.below {w : World} {B N S R : Nat} {ac : Nat} {tu tn : Int} {en : Int} {k : Kp} {m : Mv} {wr w1 : World} (h : EachMid w B N S R ac tu tn en k m wr) (hb : Below wr.heap.size wr w1) : EachMid w B N S R ac tu tn en k m w1 :=
  ⟨h.on, h.f.below hb, h.n.below hb, h.s.below hb, by rw [hb.block B (lt_of_block h.b)]; exact h.b, h.k.below hb⟩
/-- behind an add -/
theorem EachMid.add {w : World} {B N S R : Nat} {ac : Nat} {tu tn : Int} {en : Int} {k : Kp} {m m' : Mv} {wr w1 : World} (h : EachMid w B N S R ac tu tn en k m wr) (hNS : N ≠ S) (on : On m'.σ) (f : Fl w1 R m'.σ) (n : So w1 N (fp R) ((1 - ac : Nat) : Int) tn m'.en m'.k) (kk : Kep2 R N wr w1) : EachMid w B N S R ac tu tn en k m' w1 := by
  have h1 := h.f.ne h.s
  have h2 := box_ne h.n h.b
  have h3 : B ≠ R := by
    intro e
    subst e
    have := h.b.symm.trans h.f.blk
    simp [flRow, bytesV] at this
  exact ⟨on, f, n, h.s.kep2 kk (Ne.symm h1) (Ne.symm hNS), kk.other h.b h3 h2, h.k.trans kk⟩
set_option maxHeartbeats 4000000 in
set_option maxRecDepth 100000 in
theorem each_any (w : World) (B N S R : Nat) (ac : Nat) (hac : ac < 2) (tu tn en : Int) (k : Kp) (hk : KOk k 4096) (m0 : Mv) (hM : EachMid w B N S R ac tu tn en k m0 w) (hNS : N ≠ S) (id : Int) (tv : ByteArray) (htv : tv.size ≤ 2000) (hfit : m0.en + restM k id tv.size 0 3 ≤ 4096) :
    Calls Try.prog 99 #[fp S, .int .i64 id, .string tv, .func (.func 100) #[] #[fp B]] w fun e w' => e = .returned (.int .i64 (if (eachS ac k id tv.data.toList 0 3 m0).2 then 0 else 60)) ∧ Fl w' R (eachS ac k id tv.data.toList 0 3 m0).1.σ ∧ So w' N (fp R) ((1 - ac : Nat) : Int) tn (eachS ac k id tv.data.toList 0 3 m0).1.en (eachS ac k id tv.data.toList 0 3 m0).1.k ∧ Kep2 R N w w' := by
  have c4 := hM.s.c4
  have c5 := hM.s.c5
  have c6 := hM.s.c6
  have c7 := hM.s.c7
  have c8 := hM.s.c8
  have c9 := hM.s.c9
  have c10 := hM.s.c10
  have c11 := hM.s.c11
  have c12 := hM.s.c12
  have x0 := ix3_0
  have x1 := ix3_1
  have x2 := ix3_2
  obtain ⟨⟨M, ok⟩, hr⟩ : ∃ x, Hid (eachS ac k id tv.data.toList 0 3 m0 = x) := ⟨_, hide rfl⟩
  rw [hr.out]
  simp only
  obtain ⟨v, hv⟩ : ∃ v : Int, Hid ((if ok then 0 else 60) = v) := ⟨_, hide rfl⟩
  rw [show (if ok = true then (0 : Int) else 60) = v from hv.out]
  have HM := hide hM
  have HFIT := hide hfit
  have HK := hide hk
  have HTV := hide htv
  clear hM hfit hk htv
  go_enter Try.func99, Try.ntmps99
  go_wp2_with fail
  clear c4 c5 c6 c7 c8 c9 c10 c11 c12
  go_loopw [19] (fun v wr => ∃ (i : Nat) (m : Mv), v = .int .i64 (i : Int) ∧ i ≤ 3 ∧ Hid (EachMid w B N S R ac tu tn en k m wr) ∧ Hid (m.en + restM k id tv.size i (3 - i) ≤ 4096) ∧ Hid ((M, ok) = eachS ac k id tv.data.toList i (3 - i) m)) (fun v _ => 3 - (intOf v).toNat)
  case atStart => exact ⟨0, m0, rfl, by omega, HM, HFIT, hide hr.out.symm⟩
  case round =>
    obtain ⟨i, m, rfl, hi, hE, hfit, hrun⟩ := hrel
    clear HM HFIT hr
    by_cases h3 : i = 3
    · subst h3
      have e1 := hrun.out
      rw [show (3 - 3 : Nat) = 0 from rfl, eachS] at e1
      have E1 := hide e1
      clear e1 hrun
      go_wp2_with fail
      go_ret
      have := E1.out
      injection this with e1 e2
      subst e1 e2
      have e3 := hv.out
      subst e3
      exact ⟨rfl, hE.out.f, hE.out.n, hE.out.k⟩
    · obtain ⟨n, hn⟩ : ∃ n, 3 - i = n + 1 := ⟨3 - i - 1, by omega⟩
      have e1 := hrun.out
      have e2 := hfit.out
      rw [hn, eachS] at e1
      rw [hn, restM] at e2
      have hn' : n = 3 - (i + 1) := by omega
      subst hn'
      have hon := hE.out.on
      have hkb : ∀ o, Hid (EachMid w B N S R ac tu tn en k m (wr.alloc o)) := fun o => hide (hE.out.below (below_alloc _ _))
      have X1 := hide e1
      have X2 := hide e2
      have hi3 : i < 3 := by omega
      clear e1 e2 hn hrun hfit hi
      by_cases hid : (i : Int) = id
      · have es : step1 ac k id tv.data.toList i m = addS (1 - ac) i tv.data.toList m := by
          unfold step1 mvL
          rw [if_pos hid]
        have e1 := X1.out
        rw [es] at e1
        have e2 := X2.out
        rw [szM, if_pos hid] at e2
        have D := fun o => put1_any (wr.alloc o) B N R (hkb o).out.b m.σ hon (1 - ac) tn m.en m.k i tv (hkb o).out.f (hkb o).out.n (by omega) hi3 HTV.out (by omega)
        have hA := @addS_ok (1 - ac) i tv.data.toList m hon
        rw [list_size] at hA
        have hmm : (⟨m.σ, m.en, m.k⟩ : Mv) = m := rfl
        rw [hmm] at D
        obtain ⟨⟨m', ok'⟩, hx⟩ : ∃ x, addS (1 - ac) i tv.data.toList m = x := ⟨_, rfl⟩
        rw [hx] at D e1 hA
        simp only at D e1 hA
        have Y1 := hide e1
        have Y2 := hide e2
        have HA := hide hA
        clear e1 e2 es X1 X2 hx hmm hA hE
        have HI := hide hid
        obtain rfl | rfl | rfl : i = 0 ∨ i = 1 ∨ i = 2 := by omega
        · have hne : ((0 : Int) != id) = false := by simp; exact HI.out
          clear hid
          cases ok'
          · simp only [Bool.false_eq_true, if_false] at D
            go_wp2_with fail
            refine (D _).mono ?_
            rintro e w2 ⟨rfl, f2, n2, k2⟩
            go_wp2_with fail
            go_ret
            have := Y1.out
            simp only [Bool.false_eq_true, if_false] at this
            injection this with e1 e2
            subst e1 e2
            have e3 := hv.out
            subst e3
            exact ⟨rfl, f2, n2, (hkb _).out.k.trans k2⟩
          · simp only [if_true] at D
            go_wp2_with fail
            refine (D _).mono ?_
            rintro e w2 ⟨rfl, f2, n2, k2⟩
            have hE2 := hide ((hkb _).out.add hNS (HA.out trivial).1 f2 n2 k2)
            clear D
            go_wp2_with fail
            go_roundw
            case rel => exact ⟨0 + 1, m', by go_num, by omega, hE2, hide (by have := (HA.out trivial).2; have := Y2.out; omega), hide (by have := Y1.out; simpa using this)⟩
            case measure => simp [intOf]
        · have hne : ((1 : Int) != id) = false := by simp; exact HI.out
          clear hid
          cases ok'
          · simp only [Bool.false_eq_true, if_false] at D
            go_wp2_with fail
            refine (D _).mono ?_
            rintro e w2 ⟨rfl, f2, n2, k2⟩
            go_wp2_with fail
            go_ret
            have := Y1.out
            simp only [Bool.false_eq_true, if_false] at this
            injection this with e1 e2
            subst e1 e2
            have e3 := hv.out
            subst e3
            exact ⟨rfl, f2, n2, (hkb _).out.k.trans k2⟩
          · simp only [if_true] at D
            go_wp2_with fail
            refine (D _).mono ?_
            rintro e w2 ⟨rfl, f2, n2, k2⟩
            have hE2 := hide ((hkb _).out.add hNS (HA.out trivial).1 f2 n2 k2)
            clear D
            go_wp2_with fail
            go_roundw
            case rel => exact ⟨1 + 1, m', by go_num, by omega, hE2, hide (by have := (HA.out trivial).2; have := Y2.out; omega), hide (by have := Y1.out; simpa using this)⟩
            case measure => simp [intOf]
        · have hne : ((2 : Int) != id) = false := by simp; exact HI.out
          clear hid
          cases ok'
          · simp only [Bool.false_eq_true, if_false] at D
            go_wp2_with fail
            refine (D _).mono ?_
            rintro e w2 ⟨rfl, f2, n2, k2⟩
            go_wp2_with fail
            go_ret
            have := Y1.out
            simp only [Bool.false_eq_true, if_false] at this
            injection this with e1 e2
            subst e1 e2
            have e3 := hv.out
            subst e3
            exact ⟨rfl, f2, n2, (hkb _).out.k.trans k2⟩
          · simp only [if_true] at D
            go_wp2_with fail
            refine (D _).mono ?_
            rintro e w2 ⟨rfl, f2, n2, k2⟩
            have hE2 := hide ((hkb _).out.add hNS (HA.out trivial).1 f2 n2 k2)
            clear D
            go_wp2_with fail
            go_roundw
            case rel => exact ⟨2 + 1, m', by go_num, by omega, hE2, hide (by have := (HA.out trivial).2; have := Y2.out; omega), hide (by have := Y1.out; simpa using this)⟩
            case measure => simp [intOf]
      · cases hth : (k i).th
        · have es : step1 ac k id tv.data.toList i m = (m, true) := by
            unfold step1 mvL
            rw [if_neg hid, if_neg (by rw [hth]; simp)]
          have e1 := X1.out
          rw [es] at e1
          simp only [if_true] at e1
          have e2 := X2.out
          rw [szM, if_neg hid, szK, if_neg (by rw [hth]; simp), Nat.zero_add] at e2
          have Y1 := hide e1
          have Y2 := hide e2
          clear e1 e2 es X1 X2 hE
          have HI := hide hid
          obtain rfl | rfl | rfl : i = 0 ∨ i = 1 ∨ i = 2 := by omega
          · have hne : ((0 : Int) != id) = true := by simp; exact HI.out
            clear hid
            go_wp2_with fail
            go_roundw
            case rel => exact ⟨1, m, by go_num, by omega, hkb _, Y2, Y1⟩
            case measure => simp [intOf]
          · have hne : ((1 : Int) != id) = true := by simp; exact HI.out
            clear hid
            go_wp2_with fail
            go_roundw
            case rel => exact ⟨2, m, by go_num, by omega, hkb _, Y2, Y1⟩
            case measure => simp [intOf]
          · have hne : ((2 : Int) != id) = true := by simp; exact HI.out
            clear hid
            go_wp2_with fail
            go_roundw
            case rel => exact ⟨3, m, by go_num, by omega, hkb _, Y2, Y1⟩
            case measure => simp [intOf]
        · have hkk := HK.out.1 i hth
          have hlo : (k i).lo + (k i).n ≤ 4096 := by omega
          have htl := txt_len m.σ.C hon.len ac hac (k i) hlo
          obtain ⟨l, hl⟩ : ∃ l, txt m.σ.C ac (k i) = l := ⟨_, rfl⟩
          have es : step1 ac k id tv.data.toList i m = addS (1 - ac) i l m := by
            unfold step1 mvL
            rw [if_neg hid, if_pos hth, hl]
          have e1 := X1.out
          rw [es] at e1
          have e2 := X2.out
          rw [szM, if_neg hid, szK, if_pos hth] at e2
          have RD := fun o => read_st (wr.alloc o) S R m.σ (hkb o).out.f hon.off ac tu en k (hkb o).out.s hac i hi3 hlo
          rw [hl] at htl
          simp only [hl] at RD
          have D : ∀ w1, EachMid w B N S R ac tu tn en k m w1 → _ := fun w1 h1 => put1_any w1 B N R h1.b m.σ hon (1 - ac) tn m.en m.k i (bs l) h1.f h1.n (by omega) hi3 (by rw [bs_size]; omega) (by rw [bs_size]; omega)
          have hA := @addS_ok (1 - ac) i l m hon
          rw [htl] at hA
          have hmm : (⟨m.σ, m.en, m.k⟩ : Mv) = m := rfl
          simp only [hmm, bs_list] at D
          obtain ⟨⟨m', ok'⟩, hx⟩ : ∃ x, addS (1 - ac) i l m = x := ⟨_, rfl⟩
          simp only [hx] at D
          rw [hx] at e1 hA
          simp only at e1 hA
          have Y1 := hide e1
          have Y2 := hide e2
          have HA := hide hA
          obtain ⟨t, ht⟩ : ∃ t, bs l = t := ⟨_, rfl⟩
          simp only [ht] at D RD
          have HTH := hide hth
          clear e1 e2 es X1 X2 hx hmm hA hE hl htl hkk hlo ht hth
          have HI := hide hid
          obtain rfl | rfl | rfl : i = 0 ∨ i = 1 ∨ i = 2 := by omega
          · have hne : ((0 : Int) != id) = true := by simp; exact HI.out
            have hth : (k 0).th = true := HTH.out
            clear hid
            cases ok'
            · simp only [Bool.false_eq_true, if_false] at D
              go_wp2_with fail
              refine (RD _).mono ?_
              rintro e w1 ⟨rfl, b1⟩
              have E1 := hide ((hkb _).out.below b1)
              have D1 := D w1 E1.out
              clear RD D hth
              go_wp2_with fail
              refine D1.mono ?_
              rintro e w2 ⟨rfl, f2, n2, k2⟩
              clear D1
              go_wp2_with fail
              go_ret
              have := Y1.out
              simp only [Bool.false_eq_true, if_false] at this
              injection this with e1 e2
              subst e1 e2
              have e3 := hv.out
              subst e3
              exact ⟨rfl, f2, n2, E1.out.k.trans k2⟩
            · simp only [if_true] at D
              go_wp2_with fail
              refine (RD _).mono ?_
              rintro e w1 ⟨rfl, b1⟩
              have E1 := hide ((hkb _).out.below b1)
              have D1 := D w1 E1.out
              clear RD D hth
              go_wp2_with fail
              refine D1.mono ?_
              rintro e w2 ⟨rfl, f2, n2, k2⟩
              have hE2 := hide (E1.out.add hNS (HA.out trivial).1 f2 n2 k2)
              clear D1
              go_wp2_with fail
              go_roundw
              case rel =>
                refine ⟨_, _, _, _, _, _, _, _, _, _, _, _, _, _, _, _, _, _, _, _, _, _, _, _, _, _, _, _, _, _, _, _, _, _, _, _, _, _, _, _, _, ?_, by rw [HTH.out]⟩
                exact ⟨0 + 1, m', by go_num, by omega, hE2, hide (by have := (HA.out trivial).2; have := Y2.out; omega), hide (by have := Y1.out; simpa using this)⟩
              case measure => simp [intOf]
          · have hne : ((1 : Int) != id) = true := by simp; exact HI.out
            have hth : (k 1).th = true := HTH.out
            clear hid
            cases ok'
            · simp only [Bool.false_eq_true, if_false] at D
              go_wp2_with fail
              refine (RD _).mono ?_
              rintro e w1 ⟨rfl, b1⟩
              have E1 := hide ((hkb _).out.below b1)
              have D1 := D w1 E1.out
              clear RD D hth
              go_wp2_with fail
              refine D1.mono ?_
              rintro e w2 ⟨rfl, f2, n2, k2⟩
              clear D1
              go_wp2_with fail
              go_ret
              have := Y1.out
              simp only [Bool.false_eq_true, if_false] at this
              injection this with e1 e2
              subst e1 e2
              have e3 := hv.out
              subst e3
              exact ⟨rfl, f2, n2, E1.out.k.trans k2⟩
            · simp only [if_true] at D
              go_wp2_with fail
              refine (RD _).mono ?_
              rintro e w1 ⟨rfl, b1⟩
              have E1 := hide ((hkb _).out.below b1)
              have D1 := D w1 E1.out
              clear RD D hth
              go_wp2_with fail
              refine D1.mono ?_
              rintro e w2 ⟨rfl, f2, n2, k2⟩
              have hE2 := hide (E1.out.add hNS (HA.out trivial).1 f2 n2 k2)
              clear D1
              go_wp2_with fail
              go_roundw
              case rel =>
                refine ⟨_, _, _, _, _, _, _, _, _, _, _, _, _, _, _, _, _, _, _, _, _, _, _, _, _, _, _, _, _, _, _, _, _, _, _, _, _, _, _, _, _, ?_, by rw [HTH.out]⟩
                exact ⟨1 + 1, m', by go_num, by omega, hE2, hide (by have := (HA.out trivial).2; have := Y2.out; omega), hide (by have := Y1.out; simpa using this)⟩
              case measure => simp [intOf]
          · have hne : ((2 : Int) != id) = true := by simp; exact HI.out
            have hth : (k 2).th = true := HTH.out
            clear hid
            cases ok'
            · simp only [Bool.false_eq_true, if_false] at D
              go_wp2_with fail
              refine (RD _).mono ?_
              rintro e w1 ⟨rfl, b1⟩
              have E1 := hide ((hkb _).out.below b1)
              have D1 := D w1 E1.out
              clear RD D hth
              go_wp2_with fail
              refine D1.mono ?_
              rintro e w2 ⟨rfl, f2, n2, k2⟩
              clear D1
              go_wp2_with fail
              go_ret
              have := Y1.out
              simp only [Bool.false_eq_true, if_false] at this
              injection this with e1 e2
              subst e1 e2
              have e3 := hv.out
              subst e3
              exact ⟨rfl, f2, n2, E1.out.k.trans k2⟩
            · simp only [if_true] at D
              go_wp2_with fail
              refine (RD _).mono ?_
              rintro e w1 ⟨rfl, b1⟩
              have E1 := hide ((hkb _).out.below b1)
              have D1 := D w1 E1.out
              clear RD D hth
              go_wp2_with fail
              refine D1.mono ?_
              rintro e w2 ⟨rfl, f2, n2, k2⟩
              have hE2 := hide (E1.out.add hNS (HA.out trivial).1 f2 n2 k2)
              clear D1
              go_wp2_with fail
              go_roundw
              case rel =>
                refine ⟨_, _, _, _, _, _, _, _, _, _, _, _, _, _, _, _, _, _, _, _, _, _, _, _, _, _, _, _, _, _, _, _, _, _, _, _, _, _, _, _, _, ?_, by rw [HTH.out]⟩
                exact ⟨2 + 1, m', by go_num, by omega, hE2, hide (by have := (HA.out trivial).2; have := Y2.out; omega), hide (by have := Y1.out; simpa using this)⟩
              case measure => simp [intOf]
end Go.Proofs.Ytcjahdgppnmdkaa
set_option maxRecDepth 100000
namespace Go.Proofs.Ytcjahdgppnmdkaa
open Go.RowKit Go.Great
theorem conv1 (w : World) (c : UInt8) : (convert 93 9 (.slice (some ⟨w.heap.size, 0, none⟩) 1 1)).run Try.prog (w.alloc (.cells #[.int .u8 (c.toNat : Int)] 5)) = .ok (.string (bs [c])) (w.alloc (.cells #[.int .u8 (c.toNat : Int)] 5)) := by
  refine run_convert_bytes_back _ 93 9 5 ⟨w.heap.size, 0, none⟩ 1 [c] (by kernel_rfl) (by kernel_rfl) (by kernel_rfl) ?_
  intro j hj
  have : j = 0 := by simpa using hj
  subst this
  rw [Addr.add0, World.cell?_alloc_new]
  rfl
theorem codes_at (w : World) (t : Nat) (ht : t < 3) (X : Nat) (hX : w.heap.size = X) : Calls Try.prog 103 #[] w fun e w' => e = .returned (.slice (some ⟨X, 0, none⟩) 3 3) ∧ w'.cell? ⟨X, t, none⟩ = some (.int .u8 ((codeN t).toNat : Int)) ∧ Below w.heap.size w w' := by
  subst hX
  refine (codes_any w).mono ?_
  rintro e w1 ⟨rfl, rfl⟩
  refine ⟨rfl, ?_, below_alloc _ _⟩
  rw [World.cell?_alloc_new]
  obtain rfl | rfl | rfl : t = 0 ∨ t = 1 ∨ t = 2 := by omega
  all_goals rfl
set_option maxHeartbeats 2000000 in
theorem sign_any (w : World) (S R : Nat) (σ : St) (ho : On σ) (ac tu : Nat) (en : Int) (k : Kp) (hF : Fl w R σ) (h : So w S (fp R) ac tu en k) (hac : ac < 2) (htu : tu < 3) :
    Calls Try.prog 101 #[fp S] w fun e w' => e = .returned (.int .i64 (if (progS σ (ac * 4096) [codeN tu]).2 then 0 else 60)) ∧ Fl w' R (progS σ (ac * 4096) [codeN tu]).1 ∧ Kept R w w' := by
  have A : ∀ wx, Fl wx R σ → Calls Try.prog 96 #[fp R, .int .i64 ((ac * 4096 : Nat) : Int), .string (bs [codeN tu])] wx fun e w' => e = .returned (.int .i64 (if (progS σ (ac * 4096) [codeN tu]).2 then 0 else 60)) ∧ Fl w' R (progS σ (ac * 4096) [codeN tu]).1 ∧ Kept R wx w' := fun wx hx => by
    have := prog_in wx R σ hx ho.jk ho.off (ac * 4096) (bs [codeN tu]) (by rw [bs_size]; show ac * 4096 + 1 ≤ _; omega)
    rw [bs_list] at this
    exact this
  obtain ⟨⟨τ, ok⟩, hm⟩ : ∃ x, progS σ (ac * 4096) [codeN tu] = x := ⟨_, rfl⟩
  rw [hm] at A ⊢
  simp only at A ⊢
  obtain ⟨v, hv⟩ : ∃ v : Int, (if ok then 0 else 60) = v := ⟨_, rfl⟩
  rw [hv] at A ⊢
  obtain ⟨q, hq⟩ : ∃ q, ac * 4096 = q := ⟨_, rfl⟩
  have P : Calls Try.prog 77 #[fp S, .int .i64 0] w.drew fun e w' => e = .returned (.int .i64 (q : Int)) ∧ w' = w.drew := by
    have := place_any w.drew S (fp R) ac 0 tu en k h.drew hac (by omega)
    rw [Nat.add_zero, hq] at this
    exact this
  obtain ⟨X, hX⟩ : ∃ X, Hid (w.heap.size = X) := ⟨_, hide rfl⟩
  have D := codes_at w.drew tu htu X hX.out
  obtain ⟨c, hc⟩ : ∃ c, codeN tu = c := ⟨_, rfl⟩
  rw [hc] at A D
  rw [hq] at A
  clear hm hv hq hc
  have c0 := h.drew.c0
  have c2 := h.drew.c2
  have htu' : (tu : Int) < 3 := by omega
  have HS := hide h
  have HF := hide hF
  clear h hF
  go_enter Try.func101, Try.ntmps101
  go_wp2_with fail
  go_region_with (first
      | (go_at_call 77; refine P.mono ?_; rintro e w2 ⟨rfl, hw⟩; obtain rfl := hw.symm; clear hw)
      | (go_at_call 103; refine D.mono ?_; rintro e w3 ⟨rfl, d3, b3⟩; have i0 := (HS.out.drew.below b3).c0; have i2 := (HS.out.drew.below b3).c2; have hcv := conv1 w3 c; have b4 := below_alloc w3 (.cells #[.int .u8 (c.toNat : Int)] 5); have j0 := ((HS.out.drew.below b3).below b4).c0; have f4 := (HF.out.drew.below b3).below b4; have k4 := (((Kept.refl R w).drew).below b3).below b4)
      | (go_at_call 96; refine (A _ f4).mono ?_; rintro e w5 ⟨rfl, f5, k5⟩))
  all_goals
    go_wp2_with fail
    go_ret
    exact ⟨rfl, f5, k4.trans k5⟩
end Go.Proofs.Ytcjahdgppnmdkaa
set_option maxRecDepth 100000
namespace Go.Proofs.Ytcjahdgppnmdkaa
open Go.RowKit Go.Great
theorem Kept.drew1 {R : Nat} {w w1 : World} (h : Kept R w.drew w1) : Kept R w w1 := Kept.trans (Kept.drew (Kept.refl R w)) h
theorem Kep2.over {R S N : Nat} {w wc w4 : World} (h : Kep2 R S w wc) (g : Kep2 R N wc w4) (hN : w.heap.size ≤ N) : Kep2 R S w w4 :=
  ⟨g.os.trans h.os, g.tape.trans h.tape, g.output.trans h.output, Nat.le_trans h.size g.size, fun k hk h1 h2 => (g.block k (Nat.lt_of_lt_of_le hk h.size) h1 (by omega)).trans (h.block k hk h1 h2)⟩
/-- what a step leaves of a flash and its store -/
def StEnd (x : St × Option Sv) (s : Sv) (S R : Nat) (w : World) (e : Ending) (w' : World) : Prop :=
  ∃ (ok : Bool) (τ : St) (s' : Sv), e = .returned (.int .i64 (if ok then 0 else 60)) ∧ x = (τ, if ok then some s' else none) ∧ Fl w' R τ ∧ (if ok then So w' S (fp R) s'.ac s'.tu s'.en s'.k else So w' S (fp R) s.ac s.tu s.en s.k) ∧ Kep2 R S w w'
structure NextMid (w : World) (R : Nat) (ac tu : Nat) (v : Value) (wx : World) (B N : Nat) : Prop where
  v : v = fp B
  b : wx.heap[B]? = some (.cells #[fp N] 24 (0, 0))
  n : So wx N (fp R) ((1 - ac : Nat) : Int) ((folN tu : Nat) : Int) 1 kz
  g : w.heap.size ≤ N
  l : Below w.heap.size w wx
theorem so_new (w : World) (p : Value) (ac tu : Int) : So (w.alloc (.cells #[p, .int .i64 ac, .int .i64 tu, .int .i64 1, .bool false, .int .i64 0, .int .i64 0, .bool false, .int .i64 0, .int .i64 0, .bool false, .int .i64 0, .int .i64 0] 108)) w.heap.size p ac tu 1 kz := ⟨heap_alloc_new _ _⟩
theorem box_pre {w wx w2 : World} {o : Obj} (b2 : Below wx.heap.size wx w2) (hx : wx.heap = (w.alloc o).heap) : w2.heap[w.heap.size]? = some o := by
  have h1 : wx.heap[w.heap.size]? = some o := by rw [hx]; exact heap_alloc_new _ _
  rw [b2.block _ (lt_of_block h1), h1]
theorem sz1 (w : World) (o : Obj) : (w.alloc o).heap.size = w.heap.size + 1 := Array.size_push _
theorem next_a {w w2 : World} {R ac tu sp fo : Nat} (h1 : 1 - ac = sp) (h2 : folN tu = fo) (KB : Below w.heap.size w w2) : NextMid w R ac tu (fp (w2.heap.size + 1)) ((w2.alloc (.cells #[fp R, .int .i64 (sp : Int), .int .i64 (fo : Int), .int .i64 1, .bool false, .int .i64 0, .int .i64 0, .bool false, .int .i64 0, .int .i64 0, .bool false, .int .i64 0, .int .i64 0] 108)).alloc (.cells #[fp w2.heap.size] 24)) (w2.heap.size + 1) w2.heap.size := by
  subst h1 h2
  refine ⟨rfl, ?_, (so_new w2 _ _ _).below (below_alloc _ _), KB.size, (KB.alloc KB.size _).alloc (Nat.le_trans KB.size (below_alloc _ _).size) _⟩
  rw [← sz1 w2 (.cells #[fp R, .int .i64 ((1 - ac : Nat) : Int), .int .i64 ((folN tu : Nat) : Int), .int .i64 1, .bool false, .int .i64 0, .int .i64 0, .bool false, .int .i64 0, .int .i64 0, .bool false, .int .i64 0, .int .i64 0] 108)]
  exact heap_alloc_new _ _
theorem next_b {w w2 : World} {R ac tu sp fo : Nat} (h1 : 1 - ac = sp) (h2 : folN tu = fo) (KB : Below w.heap.size w w2) : NextMid w R ac tu (fp w2.heap.size) ((w2.alloc (.cells #[fp (w2.heap.size + 1)] 24)).alloc (.cells #[fp R, .int .i64 (sp : Int), .int .i64 (fo : Int), .int .i64 1, .bool false, .int .i64 0, .int .i64 0, .bool false, .int .i64 0, .int .i64 0, .bool false, .int .i64 0, .int .i64 0] 108)) w2.heap.size (w2.heap.size + 1) := by
  subst h1 h2
  refine ⟨rfl, ?_, ?_, Nat.le_trans KB.size (Nat.le_succ _), (KB.alloc KB.size _).alloc (Nat.le_trans KB.size (below_alloc _ _).size) _⟩
  · rw [(below_alloc _ _).block _ (by rw [sz1]; omega)]
    exact heap_alloc_new _ _
  · have := so_new (w2.alloc (.cells #[fp (w2.heap.size + 1)] 24)) (fp R) ((1 - ac : Nat) : Int) ((folN tu : Nat) : Int)
    rw [sz1] at this
    exact this
theorem next_c {w w2 : World} {R ac tu sp fo : Nat} (h1 : 1 - ac = sp) (h2 : folN tu = fo) (KB : Below w.heap.size w w2) (z2 : w2.heap[w.heap.size]? = some (.cells #[.pointer none] 24 (0, 0))) : NextMid w R ac tu (fp w.heap.size) ((w2.setCell ⟨w.heap.size, 0, none⟩ (fp w2.heap.size)).alloc (.cells #[fp R, .int .i64 (sp : Int), .int .i64 (fo : Int), .int .i64 1, .bool false, .int .i64 0, .int .i64 0, .bool false, .int .i64 0, .int .i64 0, .bool false, .int .i64 0, .int .i64 0] 108)) w.heap.size w2.heap.size := by
  subst h1 h2
  have hz : (w2.setCell ⟨w.heap.size, 0, none⟩ (fp w2.heap.size)).heap.size = w2.heap.size := by simp [World.setCell]
  have hb : Below w.heap.size w (w2.setCell ⟨w.heap.size, 0, none⟩ (fp w2.heap.size)) := KB.setCell (p := ⟨w.heap.size, 0, none⟩) (Nat.le_refl _) _
  refine ⟨rfl, ?_, ?_, KB.size, hb.alloc hb.size _⟩
  · rw [(below_alloc _ _).block _ (by rw [hz]; exact lt_of_block z2)]
    have h1 : w2.heap[w.heap.size]? = some (.cells [Value.pointer none].toArray 24 (0, 0)) := z2
    rw [set_list h1]
    rfl
  · have := so_new (w2.setCell ⟨w.heap.size, 0, none⟩ (fp w2.heap.size)) (fp R) ((1 - ac : Nat) : Int) ((folN tu : Nat) : Int)
    rw [hz] at this
    exact this
theorem eachS_on (ac : Nat) (k : Kp) (id : Int) (v : List UInt8) : ∀ (n i : Nat) (m : Mv), On m.σ → (eachS ac k id v i n m).2 = true → On (eachS ac k id v i n m).1.σ := by
  intro n
  induction n with
  | zero => intro i m h _; exact h
  | succ n ih =>
    intro i m h h2
    rw [eachS] at h2 ⊢
    by_cases hc : (step1 ac k id v i m).2 = true
    · rw [if_pos hc] at h2 ⊢
      refine ih _ _ ?_ h2
      unfold step1 at hc ⊢
      split
      · exact h
      · rename_i t heq
        rw [heq] at hc
        exact (addS_ok h hc).1
    · rw [if_neg hc] at h2; cases h2
theorem So.all {w : World} {S : Nat} {q : Value} {a t e : Int} {k' : Kp} (h : So w S q a t e k') (p : Value) (ac tu en : Int) (k : Kp) : So (((((((((((((w.setCell ⟨S, 0, none⟩ p).setCell ⟨S, 1, none⟩ (.int .i64 ac)).setCell ⟨S, 2, none⟩ (.int .i64 tu)).setCell ⟨S, 3, none⟩ (.int .i64 en)).setCell ⟨S, 4, none⟩ (.bool (k 0).th)).setCell ⟨S, 5, none⟩ (.int .i64 (k 0).lo)).setCell ⟨S, 6, none⟩ (.int .i64 (k 0).n)).setCell ⟨S, 7, none⟩ (.bool (k 1).th)).setCell ⟨S, 8, none⟩ (.int .i64 (k 1).lo)).setCell ⟨S, 9, none⟩ (.int .i64 (k 1).n)).setCell ⟨S, 10, none⟩ (.bool (k 2).th)).setCell ⟨S, 11, none⟩ (.int .i64 (k 2).lo)).setCell ⟨S, 12, none⟩ (.int .i64 (k 2).n)) S p ac tu en k := by
  refine ⟨?_⟩
  rw [set_list (set_list (set_list (set_list (set_list (set_list (set_list (set_list (set_list (set_list (set_list (set_list (set_list h.blk _) _) _) _) _) _) _) _) _) _) _) _) _]
  rfl
theorem Kept.all13 {w0 w : World} {S : Nat} (h : Kept S w0 w) (x0 x1 x2 x3 x4 x5 x6 x7 x8 x9 x10 x11 x12 : Value) : Kept S w0 (((((((((((((w.setCell ⟨S, 0, none⟩ x0).setCell ⟨S, 1, none⟩ x1).setCell ⟨S, 2, none⟩ x2).setCell ⟨S, 3, none⟩ x3).setCell ⟨S, 4, none⟩ x4).setCell ⟨S, 5, none⟩ x5).setCell ⟨S, 6, none⟩ x6).setCell ⟨S, 7, none⟩ x7).setCell ⟨S, 8, none⟩ x8).setCell ⟨S, 9, none⟩ x9).setCell ⟨S, 10, none⟩ x10).setCell ⟨S, 11, none⟩ x11).setCell ⟨S, 12, none⟩ x12) := (((((((((((((h.set _ _).set _ _).set _ _).set _ _).set _ _).set _ _).set _ _).set _ _).set _ _).set _ _).set _ _).set _ _).set _ _)
set_option maxHeartbeats 4000000 in
set_option maxRecDepth 100000 in
theorem move_any (w : World) (S R : Nat) (σ : St) (hon : On σ) (ac tu en : Nat) (k : Kp) (hF : Fl w R σ) (h : So w S (fp R) ac tu en k) (hac : ac < 2) (htu : tu < 3) (hk : KOk k 4096) (id : Int) (tv : ByteArray) (htv : tv.size ≤ 2000) (hfit : 1 + restM k id tv.size 0 3 ≤ 4096) :
    Calls Try.prog 76 #[fp S, .int .i64 id, .string tv] w fun e w' => StEnd (moveS σ ⟨ac, tu, en, k⟩ id tv.data.toList) ⟨ac, tu, en, k⟩ S R w e w' := by
  have O := fun wx => other_any wx ac hac
  have F := fun wx => fol_any wx tu htu
  obtain ⟨sp, hsp⟩ : ∃ sp, Hid (1 - ac = sp) := ⟨_, hide rfl⟩
  obtain ⟨fo, hfo⟩ : ∃ fo, Hid (folN tu = fo) := ⟨_, hide rfl⟩
  simp only [hsp.out] at O
  simp only [hfo.out] at F
  have c0 := h.c0
  have c1 := h.c1
  have c2 := h.c2
  have hls := h.lt
  have hnS : w.heap.size ≠ S := by omega
  have HS := hide h
  have HF := hide hF
  clear h hF
  go_enter Try.func76, Try.ntmps76
  go_wp2_with fail
  go_cut [7] (fun v wx => ∃ B N, NextMid w R ac tu v wx B N)
  case first =>
    go_region_held3 (fun wx => wx.cell? ⟨S, 0, none⟩ = some (fp R) ∧ wx.cell? ⟨S, 1, none⟩ = some (.int .i64 (ac : Int)) ∧ wx.cell? ⟨S, 2, none⟩ = some (.int .i64 (tu : Int))) (go_keep) (first
      | (go_at_call 83; refine (O _).mono ?_; rintro e wa ⟨rfl, hw⟩; obtain rfl := hw.symm; clear hw)
      | (go_at_call 98; refine (F _).mono ?_; rintro e w2 ⟨rfl, b2⟩; have KB : Hid (Below w.heap.size w w2) := (by first | exact below_next (below_drew1 (Below.refl _ _)) (Nat.le_refl _) b2 | exact below_next (below_drew1 (below_alloc _ _)) (Nat.le_refl _) b2 | exact below_next (below_next (below_drew1 (Below.refl _ _)) (Nat.le_refl _) (below_alloc _ _)) (Nat.le_refl _) b2); have i0 := (HS.out.below KB.out).c0; have i1 := (HS.out.below KB.out).c1; have i2 := (HS.out.below KB.out).c2; have hS2 := (HS.out.below KB.out).lt; have hn2 : w2.heap.size ≠ S := Nat.ne_of_gt hS2; (first | (have z2 : Hid (w2.heap[w.heap.size]? = some (.cells #[.pointer none] 24 (0, 0))) := hide (box_pre b2 rfl); have y0 := cell_of_one z2.out; have y1 := free_of_one z2.out; have ltB := lt_of_block z2.out; have neB : w2.heap.size ≠ w.heap.size := Nat.ne_of_gt ltB) | skip); clear b2))
    all_goals go_wp2_with fail
    all_goals go_meet
    all_goals first
      | exact ⟨_, _, next_a hsp.out hfo.out KB.out⟩
      | exact ⟨_, _, next_b hsp.out hfo.out KB.out⟩
      | exact ⟨_, _, next_c hsp.out hfo.out KB.out z2.out⟩
  case rest =>
    obtain ⟨B, N, hM⟩ := hcut
    rename World => wa
    have hNS : N ≠ S := by have := hM.g; omega
    obtain rfl := hM.v
    have hF1 := HF.out.below hM.l
    have hS1 := HS.out.below hM.l
    have cb := cell_of_one hM.b
    have n1 := hM.n.c1
    have s0 := hS1.c0
    have hBR : B ≠ R := by
      intro e
      subst e
      have := hM.b.symm.trans hF1.blk
      simp [flRow, bytesV] at this
    have hNR : N ≠ R := Ne.symm (hF1.ne hM.n)
    have hSR : S ≠ R := Ne.symm (hF1.ne hS1)
    have ER := erase_in wa.drew R σ hF1.drew hon.jk hon.off (1 - ac) (by omega)
    rw [hsp.out] at ER n1
    have hEl := @eraseS_on σ sp hon
    obtain ⟨⟨σ1, ok1⟩, hx1⟩ : ∃ x, eraseS σ sp = x := ⟨_, rfl⟩
    rw [hx1] at ER hEl
    simp only at ER hEl
    obtain ⟨r1, hr1⟩ : ∃ r : Int, Hid ((if ok1 then 0 else 60) = r) := ⟨_, hide rfl⟩
    rw [show (if ok1 = true then (0 : Int) else 60) = r1 from hr1.out] at ER
    have HM := hide hM
    have HF1 := hide hF1
    have HS1 := hide hS1
    clear hM hF1 hS1 c0 c1 c2
    go_wp2_with fail
    go_cut [8] (fun v wx => v = .int .i64 r1 ∧ Fl wx R σ1 ∧ Kept R wa wx)
    case first =>
      go_region_with (go_at_call 82; refine ER.mono ?_; rintro e w3 ⟨rfl, f3, k3⟩)
      all_goals go_wp2_with fail
      all_goals go_meet
      all_goals exact ⟨rfl, f3, Kept.drew1 k3⟩
    case rest =>
      obtain ⟨rfl, f3, k3⟩ := hcut
      have hrest : Kep2 R S w wc := ((below_kept HM.out.l R).l2 S).trans (k3.l2 S)
      have hSc := HS1.out.kept k3 hSR
      have HMV : Hid (moveS σ ⟨ac, tu, en, k⟩ id tv.data.toList = if ok1 then (if (eachS ac k id tv.data.toList 0 3 ⟨σ1, 1, kz⟩).2 then (if (progS (eachS ac k id tv.data.toList 0 3 ⟨σ1, 1, kz⟩).1.σ (sp * 4096) [codeN fo]).2 then ((progS (eachS ac k id tv.data.toList 0 3 ⟨σ1, 1, kz⟩).1.σ (sp * 4096) [codeN fo]).1, some ⟨sp, fo, (eachS ac k id tv.data.toList 0 3 ⟨σ1, 1, kz⟩).1.en, (eachS ac k id tv.data.toList 0 3 ⟨σ1, 1, kz⟩).1.k⟩) else ((progS (eachS ac k id tv.data.toList 0 3 ⟨σ1, 1, kz⟩).1.σ (sp * 4096) [codeN fo]).1, none)) else ((eachS ac k id tv.data.toList 0 3 ⟨σ1, 1, kz⟩).1.σ, none)) else (σ1, none)) := by
        show _ = _
        unfold moveS
        simp only [hsp.out, hfo.out, hx1]
      have HK := hide hk
      have HFIT := hide hfit
      have HTV := hide htv
      have HSC := hide hSc
      have HREST := hide hrest
      clear hk hfit htv hx1 hSc hrest ER cb n1 s0 O F
      cases ok1
      · obtain rfl := hr1.out
        have e1 := HMV.out
        simp only [Bool.false_eq_true, if_false] at e1
        have X1 := hide e1
        clear e1 HMV hEl
        go_wp2_with fail
        go_ret
        exact (show StEnd _ _ _ _ _ _ _ from ⟨false, σ1, ⟨0, 0, 0, kz⟩, rfl, X1.out, f3, HSC.out, HREST.out⟩)
      · obtain rfl := hr1.out
        have hon1 := hEl rfl
        have E0 : EachMid wc B N S R ac tu fo en k ⟨σ1, 1, kz⟩ wc := ⟨hon1, f3, by rw [← hfo.out]; exact HM.out.n.kept k3 hNR, HSC.out, k3.other HM.out.b hBR, Kep2.refl R N wc⟩
        have EA := each_any wc B N S R ac hac tu fo en k HK.out ⟨σ1, 1, kz⟩ E0 hNS id tv HTV.out HFIT.out
        have hMon := eachS_on ac k id tv.data.toList 3 0 ⟨σ1, 1, kz⟩ hon1
        have e1 := HMV.out
        simp only [if_true] at e1
        obtain ⟨⟨M, ok2⟩, hx2⟩ : ∃ x, eachS ac k id tv.data.toList 0 3 ⟨σ1, 1, kz⟩ = x := ⟨_, rfl⟩
        rw [hx2] at EA hMon e1
        simp only at EA hMon e1
        obtain ⟨r2, hr2⟩ : ∃ r : Int, Hid ((if ok2 then 0 else 60) = r) := ⟨_, hide rfl⟩
        rw [show (if ok2 = true then (0 : Int) else 60) = r2 from hr2.out] at EA
        have X1 := hide e1
        have HE0 := hide E0
        have cb := cell_of_one E0.b
        have hmf : ∀ (fn : Fn) (first cap : Array Value) (w : World), (Instr.makeFunc fn first cap).run Try.prog w = .ok (.func fn first cap) w := fun _ _ _ _ => rfl
        clear e1 HMV hEl E0 hx2
        go_wp2_with fail
        refine EA.mono ?_
        rintro e w4 ⟨rfl, f4, n4, k4⟩
        have hS4 := HE0.out.s.kep2 k4 hSR (Ne.symm hNS)
        have hb4 := k4.other HE0.out.b hBR (box_ne HE0.out.n HE0.out.b)
        have cb4 := cell_of_one hb4
        have HR4 := hide (HREST.out.over k4 HM.out.g)
        clear EA cb
        cases ok2
        · obtain rfl := hr2.out
          have e1 := X1.out
          simp only [Bool.false_eq_true, if_false] at e1
          have X2 := hide e1
          clear e1 X1
          go_wp2_with fail
          go_ret
          exact (show StEnd _ _ _ _ _ _ _ from ⟨false, M.σ, ⟨0, 0, 0, kz⟩, rfl, X2.out, f4, hS4, HR4.out⟩)
        · obtain rfl := hr2.out
          have hMo := hMon rfl
          have SG := sign_any w4 N R M.σ hMo sp fo M.en M.k f4 (by rw [← hsp.out]; exact n4) (by have := hsp.out; omega) (by rw [← hfo.out]; unfold folN; omega)
          have e1 := X1.out
          simp only [if_true] at e1
          obtain ⟨⟨τ, ok3⟩, hx3⟩ : ∃ x, progS M.σ (sp * 4096) [codeN fo] = x := ⟨_, rfl⟩
          rw [hx3] at SG e1
          simp only at SG e1
          obtain ⟨r3, hr3⟩ : ∃ r : Int, Hid ((if ok3 then 0 else 60) = r) := ⟨_, hide rfl⟩
          rw [show (if ok3 = true then (0 : Int) else 60) = r3 from hr3.out] at SG
          have X2 := hide e1
          have HS4 := hide hS4
          clear e1 X1 hx3 hS4 hmf hMon
          go_wp2_with fail
          refine SG.mono ?_
          rintro e w5 ⟨rfl, f5, k5⟩
          have hS5 := HS4.out.kept k5 hSR
          have hN5 := n4.kept k5 hNR
          rw [hsp.out] at hN5
          have cb5 := cell_of_one (k5.other hb4 hBR)
          have HR5 := hide (HR4.out.trans (k5.l2 S))
          clear SG cb4 hb4
          cases ok3
          · obtain rfl := hr3.out
            have e1 := X2.out
            simp only [Bool.false_eq_true, if_false] at e1
            have X3 := hide e1
            clear e1 X2
            go_wp2_with fail
            go_ret
            exact (show StEnd _ _ _ _ _ _ _ from ⟨false, τ, ⟨0, 0, 0, kz⟩, rfl, X3.out, f5, hS5, HR5.out⟩)
          · obtain rfl := hr3.out
            have e1 := X2.out
            simp only [if_true] at e1
            have X3 := hide e1
            have HS5 := hide hS5
            have m0 := hN5.c0
            have q0 := hS5.c0
            have z0 := hS5.frozen 0
            have m1 := hN5.c1
            have q1 := hS5.c1
            have z1 := hS5.frozen 1
            have m2 := hN5.c2
            have q2 := hS5.c2
            have z2 := hS5.frozen 2
            have m3 := hN5.c3
            have q3 := hS5.c3
            have z3 := hS5.frozen 3
            have m4 := hN5.c4
            have q4 := hS5.c4
            have z4 := hS5.frozen 4
            have m5 := hN5.c5
            have q5 := hS5.c5
            have z5 := hS5.frozen 5
            have m6 := hN5.c6
            have q6 := hS5.c6
            have z6 := hS5.frozen 6
            have m7 := hN5.c7
            have q7 := hS5.c7
            have z7 := hS5.frozen 7
            have m8 := hN5.c8
            have q8 := hS5.c8
            have z8 := hS5.frozen 8
            have m9 := hN5.c9
            have q9 := hS5.c9
            have z9 := hS5.frozen 9
            have m10 := hN5.c10
            have q10 := hS5.c10
            have z10 := hS5.frozen 10
            have m11 := hN5.c11
            have q11 := hS5.c11
            have z11 := hS5.frozen 11
            have m12 := hN5.c12
            have q12 := hS5.c12
            have z12 := hS5.frozen 12
            clear e1 X2 hN5 hS5
            go_wp2_with fail
            go_ret
            exact (show StEnd _ _ _ _ _ _ _ from ⟨true, τ, ⟨sp, fo, M.en, M.k⟩, rfl, X3.out, f5.kept (Kept.all13 (Kept.refl S w5) _ _ _ _ _ _ _ _ _ _ _ _ _) (Ne.symm hSR), HS5.out.all _ _ _ _ M.k, HR5.out.trans ((Kept.all13 (Kept.refl S w5) _ _ _ _ _ _ _ _ _ _ _ _ _).r2 R)⟩)
end Go.Proofs.Ytcjahdgppnmdkaa
set_option maxRecDepth 100000
namespace Go.Proofs.Ytcjahdgppnmdkaa
open Go.RowKit Go.Great
/-- what Boot's steps leave -/
def OrdEnd (x : St × Option Sv) (S R : Nat) (w : World) (e : Ending) (w' : World) : Prop :=
  ∃ (ok : Bool) (τ : St) (s' : Sv), e = .returned (.int .i64 (if ok then 0 else 60)) ∧ x = (τ, if ok then some s' else none) ∧ Fl w' R τ ∧ (ok = true → So w' S (fp R) s'.ac s'.tu s'.en s'.k) ∧ Kep2 R S w w'
theorem StEnd.ord {x : St × Option Sv} {s : Sv} {S R : Nat} {w : World} {e : Ending} {w' : World} (h : StEnd x s S R w e w') : OrdEnd x S R w e w' := by
  obtain ⟨ok, τ, s', h1, h2, h3, h4, h5⟩ := h
  refine ⟨ok, τ, s', h1, h2, h3, fun he => ?_, h5⟩
  rw [if_pos he] at h4
  exact h4
theorem OrdEnd.from {x : St × Option Sv} {S R : Nat} {w w0 : World} {e : Ending} {w' : World} (h : OrdEnd x S R w e w') (k : Kep2 R S w0 w) : OrdEnd x S R w0 e w' := by
  obtain ⟨ok, τ, s', h1, h2, h3, h4, h5⟩ := h
  exact ⟨ok, τ, s', h1, h2, h3, h4, k.trans h5⟩
theorem erase_on (w : World) (R : Nat) (σ : St) (h : Fl w R σ) (ho : On σ) (s : Nat) (hs : s < 2) : Calls Try.prog 82 #[fp R, .int .i64 (s : Int)] w fun e w' => e = .returned (.int .i64 (if (eraseS σ s).2 then 0 else 60)) ∧ Fl w' R (eraseS σ s).1 ∧ Kept R w w' := erase_in w R σ h ho.jk ho.off s hs
theorem kept3 (S : Nat) (w : World) (a b c : Nat) (x y z : Value) : Kept S w (((w.setCell ⟨S, a, none⟩ x).setCell ⟨S, b, none⟩ y).setCell ⟨S, c, none⟩ z) := (((Kept.refl S w).set _ _).set _ _).set _ _
set_option maxHeartbeats 2000000 in
theorem format_any (w : World) (S R : Nat) (σ : St) (hon : On σ) (ac tu en : Int) (hF : Fl w R σ) (h : So w S (fp R) ac tu en kz) (b : UInt8) :
    Calls Try.prog 79 #[fp S, .int .u8 (b.toNat : Int)] w fun e w' => OrdEnd (fmtS σ b) S R w e w' := by
  have hRS := hF.ne h
  have hne : ((b.toNat : Int) != 255) = !decide (b = 255) := congrArg (!·) (nat_u8 b 255 (by omega))
  have c0 := h.c0
  have HS := hide h
  have HF := hide hF
  clear h hF
  by_cases hb : b = 255
  · rw [decide_eq_true hb] at hne
    have HFM : Hid (fmtS σ b = fmt2 σ) := by show _ = _; unfold fmtS; rw [if_pos hb]
    clear hb
    go_enter Try.func79, Try.ntmps79
    have E2 := erase_on w R σ HF.out hon 0 (by omega)
    have hE2 := @eraseS_on σ 0 hon
    obtain ⟨⟨σ2, ok2⟩, hx2⟩ : ∃ x, eraseS σ 0 = x := ⟨_, rfl⟩
    rw [hx2] at E2 hE2
    simp only at E2 hE2
    cases ok2
    · simp only [Bool.false_eq_true, if_false] at E2
      have XX : Hid (fmt2 σ = (σ2, none)) := by show _ = _; unfold fmt2; rw [hx2]; rfl
      clear hx2 hE2
      go_wp2_with fail
      refine E2.mono ?_
      rintro e w2 ⟨rfl, f2, k2⟩
      clear E2
      go_wp2_with fail
      go_ret
      exact (show OrdEnd _ _ _ _ _ _ from ⟨false, σ2, ⟨0, 0, 0, kz⟩, rfl, by rw [HFM.out, XX.out]; rfl, f2, (fun he => by cases he), (Kep2.refl R S w).trans (k2.l2 S)⟩)
    · simp only [if_true] at E2
      have hon2 := hE2 rfl
      have XX : Hid (fmt2 σ = ((progS σ2 0 [15]).1, if (progS σ2 0 [15]).2 then some ⟨0, 0, 1, kz⟩ else none)) := by show _ = _; unfold fmt2; rw [hx2]; rfl
      clear hx2 hE2
      go_wp2_with fail
      refine E2.mono ?_
      rintro e w2 ⟨rfl, f2, k2⟩
      have s2 := HS.out.kept k2 (Ne.symm hRS)
      have m1 := s2.c1
      have m2 := s2.c2
      have m3 := s2.c3
      have z1 := s2.frozen 1
      have z2 := s2.frozen 2
      have z3 := s2.frozen 3
      have s3 := ((s2.s1 0).s2 0).s3 1
      have f3 := f2.kept (kept3 S w2 1 2 3 (.int .i64 0) (.int .i64 0) (.int .i64 1)) hRS
      have SG := sign_any _ S R σ2 hon2 0 0 1 kz f3 s3 (by omega) (by omega)
      rw [show (0 * 4096 : Nat) = 0 from rfl, show codeN 0 = 15 from rfl] at SG
      obtain ⟨⟨τ, ok3⟩, hx3⟩ : ∃ x, progS σ2 0 [15] = x := ⟨_, rfl⟩
      rw [hx3] at SG XX
      simp only at SG XX
      obtain ⟨r3, hr3⟩ : ∃ r : Int, Hid ((if ok3 then 0 else 60) = r) := ⟨_, hide rfl⟩
      rw [show (if ok3 = true then (0 : Int) else 60) = r3 from hr3.out] at SG
      have HF3 := hide f3
      have HS3 := hide s3
      clear hx3 E2 f3 s3
      go_wp2_with fail
      refine SG.mono ?_
      rintro e w5 ⟨rfl, f5, k5⟩
      go_wp2_with fail
      go_ret
      exact (show OrdEnd _ _ _ _ _ _ from ⟨ok3, τ, ⟨0, 0, 1, kz⟩, by rw [hr3.out]; rfl, by rw [HFM.out, XX.out], f5, fun _ => HS3.out.kept k5 (Ne.symm hRS), ((Kep2.refl R S w).trans (k2.l2 S)).trans (((kept3 S w2 1 2 3 (.int .i64 0) (.int .i64 0) (.int .i64 1)).r2 R).trans (k5.l2 S))⟩)
  · rw [decide_eq_false hb] at hne
    have E1 := erase_on w R σ HF.out hon 1 (by omega)
    have hE1 := @eraseS_on σ 1 hon
    have HF0 : Hid (fmtS σ b = if (eraseS σ 1).2 then fmt2 (eraseS σ 1).1 else ((eraseS σ 1).1, none)) := by show _ = _; unfold fmtS; rw [if_neg hb]
    clear hb
    obtain ⟨⟨σ1, ok1⟩, hx1⟩ : ∃ x, eraseS σ 1 = x := ⟨_, rfl⟩
    rw [hx1] at E1 hE1 HF0
    simp only at E1 hE1 HF0
    clear hx1
    go_enter Try.func79, Try.ntmps79
    cases ok1
    · simp only [Bool.false_eq_true, if_false] at E1 HF0
      go_wp2_with fail
      refine E1.mono ?_
      rintro e w1 ⟨rfl, f1, k1⟩
      clear E1
      go_wp2_with fail
      go_ret
      exact (show OrdEnd _ _ _ _ _ _ from ⟨false, σ1, ⟨0, 0, 0, kz⟩, rfl, HF0.out, f1, (fun he => by cases he), k1.l2 S⟩)
    · simp only [if_true] at E1 HF0
      have hon1 := hE1 rfl
      have HFM : Hid (fmtS σ b = fmt2 σ1) := HF0
      go_wp2_with fail
      refine E1.mono ?_
      rintro e w1 ⟨rfl, f1, k1⟩
      have HS1 := hide (HS.out.kept k1 (Ne.symm hRS))
      have c01 := HS1.out.c0
      have HF1 := hide f1
      have K1 := hide (k1.l2 S)
      clear E1 f1 k1 HF0 hE1 c0
      have E2 := erase_on w1 R σ1 HF1.out hon1 0 (by omega)
      have hE2 := @eraseS_on σ1 0 hon1
      obtain ⟨⟨σ2, ok2⟩, hx2⟩ : ∃ x, eraseS σ1 0 = x := ⟨_, rfl⟩
      rw [hx2] at E2 hE2
      simp only at E2 hE2
      cases ok2
      · simp only [Bool.false_eq_true, if_false] at E2
        have XX : Hid (fmt2 σ1 = (σ2, none)) := by show _ = _; unfold fmt2; rw [hx2]; rfl
        clear hx2 hE2
        go_wp2_with fail
        refine E2.mono ?_
        rintro e w2 ⟨rfl, f2, k2⟩
        clear E2
        go_wp2_with fail
        go_ret
        exact (show OrdEnd _ _ _ _ _ _ from ⟨false, σ2, ⟨0, 0, 0, kz⟩, rfl, by rw [HFM.out, XX.out]; rfl, f2, (fun he => by cases he), K1.out.trans (k2.l2 S)⟩)
      · simp only [if_true] at E2
        have hon2 := hE2 rfl
        have XX : Hid (fmt2 σ1 = ((progS σ2 0 [15]).1, if (progS σ2 0 [15]).2 then some ⟨0, 0, 1, kz⟩ else none)) := by show _ = _; unfold fmt2; rw [hx2]; rfl
        clear hx2 hE2
        go_wp2_with fail
        refine E2.mono ?_
        rintro e w2 ⟨rfl, f2, k2⟩
        have s2 := HS1.out.kept k2 (Ne.symm hRS)
        have m1 := s2.c1
        have m2 := s2.c2
        have m3 := s2.c3
        have z1 := s2.frozen 1
        have z2 := s2.frozen 2
        have z3 := s2.frozen 3
        have s3 := ((s2.s1 0).s2 0).s3 1
        have f3 := f2.kept (kept3 S w2 1 2 3 (.int .i64 0) (.int .i64 0) (.int .i64 1)) hRS
        have SG := sign_any _ S R σ2 hon2 0 0 1 kz f3 s3 (by omega) (by omega)
        rw [show (0 * 4096 : Nat) = 0 from rfl, show codeN 0 = 15 from rfl] at SG
        obtain ⟨⟨τ, ok3⟩, hx3⟩ : ∃ x, progS σ2 0 [15] = x := ⟨_, rfl⟩
        rw [hx3] at SG XX
        simp only at SG XX
        obtain ⟨r3, hr3⟩ : ∃ r : Int, Hid ((if ok3 then 0 else 60) = r) := ⟨_, hide rfl⟩
        rw [show (if ok3 = true then (0 : Int) else 60) = r3 from hr3.out] at SG
        have HF3 := hide f3
        have HS3 := hide s3
        clear hx3 E2 f3 s3
        go_wp2_with fail
        refine SG.mono ?_
        rintro e w5 ⟨rfl, f5, k5⟩
        go_wp2_with fail
        go_ret
        exact (show OrdEnd _ _ _ _ _ _ from ⟨ok3, τ, ⟨0, 0, 1, kz⟩, by rw [hr3.out]; rfl, by rw [HFM.out, XX.out], f5, fun _ => HS3.out.kept k5 (Ne.symm hRS), (K1.out.trans (k2.l2 S)).trans (((kept3 S w2 1 2 3 (.int .i64 0) (.int .i64 0) (.int .i64 1)).r2 R).trans (k5.l2 S))⟩)
end Go.Proofs.Ytcjahdgppnmdkaa
set_option maxRecDepth 100000
namespace Go.Proofs.Ytcjahdgppnmdkaa
open Go.RowKit Go.Great
theorem bs_extract (l : List UInt8) (a b : Nat) : (bs l).extract a b = bs ((l.drop a).take (b - a)) := by
  apply ByteArray.ext
  apply Array.ext'
  simp [bs, ByteArray.data_extract, List.extract_eq_take_drop]
theorem secL_len {C : List UInt8} (hC : C.length = 8192) {s : Nat} (hs : s < 2) : (secL C s).length = 4096 := by
  unfold secL; rw [List.length_take, List.length_drop]; omega
theorem bs_at (l : List UInt8) (j : Nat) (h : j < (bs l).size) : (bs l)[j] = l.getD j 0 := by
  rw [← getD_ba (bs l) j h, bs_list]
theorem actI_cases (a b : UInt8) : actI a b = -1 ∨ actI a b = 0 ∧ (turnI a = 0 ∨ turnI a = 1 ∨ turnI a = 2) ∨ actI a b = 1 ∧ (turnI b = 0 ∨ turnI b = 1 ∨ turnI b = 2) := by
  unfold actI
  rcases turnI_cases a with h | h | h | h <;> rcases turnI_cases b with g | g | g | g <;> rw [h, g] <;> decide
theorem KOk.mono {k : Kp} {e f : Nat} (h : KOk k e) (hf : e ≤ f) : KOk k f := ⟨fun i hi => ⟨Nat.le_trans (h.1 i hi).1 hf, (h.1 i hi).2⟩, Nat.le_trans h.2 hf⟩
theorem restM_none (k : Kp) : restM k (-1) 0 0 3 = sizeK k := by
  have h : ∀ i : Nat, szM k (-1) 0 i = szK k i := fun i => by unfold szM; rw [if_neg (by omega)]
  show szM k (-1) 0 0 + (szM k (-1) 0 1 + (szM k (-1) 0 2 + 0)) = _
  rw [h, h, h]
  unfold sizeK
  omega
theorem bs_at0 {l : List UInt8} {a : ByteArray} (e : bs l = a) (h : 0 < a.size) : a[0]'h = l.getD 0 0 := by subst e; exact bs_at l 0 h
set_option maxHeartbeats 4000000 in
set_option maxRecDepth 100000 in
theorem order_any (w : World) (S R : Nat) (σ : St) (hon : On σ) (hF : Fl w R σ) (h : So w S (fp R) 0 0 0 kz) :
    Calls Try.prog 55 #[fp S, .string (bs σ.C)] w fun e w' => OrdEnd (bootS σ) S R w e w' := by
  have hRS := hF.ne h
  have hsz : (bs σ.C).size = 8192 := by rw [bs_size, hon.len]
  have hx1 : (bs σ.C).extract 0 4096 = bs (secL σ.C 0) := by rw [bs_extract]; rfl
  have hx2 : (bs σ.C).extract 4096 (bs σ.C).size = bs (secL σ.C 1) := by rw [hsz, bs_extract]; rfl
  have hz1 : Hid ((bs (secL σ.C 0)).size = 4096) := by show _ = _; rw [bs_size, secL_len hon.len (by omega)]
  have hz2 : Hid ((bs (secL σ.C 1)).size = 4096) := by show _ = _; rw [bs_size, secL_len hon.len (by omega)]
  have FD1 := fun wx p ac tu en k hh => find_any wx S p ac tu en k hh (bs (secL σ.C 0)) hz1.out
  have FD2 := fun wx p ac tu en k hh => find_any wx S p ac tu en k hh (bs (secL σ.C 1)) hz2.out
  simp only [bs_list] at FD1 FD2
  have HBT : Hid (bootS σ = if actI ((secL σ.C 0).getD 0 0) ((secL σ.C 1).getD 0 0) = -1 then fmtS σ ((secL σ.C 1).getD 0 0) else bootIn σ (actI ((secL σ.C 0).getD 0 0) ((secL σ.C 1).getD 0 0)).toNat) := by
    show _ = _
    unfold bootS
    rw [hon.off]; rfl
  have HB0 : Hid (bootIn σ 0 = if (svOf σ.C 0).2 then (if (secL σ.C 1).getD 0 0 ≠ 255 ∧ turnI ((secL σ.C 1).getD 0 0) = -1 then ((eraseS σ 1).1, if (eraseS σ 1).2 then some (svOf σ.C 0).1 else none) else (σ, some (svOf σ.C 0).1)) else moveS σ (svOf σ.C 0).1 (-1) []) := hide rfl
  have HB1 : Hid (bootIn σ 1 = if (svOf σ.C 1).2 then (if (secL σ.C 0).getD 0 0 ≠ 255 ∧ turnI ((secL σ.C 0).getD 0 0) = -1 then ((eraseS σ 0).1, if (eraseS σ 0).2 then some (svOf σ.C 1).1 else none) else (σ, some (svOf σ.C 1).1)) else moveS σ (svOf σ.C 1).1 (-1) []) := hide rfl
  unfold svOf at HB0 HB1
  have RK1 := rd_ok (secL σ.C 0) 4096 1 kz (by rw [secL_len hon.len (by omega)]; omega) KOk.kz
  have RK2 := rd_ok (secL σ.C 1) 4096 1 kz (by rw [secL_len hon.len (by omega)]; omega) KOk.kz
  rw [secL_len hon.len (by omega)] at RK1 RK2
  obtain ⟨⟨K1, E1, cl1⟩, hr1⟩ : ∃ r, rd (secL σ.C 0) 4096 1 kz = r := ⟨_, rfl⟩
  obtain ⟨⟨K2, E2, cl2⟩, hr2⟩ : ∃ r, rd (secL σ.C 1) 4096 1 kz = r := ⟨_, rfl⟩
  rw [hr1] at RK1 HB0
  rw [hr2] at RK2 HB1
  simp only at RK1 RK2 HB0 HB1
  obtain ⟨b1, hb1⟩ : ∃ b, (secL σ.C 0).getD 0 0 = b := ⟨_, rfl⟩
  obtain ⟨b2, hb2⟩ : ∃ b, (secL σ.C 1).getD 0 0 = b := ⟨_, rfl⟩
  rw [hb1] at HBT HB0 HB1
  rw [hb2] at HBT HB0 HB1
  have HR1 := hide hr1
  have HR2 := hide hr2
  clear hr1 hr2
  obtain ⟨a1, ha1⟩ : ∃ a, bs (secL σ.C 0) = a := ⟨_, rfl⟩
  obtain ⟨a2, ha2⟩ : ∃ a, bs (secL σ.C 1) = a := ⟨_, rfl⟩
  obtain ⟨s, hs⟩ : ∃ s, bs σ.C = s := ⟨_, rfl⟩
  have hi1 := @bs_at0 _ _ ha1
  have hi2 := @bs_at0 _ _ ha2
  rw [hb1] at hi1
  rw [hb2] at hi2
  simp only [ha1] at hx1 hz1 FD1
  simp only [ha2] at hx2 hz2 FD2
  rw [hs] at hx1 hx2 hsz ⊢
  have hl1 : 0 < a1.size := by rw [hz1.out]; omega
  have hl2 : 0 < a2.size := by rw [hz2.out]; omega
  have hs4 : (4096 : Int) ≤ (s.size : Int) := by rw [hsz]; omega
  have HSZ := hide hsz
  clear hb1 hb2 ha1 ha2 hs hsz
  have A := fun wx => act_any wx b1 b2
  have T1 := fun wx => turn_any wx b1
  have T2 := fun wx => turn_any wx b2
  have HC := actI_cases b1 b2
  obtain ⟨t, ht⟩ : ∃ t, actI b1 b2 = t := ⟨_, rfl⟩
  rw [ht] at HBT HC
  simp only [ht] at A
  clear ht
  have HS := hide h
  have HF := hide hF
  have c0 := h.c0
  have c1 := h.c1
  have hls := h.lt
  clear h hF
  go_enter Try.func55, Try.ntmps55
  go_wp2_with fail
  go_quiet (fail)
  go_wp2_with fail
  obtain ⟨W, hW⟩ : ∃ W, Hid (w.drewN nq = W) := ⟨_, hide rfl⟩
  rw [hW.out]
  have hS0 : So W S (fp R) 0 0 0 kz := by rw [← hW.out]; exact HS.out.drewN nq
  have hF0 : Fl W R σ := by rw [← hW.out]; exact HF.out.drewM nq
  have hK0 : Kep2 R S w W := by rw [← hW.out]; exact ((Kept.refl R w).drewM nq).l2 S
  have HS0 := hide hS0
  have HF0 := hide hF0
  have HK0 := hide hK0
  clear hS0 hF0 hK0 hx1 hx2 hs4 c0 c1
  go_cut [18] (fun _ wx => Hid (So wx S (fp R) t 0 0 kz) ∧ Hid (Fl wx R σ) ∧ Hid (Kep2 R S w wx))
  case first =>
    go_region_with (go_at_call 78; refine (A _).mono ?_; rintro e w2 ⟨rfl, b2⟩; have s2 := HS0.out.drew.below b2; have f2 := HF0.out.drew.below b2; have k2 := (HK0.out.drew).below b2; have m1 := s2.c1; have z1 := s2.frozen 1)
    all_goals go_wp2_with fail
    all_goals go_meet
    all_goals exact ⟨s2.s1 t, f2.kept ((Kept.refl S _).set _ _) hRS, k2.setD _ _⟩
  case rest =>
    obtain ⟨HS2, HF2, HK2⟩ := hcut
    clear HS0 HF0 HK0 hW HS HF
    have c1 := HS2.out.c1
    rcases HC with rfl | ⟨rfl, hT⟩ | ⟨rfl, hT⟩
    · have FM := format_any wc S R σ hon (-1) 0 0 HF2.out HS2.out b2
      have e1 := HBT.out
      rw [if_pos rfl] at e1
      have X1 := hide e1
      clear e1 HBT HB0 HB1 RK1 RK2 A T1 T2 FD1 FD2
      go_wp2_with fail
      refine FM.mono ?_
      intro e w3 h3
      have H3 := hide h3
      clear h3
      obtain ⟨ok, τ, s', rfl, g2, g3, g4, g5⟩ := H3.out
      clear H3
      obtain ⟨r, hr⟩ : ∃ r : Int, Hid ((if ok then 0 else 60) = r) := ⟨_, hide rfl⟩
      rw [show (if ok = true then (0 : Int) else 60) = r from hr.out]
      go_wp2_with fail
      go_ret
      exact (show OrdEnd _ _ _ _ _ _ from ⟨ok, τ, s', by rw [hr.out]; rfl, by rw [X1.out, g2], g3, g4, HK2.out.trans g5⟩)
    · obtain ⟨tu, htu, htu3⟩ : ∃ tu : Nat, turnI b1 = (tu : Int) ∧ tu < 3 := ⟨(turnI b1).toNat, by omega, by omega⟩
      have e1 := HBT.out
      rw [if_neg (by omega), show ((0 : Int)).toNat = 0 from rfl, HB0.out] at e1
      rw [show (turnI b1).toNat = tu by omega] at e1
      simp only [htu] at T1
      have X1 := hide e1
      clear e1 HBT HB0 HB1 hT htu A
      have c2 := HS2.out.c2
      have z2 := HS2.out.frozen 2
      go_wp2_with fail
      refine (T1 _).mono ?_
      rintro e w3 ⟨rfl, b3⟩
      have hS3 := HS2.out.below b3
      have HF3 := hide (HF2.out.below b3)
      have HK3 := hide (HK2.out.below b3)
      have m2 := hS3.c2
      have y2 := hS3.frozen 2
      have FD1 := FD1 _ _ _ _ _ _ (hS3.s2 (tu : Int))
      have HS3 := hide hS3
      have r1 := HR1.out
      rw [r1] at FD1
      simp only at FD1
      clear T1 hS3 r1 c2 z2 c1
      go_wp2_with fail
      refine FD1.mono ?_
      rintro e w4 ⟨rfl, s4, k4⟩
      have HS4 := hide s4
      have HF4 := hide ((HF3.out.kept ((Kept.refl S w3).set 2 (.int .i64 (tu : Int))) hRS).kept k4 hRS)
      have HK4 := hide ((HK3.out.setD 2 (.int .i64 (tu : Int))).trans (k4.r2 R))
      have d0 := s4.c0
      have d1 := s4.c1
      clear FD1 s4 k4 m2 y2 HS3 HF3 HK3 HS2 HF2 HK2
      cases cl1
      · have MV := move_any w4 S R σ hon 0 tu E1 K1 HF4.out HS4.out (by omega) htu3 (RK1.2.2.mono RK1.2.1) (-1) ⟨#[]⟩ (by show (0 : Nat) ≤ _; omega) (by rw [show (⟨#[]⟩ : ByteArray).size = 0 from rfl, restM_none]; have := RK1.2.2.2; omega)
        have e1 := X1.out
        simp only [Bool.false_eq_true, if_false] at e1
        have X2 := hide e1
        clear e1 X1 d0 d1
        go_wp2_with fail
        refine MV.mono ?_
        intro e w5 h5
        have H5 := hide (h5.ord.from HK4.out)
        clear h5 MV
        obtain ⟨ok, τ, s', rfl, g2, g3, g4, g5⟩ := H5.out
        clear H5
        obtain ⟨r, hr⟩ : ∃ r : Int, Hid ((if ok then 0 else 60) = r) := ⟨_, hide rfl⟩
        rw [show (if ok = true then (0 : Int) else 60) = r from hr.out]
        have G2 := hide g2
        have G4 := hide g4
        clear g2 g4
        go_wp2_with fail
        go_ret
        exact (show OrdEnd _ _ _ _ _ _ from ⟨ok, τ, s', by rw [hr.out]; rfl, by rw [X2.out]; exact G2.out, g3, G4.out, g5⟩)
      · have e1 := X1.out
        simp only [if_true] at e1
        have hq : ((b2.toNat : Int) != 255) = !decide (b2 = 255) := congrArg (!·) (nat_u8 b2 255 (by omega))
        by_cases hQ : b2 = 255
        · rw [decide_eq_true hQ] at hq
          rw [if_neg (by simp [hQ])] at e1
          have X2 := hide e1
          clear e1 X1 hQ
          go_wp2_with fail
          go_ret
          exact (show OrdEnd _ _ _ _ _ _ from ⟨true, σ, ⟨0, tu, E1, K1⟩, rfl, X2.out, HF4.out, (fun _ => HS4.out), HK4.out⟩)
        · rw [decide_eq_false hQ] at hq
          by_cases hN : turnI b2 = -1
          · rw [if_pos ⟨hQ, hN⟩] at e1
            have T2 := T2 w4
            rw [hN] at T2
            have X2 := hide e1
            clear e1 X1 hQ hN
            go_wp2_with fail
            refine T2.mono ?_
            rintro e w5 ⟨rfl, b5⟩
            have hS5 := HS4.out.below b5
            have HF5 := hide (HF4.out.below b5)
            have HK5 := hide (HK4.out.below b5)
            have i0 := hS5.c0
            have i1 := hS5.c1
            have HS5 := hide hS5
            have OT := other_any w5.drew 0 (by omega)
            have ER := erase_on w5.drew R σ HF5.out.drew hon (1 - 0) (by omega)
            simp only [show (1 - 0 : Nat) = 1 from rfl] at OT ER
            obtain ⟨⟨τ, ok⟩, hx⟩ : ∃ x, eraseS σ 1 = x := ⟨_, rfl⟩
            simp only [hx] at ER
            have x2 := X2.out
            rw [hx] at x2
            have X3 := hide x2
            obtain ⟨r, hr⟩ : ∃ r : Int, Hid ((if ok then 0 else 60) = r) := ⟨_, hide rfl⟩
            simp only [show (if ok = true then (0 : Int) else 60) = r from hr.out] at ER
            clear x2 X2 hx T2 d0 d1 HS4 HF4 HK4 b5 hS5
            go_wp2_with fail
            go_region_with (first
              | (go_at_call 83; refine OT.mono ?_; rintro e w6 ⟨rfl, hw⟩; obtain rfl := hw.symm; clear hw)
              | (go_at_call 82; refine ER.mono ?_; rintro e w7 ⟨rfl, f7, k7⟩))
            all_goals
              go_wp2_with fail
              go_ret
              exact (show OrdEnd _ _ _ _ _ _ from ⟨ok, τ, _, by rw [hr.out]; rfl, X3.out, f7, (fun _ => HS5.out.kept (Kept.drew1 k7) (Ne.symm hRS)), HK5.out.trans ((Kept.drew1 k7).l2 S)⟩)
          · rw [if_neg (fun c => hN c.2)] at e1
            have T2 := T2 w4
            have X2 := hide e1
            have hnn : (turnI b2 == -1) = false := by simp [hN]
            obtain ⟨t2, ht2⟩ : ∃ t2, turnI b2 = t2 := ⟨_, rfl⟩
            rw [ht2] at T2 hnn
            clear e1 X1 hQ hN ht2
            go_wp2_with fail
            refine T2.mono ?_
            rintro e w5 ⟨rfl, b5⟩
            clear T2
            go_wp2_with fail
            go_ret
            exact (show OrdEnd _ _ _ _ _ _ from ⟨true, σ, ⟨0, tu, E1, K1⟩, rfl, X2.out, HF4.out.below b5, (fun _ => HS4.out.below b5), HK4.out.below b5⟩)
    · obtain ⟨tu, htu, htu3⟩ : ∃ tu : Nat, turnI b2 = (tu : Int) ∧ tu < 3 := ⟨(turnI b2).toNat, by omega, by omega⟩
      have e1 := HBT.out
      rw [if_neg (by omega), show ((1 : Int)).toNat = 1 from rfl, HB1.out] at e1
      rw [show (turnI b2).toNat = tu by omega] at e1
      simp only [htu] at T2
      have X1 := hide e1
      clear e1 HBT HB0 HB1 hT htu A
      have c2 := HS2.out.c2
      have z2 := HS2.out.frozen 2
      go_wp2_with fail
      refine (T2 _).mono ?_
      rintro e w3 ⟨rfl, b3⟩
      have hS3 := HS2.out.below b3
      have HF3 := hide (HF2.out.below b3)
      have HK3 := hide (HK2.out.below b3)
      have m2 := hS3.c2
      have y2 := hS3.frozen 2
      have FD2 := FD2 _ _ _ _ _ _ (hS3.s2 (tu : Int))
      have HS3 := hide hS3
      have r1 := HR2.out
      rw [r1] at FD2
      simp only at FD2
      clear T2 hS3 r1 c2 z2 c1
      go_wp2_with fail
      refine FD2.mono ?_
      rintro e w4 ⟨rfl, s4, k4⟩
      have HS4 := hide s4
      have HF4 := hide ((HF3.out.kept ((Kept.refl S w3).set 2 (.int .i64 (tu : Int))) hRS).kept k4 hRS)
      have HK4 := hide ((HK3.out.setD 2 (.int .i64 (tu : Int))).trans (k4.r2 R))
      have d0 := s4.c0
      have d1 := s4.c1
      clear FD2 s4 k4 m2 y2 HS3 HF3 HK3 HS2 HF2 HK2
      cases cl2
      · have MV := move_any w4 S R σ hon 1 tu E2 K2 HF4.out HS4.out (by omega) htu3 (RK2.2.2.mono RK2.2.1) (-1) ⟨#[]⟩ (by show (0 : Nat) ≤ _; omega) (by rw [show (⟨#[]⟩ : ByteArray).size = 0 from rfl, restM_none]; have := RK2.2.2.2; omega)
        have e1 := X1.out
        simp only [Bool.false_eq_true, if_false] at e1
        have X2 := hide e1
        clear e1 X1 d0 d1
        go_wp2_with fail
        refine MV.mono ?_
        intro e w5 h5
        have H5 := hide (h5.ord.from HK4.out)
        clear h5 MV
        obtain ⟨ok, τ, s', rfl, g2, g3, g4, g5⟩ := H5.out
        clear H5
        obtain ⟨r, hr⟩ : ∃ r : Int, Hid ((if ok then 0 else 60) = r) := ⟨_, hide rfl⟩
        rw [show (if ok = true then (0 : Int) else 60) = r from hr.out]
        have G2 := hide g2
        have G4 := hide g4
        clear g2 g4
        go_wp2_with fail
        go_ret
        exact (show OrdEnd _ _ _ _ _ _ from ⟨ok, τ, s', by rw [hr.out]; rfl, by rw [X2.out]; exact G2.out, g3, G4.out, g5⟩)
      · have e1 := X1.out
        simp only [if_true] at e1
        have hq : ((b1.toNat : Int) != 255) = !decide (b1 = 255) := congrArg (!·) (nat_u8 b1 255 (by omega))
        by_cases hQ : b1 = 255
        · rw [decide_eq_true hQ] at hq
          rw [if_neg (by simp [hQ])] at e1
          have X2 := hide e1
          clear e1 X1 hQ
          go_wp2_with fail
          go_ret
          exact (show OrdEnd _ _ _ _ _ _ from ⟨true, σ, ⟨1, tu, E2, K2⟩, rfl, X2.out, HF4.out, (fun _ => HS4.out), HK4.out⟩)
        · rw [decide_eq_false hQ] at hq
          by_cases hN : turnI b1 = -1
          · rw [if_pos ⟨hQ, hN⟩] at e1
            have T1 := T1 w4
            rw [hN] at T1
            have X2 := hide e1
            clear e1 X1 hQ hN
            go_wp2_with fail
            refine T1.mono ?_
            rintro e w5 ⟨rfl, b5⟩
            have hS5 := HS4.out.below b5
            have HF5 := hide (HF4.out.below b5)
            have HK5 := hide (HK4.out.below b5)
            have i0 := hS5.c0
            have i1 := hS5.c1
            have HS5 := hide hS5
            have OT := other_any w5.drew 1 (by omega)
            have ER := erase_on w5.drew R σ HF5.out.drew hon (1 - 1) (by omega)
            simp only [show (1 - 1 : Nat) = 0 from rfl] at OT ER
            obtain ⟨⟨τ, ok⟩, hx⟩ : ∃ x, eraseS σ 0 = x := ⟨_, rfl⟩
            simp only [hx] at ER
            have x2 := X2.out
            rw [hx] at x2
            have X3 := hide x2
            obtain ⟨r, hr⟩ : ∃ r : Int, Hid ((if ok then 0 else 60) = r) := ⟨_, hide rfl⟩
            simp only [show (if ok = true then (0 : Int) else 60) = r from hr.out] at ER
            clear x2 X2 hx T1 d0 d1 HS4 HF4 HK4 b5 hS5
            go_wp2_with fail
            go_region_with (first
              | (go_at_call 83; refine OT.mono ?_; rintro e w6 ⟨rfl, hw⟩; obtain rfl := hw.symm; clear hw)
              | (go_at_call 82; refine ER.mono ?_; rintro e w7 ⟨rfl, f7, k7⟩))
            all_goals
              go_wp2_with fail
              go_ret
              exact (show OrdEnd _ _ _ _ _ _ from ⟨ok, τ, _, by rw [hr.out]; rfl, X3.out, f7, (fun _ => HS5.out.kept (Kept.drew1 k7) (Ne.symm hRS)), HK5.out.trans ((Kept.drew1 k7).l2 S)⟩)
          · rw [if_neg (fun c => hN c.2)] at e1
            have T1 := T1 w4
            have X2 := hide e1
            have hnn : (turnI b1 == -1) = false := by simp [hN]
            obtain ⟨t2, ht2⟩ : ∃ t2, turnI b1 = t2 := ⟨_, rfl⟩
            rw [ht2] at T1 hnn
            clear e1 X1 hQ hN ht2
            go_wp2_with fail
            refine T1.mono ?_
            rintro e w5 ⟨rfl, b5⟩
            clear T1
            go_wp2_with fail
            go_ret
            exact (show OrdEnd _ _ _ _ _ _ from ⟨true, σ, ⟨1, tu, E2, K2⟩, rfl, X2.out, HF4.out.below b5, (fun _ => HS4.out.below b5), HK4.out.below b5⟩)
end Go.Proofs.Ytcjahdgppnmdkaa
