/- Package store: read, add. -/
import Derived.Test.YtcjahdgppnmdkaaSo5
import Derived.Deep.DeepCutAuto
set_option maxRecDepth 100000
namespace Go.Proofs.Ytcjahdgppnmdkaa
open Go.RowKit Go.Great

theorem So.drewN {w : World} {S : Nat} {p : Value} {ac tu en : Int} {k : Kp} (h : So w S p ac tu en k) (n : Nat) : So (w.drewN n) S p ac tu en k := by
  induction n with
  | zero => exact h
  | succ n ih => exact ih.drew
theorem Fl.drewM {w : World} {R : Nat} {σ : St} (h : Fl w R σ) (n : Nat) : Fl (w.drewN n) R σ := by
  induction n with
  | zero => exact h
  | succ n ih => exact ih.drew
theorem Kept.drewM {R : Nat} {w w1 : World} (h : Kept R w w1) (n : Nat) : Kept R w (w1.drewN n) := by
  induction n with
  | zero => exact h
  | succ n ih => exact ih.drew
theorem below_drewM {B : Nat} {w w1 : World} (h : Below B w w1) (n : Nat) : Below B w (w1.drewN n) := by
  induction n with
  | zero => exact h
  | succ n ih => exact below_drew1 ih
set_option maxHeartbeats 1000000 in
theorem read_st (w : World) (S R : Nat) (σ : St) (hF : Fl w R σ) (ho : σ.off = false) (ac : Nat) (tu en : Int) (k : Kp) (h : So w S (fp R) ac tu en k) (hac : ac < 2) (i : Nat) (hi : i < 3) (hl : (k i).lo + (k i).n ≤ 4096) : Calls Try.prog 53 #[fp S, .int .i64 (i : Int)] w fun e w' => e = .returned (.tuple #[.string (bs (txt σ.C ac (k i))), .int .i64 0]) ∧ Below w.heap.size w w' := by
  obtain ⟨⟨t, lo, n⟩, hk⟩ : ∃ x, k i = x := ⟨_, rfl⟩
  rw [hk] at hl ⊢
  simp only at hl
  have b1 := below_alloc w (.cells #[.bool t, .int .i64 (lo : Int), .int .i64 (n : Int)] 105)
  obtain ⟨W, hW⟩ : ∃ W, w.alloc (.cells #[.bool t, .int .i64 (lo : Int), .int .i64 (n : Int)] 105) = W := ⟨_, rfl⟩
  have v1 : W.cell? ⟨w.heap.size, 1, none⟩ = some (.int .i64 (lo : Int)) := by rw [← hW, World.cell?_alloc_new]; rfl
  have v2 : W.cell? ⟨w.heap.size, 2, none⟩ = some (.int .i64 (n : Int)) := by rw [← hW, World.cell?_alloc_new]; rfl
  rw [hW] at b1
  have h1 := h.below b1
  have f1 := hF.below b1
  have c0 := h1.c0
  obtain ⟨q, hq⟩ : ∃ q, Hid (ac * 4096 + lo = q) := ⟨_, hide rfl⟩
  have P : ∀ m, Calls Try.prog 77 #[fp S, .int .i64 (lo : Int)] (W.drewN m) fun e w' => e = .returned (.int .i64 (q : Int)) ∧ w' = W.drewN m := fun m => by
    have := place_any (W.drewN m) S (fp R) ac lo tu en k (h1.drewN m) hac (by omega)
    rw [hq.out] at this
    exact this
  have A : ∀ m, Calls Try.prog 39 #[fp R, .int .i64 (q : Int), .int .i64 (n : Int)] (W.drewN m) fun e w' => e = .returned (.tuple #[.string (bs ((σ.C.drop q).take n)), .int .i64 0]) ∧ w' = W.drewN m := fun m => read_in _ R σ (f1.drewM m) ho q n (by have := hq.out; omega)
  have HT : Hid (txt σ.C ac ⟨t, lo, n⟩ = (σ.C.drop q).take n) := by show (σ.C.drop (ac * 4096 + lo)).take n = _; rw [hq.out]
  rw [HT.out]
  have HB := hide b1
  have c4 := h.c4
  have c5 := h.c5
  have c6 := h.c6
  have c7 := h.c7
  have c8 := h.c8
  have c9 := h.c9
  have c10 := h.c10
  have c11 := h.c11
  have c12 := h.c12
  obtain rfl | rfl | rfl : i = 0 ∨ i = 1 ∨ i = 2 := by omega
  all_goals
    simp only [hk] at c4 c5 c6 c7 c8 c9 c10 c11 c12
    clear b1 h1 f1 hF h hk
    go_enter Try.func53, Try.ntmps53
    go_wp2_with fail
    try rw [hW]
    go_quiet (first | (go_at_call 77; exact Calls.quiet_of_same (P _)) | (go_at_call 39; exact Calls.quiet_of_same (A _)))
    go_wp2_with fail
    go_ret2
    exact ⟨rfl, below_drewM HB.out _⟩
theorem Kep2.alloc {X D : Nat} {w w1 : World} (h : Kep2 X D w w1) (o : Obj) : Kep2 X D w (w1.alloc o) := h.below (below_alloc _ _)
theorem Kep2.setX {X D : Nat} {w w1 : World} (h : Kep2 X D w w1) (i : Nat) (u : Value) : Kep2 X D w (w1.setCell ⟨X, i, none⟩ u) := h.trans ((Kept.set (Kept.refl X w1) i u).l2 D)
theorem Kep2.setD {X D : Nat} {w w1 : World} (h : Kep2 X D w w1) (i : Nat) (u : Value) : Kep2 X D w (w1.setCell ⟨D, i, none⟩ u) := h.trans ((Kept.set (Kept.refl D w1) i u).r2 X)
theorem Kep2.drew {X D : Nat} {w w1 : World} (h : Kep2 X D w w1) : Kep2 X D w w1.drew := h.trans ((Kept.drew (Kept.refl X w1)).l2 D)
theorem Sgv.below {w w' : World} {g : Nat} {x y z : Value} (h : Sgv w g x y z) (hb : Below w.heap.size w w') : Sgv w' g x y z := by
  unfold Sgv; rw [hb.block g (lt_of_block h), h]
theorem Sgv.kept {w w' : World} {g X : Nat} {x y z : Value} (h : Sgv w g x y z) (hb : Kept X w w') (hne : g ≠ X) : Sgv w' g x y z := hb.other h hne
theorem Sgv.c0 {w : World} {g : Nat} {x y z : Value} (h : Sgv w g x y z) : w.cell? ⟨g, 0, none⟩ = some x := by simp [World.cell?, show w.heap[g]? = _ from h]
theorem Sgv.c1 {w : World} {g : Nat} {x y z : Value} (h : Sgv w g x y z) : w.cell? ⟨g, 1, none⟩ = some y := by simp [World.cell?, show w.heap[g]? = _ from h]
theorem Sgv.c2 {w : World} {g : Nat} {x y z : Value} (h : Sgv w g x y z) : w.cell? ⟨g, 2, none⟩ = some z := by simp [World.cell?, show w.heap[g]? = _ from h]
theorem kept4 (S : Nat) (w : World) (a b c d : Nat) (x y z u : Value) : Kept S w ((((w.setCell ⟨S, a, none⟩ x).setCell ⟨S, b, none⟩ y).setCell ⟨S, c, none⟩ z).setCell ⟨S, d, none⟩ u).drew.drew := (((((Kept.refl S w).set _ _).set _ _).set _ _).set _ _).drew.drew
structure AddMid (w : World) (S R : Nat) (τ : St) (ac tu : Int) (en n : Nat) (k : Kp) (r : Int) (v : Value) (wx : World) : Prop where
  v : v = .int .i64 r
  f : Fl wx R τ
  s : So wx S (fp R) ac tu en k
  g : Sgv wx w.heap.size (.bool true) (.int .i64 ((en : Int) + 3)) (.int .i64 (n : Int))
  k : Kep2 R S w wx
set_option maxHeartbeats 2000000 in
theorem add_core (w : World) (S R : Nat) (σ τ : St) (r : Int) (ac : Nat) (tu : Int) (en : Nat) (k : Kp) (i : Nat) (t : ByteArray) (n q : Nat) (d : ByteArray)
    (hF : Fl w R σ) (h : So w S (fp R) ac tu en k) (hac : ac < 2) (hi : i < 3) (htn : t.size = n) (he : en ≤ 4096) (hq : Hid (ac * 4096 + en = q))
    (D : ∀ wx, Calls Try.prog 97 #[.int .i64 (i : Int), .string t] wx fun e w' => e = .returned (.string d) ∧ Below wx.heap.size wx w')
    (A : ∀ wx, Fl wx R σ → Calls Try.prog 96 #[fp R, .int .i64 (q : Int), .string d] wx fun e w' => e = .returned (.int .i64 r) ∧ Fl w' R τ ∧ Kept R wx w')
    (hr : r = 0 ∧ en + 4 + n ≤ 4096 ∨ r = 60) :
    Calls Try.prog 75 #[fp S, .int .i64 (i : Int), .string t] w fun e w' => e = .returned (.int .i64 r) ∧ Fl w' R τ ∧ (if r = 0 then So w' S (fp R) ac tu ((en + 4 + n : Nat) : Int) (upd k i ⟨true, en + 3, n⟩) else So w' S (fp R) ac tu en k) ∧ Kep2 R S w w' := by
  have hne := hF.ne h
  have hls := h.lt
  have hlr := hF.lt
  have b1 := below_drew1 (below_alloc w (.cells #[.bool true, .int .i64 ((en : Int) + 3), .int .i64 (n : Int)] 105))
  have hg := (sgv_new w (.bool true) (.int .i64 ((en : Int) + 3)) (.int .i64 (n : Int))).drew
  obtain ⟨W, hW⟩ : ∃ W, w.alloc (.cells #[.bool true, .int .i64 ((en : Int) + 3), .int .i64 (n : Int)] 105) = W := ⟨_, rfl⟩
  rw [hW] at b1 hg
  have h1 : So W.drew S (fp R) ac tu en k := h.below b1
  have f1 : Fl W.drew R σ := hF.below b1
  have k1 : Kep2 R S w W.drew := (Kep2.refl R S w).below b1
  have c3 := h.c3
  have e0 := h1.c0
  have e3 := h1.c3
  have P : Calls Try.prog 77 #[fp S, .int .i64 (en : Int)] W.drew fun e w' => e = .returned (.int .i64 (q : Int)) ∧ w' = W.drew := by
    have := place_any W.drew S (fp R) ac en tu en k h1 hac he
    rw [hq.out] at this
    exact this
  have HE := hide he
  have he' : (en : Int) ≤ 4096 := by omega
  clear he
  go_enter Try.func75, Try.ntmps75
  go_wp2_with fail
  try rw [hW]
  go_cut [8] (fun v wx => AddMid w S R τ ac tu en n k r v wx)
  case first =>
    clear c3
    go_region_with (first
      | (go_at_call 77; refine P.mono ?_; rintro e w2 ⟨rfl, hw⟩; obtain rfl := hw.symm; clear hw)
      | (go_at_call 97; refine (D _).mono ?_; rintro e w3 ⟨rfl, b3⟩; have h3 := h1.below b3; have f3 := f1.below b3; have g3 := hg.below b3; have k3 := k1.below b3; have i0 := h3.c0; have i3 := h3.c3)
      | (go_at_call 96; refine (A _ f3).mono ?_; rintro e w4 ⟨rfl, f4, k4⟩))
    all_goals go_wp2_with fail
    all_goals go_meet
    all_goals exact ⟨rfl, f4, h3.kept k4 (Ne.symm hne), g3.kept k4 (by omega), k3.trans (k4.l2 S)⟩
  case rest =>
    obtain ⟨rfl, f4, s4, g4, k4⟩ := hcut
    rcases hr with ⟨rfl, hen⟩ | rfl
    · have a0 := g4.c0
      have a1 := g4.c1
      have a2 := g4.c2
      have m3 := s4.c3
      have z3 := s4.frozen 3
      have hen' : (en : Int) + (4 + (n : Int)) ≤ 4096 := by omega
      have hgS : w.heap.size ≠ S := by omega
      clear A D P hq b1 h1 f1 k1 c3 e0 e3 hg hW
      obtain rfl | rfl | rfl : i = 0 ∨ i = 1 ∨ i = 2 := by omega
      · have z4 := s4.frozen 4
        have z5 := s4.frozen 5
        have z6 := s4.frozen 6
        have m4 := s4.c4
        have m5 := s4.c5
        have m6 := s4.c6
        go_wp2_with fail
        go_region
        go_wp2_with fail
        go_region
        go_wp2_with fail
        go_ret
        refine ⟨rfl, f4.kept (kept4 S wc _ _ _ _ _ _ _ _) hne, ?_, k4.trans ((kept4 S wc _ _ _ _ _ _ _ _).r2 R)⟩
        first
          | (rw [Int.add_assoc]; exact ((s4.k0 true (en + 3) n).s3 _).drew.drew)
          | (rw [if_pos rfl, Int.natCast_add, Int.natCast_add, Int.add_assoc]; exact ((s4.k0 true (en + 3) n).s3 _).drew.drew)
      · have z4 := s4.frozen 7
        have z5 := s4.frozen 8
        have z6 := s4.frozen 9
        have m4 := s4.c7
        have m5 := s4.c8
        have m6 := s4.c9
        go_wp2_with fail
        go_region
        go_wp2_with fail
        go_region
        go_wp2_with fail
        go_ret
        refine ⟨rfl, f4.kept (kept4 S wc _ _ _ _ _ _ _ _) hne, ?_, k4.trans ((kept4 S wc _ _ _ _ _ _ _ _).r2 R)⟩
        first
          | (rw [Int.add_assoc]; exact ((s4.k1 true (en + 3) n).s3 _).drew.drew)
          | (rw [if_pos rfl, Int.natCast_add, Int.natCast_add, Int.add_assoc]; exact ((s4.k1 true (en + 3) n).s3 _).drew.drew)
      · have z4 := s4.frozen 10
        have z5 := s4.frozen 11
        have z6 := s4.frozen 12
        have m4 := s4.c10
        have m5 := s4.c11
        have m6 := s4.c12
        go_wp2_with fail
        go_region
        go_wp2_with fail
        go_region
        go_wp2_with fail
        go_ret
        refine ⟨rfl, f4.kept (kept4 S wc _ _ _ _ _ _ _ _) hne, ?_, k4.trans ((kept4 S wc _ _ _ _ _ _ _ _).r2 R)⟩
        first
          | (rw [Int.add_assoc]; exact ((s4.k2 true (en + 3) n).s3 _).drew.drew)
          | (rw [if_pos rfl, Int.natCast_add, Int.natCast_add, Int.add_assoc]; exact ((s4.k2 true (en + 3) n).s3 _).drew.drew)
    · clear A D P hq b1 h1 f1 k1 c3 e0 e3 hg hW
      go_wp2_with fail
      go_ret
      exact ⟨rfl, f4, by first | exact s4 | (rw [if_neg (by omega)]; exact s4), k4⟩
end Go.Proofs.Ytcjahdgppnmdkaa
