/- NorCuts. -/
import Derived.Test.YtjfajonedckggaaLwEr
import Derived.Deep.DeepCutAuto
namespace Go.Proofs.Ytjfajonedckggaa
open Go.RowKit Go.Great

/-- a program that is cut, in a block -/
structure PartB (w : World) (P : Nat) (a : Int) (d : ByteArray) (l : Int) (j : ByteArray) : Prop where
  blk : w.heap[P]? = some (.cells #[.int .i64 a, .string d, .int .i64 l, .string j] 38 (0, 0))
theorem PartB.c0 {w : World} {P : Nat} {a : Int} {d : ByteArray} {l : Int} {j : ByteArray} (h : PartB w P a d l j) : w.cell? ⟨P, 0, none⟩ = some (.int .i64 a) := by simp [World.cell?, h.blk]
theorem PartB.c1 {w : World} {P : Nat} {a : Int} {d : ByteArray} {l : Int} {j : ByteArray} (h : PartB w P a d l j) : w.cell? ⟨P, 1, none⟩ = some (.string d) := by simp [World.cell?, h.blk]
theorem PartB.c2 {w : World} {P : Nat} {a : Int} {d : ByteArray} {l : Int} {j : ByteArray} (h : PartB w P a d l j) : w.cell? ⟨P, 2, none⟩ = some (.int .i64 l) := by simp [World.cell?, h.blk]
theorem PartB.c3 {w : World} {P : Nat} {a : Int} {d : ByteArray} {l : Int} {j : ByteArray} (h : PartB w P a d l j) : w.cell? ⟨P, 3, none⟩ = some (.string j) := by simp [World.cell?, h.blk]
theorem PartB.below {w w' : World} {P : Nat} {a : Int} {d : ByteArray} {l : Int} {j : ByteArray} (h : PartB w P a d l j) (hb : Below w.heap.size w w') : PartB w' P a d l j := ⟨by rw [hb.block _ (lt_of_block h.blk), h.blk]⟩
theorem PartB.kept {w w' : World} {P R : Nat} {a : Int} {d : ByteArray} {l : Int} {j : ByteArray} (h : PartB w P a d l j) (hb : Kept R w w') (hne : P ≠ R) : PartB w' P a d l j := ⟨hb.other h.blk hne⟩
theorem PartB.drew {w : World} {P : Nat} {a : Int} {d : ByteArray} {l : Int} {j : ByteArray} (h : PartB w P a d l j) : PartB w.drew P a d l j := ⟨h.blk⟩
theorem PartB.drewN {w : World} {P : Nat} {a : Int} {d : ByteArray} {l : Int} {j : ByteArray} (h : PartB w P a d l j) (q : Nat) : PartB (w.drewN q) P a d l j := ⟨h.blk⟩
abbrev partV (a : Int) (d : ByteArray) (l : Int) (j : ByteArray) : Value := .agg #[.int .i64 a, .string d, .int .i64 l, .string j]
theorem part_new (w : World) (a : Int) (d : ByteArray) (l : Int) (j : ByteArray) : PartB (w.alloc (.cells #[.int .i64 a, .string d, .int .i64 l, .string j] 38)) w.heap.size a d l j := ⟨heap_alloc_new _ _⟩
set_option maxRecDepth 100000 in
theorem cuts_bad (s : ByteArray) (h0 : s.size ≠ 0) (hs : s.size ≠ 8192) (a : Int) (d : ByteArray) (l : Int) (j : ByteArray) (w : World) : Calls Try.prog 5 #[.string s, partV a d l j] w fun e w' => e = .returned (.bool true) ∧ Below w.heap.size w w' := by
  have M := fun w => made_bad s h0 hs w
  clear hs h0
  go_enter Try.func5, Try.ntmps5
  go_wp2_with fail
  refine (M _).mono ?_
  rintro e w1 ⟨rfl, hw⟩
  obtain rfl := hw.symm
  clear hw
  go_wp2_with fail
  refine (M _).mono ?_
  rintro e w1 ⟨rfl, hw⟩
  obtain rfl := hw.symm
  clear hw M
  go_wp2_with fail
  refine (awake_true _).mono ?_
  rintro e w1 ⟨rfl, b1⟩
  go_wp2_with fail
  go_ret
  exact ⟨rfl, below_over b1⟩
/-- the two flashes of a law, and the part's block -/
structure Two (w0 w : World) (P R R2 : Nat) (C : List UInt8) (a : Int) (d : ByteArray) (l : Int) (j : ByteArray) : Prop where
  hP : w0.heap.size ≤ P
  hR : w0.heap.size ≤ R
  hR2 : w0.heap.size ≤ R2
  n1 : P ≠ R
  n2 : P ≠ R2
  n3 : R ≠ R2
  f : Fl w R (st0 C)
  g : Fl w R2 (st0 C)
  p : PartB w P a d l j
  b : Below w0.heap.size w0 w
theorem two_mk {w w1 w2 : World} {R X D cap R2 X2 D2 cap2 : Nat} {C : List UInt8} {a : Int} {d : ByteArray} {l : Int} {j : ByteArray} (h1 : Made (w.alloc (.cells #[.int .i64 a, .string d, .int .i64 l, .string j] 38)) w1 R X D cap C) (h2 : Made w1 w2 R2 X2 D2 cap2 C) : Two w w2 w.heap.size R R2 C a d l j := by
  obtain ⟨hR, _, _, _, _, hF, _, b1⟩ := h1
  obtain ⟨hR2, _, _, _, _, hG, _, b2⟩ := h2
  have hz : (w.alloc (.cells #[.int .i64 a, .string d, .int .i64 l, .string j] 38)).heap.size = w.heap.size + 1 := by simp
  have hl := hF.lt
  have hb := b1.size
  exact ⟨Nat.le_refl _, by omega, by omega, by omega, by omega, by omega, hF.below b2, hG, ((part_new w a d l j).below b1).below b2, below_next (below_over b1) (Nat.le_refl _) b2⟩
set_option maxHeartbeats 1000000 in
set_option maxRecDepth 100000 in
theorem cuts_neg (s : ByteArray) (hs : okI s) (a : Int) (d : ByteArray) (l : Int) (hl : l < 0) (j : ByteArray) (w : World) : Calls Try.prog 5 #[.string s, partV a d l j] w fun e w' => e = .returned (.bool true) ∧ Below w.heap.size w w' := by
  have M := fun w => made_good s hs w
  clear hs
  go_enter Try.func5, Try.ntmps5
  go_wp2_with fail
  refine (M _).mono ?_
  rintro e w1 ⟨R, X, D, cap, rfl, hM⟩
  have H1 := hide hM
  clear hM
  go_wp2_with fail
  refine (M w1).mono ?_
  rintro e w2 ⟨R2, X2, D2, cap2, rfl, hM⟩
  have H2 := hide (two_mk H1.out hM)
  clear hM H1 M
  obtain ⟨P, hP⟩ : ∃ P, Hid (w.heap.size = P) := ⟨_, hide rfl⟩
  rw [hP.out] at H2
  rw [hP.out]
  have c2 := H2.out.p.c2
  have c3 := H2.out.p.c3
  have K := cut_out w2 R _ H2.out.f rfl l hl j
  go_wp2_with fail
  refine K.mono ?_
  rintro e w3 ⟨rfl, hw⟩
  obtain rfl := hw.symm
  clear hw K
  go_wp2_with fail
  refine (awake_true w2).mono ?_
  rintro e w3 ⟨rfl, b3⟩
  have c23 := (H2.out.p.below b3).c2
  go_wp2_with fail
  go_ret
  exact ⟨rfl, below_next H2.out.b (Nat.le_refl _) b3⟩
/-- a cut that is armed, Program behind it -/
theorem armed_out (w : World) (R : Nat) (σ : St) (h : Fl w R σ) (ho : σ.off = false) (a : Int) (ha : I64 a) (d : ByteArray) (hd : insideB a d.size = false) : Calls Try.prog 13 #[fp R, .int .i64 a, .string d] w fun e w' => e = .returned (.int .i64 1) ∧ w' = w := prog_out w R σ h ho a ha d hd
theorem armed_far (w : World) (R : Nat) (C : List UInt8) (l : Nat) (jk : ByteArray) (h : Fl w R { st0 C with ar := true, lf := l, jk := jk }) (hj : jk.size ≤ 4096) (hl : (l : Int) ≤ 9223372036854775807) (a : Nat) (d : ByteArray) (hd : a + d.size ≤ 8192) (hld : d.size ≤ l) :
    Calls Try.prog 13 #[fp R, .int .i64 a, .string d] w fun e w' => e = .returned (.int .i64 0) ∧ Fl w' R { C := onL C a d.size (andL d.data.toList), off := false, st := d.size, ar := true, lf := (l : Int) - d.size, jk := jk } ∧ Kept R w w' := by
  have P := prog_in w R _ h hj rfl a d hd
  have hz := list_size d
  have hlen : C.length = 8192 := h.len
  have e := progS_pre d.data.toList { st0 C with ar := true, lf := l, jk := jk } a (by intro _; show (d.data.toList.length : Int) ≤ (l : Int) ∧ (l : Int) ≤ _; rw [hz]; omega) (by show a + d.data.toList.length ≤ C.length; rw [hz, hlen]; exact hd) (by show (0 : Int) ≤ 0; omega) (by show (0 : Int) + (d.data.toList.length : Int) ≤ _; rw [hz]; omega)
  rw [hz] at e
  rw [e] at P
  have P2 : Calls Try.prog 13 #[fp R, .int .i64 a, .string d] w fun e w' => e = .returned (.int .i64 0) ∧ Fl w' R { C := onL C a d.size (andL d.data.toList), off := false, st := 0 + (d.size : Int), ar := true, lf := (l : Int) - d.size, jk := jk } ∧ Kept R w w' := P
  rw [Int.zero_add] at P2
  exact P2
theorem armed_cut (w : World) (R : Nat) (C : List UInt8) (l : Nat) (jk : ByteArray) (h : Fl w R { st0 C with ar := true, lf := l, jk := jk }) (hj : jk.size ≤ 4096) (a : Nat) (d : ByteArray) (hd : a + d.size ≤ 8192) (hld : l < d.size) :
    Calls Try.prog 13 #[fp R, .int .i64 a, .string d] w fun e w' => e = .returned (.int .i64 60) ∧ Fl w' R { C := (onL C a l (andL d.data.toList)).set (a + l) (C.getD (a + l) 0 &&& (d.data.toList.getD l 0 ||| arB jk 0)), off := true, st := l, ar := false, lf := 0, jk := ⟨#[]⟩ } ∧ Kept R w w' := by
  have P := prog_in w R _ h hj rfl a d hd
  have hz := list_size d
  have hlen : C.length = 8192 := h.len
  have e := progS_cut d.data.toList l (by rw [hz]; exact hld) { st0 C with ar := true, lf := l, jk := jk } a rfl rfl (by show a + d.data.toList.length ≤ C.length; rw [hz, hlen]; exact hd) (by show (0 : Int) ≤ 0; omega) (by show (0 : Int) + (d.data.toList.length : Int) ≤ _; rw [hz]; omega) (by omega)
  rw [e] at P
  have P2 : Calls Try.prog 13 #[fp R, .int .i64 a, .string d] w fun e w' => e = .returned (.int .i64 60) ∧ Fl w' R { C := (onL C a l (andL d.data.toList)).set (a + l) (C.getD (a + l) 0 &&& (d.data.toList.getD l 0 ||| arB jk 0)), off := true, st := 0 + (l : Int), ar := false, lf := 0, jk := ⟨#[]⟩ } ∧ Kept R w w' := P
  rw [Int.zero_add] at P2
  exact P2
set_option maxHeartbeats 1000000 in
set_option maxRecDepth 100000 in
theorem cuts_out (s : ByteArray) (hs : okI s) (a : Int) (ha : I64 a) (d : ByteArray) (l : Nat) (hl : (l : Int) ≤ 9223372036854775807) (j : ByteArray) (hj : j.size ≤ 140737488351232) (hd : insideB a d.size = false) (w : World) : Calls Try.prog 5 #[.string s, partV a d l j] w fun e w' => e = .returned (.bool true) ∧ Below w.heap.size w w' := by
  have M := fun w => made_good s hs w
  clear hs
  have HA := hide (And.intro ha (And.intro hl (And.intro hj hd)))
  clear ha hl hj hd
  go_enter Try.func5, Try.ntmps5
  go_wp2_with fail
  refine (M _).mono ?_
  rintro e w1 ⟨R, X, D, cap, rfl, hM⟩
  have H1 := hide hM
  clear hM
  go_wp2_with fail
  refine (M w1).mono ?_
  rintro e w2 ⟨R2, X2, D2, cap2, rfl, hM⟩
  have H2 := hide (two_mk H1.out hM)
  clear hM H1 M
  obtain ⟨P, hP⟩ : ∃ P, Hid (w.heap.size = P) := ⟨_, hide rfl⟩
  rw [hP.out] at H2
  rw [hP.out]
  obtain ⟨C, hC⟩ : ∃ C, Hid (cellsI s = C) := ⟨_, hide rfl⟩
  rw [hC.out] at H2
  obtain ⟨t, ht⟩ : ∃ t, Hid (bs C = t) := ⟨_, hide rfl⟩
  have c2 := H2.out.p.c2
  have c3 := H2.out.p.c3
  have K := cut_arms w2 R _ H2.out.f l j HA.out.2.2.1
  go_wp2_with fail
  refine K.mono ?_
  rintro e w3 ⟨rfl, h3, k3⟩
  have H3 := hide (And.intro h3 k3)
  have p3 := H2.out.p.kept k3 H2.out.n1
  have c0 := p3.c0
  have c1 := p3.c1
  have c22 := p3.c2
  have HP3 := hide p3
  have A3 := prog_out w3 R _ h3 rfl a HA.out.1 d HA.out.2.2.2
  clear h3 k3 p3 K c2 c3
  go_wp2_with fail
  refine A3.mono ?_
  rintro e w4 ⟨rfl, hw⟩
  obtain rfl := hw.symm
  clear hw A3
  go_wp2_with fail
  refine (awake_true w3).mono ?_
  rintro e w4 ⟨rfl, b4⟩
  have c24 := (HP3.out.below b4).c2
  have P4 := powered_any w4 R _ (H3.out.1.below b4)
  rw [show (!({ st0 C with ar := true, lf := ((l : Nat) : Int), jk := jkS j } : St).off) = true from rfl] at P4
  have I4 := image_any w4 R _ (H3.out.1.below b4)
  rw [show bs ({ st0 C with ar := true, lf := ((l : Nat) : Int), jk := jkS j } : St).C = t from ht.out] at I4
  have J4 := image_any w4 R2 _ ((H2.out.g.kept H3.out.2 (Ne.symm H2.out.n3)).below b4)
  rw [show bs (st0 C).C = t from ht.out] at J4
  go_wp2_with fail
  refine P4.mono ?_
  rintro e w5 ⟨rfl, hw⟩
  obtain rfl := hw.symm
  clear hw P4
  go_wp2_with fail
  refine I4.mono ?_
  rintro e w5 ⟨rfl, hw⟩
  obtain rfl := hw.symm
  clear hw I4
  go_wp2_with fail
  refine J4.mono ?_
  rintro e w5 ⟨rfl, hw⟩
  obtain rfl := hw.symm
  clear hw J4
  go_wp2_with fail
  go_ret
  have z := H2.out.b.size
  exact ⟨rfl, below_next (H3.out.2.toBelow H2.out.b z H2.out.hR) (Nat.le_refl _) b4⟩
set_option maxHeartbeats 1000000 in
set_option maxRecDepth 100000 in
theorem cuts_far (s : ByteArray) (hs : okI s) (a : Nat) (d : ByteArray) (l : Nat) (hl : (l : Int) ≤ 9223372036854775807) (j : ByteArray) (hj : j.size ≤ 140737488351232) (hd : a + d.size ≤ 8192) (hld : d.size ≤ l) (w : World) : Calls Try.prog 5 #[.string s, partV a d l j] w fun e w' => e = .returned (.bool true) ∧ Below w.heap.size w w' := by
  have M := fun w => made_good s hs w
  clear hs
  have HA := hide (And.intro hl (And.intro hj hd))
  clear hl hj hd
  go_enter Try.func5, Try.ntmps5
  go_wp2_with fail
  refine (M _).mono ?_
  rintro e w1 ⟨R, X, D, cap, rfl, hM⟩
  have H1 := hide hM
  clear hM
  go_wp2_with fail
  refine (M w1).mono ?_
  rintro e w2 ⟨R2, X2, D2, cap2, rfl, hM⟩
  have H2 := hide (two_mk H1.out hM)
  clear hM H1 M
  obtain ⟨P, hP⟩ : ∃ P, Hid (w.heap.size = P) := ⟨_, hide rfl⟩
  rw [hP.out] at H2
  rw [hP.out]
  obtain ⟨C, hC⟩ : ∃ C, Hid (cellsI s = C) := ⟨_, hide rfl⟩
  rw [hC.out] at H2
  have c2 := H2.out.p.c2
  have c3 := H2.out.p.c3
  have K := cut_arms w2 R _ H2.out.f l j HA.out.2.1
  go_wp2_with fail
  refine K.mono ?_
  rintro e w3 ⟨rfl, h3, k3⟩
  have H3 := hide (And.intro h3 k3)
  have p3 := H2.out.p.kept k3 H2.out.n1
  have c0 := p3.c0
  have c1 := p3.c1
  have HP3 := hide p3
  obtain ⟨C1, hC1⟩ : ∃ C1, Hid (onL C a d.size (andL d.data.toList) = C1) := ⟨_, hide rfl⟩
  obtain ⟨t, ht⟩ : ∃ t, Hid (bs C1 = t) := ⟨_, hide rfl⟩
  have A3 := armed_far w3 R C l _ h3 (jkS_size j) HA.out.1 a d HA.out.2.2 hld
  rw [hC1.out] at A3
  clear h3 k3 p3 K c2 c3
  go_wp2_with fail
  refine A3.mono ?_
  rintro e w4 ⟨rfl, h4, k4⟩
  have H4 := hide (And.intro h4 k4)
  have p4 := HP3.out.kept k4 H2.out.n1
  have d1 := p4.c1
  have d2 := p4.c2
  have HP4 := hide p4
  clear A3 h4 k4 p4 c0 c1
  go_wp2_with fail
  refine (awake_true w4).mono ?_
  rintro e w5 ⟨rfl, b5⟩
  have p5 := HP4.out.below b5
  have e0 := p5.c0
  have e1 := p5.c1
  have P5 := powered_any w5 R _ (H4.out.1.below b5)
  rw [show (!({ C := C1, off := false, st := d.size, ar := true, lf := (l : Int) - d.size, jk := jkS j } : St).off) = true from rfl] at P5
  have G5 := prog_free w5 R2 _ (((H2.out.g.kept H3.out.2 (Ne.symm H2.out.n3)).kept H4.out.2 (Ne.symm H2.out.n3)).below b5) (by show (0 : Nat) ≤ _; omega) rfl rfl (by show (0 : Int) ≤ 0; omega) (by show (0 : Int) ≤ _; omega) a d HA.out.2.2
  rw [show onL (st0 C).C a d.size (andL d.data.toList) = C1 from hC1.out] at G5
  clear p5 d1 d2
  go_wp2_with fail
  refine P5.mono ?_
  rintro e w6 ⟨rfl, hw⟩
  obtain rfl := hw.symm
  clear hw P5
  go_wp2_with fail
  refine G5.mono ?_
  rintro e w6 ⟨rfl, h6, k6⟩
  have I6 := image_any w6 R _ ((H4.out.1.below b5).kept k6 H2.out.n3)
  rw [show bs ({ C := C1, off := false, st := d.size, ar := true, lf := (l : Int) - d.size, jk := jkS j } : St).C = t from ht.out] at I6
  have J6 := image_any w6 R2 _ h6
  rw [show bs C1 = t from ht.out] at J6
  have K6 := hide k6
  clear k6 h6 G5 e0 e1
  go_wp2_with fail
  refine I6.mono ?_
  rintro e w7 ⟨rfl, hw⟩
  obtain rfl := hw.symm
  clear hw I6
  go_wp2_with fail
  refine J6.mono ?_
  rintro e w7 ⟨rfl, hw⟩
  obtain rfl := hw.symm
  clear hw J6
  go_wp2_with fail
  go_ret
  have z := H2.out.b.size
  have z3 := H3.out.2.size
  have z4 := H4.out.2.size
  have z5 := b5.size
  exact ⟨rfl, K6.out.toBelow (below_next (H4.out.2.toBelow (H3.out.2.toBelow H2.out.b z H2.out.hR) (by omega) H2.out.hR) (Nat.le_refl _) b5) (by omega) H2.out.hR2⟩
theorem u8_ext {x y : UInt8} (h : ∀ i, x.toBitVec.getLsbD i = y.toBitVec.getLsbD i) : x = y := by
  apply UInt8.toBitVec_inj.1
  apply BitVec.eq_of_getLsbD_eq
  intro i _
  exact h i
theorem btw1 (x q u : UInt8) : (x &&& (q ||| u)) &&& (x &&& (x &&& q)) = x &&& (x &&& q) := by
  apply u8_ext
  intro i
  simp only [UInt8.toBitVec_and, UInt8.toBitVec_or, BitVec.getLsbD_and, BitVec.getLsbD_or]
  cases x.toBitVec.getLsbD i <;> cases q.toBitVec.getLsbD i <;> cases u.toBitVec.getLsbD i <;> rfl
theorem btw2 (x q u : UInt8) : (x &&& (q ||| u)) ||| (x ||| (x &&& q)) = x ||| (x &&& q) := by
  apply u8_ext
  intro i
  simp only [UInt8.toBitVec_and, UInt8.toBitVec_or, BitVec.getLsbD_and, BitVec.getLsbD_or]
  cases x.toBitVec.getLsbD i <;> cases q.toBitVec.getLsbD i <;> cases u.toBitVec.getLsbD i <;> rfl
theorem between_true (w : World) (x y z : UInt8) (h1 : z &&& (x &&& y) = x &&& y) (h2 : z ||| (x ||| y) = x ||| y) : Calls Try.prog 17 #[.int .u8 (x.toNat : Int), .int .u8 (y.toNat : Int), .int .u8 (z.toNat : Int)] w fun e w' => e = .returned (.bool true) ∧ w' = w := by
  obtain ⟨m, hm⟩ : ∃ m, x &&& y = m := ⟨_, rfl⟩
  obtain ⟨o, ho⟩ : ∃ o, x ||| y = o := ⟨_, rfl⟩
  have a1 : bits .and .u8 (x.toNat : Int) (y.toNat : Int) = (m.toNat : Int) := by rw [and8, hm]
  have a2 : bits .and .u8 (z.toNat : Int) (m.toNat : Int) = (m.toNat : Int) := by rw [and8, ← hm, h1]
  have o1 : bits .or .u8 (x.toNat : Int) (y.toNat : Int) = (o.toNat : Int) := by rw [or8, ho]
  have o2 : bits .or .u8 (z.toNat : Int) (o.toNat : Int) = (o.toNat : Int) := by rw [or8, ← ho, h2]
  clear h1 h2 hm ho
  go_enter Try.func17, Try.ntmps17
  go_wp2
  go_ret
  exact ⟨rfl, rfl⟩
theorem bs_extract (l : List UInt8) (a b : Nat) : (bs l).extract a b = bs ((l.drop a).take (b - a)) := by
  apply ByteArray.ext
  apply Array.ext'
  simp [bs, ByteArray.data_extract, List.extract_eq_take_drop]
theorem set_take (l : List UInt8) (c : Nat) (b : UInt8) : (l.set c b).take c = l.take c := by
  rw [List.take_set]
  exact List.set_eq_of_length_le (by simp; omega)
theorem set_drop (l : List UInt8) (c : Nat) (b : UInt8) : (l.set c b).drop (c + 1) = l.drop (c + 1) := List.drop_set_of_lt (by omega)
theorem taken_and (C : List UInt8) (a l : Nat) (d : ByteArray) (h : l ≤ d.size) : onL C a (d.extract 0 l).size (andL (d.extract 0 l).data.toList) = onL C a l (andL d.data.toList) := by
  have e : (d.extract 0 l).data.toList = d.data.toList.take l := by
    rw [ByteArray.data_extract, Array.toList_extract]; simp
  have e2 : (d.extract 0 l).size = l := by rw [ByteArray.size_extract]; omega
  rw [e2, e]
  apply onL_congr
  intro i c hi
  unfold andL
  congr 1
  rw [List.getD_eq_getElem?_getD, List.getD_eq_getElem?_getD, List.getElem?_take_of_lt hi]
set_option maxHeartbeats 1000000 in
set_option maxRecDepth 100000 in
theorem cuts_in (s : ByteArray) (hs : okI s) (a : Nat) (d : ByteArray) (l : Nat) (hl : (l : Int) ≤ 9223372036854775807) (j : ByteArray) (hj : j.size ≤ 140737488351232) (hd : a + d.size ≤ 8192) (hld : l < d.size) (w : World) : Calls Try.prog 5 #[.string s, partV a d l j] w fun e w' => e = .returned (.bool true) ∧ Below w.heap.size w w' := by
  have M := fun w => made_good s hs w
  clear hs
  have HA := hide (And.intro hl (And.intro hj hd))
  clear hl hj hd
  go_enter Try.func5, Try.ntmps5
  go_wp2_with fail
  refine (M _).mono ?_
  rintro e w1 ⟨R, X, D, cap, rfl, hM⟩
  have H1 := hide hM
  clear hM
  go_wp2_with fail
  refine (M w1).mono ?_
  rintro e w2 ⟨R2, X2, D2, cap2, rfl, hM⟩
  have H2 := hide (two_mk H1.out hM)
  clear hM H1 M
  obtain ⟨P, hP⟩ : ∃ P, Hid (w.heap.size = P) := ⟨_, hide rfl⟩
  rw [hP.out] at H2
  rw [hP.out]
  obtain ⟨C, hC⟩ : ∃ C, Hid (cellsI s = C) := ⟨_, hide rfl⟩
  rw [hC.out] at H2
  have c2 := H2.out.p.c2
  have c3 := H2.out.p.c3
  have K := cut_arms w2 R _ H2.out.f l j HA.out.2.1
  go_wp2_with fail
  refine K.mono ?_
  rintro e w3 ⟨rfl, h3, k3⟩
  have H3 := hide (And.intro h3 k3)
  have p3 := H2.out.p.kept k3 H2.out.n1
  have c0 := p3.c0
  have c1 := p3.c1
  have HP3 := hide p3
  obtain ⟨C1, hC1⟩ : ∃ C1, Hid (onL C a l (andL d.data.toList) = C1) := ⟨_, hide rfl⟩
  obtain ⟨b, hb⟩ : ∃ b, Hid (C.getD (a + l) 0 &&& (d.data.toList.getD l 0 ||| arB (jkS j) 0) = b) := ⟨_, hide rfl⟩
  obtain ⟨C2, hC2⟩ : ∃ C2, Hid (C1.set (a + l) b = C2) := ⟨_, hide rfl⟩
  have A3 := armed_cut w3 R C l _ h3 (jkS_size j) a d HA.out.2.2 hld
  rw [hC1.out, hb.out, hC2.out] at A3
  obtain ⟨σ, hσ⟩ : ∃ σ, Hid (σ = ({ C := C2, off := true, st := l, ar := false, lf := 0, jk := ⟨#[]⟩ } : St)) := ⟨_, hide rfl⟩
  rw [← hσ.out] at A3
  clear h3 k3 p3 K c2 c3
  go_wp2_with fail
  refine A3.mono ?_
  rintro e w4 ⟨rfl, h4, k4⟩
  have H4 := hide (And.intro h4 k4)
  have p4 := HP3.out.kept k4 H2.out.n1
  have d1 := p4.c1
  have d2 := p4.c2
  have HP4 := hide p4
  have P4 : ∀ n, Calls Try.prog 16 #[fp R] (w4.drewN n) fun e w' => e = .returned (.bool false) ∧ w' = w4.drewN n := fun n => by
    have := powered_any (w4.drewN n) R _ (H4.out.1.drewN n)
    rw [hσ.out] at this
    exact this
  have S4 : ∀ n, Calls Try.prog 14 #[fp R] (w4.drewN n) fun e w' => e = .returned (.int .i64 (l : Int)) ∧ w' = w4.drewN n := fun n => by
    have := steps_any (w4.drewN n) R _ (H4.out.1.drewN n)
    rw [hσ.out] at this
    exact this
  clear A3 h4 k4 p4 c0 c1
  go_wp2_with fail
  go_quiet (first | (go_at_call 16; exact Calls.quiet_of_same (P4 _)) | (go_at_call 14; exact Calls.quiet_of_same (S4 _)))
  go_wp2_with fail
  obtain ⟨w5, hw5⟩ : ∃ w5, Hid (w4.drewN nq = w5) := ⟨_, hide rfl⟩
  rw [hw5.out]
  have HF5 : Hid (Fl w5 R σ) := by rw [← hw5.out]; exact H4.out.1.drewN nq
  have HG5 : Hid (Fl w5 R2 (st0 C)) := by rw [← hw5.out]; exact ((H2.out.g.kept H3.out.2 (Ne.symm H2.out.n3)).kept H4.out.2 (Ne.symm H2.out.n3)).drewN nq
  have HP5 : Hid (PartB w5 P (a : Int) d (l : Int) j) := by rw [← hw5.out]; exact HP4.out.drewN nq
  have HB5 : Hid (Below w.heap.size w w5) := by
    rw [← hw5.out]
    have z := H2.out.b.size
    have z3 := H3.out.2.size
    exact below_drewN (H4.out.2.toBelow (H3.out.2.toBelow H2.out.b z H2.out.hR) (by omega) H2.out.hR) nq
  have HN := hide (And.intro H2.out.n1 (And.intro H2.out.n2 (And.intro H2.out.n3 (And.intro H2.out.hR H2.out.hR2))))
  clear H2 H3 H4 HP3 HP4 hw5 P4 S4 d1 d2
  have e0 := HP5.out.c0
  have e1 := HP5.out.c1
  have e2 := HP5.out.c2
  have G5 : ∀ wx, Fl wx R2 (st0 C) → Calls Try.prog 13 #[fp R2, .int .i64 a, .string (d.extract 0 l)] wx fun e w' => e = .returned (.int .i64 0) ∧ Fl w' R2 ({ st0 C with C := C1, st := (st0 C).st + ((d.extract 0 l).size : Nat) } : St) ∧ Kept R2 wx w' := fun wx hx => by
    have hsz : (d.extract 0 l).size = l := by rw [ByteArray.size_extract]; omega
    have := prog_free wx R2 _ hx (by show (0 : Nat) ≤ _; omega) rfl rfl (by show (0 : Int) ≤ 0; omega) (by show (0 : Int) ≤ _; omega) a (d.extract 0 l) (by rw [hsz]; have := HA.out.2.2; omega)
    rw [show onL (st0 C).C a (d.extract 0 l).size (andL (d.extract 0 l).data.toList) = C1 by rw [taken_and _ _ _ _ (by omega)]; exact hC1.out] at this
    exact this
  obtain ⟨τ, hτ⟩ : ∃ τ, Hid (τ = ({ st0 C with C := C1, st := (st0 C).st + ((d.extract 0 l).size : Nat) } : St)) := ⟨_, hide rfl⟩
  rw [← hτ.out] at G5
  have hs1 : (0 : Int) ≤ (l : Int) := by omega
  have hs2 : (l : Int) ≤ (d.size : Int) := by omega
  go_cut [145] (fun v wx => v = .bool false ∧ Fl wx R2 τ ∧ Kept R2 w5 wx)
  case first =>
    go_region_held3 (fun wx => wx.cell? ⟨P, 0, none⟩ = some (.int .i64 (a : Int)) ∧ wx.cell? ⟨P, 1, none⟩ = some (.string d) ∧ wx.cell? ⟨P, 2, none⟩ = some (.int .i64 (l : Int))) (go_keep) (first | (go_at_call 13; refine (G5 _ (by first | exact HG5.out | exact HG5.out.drew)).mono ?_; rintro e w6 ⟨rfl, h6, k6⟩; have H6 := hide h6; have K6 : Hid (Kept R2 w5 w6) := (by first | exact k6 | exact (Kept.drew (Kept.refl R2 w5)).trans k6); have x0 := (HP5.out.kept K6.out HN.out.2.1).c0; have x1 := (HP5.out.kept K6.out HN.out.2.1).c1; have x2 := (HP5.out.kept K6.out HN.out.2.1).c2; clear h6 k6))
    all_goals go_wp2_with fail
    all_goals go_meet
    all_goals exact ⟨rfl, H6.out, K6.out⟩
  case rest =>
    obtain ⟨rfl, h6, k6⟩ := hcut
    have HF6 := hide (HF5.out.kept k6 HN.out.2.2.1)
    have HG6 := hide h6
    have HP6 := hide (HP5.out.kept k6 HN.out.2.1)
    have z5 := HB5.out.size
    have HB6 := hide (k6.toBelow HB5.out z5 HN.out.2.2.2.2)
    clear h6 k6 G5 HF5 HG5 HP5 HB5 e0 e1 e2 z5
    obtain ⟨t1, ht1⟩ : ∃ t, Hid (bs C1 = t) := ⟨_, hide rfl⟩
    obtain ⟨t2, ht2⟩ : ∃ t, Hid (bs C2 = t) := ⟨_, hide rfl⟩
    obtain ⟨n, hn⟩ : ∃ n, Hid (n = 8192) := ⟨_, hide rfl⟩
    obtain ⟨c, hc⟩ : ∃ c : Nat, (a : Int) + (l : Int) = (c : Int) := ⟨a + l, by omega⟩
    have hcN : c = a + l := by omega
    have hC1l : C1.length = 8192 := by have := HG6.out.len; rw [hτ.out] at this; exact this
    have hcn : c < n := by rw [hn.out, hcN]; have := HA.out.2.2; omega
    have y1 : t1.size = n := by rw [← ht1.out, bs_size, hn.out]; exact hC1l
    have y2 : t2.size = n := by rw [← ht2.out, bs_size, hn.out, ← hC2.out, List.length_set]; exact hC1l
    have x1 : t2.extract 0 c = t1.extract 0 c := by
      rw [← ht1.out, ← ht2.out, bs_extract, bs_extract, ← hC2.out, hcN]
      simp only [List.drop_zero, Nat.sub_zero]
      rw [set_take]
    have x2 : t2.extract (c + 1) n = t1.extract (c + 1) n := by
      rw [← ht1.out, ← ht2.out, bs_extract, bs_extract, ← hC2.out, hcN, set_drop]
    obtain ⟨x, hx⟩ : ∃ x, Hid (C1.getD (a + l) 0 = x) := ⟨_, hide rfl⟩
    obtain ⟨q, hq⟩ : ∃ q, Hid (d.data.toList.getD l 0 = q) := ⟨_, hide rfl⟩
    have g1 : ∀ h : c < t1.size, t1[c]'h = x := fun h => by
      have g := ht1.out
      subst g
      rw [bs_at, hcN]; exact hx.out
    have hxC : C.getD (a + l) 0 = x := by
      rw [← hx.out, ← hC1.out, onL_next _ _ _ _ (by rw [← onL_length C a l (andL d.data.toList), hC1.out, hC1l]; have := HA.out.2.2; omega)]
    have g2 : ∀ h : c < t2.size, t2[c]'h = b := fun h => by
      have g := ht2.out
      subst g
      rw [bs_at, ← hC2.out, hcN, getD_at _ _ (by rw [List.length_set, hC1l]; have := HA.out.2.2; omega), List.getElem_set_self]
    have g3 : ∀ h : l < d.size, d[l]'h = q := fun h => by
      rw [← hq.out, getD_at _ _ (by rw [list_size]; exact h)]; rfl
    obtain ⟨m, hm⟩ : ∃ m, Hid (x &&& q = m) := ⟨_, hide rfl⟩
    have a1 : bits .and .u8 (x.toNat : Int) (q.toNat : Int) = (m.toNat : Int) := by rw [and8, hm.out]
    have B6 : ∀ wx, Calls Try.prog 17 #[.int .u8 (x.toNat : Int), .int .u8 (m.toNat : Int), .int .u8 (b.toNat : Int)] wx fun e w' => e = .returned (.bool true) ∧ w' = wx := fun wx => by
      refine between_true wx x m b ?_ ?_
      · rw [← hm.out, ← hb.out, hxC, hq.out]; exact btw1 _ _ _
      · rw [← hm.out, ← hb.out, hxC, hq.out]; exact btw2 _ _ _
    have I6 := image_any wc R _ HF6.out
    rw [show bs σ.C = t2 by rw [hσ.out]; exact ht2.out] at I6
    have J6 := image_any wc R2 _ HG6.out
    rw [show bs τ.C = t1 by rw [hτ.out]; exact ht1.out] at J6
    have qn : ((n : Int) != 8192) = false := by rw [hn.out]; rfl
    have qc0 : decide ((c : Int) < 0) = false := decide_eq_false (by omega)
    have qc1 : decide ((8192 : Int) ≤ (c : Int)) = false := decide_eq_false (by have := hn.out; omega)
    have e0 := HP6.out.c0
    have e1 := HP6.out.c1
    have e2 := HP6.out.c2
    have HC := hide hcN
    clear hcN hxC hC1l
    have hn9 : n ≤ 8192 := by have := hn.out; omega
    go_wp2_with fail
    refine I6.mono ?_
    rintro e w7 ⟨rfl, hw⟩
    obtain rfl := hw.symm
    clear hw I6
    go_wp2_with fail
    refine J6.mono ?_
    rintro e w7 ⟨rfl, hw⟩
    obtain rfl := hw.symm
    clear hw J6
    go_wp2_with fail
    have B7 : ∀ k, Calls Try.prog 17 #[.int .u8 (x.toNat : Int), .int .u8 (m.toNat : Int), .int .u8 (b.toNat : Int)] (wc.drewN k) fun e w' => e = .returned (.bool true) ∧ w' = wc.drewN k := fun k => B6 _
    go_quiet (first | (go_at_call 17; exact Calls.quiet_of_same (B7 _)))
    go_wp2_with fail
    obtain ⟨w8, hw8⟩ : ∃ w8, Hid (wc.drewN nq = w8) := ⟨_, hide rfl⟩
    rw [hw8.out]
    have HF8 : Hid (Fl w8 R σ) := by rw [← hw8.out]; exact HF6.out.drewN nq
    have HB8 : Hid (Below w.heap.size w w8) := by rw [← hw8.out]; exact below_drewN HB6.out nq
    have hoff : Hid (σ.off = true) := by show _ = _; rw [hσ.out]
    have hT2 : Hid (bs σ.C = t2) := by show _ = _; rw [hσ.out]; exact ht2.out
    clear HF6 HG6 HP6 HB6 B6 B7 e0 e1 e2 hw8 g1 g2 g3 a1 hs1 hs2 hld qc0 qc1 qn hm hq hx hτ hσ hb hC2 hC1
    have s1 : (0 : Int) ≤ (c : Int) := by omega
    have s2 : (c : Int) ≤ (n : Int) := by omega
    have s3 : (0 : Int) ≤ (c : Int) + 1 := by omega
    have s4 : (c : Int) + 1 ≤ (n : Int) := by omega
    have s5 : IntKind.i64.wrap ((c : Int) + 1) = (c : Int) + 1 := by rw [IntKind.wrap_i64]; omega
    have s6 : ((c : Int) + 1).toNat = c + 1 := by omega
    clear hcn hc
    go_region_held3 (fun _ => True) (trivial) (first
      | (go_at_call 10; refine (awake_true _).mono ?_; rintro e w9 ⟨rfl, b9⟩; have HB9 : Hid (Below w8.heap.size w8 w9) := (by first | exact b9 | exact below_next (Below.refl _ _).drew (Nat.le_refl _) b9); have HF9 := hide (HF8.out.below HB9.out); clear b9)
      | (go_at_call 13; refine (prog_off _ R σ (by first | exact HF9.out | exact HF9.out.drew) hoff.out 0 ⟨#[120]⟩).mono ?_; rintro e wp ⟨rfl, rfl⟩)
      | (go_at_call 18; refine (erase_off _ R σ (by first | exact HF9.out | exact HF9.out.drew) hoff.out 0).mono ?_; rintro e wp ⟨rfl, rfl⟩)
      | (go_at_call 12; refine (image_any _ R σ (by first | exact HF9.out | exact HF9.out.drew)).mono ?_; rintro e wp ⟨rfl, rfl⟩; rw [hT2.out]))
    all_goals go_wp2_with fail
    all_goals go_ret
    all_goals exact ⟨rfl, below_next HB8.out (Nat.le_refl _) HB9.out⟩
/-- NorCuts -/
theorem NorCuts_walk (s : ByteArray) (a : Int) (d : ByteArray) (l : Int) (j : ByteArray) (_hs : s.size ≤ 140737488351232) (ha : I64 a) (_hd : d.size ≤ 140737488351232) (hl : I64 l) (hj : j.size ≤ 140737488351232) (w : World) : Calls Try.prog 5 #[.string s, partV a d l j] w fun e w' => e = .returned (.bool true) ∧ Below w.heap.size w w' := by
  by_cases h0 : s.size = 0 ∨ s.size = 8192
  · by_cases hn : l < 0
    · exact cuts_neg s h0 a d l hn j w
    · obtain ⟨n, rfl⟩ := Int.eq_ofNat_of_zero_le (show 0 ≤ l by omega)
      unfold I64 at hl
      cases hi : insideB a d.size
      · exact cuts_out s h0 a ha d n hl.2 j hj hi w
      · obtain ⟨h1, h2, h3⟩ := insideB_true hi
        obtain ⟨k, rfl⟩ := Int.eq_ofNat_of_zero_le h1
        by_cases hc : d.size ≤ n
        · exact cuts_far s h0 k d n hl.2 j hj (by omega) hc w
        · exact cuts_in s h0 k d n hl.2 j hj (by omega) (by omega) w
  · exact cuts_bad s (fun h => h0 (.inl h)) (fun h => h0 (.inr h)) a d l j w
end Go.Proofs.Ytjfajonedckggaa
