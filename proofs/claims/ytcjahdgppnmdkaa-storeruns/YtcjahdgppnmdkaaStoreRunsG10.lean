/- So12, So13, So14, SoP, SoRZ. -/
import Derived.Test.YtcjahdgppnmdkaaStoreRunsG09
import Derived.Test.YtcjahdgppnmdkaaStoreRunsG01
set_option maxRecDepth 100000
namespace Go.Proofs.Ytcjahdgppnmdkaa
open Go.RowKit Go.Great
/-- a store that can be asked -/
structure Ask (s : Sv) : Prop where
  ac : s.ac < 2
  tu : s.tu < 3
  en : s.en ≤ 4096
  k : KOk s.k 4096
theorem needN_rest (k : Kp) (i n : Nat) (hi : i < 3) : 1 + restM k (i : Int) n 0 3 = needN k i n := by
  show 1 + (szM k (i : Int) n 0 + (szM k (i : Int) n 1 + (szM k (i : Int) n 2 + 0))) = _
  unfold szM needN szK
  obtain rfl | rfl | rfl : i = 0 ∨ i = 1 ∨ i = 2 := by omega
  all_goals
    cases (k 0).th <;> cases (k 1).th <;> cases (k 2).th <;> simp <;> omega
/-- write: add or move -/
def wriS (σ : St) (s : Sv) (i : Nat) (v : List UInt8) : St × Option Sv :=
  if s.en + 4 + v.length ≤ 4096 then ((addS s.ac i v ⟨σ, s.en, s.k⟩).1.σ, if (addS s.ac i v ⟨σ, s.en, s.k⟩).2 then some ⟨s.ac, s.tu, (addS s.ac i v ⟨σ, s.en, s.k⟩).1.en, (addS s.ac i v ⟨σ, s.en, s.k⟩).1.k⟩ else none)
  else moveS σ s (i : Int) v
theorem addS_fail {s i : Nat} {t : List UInt8} {m : Mv} (h : (addS s i t m).2 = false) : (addS s i t m).1.en = m.en ∧ (addS s i t m).1.k = m.k := by
  unfold addS at h ⊢
  by_cases hc : (progS m.σ (s * 4096 + m.en) (recB i t)).2 = true
  · rw [if_pos hc] at h; cases h
  · rw [if_neg hc]; exact ⟨rfl, rfl⟩
theorem write_any (w : World) (S R : Nat) (σ : St) (hon : On σ) (s : Sv) (ha : Ask s) (hF : Fl w R σ) (h : So w S (fp R) s.ac s.tu s.en s.k) (i : Nat) (hi : i < 3) (tv : ByteArray) (htv : tv.size ≤ 2000) (hn : needN s.k i tv.size ≤ 4096) :
    Calls Try.prog 52 #[fp S, .int .i64 (i : Int), .string tv] w fun e w' => StEnd (wriS σ s i tv.data.toList) s S R w e w' := by
  have c3 := h.c3
  by_cases hc : s.en + 4 + tv.size ≤ 4096
  · have A := add_any w S R σ hon s.ac s.tu s.en s.k i tv hF h ha.ac hi htv hc
    have hfl := @addS_fail s.ac i tv.data.toList ⟨σ, s.en, s.k⟩
    have HW : Hid (wriS σ s i tv.data.toList = ((addS s.ac i tv.data.toList ⟨σ, s.en, s.k⟩).1.σ, if (addS s.ac i tv.data.toList ⟨σ, s.en, s.k⟩).2 then some ⟨s.ac, s.tu, (addS s.ac i tv.data.toList ⟨σ, s.en, s.k⟩).1.en, (addS s.ac i tv.data.toList ⟨σ, s.en, s.k⟩).1.k⟩ else none)) := by
      show _ = _
      unfold wriS
      rw [if_pos (by rw [list_size]; exact hc)]
    obtain ⟨⟨m, ok⟩, hx⟩ : ∃ x, addS s.ac i tv.data.toList ⟨σ, s.en, s.k⟩ = x := ⟨_, rfl⟩
    rw [hx] at A HW hfl
    simp only at A HW hfl
    obtain ⟨r, hr⟩ : ∃ r : Int, Hid ((if ok then 0 else 60) = r) := ⟨_, hide rfl⟩
    rw [show (if ok = true then (0 : Int) else 60) = r from hr.out] at A
    obtain ⟨en, hen⟩ : ∃ en, Hid (s.en = en) := ⟨_, hide rfl⟩
    rw [hen.out] at c3
    obtain ⟨n, hnn⟩ : ∃ n, tv.size = n := ⟨_, rfl⟩
    have hc1 : (en : Int) + 4 + (n : Int) ≤ 4096 := by have := hen.out; omega
    clear hx hc hn
    go_enter Try.func52, Try.ntmps52
    go_wp2_with fail
    refine A.mono ?_
    rintro e w1 ⟨rfl, f1, s1, k1⟩
    have S1 := hide s1
    clear s1 A
    go_wp2_with fail
    go_ret
    cases ok
    · have g := hfl rfl
      have := S1.out
      rw [g.1, g.2] at this
      exact (show StEnd _ _ _ _ _ _ _ from ⟨false, m.σ, s, by rw [hr.out]; rfl, HW.out, f1, this, k1⟩)
    · exact (show StEnd _ _ _ _ _ _ _ from ⟨true, m.σ, ⟨s.ac, s.tu, m.en, m.k⟩, by rw [hr.out]; rfl, HW.out, f1, S1.out, k1⟩)
  · have A := move_any w S R σ hon s.ac s.tu s.en s.k hF h ha.ac ha.tu ha.k (i : Int) tv htv (by rw [needN_rest _ _ _ hi]; exact hn)
    have HW : Hid (wriS σ s i tv.data.toList = moveS σ s (i : Int) tv.data.toList) := by
      show _ = _
      unfold wriS
      rw [if_neg (by rw [list_size]; exact hc)]
    obtain ⟨en, hen⟩ : ∃ en, Hid (s.en = en) := ⟨_, hide rfl⟩
    rw [hen.out] at c3
    obtain ⟨n, hnn⟩ : ∃ n, tv.size = n := ⟨_, rfl⟩
    have he1 : (en : Int) ≤ 4096 := by have := hen.out; have := ha.en; omega
    have hn1 : (n : Int) ≤ 2000 := by omega
    have hc1 : decide ((en : Int) + 4 + (n : Int) ≤ 4096) = false := decide_eq_false (by have := hen.out; omega)
    clear hc hn htv
    go_enter Try.func52, Try.ntmps52
    go_wp2_with fail
    refine A.mono ?_
    intro e w1 h1
    have H1 := hide h1
    clear h1 A
    obtain ⟨ok, τ, s', rfl, g2, g3, g4, g5⟩ := H1.out
    clear H1
    obtain ⟨r, hr⟩ : ∃ r : Int, Hid ((if ok then 0 else 60) = r) := ⟨_, hide rfl⟩
    rw [show (if ok = true then (0 : Int) else 60) = r from hr.out]
    have G2 := hide g2
    have G4 := hide g4
    clear g2 g4
    go_wp2_with fail
    go_ret
    exact (show StEnd _ _ _ _ _ _ _ from ⟨ok, τ, s', by rw [hr.out]; rfl, by rw [HW.out]; exact G2.out, g3, G4.out, g5⟩)
theorem put_nil (w : World) (id : Int) (v : ByteArray) : Calls Try.prog 21 #[.pointer none, .int .i64 id, .string v] w fun e w' => e = .returned (.int .i64 2) ∧ w' = w := by
  go_enter Try.func21, Try.ntmps21
  go_wp2
  go_ret
  exact ⟨rfl, rfl⟩
theorem put_stands (w : World) (S : Nat) (ac tu en : Int) (k : Kp) (h : So w S (.pointer none) ac tu en k) (id : Int) (v : ByteArray) : Calls Try.prog 21 #[fp S, .int .i64 id, .string v] w fun e w' => e = .returned (.int .i64 60) ∧ w' = w := by
  have c0 := h.c0
  go_enter Try.func21, Try.ntmps21
  go_wp2
  go_ret
  exact ⟨rfl, rfl⟩
/-- what Put leaves -/
def PutEnd (x : St × Option Sv × Int) (S R : Nat) (w : World) (e : Ending) (w' : World) : Prop :=
  ∃ (τ : St) (o : Option Sv) (r : Int), e = .returned (.int .i64 r) ∧ x = (τ, o, r) ∧ Fl w' R τ ∧ (∀ s', o = some s' → So w' S (fp R) s'.ac s'.tu s'.en s'.k) ∧ (o = none → So w' S (.pointer none) 0 0 0 kz) ∧ Kep2 R S w w'
theorem put_arg (w : World) (S R : Nat) (σ : St) (s : Sv) (hF : Fl w R σ) (h : So w S (fp R) s.ac s.tu s.en s.k) (id : Int) (tv : ByteArray) (hb : ¬ (0 ≤ id ∧ id < 3) ∨ 2000 < tv.size) :
    Calls Try.prog 21 #[fp S, .int .i64 id, .string tv] w fun e w' => PutEnd (putS σ s id tv.data.toList) S R w e w' := by
  have HX : Hid (putS σ s id tv.data.toList = (σ, some s, 1)) := by
    show _ = _
    unfold putS
    rw [if_pos (by rw [list_size]; exact hb)]
  have O := obj_any w id
  have c0 := h.c0
  go_enter Try.func21, Try.ntmps21
  by_cases hid : 0 ≤ id ∧ id < 3
  · have e0 : (decide (0 ≤ id) && decide (id < 3)) = true := by simp; omega
    rw [e0] at O
    have hz : (2000 : Int) < (tv.size : Int) := by omega
    clear hb hid
    go_wp2_with (go_at_call 50; refine O.mono ?_; rintro e w1 ⟨rfl, rfl⟩)
    go_ret
    exact (show PutEnd _ _ _ _ _ _ from ⟨σ, some s, 1, rfl, HX.out, hF, (fun s' e => by injection e with e; subst e; exact h), (fun e => by cases e), Kep2.refl _ _ _⟩)
  · have e0 : (decide (0 ≤ id) && decide (id < 3)) = false := by simp; omega
    rw [e0] at O
    clear hb hid
    go_wp2_with (go_at_call 50; refine O.mono ?_; rintro e w1 ⟨rfl, rfl⟩)
    go_ret
    exact (show PutEnd _ _ _ _ _ _ from ⟨σ, some s, 1, rfl, HX.out, hF, (fun s' e => by injection e with e; subst e; exact h), (fun e => by cases e), Kep2.refl _ _ _⟩)
theorem wri_put (σ : St) (s : Sv) (i : Nat) (hi : i < 3) (v : List UInt8) (hv : v.length ≤ 2000) (hn : needN s.k i v.length ≤ 4096) : putS σ s (i : Int) v = ((wriS σ s i v).1, (wriS σ s i v).2, if (wriS σ s i v).2.isSome then 0 else 60) := by
  unfold putS wriS
  rw [if_neg (by omega), show ((i : Int)).toNat = i by omega, if_neg (by omega)]
  by_cases hc : s.en + 4 + v.length ≤ 4096
  · rw [if_pos hc, if_pos hc]
    cases hb : (addS s.ac i v ⟨σ, s.en, s.k⟩).2
    · simp
    · simp
  · rw [if_neg hc, if_neg hc]
set_option maxHeartbeats 1000000 in
theorem put_in (w : World) (S R : Nat) (σ : St) (hon : On σ) (s : Sv) (ha : Ask s) (hF : Fl w R σ) (h : So w S (fp R) s.ac s.tu s.en s.k) (i : Nat) (hi : i < 3) (tv : ByteArray) (htv : tv.size ≤ 2000) :
    Calls Try.prog 21 #[fp S, .int .i64 (i : Int), .string tv] w fun e w' => PutEnd (putS σ s (i : Int) tv.data.toList) S R w e w' := by
  have O := obj_any w (i : Int)
  have e0 : (decide (0 ≤ (i : Int)) && decide ((i : Int) < 3)) = true := by simp; omega
  rw [e0] at O
  have c0 := h.c0
  have N := need_any w S (fp R) s.ac s.tu s.en s.k h (fun j hj => (ha.k.1 j hj).2) i tv.size htv
  obtain ⟨q, hq⟩ : ∃ q, Hid (needN s.k i tv.size = q) := ⟨_, hide rfl⟩
  rw [hq.out] at N
  obtain ⟨n, hnn⟩ : ∃ n, tv.size = n := ⟨_, rfl⟩
  have hn1 : (n : Int) ≤ 2000 := by omega
  have HTV := hide htv
  by_cases hc : q ≤ 4096
  · have A := fun w1 (b1 : Below w.heap.size w w1) => write_any w1 S R σ hon s ha (hF.below b1) (h.below b1) i hi tv HTV.out (by rw [hq.out]; exact hc)
    have HX := hide (wri_put σ s i hi tv.data.toList (by rw [list_size]; exact HTV.out) (by rw [list_size, hq.out]; exact hc))
    have hc1 : (q : Int) ≤ 4096 := by omega
    rw [hnn] at N
    clear hc htv
    go_enter Try.func21, Try.ntmps21
    go_wp2_with (go_at_call 50; refine O.mono ?_; rintro e w1 ⟨rfl, hw⟩; obtain rfl := hw.symm; clear hw)
    refine N.mono ?_
    rintro e w1 ⟨rfl, b1⟩
    have A1 := A w1 b1
    have B1 := hide b1
    clear A N b1
    go_wp2_with fail
    refine A1.mono ?_
    intro e w2 h2
    have H2 := hide h2
    clear h2 A1
    obtain ⟨ok, τ, s', rfl, g2, g3, g4, g5⟩ := H2.out
    clear H2
    cases ok
    · simp only [Bool.false_eq_true, if_false] at g2 g4
      have G2 := hide g2
      have G4 := hide g4
      have q0 := g4.c0
      have z0 := g4.frozen 0
      have q1 := g4.c1
      have z1 := g4.frozen 1
      have q2 := g4.c2
      have z2 := g4.frozen 2
      have q3 := g4.c3
      have z3 := g4.frozen 3
      have q4 := g4.c4
      have z4 := g4.frozen 4
      have q5 := g4.c5
      have z5 := g4.frozen 5
      have q6 := g4.c6
      have z6 := g4.frozen 6
      have q7 := g4.c7
      have z7 := g4.frozen 7
      have q8 := g4.c8
      have z8 := g4.frozen 8
      have q9 := g4.c9
      have z9 := g4.frozen 9
      have q10 := g4.c10
      have z10 := g4.frozen 10
      have q11 := g4.c11
      have z11 := g4.frozen 11
      have q12 := g4.c12
      have z12 := g4.frozen 12
      have hRS := g3.ne g4
      clear g2 g4
      go_wp2_with fail
      go_ret
      exact (show PutEnd _ _ _ _ _ _ from ⟨τ, none, 60, rfl, by rw [HX.out, G2.out]; rfl, g3.kept (Kept.all13 (Kept.refl S w2) _ _ _ _ _ _ _ _ _ _ _ _ _) hRS, (fun s' e => by cases e), (fun _ => G4.out.all (.pointer none) 0 0 0 kz), ((below_kept B1.out R).l2 S).trans (g5.trans ((Kept.all13 (Kept.refl S w2) _ _ _ _ _ _ _ _ _ _ _ _ _).r2 R))⟩)
    · simp only [if_true] at g2 g4
      have G2 := hide g2
      have G4 := hide g4
      clear g2 g4
      go_wp2_with fail
      go_ret
      exact (show PutEnd _ _ _ _ _ _ from ⟨τ, some s', 0, rfl, by rw [HX.out, G2.out]; rfl, g3, (fun s1 e => by injection e with e; subst e; exact G4.out), (fun e => by cases e), ((below_kept B1.out R).l2 S).trans g5⟩)
  · have HX : Hid (putS σ s (i : Int) tv.data.toList = (σ, some s, 70)) := by
      show _ = _
      unfold putS
      rw [if_neg (by rw [list_size]; omega), show ((i : Int)).toNat = i by omega, if_pos (by rw [list_size, hq.out]; omega)]
    have hc1 : (4096 : Int) < (q : Int) := by omega
    rw [hnn] at N
    clear hc htv
    go_enter Try.func21, Try.ntmps21
    go_wp2_with (go_at_call 50; refine O.mono ?_; rintro e w1 ⟨rfl, hw⟩; obtain rfl := hw.symm; clear hw)
    refine N.mono ?_
    rintro e w1 ⟨rfl, b1⟩
    go_wp2_with fail
    go_ret
    exact (show PutEnd _ _ _ _ _ _ from ⟨σ, some s, 70, rfl, HX.out, hF.below b1, (fun s' e => by injection e with e; subst e; exact h.below b1), (fun e => by cases e), (below_kept b1 R).l2 S⟩)
theorem put_any (w : World) (S R : Nat) (σ : St) (hon : On σ) (s : Sv) (ha : Ask s) (hF : Fl w R σ) (h : So w S (fp R) s.ac s.tu s.en s.k) (id : Int) (tv : ByteArray) :
    Calls Try.prog 21 #[fp S, .int .i64 id, .string tv] w fun e w' => PutEnd (putS σ s id tv.data.toList) S R w e w' := by
  by_cases hb : ¬ (0 ≤ id ∧ id < 3) ∨ 2000 < tv.size
  · exact put_arg w S R σ s hF h id tv hb
  · obtain ⟨i, rfl⟩ := Int.eq_ofNat_of_zero_le (show 0 ≤ id by omega)
    exact put_in w S R σ hon s ha hF h i (by omega) tv (by omega)
theorem get_nil (w : World) (id : Int) : Calls Try.prog 24 #[.pointer none, .int .i64 id] w fun e w' => e = .returned (.tuple #[.string ⟨#[]⟩, .bool false]) ∧ w' = w := by
  go_enter Try.func24, Try.ntmps24
  go_wp2
  go_ret2
  exact ⟨rfl, rfl⟩
theorem get_out (w : World) (S : Nat) (id : Int) (hid : ¬ (0 ≤ id ∧ id < 3)) : Calls Try.prog 24 #[fp S, .int .i64 id] w fun e w' => e = .returned (.tuple #[.string ⟨#[]⟩, .bool false]) ∧ w' = w := by
  have O := obj_any w id
  have e0 : (decide (0 ≤ id) && decide (id < 3)) = false := by simp; omega
  rw [e0] at O
  clear hid
  go_enter Try.func24, Try.ntmps24
  go_wp2_with (go_at_call 50; refine O.mono ?_; rintro e w1 ⟨rfl, hw⟩; obtain rfl := hw.symm; clear hw)
  go_ret2
  exact ⟨rfl, rfl⟩
theorem get_not (w : World) (S : Nat) (p : Value) (ac tu en : Int) (k : Kp) (h : So w S p ac tu en k) (i : Nat) (hi : i < 3) (ht : (k i).th = false) : Calls Try.prog 24 #[fp S, .int .i64 (i : Int)] w fun e w' => e = .returned (.tuple #[.string ⟨#[]⟩, .bool false]) ∧ w' = w := by
  have O := obj_any w (i : Int)
  have e0 : (decide (0 ≤ (i : Int)) && decide ((i : Int) < 3)) = true := by simp; omega
  rw [e0] at O
  have c4 := h.c4
  have c7 := h.c7
  have c10 := h.c10
  clear e0
  obtain rfl | rfl | rfl : i = 0 ∨ i = 1 ∨ i = 2 := by omega
  all_goals
    go_enter Try.func24, Try.ntmps24
    go_wp2_with (go_at_call 50; refine O.mono ?_; rintro e w1 ⟨rfl, hw⟩; obtain rfl := hw.symm; clear hw)
    go_ret2
    exact ⟨rfl, rfl⟩
theorem get_there (w : World) (S R : Nat) (σ : St) (hon : On σ) (s : Sv) (ha : Ask s) (hF : Fl w R σ) (h : So w S (fp R) s.ac s.tu s.en s.k) (i : Nat) (hi : i < 3) (ht : (s.k i).th = true) : Calls Try.prog 24 #[fp S, .int .i64 (i : Int)] w fun e w' => e = .returned (.tuple #[.string (bs (txt σ.C s.ac (s.k i))), .bool true]) ∧ Below w.heap.size w w' := by
  have O := obj_any w (i : Int)
  have e0 : (decide (0 ≤ (i : Int)) && decide ((i : Int) < 3)) = true := by simp; omega
  rw [e0] at O
  have RD := read_st w S R σ hF hon.off s.ac s.tu s.en s.k h ha.ac i hi (by have := (ha.k.1 i ht).1; omega)
  obtain ⟨t, hx⟩ : ∃ t, bs (txt σ.C s.ac (s.k i)) = t := ⟨_, rfl⟩
  rw [hx] at RD ⊢
  have c4 := h.c4
  have c7 := h.c7
  have c10 := h.c10
  clear e0 hx
  obtain rfl | rfl | rfl : i = 0 ∨ i = 1 ∨ i = 2 := by omega
  all_goals
    go_enter Try.func24, Try.ntmps24
    go_wp2_with (go_at_call 50; refine O.mono ?_; rintro e w1 ⟨rfl, hw⟩; obtain rfl := hw.symm; clear hw)
    refine RD.mono ?_
    rintro e w1 ⟨rfl, b1⟩
    go_wp2_with fail
    go_ret2
    exact ⟨rfl, b1⟩
/-- what Get answers -/
def getV (o : Option (List UInt8)) : Value := match o with | some l => .tuple #[.string (bs l), .bool true] | none => .tuple #[.string ⟨#[]⟩, .bool false]
theorem get_any (w : World) (S R : Nat) (σ : St) (hon : On σ) (s : Sv) (ha : Ask s) (hF : Fl w R σ) (h : So w S (fp R) s.ac s.tu s.en s.k) (id : Int) : Calls Try.prog 24 #[fp S, .int .i64 id] w fun e w' => e = .returned (getV (getS σ.C s id)) ∧ Below w.heap.size w w' := by
  by_cases hid : 0 ≤ id ∧ id < 3
  · obtain ⟨i, rfl⟩ := Int.eq_ofNat_of_zero_le hid.1
    cases ht : (s.k i).th
    · rw [getS, if_neg (by rw [show ((i : Int)).toNat = i by omega, ht]; simp)]
      refine (get_not w S _ _ _ _ _ h i (by omega) ht).mono ?_
      rintro e w1 ⟨rfl, rfl⟩
      exact ⟨rfl, Below.refl _ _⟩
    · rw [getS, if_pos (by rw [show ((i : Int)).toNat = i by omega, ht]; exact ⟨hid.1, hid.2, rfl⟩), show ((i : Int)).toNat = i by omega]
      exact get_there w S R σ hon s ha hF h i (by omega) ht
  · rw [getS, if_neg (fun c => hid ⟨c.1, c.2.1⟩)]
    refine (get_out w S id hid).mono ?_
    rintro e w1 ⟨rfl, rfl⟩
    exact ⟨rfl, Below.refl _ _⟩
theorem get_stands (w : World) (S : Nat) (p : Value) (ac tu en : Int) (h : So w S p ac tu en kz) (id : Int) : Calls Try.prog 24 #[fp S, .int .i64 id] w fun e w' => e = .returned (.tuple #[.string ⟨#[]⟩, .bool false]) ∧ w' = w := by
  by_cases hid : 0 ≤ id ∧ id < 3
  · obtain ⟨i, rfl⟩ := Int.eq_ofNat_of_zero_le hid.1
    exact get_not w S p ac tu en kz h i (by omega) rfl
  · exact get_out w S id hid
end Go.Proofs.Ytcjahdgppnmdkaa
set_option maxRecDepth 100000
namespace Go.Proofs.Ytcjahdgppnmdkaa
open Go.RowKit Go.Great
theorem boot_nil (w : World) : Calls Try.prog 27 #[.pointer none] w fun e w' => e = .returned (.tuple #[.pointer none, .int .i64 2]) ∧ w' = w := by
  go_enter Try.func27, Try.ntmps27
  go_wp2_with fail
  refine (read_nil w 0 8192).mono ?_
  rintro e w1 ⟨rfl, rfl⟩
  go_wp2_with fail
  go_ret2
  exact ⟨rfl, rfl⟩
/-- what Boot leaves -/
def BootEnd (x : St × Option Sv) (R : Nat) (w : World) (e : Ending) (w' : World) : Prop :=
  ∃ (ok : Bool) (τ : St) (s' : Sv) (S : Nat), e = .returned (.tuple #[if ok then fp S else .pointer none, .int .i64 (if ok then 0 else 60)]) ∧ x = (τ, if ok then some s' else none) ∧ Fl w' R τ ∧ (ok = true → So w' S (fp R) s'.ac s'.tu s'.en s'.k) ∧ w.heap.size ≤ S ∧ Kept R w w'
theorem so_zero (w : World) (p : Value) : So (w.alloc (.cells #[p, .int .i64 0, .int .i64 0, .int .i64 0, .bool false, .int .i64 0, .int .i64 0, .bool false, .int .i64 0, .int .i64 0, .bool false, .int .i64 0, .int .i64 0] 108)) w.heap.size p 0 0 0 kz := ⟨heap_alloc_new _ _⟩
theorem kep_new {w w1 w2 : World} {R : Nat} (b : Below w.heap.size w w1) (g : Kep2 R w.heap.size w1 w2) : Kept R w w2 :=
  ⟨g.os.trans b.os, g.tape.trans b.tape, g.output.trans b.output, Nat.le_trans b.size g.size, fun k hk h1 => (g.block k (Nat.lt_of_lt_of_le hk b.size) (fun e => h1 (by rw [e])) (Nat.ne_of_lt hk)).trans (b.block k hk)⟩
theorem boot_any (w : World) (R : Nat) (σ : St) (hF : Fl w R σ) (hj : σ.jk.size ≤ 4096) : Calls Try.prog 27 #[fp R] w fun e w' => BootEnd (bootS σ) R w e w' := by
  cases ho : σ.off
  · have hon : On σ := ⟨hF.len, ho, hj⟩
    have RD := read_in w R σ hF ho 0 8192 (by omega)
    rw [List.drop_zero, List.take_of_length_le (by rw [hF.len]; omega)] at RD
    have b1 := below_alloc w (.cells #[fp R, .int .i64 0, .int .i64 0, .int .i64 0, .bool false, .int .i64 0, .int .i64 0, .bool false, .int .i64 0, .int .i64 0, .bool false, .int .i64 0, .int .i64 0] 108)
    have OD := order_any _ w.heap.size R σ hon (hF.below b1) (so_zero w (fp R))
    obtain ⟨x, hx⟩ : ∃ x, bootS σ = x := ⟨_, rfl⟩
    rw [hx] at OD ⊢
    obtain ⟨t, ht⟩ : ∃ t, bs σ.C = t := ⟨_, rfl⟩
    rw [ht] at RD OD
    have HB := hide b1
    have hlr := hF.lt
    clear hx ht b1 hF
    go_enter Try.func27, Try.ntmps27
    go_wp2_with fail
    refine RD.mono ?_
    rintro e w1 ⟨rfl, hw⟩
    obtain rfl := hw.symm
    clear hw RD
    go_wp2_with fail
    refine OD.mono ?_
    intro e w2 h2
    have H2 := hide h2
    clear h2 OD
    obtain ⟨ok, τ, s', rfl, g2, g3, g4, g5⟩ := H2.out
    clear H2
    have G2 := hide g2
    have G4 := hide g4
    have G5 : Hid (Kept R w w2) := hide (kep_new HB.out g5)
    clear g2 g4 g5
    cases ok
    · go_wp2_with fail
      go_ret2
      exact (show BootEnd _ _ _ _ _ from ⟨false, τ, s', w.heap.size, rfl, G2.out, g3, (fun e => by cases e), Nat.le_refl _, G5.out⟩)
    · go_wp2_with fail
      go_ret2
      exact (show BootEnd _ _ _ _ _ from ⟨true, τ, s', w.heap.size, rfl, G2.out, g3, (fun _ => G4.out trivial), Nat.le_refl _, G5.out⟩)
  · have RD := read_off w R σ hF ho 0 8192
    have HX : Hid (bootS σ = (σ, none)) := by show _ = _; unfold bootS; rw [if_pos ho]
    clear ho
    go_enter Try.func27, Try.ntmps27
    go_wp2_with fail
    refine RD.mono ?_
    rintro e w1 ⟨rfl, hw⟩
    obtain rfl := hw.symm
    clear hw RD
    go_wp2_with fail
    go_ret2
    exact (show BootEnd _ _ _ _ _ from ⟨false, σ, ⟨0, 0, 0, kz⟩, w.heap.size, rfl, HX.out, hF, (fun e => by cases e), Nat.le_refl _, Kept.refl _ _⟩)
end Go.Proofs.Ytcjahdgppnmdkaa
set_option maxRecDepth 100000
namespace Go.Proofs.Ytcjahdgppnmdkaa
open Go.RowKit Go.Great
theorem put_ok {σ : St} {s s' : Sv} {i : Nat} {v : List UInt8} (hi : i < 3) (hv : v.length ≤ 2000) (hn : needN s.k i v.length ≤ 4096) (h : (putS σ s (i : Int) v).2.1 = some s') : (putS σ s (i : Int) v).2.2 = 0 := by
  rw [wri_put σ s i hi v hv hn] at h ⊢
  have h2 : (wriS σ s i v).2 = some s' := h
  show (if (wriS σ s i v).2.isSome = true then (0 : Int) else 60) = 0
  rw [h2]; rfl
/-- an image that begins with L, blank behind it -/
def im (L : List UInt8) : List UInt8 := L ++ List.replicate (8192 - L.length) 255
theorem im_len (L : List UInt8) (h : L.length ≤ 8192) : (im L).length = 8192 := by simp [im]; omega
theorem and255 (x : UInt8) : 255 &&& x = x := by
  apply UInt8.toBitVec_inj.1
  show (255#8 &&& x.toBitVec) = x.toBitVec
  rw [show (255#8) = BitVec.allOnes 8 from rfl, BitVec.allOnes_and]
theorem im_prog (L d : List UInt8) (h : L.length + d.length ≤ 8192) : onL (im L) L.length d.length (andL d) = im (L ++ d) := by
  apply List.ext_getElem
  · rw [onL_length, im_len L (by omega), im_len _ (by simp; omega)]
  · intro k h1 h2
    have hk : k < 8192 := by rw [onL_length, im_len L (by omega)] at h1; exact h1
    rw [onL_at]
    by_cases c1 : k < L.length
    · rw [if_neg (by omega)]
      simp only [im, List.append_assoc]
      rw [List.getElem_append_left c1, List.getElem_append_left c1]
    · by_cases c2 : k < L.length + d.length
      · rw [if_pos (by omega)]
        simp only [im]
        rw [List.getElem_append_right (by omega), List.getElem_replicate, List.getElem_append_left (by simp; omega), List.getElem_append_right (by omega)]
        unfold andL
        rw [getD_at _ _ (by omega), and255]
      · rw [if_neg (by omega)]
        simp only [im]
        rw [List.getElem_append_right (by omega), List.getElem_replicate, List.getElem_append_right (by simp; omega), List.getElem_replicate]
def imS (L : List UInt8) (n : Int) : St := ⟨im L, false, n, false, 0, ⟨#[]⟩⟩
theorem prog_im (L d : List UInt8) (n : Nat) (h : L.length + d.length ≤ 8192) (hn : n ≤ 1000000) : progS (imS L n) L.length d = (imS (L ++ d) ((n + d.length : Nat) : Int), true) := by
  rw [progS_pre d (imS L n) L.length (fun e => by cases e) (by show _ ≤ (im L).length; rw [im_len L (by omega)]; omega) (by show (0 : Int) ≤ (n : Int); omega) (by show (n : Int) + _ ≤ _; omega)]
  unfold imS
  simp only [im_prog L d h, Bool.false_eq_true, if_false]
  rw [Int.natCast_add]
theorem add_im (L : List UInt8) (n en i : Nat) (k : Kp) (t : List UInt8) (he : L.length = en) (h : en + 4 + t.length ≤ 4096) (hn : n ≤ 1000000) : addS 0 i t ⟨imS L n, en, k⟩ = (⟨imS (L ++ recB i t) ((n + (4 + t.length) : Nat) : Int), en + 4 + t.length, upd k i ⟨true, en + 3, t.length⟩⟩, true) := by
  subst he
  unfold addS
  have := prog_im L (recB i t) n (by rw [recB_length]; omega) hn
  rw [recB_length] at this
  simp only [Nat.zero_mul, Nat.zero_add]
  rw [this]
  rfl
theorem put_im (L : List UInt8) (n : Nat) (s : Sv) (i : Nat) (t : List UInt8) (hi : i < 3) (hac : s.ac = 0) (he : L.length = s.en) (h : s.en + 4 + t.length ≤ 4096) (ht : t.length ≤ 2000) (hn : n ≤ 1000000) (hN : needN s.k i t.length ≤ 4096) : putS (imS L n) s (i : Int) t = (imS (L ++ recB i t) ((n + (4 + t.length) : Nat) : Int), some ⟨0, s.tu, s.en + 4 + t.length, upd s.k i ⟨true, s.en + 3, t.length⟩⟩, 0) := by
  unfold putS
  rw [if_neg (by omega), show ((i : Int)).toNat = i by omega, if_neg (by omega), if_pos h, hac, add_im L n s.en i s.k t he h hn]
  rfl
def n0 : St := st0 (List.replicate 8192 255)
def v1 : Sv := ⟨0, 0, 1, kz⟩
theorem im_nil : im [] = List.replicate 8192 255 := rfl
theorem era_im (L : List UInt8) (hL : L = []) (n : Nat) (hn : n ≤ 1000000) (s : Nat) : eraseS (imS L n) s = (imS L ((n + 1 : Nat) : Int), true) := by
  have e : stepS (imS L n) = (imS L ((n + 1 : Nat) : Int), ⟨#[]⟩, true) := by
    unfold stepS imS
    simp only [Bool.false_eq_true, false_and, if_false]
    rw [show wrap64 ((n : Int) + 1) = ((n + 1 : Nat) : Int) by unfold wrap64; omega]
  unfold eraseS
  rw [e]
  simp only [if_true]
  have : onL (imS L ((n + 1 : Nat) : Int)).C (s * 4096) 4096 (fun _ _ => 255) = im L := by
    subst hL
    show onL (im []) _ _ _ = im []
    rw [im_nil]
    apply List.ext_getElem
    · rw [onL_length]
    · intro k h1 h2
      rw [onL_at, List.getElem_replicate]
      split <;> rfl
  rw [this]
  rfl
theorem n0_im : n0 = imS [] 0 := rfl
theorem za1 : bootS n0 = (imS [15] 2, some v1) := by
  unfold bootS
  rw [if_neg (by rw [n0_im]; exact Bool.false_ne_true)]
  have e1 : (secL n0.C 0).getD 0 0 = 255 := by kernel_rfl
  have e2 : (secL n0.C 1).getD 0 0 = 255 := by
    unfold secL
    rw [getD_at _ _ (by show 0 < (List.take 4096 (List.drop (1 * 4096) (List.replicate 8192 255))).length; rw [List.length_take, List.length_drop, List.length_replicate]; omega), List.getElem_take, List.getElem_drop]
    exact List.getElem_replicate _
  rw [e1, e2, if_pos (by decide)]
  unfold fmtS
  rw [if_pos rfl]
  unfold fmt2
  have e3 : eraseS (imS [] 0) 0 = (imS [] 1, true) := era_im [] rfl 0 (by omega) 0
  have : progS (imS [] 1) 0 [15] = (imS [15] 2, true) := prog_im [] [15] 1 (by simp) (by omega)
  rw [n0_im, e3]
  simp only [if_true]
  rw [this]
  rfl
def v2 : Sv := ⟨0, 0, 7, upd kz 0 ⟨true, 4, 2⟩⟩
def v3 : Sv := ⟨0, 0, 11, upd (upd kz 0 ⟨true, 4, 2⟩) 2 ⟨true, 10, 0⟩⟩
def n1 : St := imS [15] 2
def n2 : St := imS [15, 0, 2, 0, 97, 98, 0] 8
def n3 : St := imS [15, 0, 2, 0, 97, 98, 0, 2, 0, 0, 0] 12
theorem nble {a b : Nat} (h : Nat.ble a b = true) : a ≤ b := Nat.le_of_ble_eq_true h
theorem zp1 : putS n1 v1 0 [97, 98] = (n2, some v2, 0) := put_im [15] 2 v1 0 [97, 98] (by omega) rfl rfl (nble rfl) (nble rfl) (by omega) (nble rfl)
theorem zp2 : putS n2 v2 2 [] = (n3, some v3, 0) := put_im [15, 0, 2, 0, 97, 98, 0] 8 v2 2 [] (by omega) rfl rfl (nble rfl) (nble rfl) (by omega) (nble rfl)
theorem zp3 : putS n3 v3 3 [] = (n3, some v3, 1) := by unfold putS; rw [if_pos (by omega)]
theorem za5 : getV (getS n3.C v3 0) = .tuple #[.string ⟨#[97, 98]⟩, .bool true] := by kernel_rfl
theorem za6 : getV (getS n3.C v3 1) = .tuple #[.string ⟨#[]⟩, .bool false] := by kernel_rfl
theorem za7 : getV (getS n3.C v3 2) = .tuple #[.string ⟨#[]⟩, .bool true] := by kernel_rfl
theorem za8 : readR n3 0 12 = (⟨#[15, 0, 2, 0, 97, 98, 0, 2, 0, 0, 0, 255]⟩, 0) := by kernel_rfl
theorem ask1 : Ask v1 := ⟨by decide, by decide, nble rfl, KOk.kz.mono (by omega)⟩
theorem kok2 : KOk v2.k 7 := KOk.kz.upd 0 (by omega) 2 (by omega)
theorem ask2 : Ask v2 := ⟨by decide, by decide, nble rfl, kok2.mono (by omega)⟩
theorem ask3 : Ask v3 := ⟨by decide, by decide, nble rfl, (kok2.upd 2 (by omega) 0 (by omega)).mono (by omega)⟩
theorem put_at (w : World) (S R : Nat) (σ τ : St) (s : Sv) (o : Option Sv) (r : Int) (id : Int) (tv : ByteArray) (hF : Fl w R σ) (ho : σ.off = false) (hj : σ.jk.size = 0) (ha : Ask s) (h : So w S (fp R) s.ac s.tu s.en s.k) (hx : putS σ s id tv.data.toList = (τ, o, r)) :
    Calls Try.prog 21 #[fp S, .int .i64 id, .string tv] w fun e w' => e = .returned (.int .i64 r) ∧ Fl w' R τ ∧ (∀ s', o = some s' → So w' S (fp R) s'.ac s'.tu s'.en s'.k) ∧ (o = none → So w' S (.pointer none) 0 0 0 kz) ∧ Kep2 R S w w' := by
  refine (put_any w S R σ ⟨hF.len, ho, by omega⟩ s ha hF h id tv).mono ?_
  rintro e w1 ⟨τ', o', r', h1, h2, h3, h4, h5, h6⟩
  rw [hx] at h2
  injection h2 with e1 e2
  injection e2 with e2 e3
  subst e1 e2 e3
  exact ⟨h1, h3, h4, h5, h6⟩
theorem boot_at (w : World) (R : Nat) (σ τ : St) (s : Sv) (hF : Fl w R σ) (hj : σ.jk.size = 0) (hx : bootS σ = (τ, some s)) :
    Calls Try.prog 27 #[fp R] w fun e w' => ∃ S, e = .returned (.tuple #[fp S, .int .i64 0]) ∧ Fl w' R τ ∧ So w' S (fp R) s.ac s.tu s.en s.k ∧ w.heap.size ≤ S ∧ Kept R w w' := by
  refine (boot_any w R σ hF (by omega)).mono ?_
  rintro e w1 ⟨ok, τ', s', S, h1, h2, h3, h4, h5, h6⟩
  rw [hx] at h2
  cases ok
  · simp at h2
  · simp at h2
    obtain ⟨rfl, rfl⟩ := h2
    exact ⟨S, h1, h3, h4 rfl, h5, h6⟩
set_option maxHeartbeats 2000000 in
set_option maxRecDepth 100000 in
theorem awake7 (w : World) : Calls Try.prog 15 #[] w fun e w' => e = .returned (.bool true) ∧ Below w.heap.size w w' := by
  go_enter Try.func15, Try.ntmps15
  go_wp2_with fail
  refine (new_any w).mono ?_
  rintro e w1 ⟨rfl, h1, b1⟩
  obtain ⟨R, hR⟩ : ∃ R, Hid (w.heap.size = R) := ⟨_, hide rfl⟩
  rw [hR.out] at h1
  rw [show fp w.heap.size = fp R by rw [hR.out]]
  have H1 : Hid (Fl w1 R n0) := hide h1
  clear h1
  go_wp2_with fail
  refine (boot_at w1 R n0 n1 v1 H1.out rfl za1).mono ?_
  rintro e w2 ⟨S, rfl, f2, s2, g2, k2⟩
  have F2 := hide f2
  have S2 := hide s2
  clear f2 s2
  have ST : Calls Try.prog 25 #[fp R] w2 fun e w' => e = .returned (.int .i64 2) ∧ w' = w2 := by
    exact steps_any w2 R n1 F2.out
  go_wp2_with (go_at_call 25; refine ST.mono ?_; rintro e wx ⟨rfl, hw⟩; obtain rfl := hw.symm; clear hw)
  have P1 := put_at w2 S R n1 n2 v1 (some v2) 0 0 ⟨#[97, 98]⟩ F2.out rfl rfl ask1 S2.out zp1
  refine P1.mono ?_
  rintro e w3 ⟨rfl, f3, s3, _, k3⟩
  have F3 := hide f3
  have S3 := hide (s3 v2 rfl)
  clear f3 s3 P1 ST
  go_wp2_with fail
  have P1 := put_at w3 S R n2 n3 v2 (some v3) 0 2 ⟨#[]⟩ F3.out rfl rfl ask2 S3.out zp2
  refine P1.mono ?_
  rintro e w4 ⟨rfl, f4, s4, _, k4⟩
  have F4 := hide f4
  have S4 := hide (s4 v3 rfl)
  clear f4 s4 P1
  have hon : On n3 := ⟨F4.out.len, rfl, nble rfl⟩
  have G0 := get_any w4 S R n3 hon v3 ask3 F4.out S4.out 0
  rw [za5] at G0
  go_wp2_with fail
  refine G0.mono ?_
  rintro e w5 ⟨rfl, b5⟩
  have F5 := hide (F4.out.below b5)
  have S5 := hide (S4.out.below b5)
  clear G0
  have G0 := get_any w5 S R n3 hon v3 ask3 F5.out S5.out 1
  rw [za6] at G0
  go_wp2_with fail
  refine G0.mono ?_
  rintro e w6 ⟨rfl, b6⟩
  have F6 := hide (F5.out.below b6)
  have S6 := hide (S5.out.below b6)
  clear G0
  have G0 := get_any w6 S R n3 hon v3 ask3 F6.out S6.out 2
  rw [za7] at G0
  go_wp2_with fail
  refine G0.mono ?_
  rintro e w7 ⟨rfl, b7⟩
  have F7 := hide (F6.out.below b7)
  have S7 := hide (S6.out.below b7)
  clear G0
  have G0 := read_any w7 R n3 F7.out 0 12 (by unfold I64; omega)
  rw [za8] at G0
  go_wp2_with fail
  refine G0.mono ?_
  rintro e w8 ⟨rfl, hw⟩
  obtain rfl := hw.symm
  clear hw G0
  go_wp2_with fail
  have P1 := put_at w7 S R n3 n3 v3 (some v3) 1 3 ⟨#[]⟩ F7.out rfl rfl ask3 S7.out zp3
  refine P1.mono ?_
  rintro e w9 ⟨rfl, f9, s9, _, k9⟩
  clear P1 f9 s9
  go_wp2_with fail
  go_ret
  refine ⟨by rfl, ?_⟩
  have hR2 := hR.out
  have z1 := b1.size
  have z2 := k2.size
  have z3 := k3.size
  have z4 := k4.size
  have z5 := b5.size
  have z6 := b6.size
  have z7 := b7.size
  have hS : w.heap.size ≤ S := by omega
  have hRr : w.heap.size ≤ R := by omega
  exact k9.toBelow (below_next (below_next (below_next (k4.toBelow (k3.toBelow (k2.toBelow b1 (by omega) hRr) (by omega) hRr hS) (by omega) hRr hS) (Nat.le_refl _) b5) (Nat.le_refl _) b6) (Nat.le_refl _) b7) (by omega) hRr hS
/-- StoreNil -/
theorem StoreNil_walk (a : Int) (d : ByteArray) (_hs : d.size ≤ 140737488351232) (w : World) : Calls Try.prog 8 #[.int .i64 a, .string d] w fun e w' => e = .returned (.bool true) ∧ Below w.heap.size w w' := by
  go_enter Try.func8, Try.ntmps8
  go_wp2_with fail
  refine (boot_nil w).mono ?_
  rintro e w1 ⟨rfl, hw⟩
  obtain rfl := hw.symm
  clear hw
  go_wp2_with fail
  refine (get_nil w a).mono ?_
  rintro e w1 ⟨rfl, hw⟩
  obtain rfl := hw.symm
  clear hw
  go_wp2_with fail
  refine (awake7 w).mono ?_
  rintro e w1 ⟨rfl, hb⟩
  have PN := put_nil w1 a d
  go_wp2_with (go_at_call 21; refine PN.mono ?_; rintro e wx ⟨rfl, hw⟩; obtain rfl := hw.symm; clear hw)
  go_ret
  exact ⟨rfl, hb⟩
end Go.Proofs.Ytcjahdgppnmdkaa
set_option maxRecDepth 100000
namespace Go.Proofs.Ytcjahdgppnmdkaa
open Go.RowKit Go.Great
/-- n cells from a on are blank -/
def Blank (C : List UInt8) (a n : Nat) : Prop := a + n ≤ C.length ∧ ∀ j, j < n → C.getD (a + j) 0 = 255
theorem onL_blank {C : List UInt8} {a : Nat} {d : List UInt8} (h : Blank C a d.length) (j : Nat) (hj : j < d.length) : (onL C a d.length (andL d)).getD (a + j) 0 = d.getD j 0 := by
  rw [onL_getD _ _ _ _ _ (by have := h.1; omega), if_pos (by omega), show a + j - a = j by omega, h.2 j hj]
  unfold andL
  rw [and255]
theorem onL_else (C : List UInt8) (a n : Nat) (g : Nat → UInt8 → UInt8) (j : Nat) (hj : j < a ∨ a + n ≤ j) : (onL C a n g).getD j 0 = C.getD j 0 := by
  by_cases h : j < C.length
  · rw [onL_getD _ _ _ _ _ h, if_neg (by omega)]
  · rw [List.getD_eq_getElem?_getD, List.getD_eq_getElem?_getD, List.getElem?_eq_none (by rw [onL_length]; omega), List.getElem?_eq_none (by omega)]
theorem txt_ext {C D : List UInt8} {a b n : Nat} (h : ∀ j, j < n → C.getD (a + j) 0 = D.getD (b + j) 0) (hC : a + n ≤ C.length) (hD : b + n ≤ D.length) : (C.drop a).take n = (D.drop b).take n := by
  apply List.ext_getElem
  · rw [List.length_take, List.length_take, List.length_drop, List.length_drop]; omega
  · intro k h1 h2
    rw [List.length_take, List.length_drop] at h1
    rw [List.getElem_take, List.getElem_take, List.getElem_drop, List.getElem_drop]
    have := h k (by omega)
    rw [getD_at _ _ (by omega), getD_at _ _ (by omega)] at this
    exact this
theorem im_at (L : List UInt8) (j : Nat) (h1 : L.length ≤ j) (h2 : j < 8192) : (im L).getD j 0 = 255 := by
  rw [getD_at _ _ (by rw [im_len L (by omega)]; exact h2)]
  simp only [im]
  rw [List.getElem_append_right h1, List.getElem_replicate]
theorem im_set (L : List UInt8) (x : UInt8) (h : L.length < 8192) : (im L).set L.length x = im (L ++ [x]) := by
  unfold im
  rw [List.set_append_right _ _ (Nat.le_refl _), Nat.sub_self, List.append_assoc]
  congr 1
  rw [show 8192 - L.length = (8192 - (L ++ [x]).length) + 1 by simp; omega, List.replicate_succ]
  rfl
/-- StoreNames' states -/
def lo8 : List UInt8 := [15, 0, 3, 0, 111, 108, 100, 0]
def lo12 : List UInt8 := [15, 0, 3, 0, 111, 108, 100, 0, 0, 3, 0, 110]
def u2 : Sv := ⟨0, 0, 8, upd kz 0 ⟨true, 4, 3⟩⟩
def m2 : St := imS lo8 9
theorem zn1 : putS n1 v1 0 [111, 108, 100] = (m2, some u2, 0) := put_im [15] 2 v1 0 [111, 108, 100] (by omega) rfl rfl (nble rfl) (nble rfl) (by omega) (nble rfl)
def m3 : St := ⟨im lo8, false, 9, true, 3, ⟨#[]⟩⟩
theorem jk_nil : jkS ⟨#[]⟩ = ⟨#[]⟩ := by
  apply ByteArray.ext
  apply Array.eq_empty_of_size_eq_zero
  show (jkS ⟨#[]⟩).size = 0
  unfold jkS
  rw [ByteArray.size_extract]
  show min (min 0 4096) 0 - 0 = 0
  omega
theorem zn2 : cutR m2 3 ⟨#[]⟩ = (m3, 0) := by
  unfold cutR
  rw [if_neg (by exact Bool.false_ne_true), if_neg (by omega), jk_nil]
  rfl
def m4 : St := ⟨im lo12, true, 12, false, 0, ⟨#[]⟩⟩
theorem zn3p : progS m3 8 (recB 0 [110, 101, 119]) = (m4, false) := by
  rw [progS_cut (recB 0 [110, 101, 119]) 3 (nble rfl) m3 8 rfl rfl (by show 8 + 7 ≤ (im lo8).length; rw [im_len _ (nble rfl)]; omega) (by show (0 : Int) ≤ 9; omega) (by show (9 : Int) + 7 ≤ _; omega) (by omega)]
  have e1 : onL m3.C 8 3 (andL (recB 0 [110, 101, 119])) = im (lo8 ++ [0, 3, 0]) := by
    rw [← im_prog lo8 [0, 3, 0] (nble rfl)]
    exact onL_congr _ _ _ _ _ (fun i c hi => by
      obtain rfl | rfl | rfl : i = 0 ∨ i = 1 ∨ i = 2 := by omega
      all_goals rfl)
  have e2 : m3.C.getD (8 + 3) 0 = 255 := im_at lo8 11 (nble rfl) (by omega)
  rw [e1, e2, and255]
  have e3 : (im (lo8 ++ [0, 3, 0])).set (8 + 3) 110 = im (lo8 ++ [0, 3, 0] ++ [110]) := im_set (lo8 ++ [0, 3, 0]) 110 (nble rfl)
  have e4 : (recB 0 [110, 101, 119]).getD 3 0 ||| arB m3.jk 0 = 110 := by kernel_rfl
  rw [e4]
  rw [e3]
  rfl
theorem zn3 : putS m3 u2 0 [110, 101, 119] = (m4, none, 60) := by
  unfold putS
  rw [if_neg (by simp), show ((0 : Int)).toNat = 0 from rfl, if_neg (Nat.not_lt.2 (nble rfl)), if_pos (nble rfl)]
  have : addS u2.ac 0 [110, 101, 119] ⟨m3, u2.en, u2.k⟩ = (⟨m4, u2.en, u2.k⟩, false) := by
    unfold addS
    have e : progS m3 (u2.ac * 4096 + u2.en) (recB 0 [110, 101, 119]) = (m4, false) := zn3p
    simp only [e]
    rfl
  rw [this]
  rfl
def m5 : St := imS lo12 12
theorem zn4 : onS m4 = m5 := rfl
theorem im_sec0 (L : List UInt8) (h : L.length ≤ 4096) : secL (im L) 0 = L ++ List.replicate (4096 - L.length) 255 := by
  unfold secL im
  rw [Nat.zero_mul, List.drop_zero, List.take_append, List.take_of_length_le h, List.take_replicate]
  congr 2
  omega
theorem im_sec1 (L : List UInt8) (h : L.length ≤ 4096) : (secL (im L) 1).getD 0 0 = 255 := by
  have hl := im_len L (by omega)
  unfold secL
  rw [getD_at _ _ (by rw [List.length_take, List.length_drop, hl]; omega), List.getElem_take, List.getElem_drop, ← getD_at _ 0, im_at L _ (by omega) (by omega)]
def sl : List UInt8 := lo12 ++ List.replicate (4096 - lo12.length) 255
theorem sl_len : sl.length = 4096 := by unfold sl; rw [List.length_append, List.length_replicate]; rfl
theorem whole1 : wholeB sl 1 = true := by
  unfold wholeB
  rw [sl_len]
  kernel_rfl
theorem whole8 : wholeB sl 8 = false := by
  unfold wholeB
  rw [sl_len]
  kernel_rfl
theorem blank1 : blankB sl 1 = false := by kernel_rfl
theorem blank8 : blankB sl 8 = false := by kernel_rfl
theorem rd_sl : rd sl 4096 1 kz = (upd kz 0 ⟨true, 4, 3⟩, 8, false) := by
  rw [show (4096 : Nat) = 4094 + 1 + 1 from rfl, rd, blank1, whole1]
  have e : (1 + 4 + lenAt sl 1) = 8 := by kernel_rfl
  simp only [Bool.false_eq_true, if_false, if_true]
  rw [e, rd, blank8, whole8]
  simp only [Bool.false_eq_true, if_false]
  rfl
def m5e : St := imS lo12 13
theorem zn5 : eraseS m5 1 = (m5e, true) := by
  have e : stepS m5 = (m5e, ⟨#[]⟩, true) := by
    unfold stepS m5 imS
    simp only [Bool.false_eq_true, false_and, if_false]
    rw [show wrap64 (12 + 1) = 13 by unfold wrap64; omega]
    rfl
  unfold eraseS
  rw [e]
  simp only [if_true]
  have : onL m5e.C (1 * 4096) 4096 (fun _ _ => 255) = im lo12 := by
    apply List.ext_getElem
    · rw [onL_length]; rfl
    · intro k h1 h2
      rw [im_len _ (nble rfl)] at h2
      rw [onL_at]
      split
      · rw [← getD_at _ 0, im_at lo12 k (Nat.le_trans (nble rfl : lo12.length ≤ 1 * 4096) (by omega)) h2]
      · rfl
  rw [this]
  rfl
def rold : List UInt8 := recB 0 [111, 108, 100]
def m5r : St := ⟨onL (im lo12) 4097 7 (andL rold), false, 20, false, 0, ⟨#[]⟩⟩
theorem zn6 : progS m5e 4097 rold = (m5r, true) := by
  rw [progS_pre rold m5e 4097 (fun e => by cases e) (by show 4097 + 7 ≤ (im lo12).length; rw [im_len _ (nble rfl)]; omega) (by show (0 : Int) ≤ 13; omega) (by show (13 : Int) + 7 ≤ _; omega)]
  rfl
def m6 : St := ⟨onL (onL (im lo12) 4097 7 (andL rold)) 4096 1 (andL [51]), false, 21, false, 0, ⟨#[]⟩⟩
theorem m5r_C : m5r.C = onL (im lo12) 4097 7 (andL rold) := by simp only [m5r]
theorem m6_C : m6.C = onL (onL (im lo12) 4097 7 (andL rold)) 4096 1 (andL [51]) := by simp only [m6]
theorem im12 : (im lo12).length = 8192 := im_len _ (nble rfl)
theorem zn7 : progS m5r 4096 [51] = (m6, true) := by
  have h := progS_pre [51] m5r 4096 (fun e => by cases e) (by rw [m5r_C, onL_length, im12]; exact nble rfl) (by unfold m5r; simp only; omega) (by unfold m5r; simp only [List.length_singleton]; omega)
  rw [h, m5r_C]
  unfold m6 m5r
  simp only [List.length_singleton, Bool.false_eq_true, if_false]
  rfl
def u6 : Sv := ⟨1, 1, 8, upd kz 0 ⟨true, 4, 3⟩⟩
theorem each_old : eachS 0 u2.k (-1) [] 0 3 ⟨m5e, 1, kz⟩ = (⟨m5r, 8, upd kz 0 ⟨true, 4, 3⟩⟩, true) := by
  have s0 : step1 0 u2.k (-1) [] 0 ⟨m5e, 1, kz⟩ = (⟨m5r, 8, upd kz 0 ⟨true, 4, 3⟩⟩, true) := by
    unfold step1 mvL
    rw [if_neg (by omega), if_pos (by rfl), show txt m5e.C 0 (u2.k 0) = [111, 108, 100] by kernel_rfl]
    simp only
    unfold addS
    have e : progS m5e ((1 - 0) * 4096 + 1) (recB 0 [111, 108, 100]) = (m5r, true) := zn6
    simp only [e]
    rfl
  have s1 : ∀ m, step1 0 u2.k (-1) [] 1 m = (m, true) := fun m => rfl
  have s2 : ∀ m, step1 0 u2.k (-1) [] 2 m = (m, true) := fun m => rfl
  rw [eachS, s0]
  simp only [if_true]
  rw [eachS, s1]
  simp only [if_true]
  rw [eachS, s2]
  simp only [if_true]
  rfl
theorem move_old : moveS m5 u2 (-1) [] = (m6, some u6) := by
  unfold moveS
  have e1 : eraseS m5 (1 - u2.ac) = (m5e, true) := zn5
  have e2 : eachS u2.ac u2.k (-1) [] 0 3 ⟨m5e, 1, kz⟩ = (⟨m5r, 8, upd kz 0 ⟨true, 4, 3⟩⟩, true) := each_old
  have e3 : progS m5r ((1 - u2.ac) * 4096) [codeN (folN u2.tu)] = (m6, true) := zn7
  simp only [e1, if_true, e2, e3]
  rfl
theorem zn8 : bootS m5 = (m6, some u6) := by
  have e1 : (secL m5.C 0).getD 0 0 = 15 := by
    show (secL (im lo12) 0).getD 0 0 = 15
    rw [im_sec0 lo12 (nble rfl)]; rfl
  have e2 : (secL m5.C 1).getD 0 0 = 255 := im_sec1 lo12 (nble rfl)
  unfold bootS
  rw [if_neg (by exact Bool.false_ne_true), e1, e2, if_neg (by decide), show (actI 15 255).toNat = 0 by decide]
  have e3 : svOf m5.C 0 = (u2, false) := by
    unfold svOf
    rw [e1, show secL m5.C 0 = sl from im_sec0 lo12 (nble rfl), rd_sl]
    rfl
  unfold bootIn
  rw [e3]
  simp only [Bool.false_eq_true, if_false]
  exact move_old
theorem zn9 : getS m6.C u6 0 = some [111, 108, 100] := by
  unfold getS
  rw [if_pos (by exact ⟨by omega, by omega, rfl⟩)]
  apply congrArg some
  have hb : Blank (im lo12) 4097 7 := ⟨by rw [im_len _ (nble rfl)]; omega, fun j hj => im_at lo12 _ (Nat.le_trans (nble rfl : lo12.length ≤ 4097) (by omega)) (by omega)⟩
  have hl : m6.C.length = 8192 := by rw [m6_C, onL_length, onL_length, im12]
  have hg : ∀ j, j < 3 → m6.C.getD (4100 + j) 0 = rold.getD (3 + j) 0 := fun j hj => by
    rw [m6_C, onL_else _ _ _ _ _ (by omega)]
    have := onL_blank (d := rold) (a := 4097) hb (3 + j) (Nat.lt_of_lt_of_le (show 3 + j < 7 by omega) (nble rfl))
    rw [show 4097 + (3 + j) = 4100 + j by omega] at this
    exact this
  have := txt_ext hg (by rw [hl]; omega) (nble rfl)
  exact this
theorem ask_u2 : Ask u2 := ⟨by decide, by decide, nble rfl, (KOk.kz.upd 0 (by omega) 3 (by omega)).mono (by omega)⟩
theorem ask_u6 : Ask u6 := ⟨by decide, by decide, nble rfl, (KOk.kz.upd 0 (by omega) 3 (by omega)).mono (by omega)⟩
end Go.Proofs.Ytcjahdgppnmdkaa
set_option maxRecDepth 100000
namespace Go.Proofs.Ytcjahdgppnmdkaa
open Go.RowKit Go.Great
/-- n whole records from a to b -/
def RecsN (l : List UInt8) : Nat → Nat → Kp → Nat → Kp → Prop
  | 0, a, k, b, k' => a = b ∧ k = k'
  | n + 1, a, k, b, k' => wholeB l a = true ∧ RecsN l n (a + 4 + lenAt l a) (upd k (idAt l a) (sgAt l a)) b k'
/-- whole records from a to b -/
def Recs (l : List UInt8) (a : Nat) (k : Kp) (b : Nat) (k' : Kp) : Prop := ∃ n, RecsN l n a k b k'
theorem Recs.nil {l : List UInt8} (a : Nat) (k : Kp) : Recs l a k a k := ⟨0, rfl, rfl⟩
theorem Recs.cons {l : List UInt8} {a : Nat} {k : Kp} {b : Nat} {k' : Kp} (h : wholeB l a = true) (t : Recs l (a + 4 + lenAt l a) (upd k (idAt l a) (sgAt l a)) b k') : Recs l a k b k' := t.elim fun n t => ⟨n + 1, h, t⟩
theorem Recs.ind {l : List UInt8} {motive : (a : Nat) → (k : Kp) → (b : Nat) → (k' : Kp) → Recs l a k b k' → Prop} (nil : ∀ a k, motive a k a k (Recs.nil a k)) (cons : ∀ {a : Nat} {k : Kp} {b : Nat} {k' : Kp} (h : wholeB l a = true) (t : Recs l (a + 4 + lenAt l a) (upd k (idAt l a) (sgAt l a)) b k'), motive _ _ _ _ t → motive a k b k' (Recs.cons h t)) {a : Nat} {k : Kp} {b : Nat} {k' : Kp} (h : Recs l a k b k') : motive a k b k' h := by
  obtain ⟨n, hn⟩ := h
  induction n generalizing a k with
  | zero => obtain ⟨rfl, rfl⟩ := hn; exact nil a k
  | succ n ih => exact cons hn.1 ⟨n, hn.2⟩ (ih hn.2)
theorem Recs.le {l : List UInt8} {a b : Nat} {k k' : Kp} (h : Recs l a k b k') : a ≤ b := by
  induction h using Recs.ind with
  | nil => exact Nat.le_refl _
  | cons _ _ ih => omega
theorem Recs.trans {l : List UInt8} {a b c : Nat} {k k1 k2 : Kp} (h : Recs l a k b k1) (g : Recs l b k1 c k2) : Recs l a k c k2 := by
  induction h using Recs.ind with
  | nil => exact g
  | cons h _ ih => exact .cons h (ih g)
theorem Recs.len {l : List UInt8} {a b : Nat} {k k' : Kp} (h : Recs l a k b k') (ha : a ≤ l.length) : b ≤ l.length := by
  induction h using Recs.ind with
  | nil => exact ha
  | cons h _ ih => exact ih (wholeB_true h).2.2.2.1
theorem wholeB_of {l : List UInt8} {a : Nat} (h1 : idAt l a < 3) (h2 : lenAt l a ≤ 2000) (h3 : a + 4 + lenAt l a ≤ l.length) (h4 : l.getD (a + 3 + lenAt l a) 0 = 0) : wholeB l a = true := by
  unfold wholeB
  simp only [Bool.and_eq_true, decide_eq_true_eq, beq_iff_eq]
  exact ⟨⟨⟨⟨by omega, h1⟩, h2⟩, h3⟩, h4⟩
/-- a record hangs on its own bytes alone -/
theorem whole_same {l m : List UInt8} {a b : Nat} (hl : l.length = m.length) (hs : ∀ j, j < b → l.getD j 0 = m.getD j 0) (h : wholeB l a = true) (hb : a + 4 + lenAt l a ≤ b) : wholeB m a = true ∧ lenAt m a = lenAt l a ∧ idAt m a = idAt l a := by
  obtain ⟨c1, c2, c3, c4, c5⟩ := wholeB_true h
  have e1 : lenAt m a = lenAt l a := by unfold lenAt; rw [hs (a + 1) (by omega), hs (a + 2) (by omega)]
  have e2 : idAt m a = idAt l a := by unfold idAt; rw [hs a (by omega)]
  refine ⟨wholeB_of (by rw [e2]; exact c2) (by rw [e1]; exact c3) (by rw [e1, ← hl]; exact c4) ?_, e1, e2⟩
  rw [e1, ← hs _ (by omega)]
  exact c5
theorem Recs.same {l m : List UInt8} {a b : Nat} {k k' : Kp} (h : Recs l a k b k') (hl : l.length = m.length) (hs : ∀ j, j < b → l.getD j 0 = m.getD j 0) : Recs m a k b k' := by
  induction h using Recs.ind with
  | nil => exact .nil _ _
  | cons h t ih =>
    obtain ⟨g1, g2, g3⟩ := whole_same hl hs h t.le
    refine .cons g1 ?_
    rw [g2, g3, sgAt, g2]
    exact ih hs
theorem whole_open {l : List UInt8} {a : Nat} (h : wholeB l a = true) : blankB l a = false := by
  obtain ⟨c1, c2, _, _, _⟩ := wholeB_true h
  cases hb : blankB l a
  · rfl
  · have := (blankB_iff l a).1 hb a (Nat.le_refl _) (by omega)
    unfold idAt at c2
    rw [this] at c2
    exact absurd c2 (by decide)
/-- where and how reading ends -/
def Ends (l : List UInt8) (a : Nat) (k : Kp) (b : Nat) (k' : Kp) (cl : Bool) : Prop := Recs l a k b k' ∧ blankB l b = cl ∧ (cl = false → wholeB l b = false)
theorem Ends.rd {l : List UInt8} {a b : Nat} {k k' : Kp} {cl : Bool} (h : Ends l a k b k' cl) : ∀ f, l.length < a + f → a ≤ l.length → rd l f a k = (k', b, cl) := by
  obtain ⟨h1, h2, h3⟩ := h
  induction h1 using Recs.ind with
  | nil a k =>
    intro f hf ha
    obtain ⟨g, rfl⟩ : ∃ g, f = g + 1 := ⟨f - 1, by omega⟩
    rw [Go.Proofs.Ytcjahdgppnmdkaa.rd, h2]
    cases cl
    · rw [h3 rfl]; rfl
    · rfl
  | cons h _ ih =>
    intro f hf ha
    obtain ⟨g, rfl⟩ : ∃ g, f = g + 1 := ⟨f - 1, by omega⟩
    rw [Go.Proofs.Ytcjahdgppnmdkaa.rd, whole_open h, h]
    exact ih h2 h3 g (by omega) (wholeB_true h).2.2.2.1
theorem rd_ends (l : List UInt8) : ∀ (f a : Nat) (k : Kp), l.length < a + f → a ≤ l.length → Ends l a k (rd l f a k).2.1 (rd l f a k).1 (rd l f a k).2.2 := by
  intro f
  induction f with
  | zero => intro a k h1 h2; omega
  | succ f ih =>
    intro a k h1 h2
    rw [rd]
    cases hb : blankB l a
    · cases hw : wholeB l a
      · exact ⟨.nil _ _, hb, fun _ => hw⟩
      · obtain ⟨g1, g2, g3⟩ := ih (a + 4 + lenAt l a) (upd k (idAt l a) (sgAt l a)) (by omega) (wholeB_true hw).2.2.2.1
        exact ⟨.cons hw g1, g2, g3⟩
    · exact ⟨.nil _ _, hb, fun e => by cases e⟩
/-- a record that stands whole behind a chain -/
theorem Ends.add {l m : List UInt8} {b i n : Nat} {k k' : Kp} (h : Recs l 1 k b k') (hl : l.length = m.length) (hs : ∀ j, j < b → l.getD j 0 = m.getD j 0) (hw : wholeB m b = true) (hi : idAt m b = i) (hn : lenAt m b = n) (hb : blankB m (b + 4 + n) = true) : Ends m 1 k (b + 4 + n) (upd k' i ⟨true, b + 3, n⟩) true := by
  subst hi hn
  exact ⟨(h.same hl hs).trans (.cons hw (.nil _ _)), hb, fun e => by cases e⟩
/-- none that stands whole behind it -/
theorem Ends.not {l m : List UInt8} {b : Nat} {k k' : Kp} (h : Recs l 1 k b k') (hl : l.length = m.length) (hs : ∀ j, j < b → l.getD j 0 = m.getD j 0) (hw : wholeB m b = false) : ∃ cl, Ends m 1 k b k' cl :=
  ⟨blankB m b, h.same hl hs, rfl, fun _ => hw⟩
end Go.Proofs.Ytcjahdgppnmdkaa
namespace Go.Proofs.Ytcjahdgppnmdkaa
open Go.RowKit Go.Great
theorem getD_set (C : List UInt8) (a : Nat) (x : UInt8) (ha : a < C.length) (j : Nat) : (C.set a x).getD j 0 = if j = a then x else C.getD j 0 := by
  rw [List.getD_eq_getElem?_getD, List.getD_eq_getElem?_getD, List.getElem?_set]
  by_cases h : a = j
  · subst h; rw [if_pos rfl, if_pos rfl, if_pos ha]; rfl
  · rw [if_neg h, if_neg (fun e => h e.symm)]
theorem stepS_cut {σ : St} (h : (stepS σ).2.2 = false) : (stepS σ).1.off = true := by
  unfold stepS at h ⊢
  split at h
  · rename_i hc; rw [if_pos hc]
  · cases h
/-- d up to its byte L, that byte in part -/
def Part (C : List UInt8) (a : Nat) (d : List UInt8) (L : Nat) (x : UInt8) (D : List UInt8) : Prop :=
  D.length = C.length ∧ ∀ j, D.getD j 0 = if a ≤ j ∧ j < a + L then C.getD j 0 &&& d.getD (j - a) 0 else if j = a + L ∧ L < d.length then C.getD j 0 &&& (d.getD L 0 ||| x) else C.getD j 0
theorem progS_part (d : List UInt8) : ∀ (σ : St) (a : Nat), a + d.length ≤ σ.C.length → ∃ L x, L ≤ d.length ∧ ((progS σ a d).2 = true → L = d.length) ∧ ((progS σ a d).2 = false → L < d.length ∧ (progS σ a d).1.off = true) ∧ Part σ.C a d L x (progS σ a d).1.C := by
  induction d with
  | nil =>
    intro σ a _
    refine ⟨0, 0, Nat.le_refl _, fun _ => rfl, (fun e => by cases e), rfl, fun j => ?_⟩
    rw [if_neg (by omega), if_neg (by simp)]
    rfl
  | cons b t ih =>
    intro σ a hl
    rw [List.length_cons] at hl
    have ha : a < σ.C.length := by omega
    rw [progS]
    by_cases hc : (progB σ a b).2 = true
    · rw [if_pos hc]
      have hC : (progB σ a b).1.C = σ.C.set a (σ.C.getD a 0 &&& b) := by
        unfold progB at hc ⊢
        by_cases hs : (stepS σ).2.2 = true
        · rw [if_pos hs]; simp only [stepS_C]
        · rw [if_neg hs] at hc; cases hc
      obtain ⟨L, x, h1, h2, h3, h4, h5⟩ := ih (progB σ a b).1 (a + 1) (by rw [progB_len]; omega)
      refine ⟨L + 1, x, by rw [List.length_cons]; omega, fun e => by rw [h2 e, List.length_cons], fun e => ⟨by rw [List.length_cons]; have := (h3 e).1; omega, (h3 e).2⟩, by rw [h4, progB_len], fun j => ?_⟩
      rw [h5 j, hC, getD_set _ _ _ ha]
      by_cases e : j = a
      · subst e
        rw [if_neg (by omega), if_neg (by omega), if_pos rfl, if_pos (by omega), Nat.sub_self]
        rfl
      · rw [if_neg e]
        by_cases c1 : a + 1 ≤ j ∧ j < a + 1 + L
        · obtain ⟨m, hm⟩ : ∃ m, j - a = m + 1 := ⟨j - a - 1, by omega⟩
          rw [if_pos c1, if_pos (by omega), hm, show j - (a + 1) = m by omega]
          rfl
        · rw [if_neg c1, if_neg (c := a ≤ j ∧ j < a + (L + 1)) (by omega)]
          by_cases c2 : j = a + 1 + L ∧ L < t.length
          · rw [if_pos c2, if_pos (by rw [List.length_cons]; omega)]
            rfl
          · rw [if_neg c2, if_neg (by rw [List.length_cons]; omega)]
    · rw [if_neg hc]
      have hs : ¬ (stepS σ).2.2 = true := fun hs => hc (by unfold progB; rw [if_pos hs])
      refine ⟨0, arB (stepS σ).2.1 0, Nat.zero_le _, (fun e => by cases e), fun _ => ⟨by rw [List.length_cons]; omega, ?_⟩, progB_len _ _ _, fun j => ?_⟩
      · unfold progB
        rw [if_neg hs]
        exact stepS_cut (by simpa using hs)
      · unfold progB
        rw [if_neg hs]
        simp only [stepS_C]
        rw [getD_set _ _ _ ha, if_neg (c := a ≤ j ∧ j < a + 0) (by omega)]
        by_cases e : j = a
        · subst e
          rw [if_pos rfl, if_pos (by rw [List.length_cons]; omega)]
          rfl
        · rw [if_neg e, if_neg (by omega)]
/-- an erase: all of the sector, or in part -/
theorem eraseS_part (σ : St) (s : Nat) (hl : s * 4096 + 4096 ≤ σ.C.length) : ((eraseS σ s).2 = true → ∀ j, (eraseS σ s).1.C.getD j 0 = if s * 4096 ≤ j ∧ j < s * 4096 + 4096 then 255 else σ.C.getD j 0) ∧ ((eraseS σ s).2 = false → (eraseS σ s).1.off = true ∧ ∃ g : Nat → UInt8, ∀ j, (eraseS σ s).1.C.getD j 0 = if s * 4096 ≤ j ∧ j < s * 4096 + 4096 then σ.C.getD j 0 ||| g j else σ.C.getD j 0) := by
  have key : ∀ (g : Nat → UInt8 → UInt8) (j : Nat), (onL σ.C (s * 4096) 4096 g).getD j 0 = if s * 4096 ≤ j ∧ j < s * 4096 + 4096 then g (j - s * 4096) (σ.C.getD j 0) else σ.C.getD j 0 := fun g j => by
    by_cases h : j < σ.C.length
    · rw [onL_getD _ _ _ _ _ h]
    · rw [onL_else _ _ _ _ _ (by omega), if_neg (by omega)]
  unfold eraseS
  by_cases hs : (stepS σ).2.2 = true
  · rw [if_pos hs]
    refine ⟨fun _ j => ?_, fun e => by cases e⟩
    simp only [stepS_C]
    rw [key]
  · rw [if_neg hs]
    refine ⟨(fun e => by cases e), fun _ => ⟨stepS_cut (by simpa using hs), fun j => arB (stepS σ).2.1 (j - s * 4096), fun j => ?_⟩⟩
    simp only [stepS_C]
    rw [key]
/-- a cell of a sector -/
theorem sec_at (C : List UInt8) (hC : C.length = 8192) (s : Nat) (hs : s < 2) (j : Nat) (hj : j < 4096) : (secL C s).getD j 0 = C.getD (s * 4096 + j) 0 := by
  unfold secL
  rw [getD_at _ _ (by rw [List.length_take, List.length_drop]; omega), List.getElem_take, List.getElem_drop, ← getD_at _ 0]
end Go.Proofs.Ytcjahdgppnmdkaa
namespace Go.Proofs.Ytcjahdgppnmdkaa
open Go.RowKit Go.Great
theorem recB_0 (i : Nat) (t : List UInt8) : (recB i t).getD 0 0 = UInt8.ofNat i := rfl
theorem recB_1 (i : Nat) (t : List UInt8) : (recB i t).getD 1 0 = UInt8.ofNat t.length := rfl
theorem recB_2 (i : Nat) (t : List UInt8) : (recB i t).getD 2 0 = UInt8.ofNat (t.length / 256) := rfl
theorem recB_3 (i : Nat) (t : List UInt8) (j : Nat) : (recB i t).getD (3 + j) 0 = (t ++ [0]).getD j 0 := by
  rw [show 3 + j = j + 1 + 1 + 1 by omega]
  rfl
theorem recB_v (i : Nat) (t : List UInt8) (j : Nat) (hj : j < t.length) : (recB i t).getD (3 + j) 0 = t.getD j 0 := by
  rw [recB_3, List.getD_eq_getElem?_getD, List.getD_eq_getElem?_getD, List.getElem?_append_left hj]
theorem recB_c (i : Nat) (t : List UInt8) : (recB i t).getD (3 + t.length) 0 = 0 := by
  rw [recB_3, List.getD_eq_getElem?_getD, List.getElem?_append_right (Nat.le_refl _), Nat.sub_self]
  rfl
/-- the sector l, clean up to en, and what stands there then -/
structure Wrote (l m d : List UInt8) (en L : Nat) (x : UInt8) : Prop where
  ll : l.length = 4096
  ml : m.length = 4096
  lo : ∀ j, j < en → l.getD j 0 = m.getD j 0
  mid : ∀ j, j < L → m.getD (en + j) 0 = d.getD j 0
  cut : L < d.length → m.getD (en + L) 0 = d.getD L 0 ||| x
  hi : ∀ j, L ≤ j → (L < d.length → L < j) → en + j < 4096 → m.getD (en + j) 0 = 255
theorem Wrote.of {C D d : List UInt8} {ac en L : Nat} {x : UInt8} (hC : C.length = 8192) (hac : ac < 2) (hd : en + d.length ≤ 4096) (hL : L ≤ d.length) (hb : blankB (secL C ac) en = true) (h : Part C (ac * 4096 + en) d L x D) : Wrote (secL C ac) (secL D ac) d en L x := by
  have hD : D.length = 8192 := by rw [h.1, hC]
  have hbl := (blankB_iff _ _).1 hb
  have hcell : ∀ j, en + j < 4096 → C.getD (ac * 4096 + en + j) 0 = 255 := fun j hj => by
    have := hbl (en + j) (by omega) (by rw [secL_len hC hac]; exact hj)
    rw [sec_at C hC ac hac _ hj] at this
    rw [Nat.add_assoc]
    exact this
  refine ⟨secL_len hC hac, secL_len hD hac, fun j hj => ?_, fun j hj => ?_, fun hlt => ?_, fun j h1 h2 h3 => ?_⟩
  · rw [sec_at C hC ac hac _ (by omega), sec_at D hD ac hac _ (by omega), h.2, if_neg (by omega), if_neg (by omega)]
  · rw [sec_at D hD ac hac _ (by omega), h.2, if_pos (by omega), ← Nat.add_assoc, hcell j (by omega), and255]
    congr 1
    omega
  · rw [sec_at D hD ac hac _ (by omega), h.2, if_neg (by omega), if_pos (by omega), ← Nat.add_assoc, hcell L (by omega), and255]
  · rw [sec_at D hD ac hac _ h3, h.2, if_neg (by omega), if_neg (by omega), ← Nat.add_assoc, hcell j h3]
theorem toNat_of (n : Nat) : (UInt8.ofNat n).toNat = n % 256 := UInt8.toNat_ofNat' ..
/-- wholly -/
theorem Wrote.whole {l m t : List UInt8} {en i L : Nat} {x : UInt8} {k k' : Kp} (h : Wrote l m (recB i t) en L x) (hr : Recs l 1 k en k') (hi : i < 3) (ht : t.length ≤ 2000) (he : en + 4 + t.length ≤ 4096) (hL : L = 4 + t.length ∨ L = 3 + t.length ∧ x = 0) : Ends m 1 k (en + 4 + t.length) (upd k' i ⟨true, en + 3, t.length⟩) true := by
  have hd := recB_length i t
  have b : ∀ j, j < 3 → m.getD (en + j) 0 = (recB i t).getD j 0 := fun j hj => h.mid j (by omega)
  have hid : idAt m en = i := by
    unfold idAt
    have := b 0 (by omega)
    rw [Nat.add_zero] at this
    rw [this, recB_0, toNat_of]
    omega
  have hln : lenAt m en = t.length := by
    unfold lenAt
    rw [b 1 (by omega), b 2 (by omega), recB_1, recB_2, toNat_of, toNat_of]
    omega
  have hc : m.getD (en + (3 + t.length)) 0 = 0 := by
    rcases hL with hL | ⟨hL, hx⟩
    · rw [h.mid _ (by omega), recB_c]
    · have := h.cut (by omega)
      rw [hL, recB_c, hx] at this
      exact this
  refine Ends.add hr (by rw [h.ll, h.ml]) h.lo (wholeB_of (by rw [hid]; exact hi) (by rw [hln]; exact ht) (by rw [hln, h.ml]; omega) (by rw [hln, Nat.add_assoc]; exact hc)) hid hln ?_
  rw [blankB_iff]
  intro j h1 h2
  obtain ⟨q, rfl⟩ : ∃ q, j = en + q := ⟨j - en, by omega⟩
  exact h.hi q (by omega) (by omega) (by rw [h.ml] at h2; exact h2)
/-- in part: nothing of it stands there -/
theorem Wrote.part {l m t : List UInt8} {en i L : Nat} {x : UInt8} (h : Wrote l m (recB i t) en L x) (ht : t.length ≤ 2000) (he : en + 4 + t.length ≤ 4096) (hL : L < 4 + t.length) (hx : ¬ (L = 3 + t.length ∧ x = 0)) : wholeB m en = false := by
  have hd := recB_length i t
  cases hw : wholeB m en
  · rfl
  · exfalso
    obtain ⟨c1, c2, c3, c4, c5⟩ := wholeB_true hw
    rw [h.ml] at c4
    have F : ∀ j, L < j → en + j < 4096 → m.getD (en + j) 0 = 255 := fun j h1 h2 => h.hi j (by omega) (by omega) h2
    by_cases h2 : L < 2
    · have e := F 2 h2 (by omega)
      unfold lenAt at c3
      rw [e, show (255 : UInt8).toNat = 255 from rfl] at c3
      omega
    · by_cases h3 : L < 3 + lenAt m en
      · have e := F (3 + lenAt m en) h3 (by omega)
        rw [Nat.add_assoc, e] at c5
        exact absurd c5 (by decide)
      · by_cases h4 : L = 2
        · omega
        · have hln : lenAt m en = t.length := by
            unfold lenAt
            rw [h.mid 1 (by omega), h.mid 2 (by omega), recB_1, recB_2, toNat_of, toNat_of]
            omega
          have hLe : L = 3 + t.length := by omega
          have := h.cut (by omega)
          rw [hLe, recB_c] at this
          rw [hln, Nat.add_assoc, this] at c5
          exact hx ⟨hLe, by simpa using c5⟩
end Go.Proofs.Ytcjahdgppnmdkaa
namespace Go.Proofs.Ytcjahdgppnmdkaa
open Go.RowKit Go.Great
theorem or_zero {a b : UInt8} (h : a ||| b = 0) : a = 0 := by
  have h2 : a.toBitVec ||| b.toBitVec = 0#8 := congrArg UInt8.toBitVec h
  apply UInt8.toBitVec_inj.1
  show a.toBitVec = 0#8
  exact (BitVec.or_eq_zero_iff.1 h2).1
theorem or_and8 (a b c : UInt8) : (a ||| b) &&& c = (a &&& c) ||| (b &&& c) := by
  apply UInt8.toBitVec_inj.1
  show (a.toBitVec ||| b.toBitVec) &&& c.toBitVec = (a.toBitVec &&& c.toBitVec) ||| (b.toBitVec &&& c.toBitVec)
  exact BitVec.and_or_distrib_right
def nxt (c : UInt8) : UInt8 := codeN (folN (turnI c).toNat)
/-- a code -/
def Cd (c : UInt8) : Prop := c = 15 ∨ c = 51 ∨ c = 85
theorem cd_turn {c : UInt8} (h : Cd c) : ∃ t : Nat, turnI c = (t : Int) ∧ t < 3 ∧ codeN t = c := by
  rcases h with rfl | rfl | rfl
  · exact ⟨0, rfl, by omega, rfl⟩
  · exact ⟨1, rfl, by omega, rfl⟩
  · exact ⟨2, rfl, by omega, rfl⟩
theorem turn_cd {c : UInt8} (h : turnI c ≠ -1) : Cd c := by
  unfold turnI at h
  by_cases h1 : c = 15
  · exact .inl h1
  · by_cases h2 : c = 51
    · exact .inr (.inl h2)
    · by_cases h3 : c = 85
      · exact .inr (.inr h3)
      · rw [if_neg h1, if_neg h2, if_neg h3] at h; exact absurd rfl h
theorem not_cd {c : UInt8} (h : ¬ Cd c) : turnI c = -1 := by
  unfold turnI
  rw [if_neg (fun e => h (.inl e)), if_neg (fun e => h (.inr (.inl e))), if_neg (fun e => h (.inr (.inr e)))]
theorem nxt_cd {c : UInt8} (h : Cd c) : Cd (nxt c) := by
  rcases h with rfl | rfl | rfl
  · exact .inr (.inl rfl)
  · exact .inr (.inr rfl)
  · exact .inl rfl
/-- a spare's first byte that no OR turns into a code that would be the active one -/
def Safe (y : UInt8) (ac : Nat) (c : UInt8) : Prop := y &&& ~~~(nxt c) ≠ 0 ∧ (ac = 1 → y &&& ~~~c ≠ 0)
theorem Safe.or {y c : UInt8} {ac : Nat} (h : Safe y ac c) (g : UInt8) : Safe (y ||| g) ac c := by
  refine ⟨fun e => h.1 ?_, fun ha e => h.2 ha ?_⟩
  · rw [or_and8] at e; exact or_zero e
  · rw [or_and8] at e; exact or_zero e
theorem Safe.ff {c : UInt8} (h : Cd c) (ac : Nat) : Safe 255 ac c := by
  rcases h with rfl | rfl | rfl
  all_goals exact ⟨by decide, fun _ => by decide⟩
theorem Safe.act0 {a b : UInt8} (ha : Cd a) (h : Safe b 0 a) : actI a b = 0 := by
  by_cases hb : Cd b
  · rcases ha with rfl | rfl | rfl <;> rcases hb with rfl | rfl | rfl
    all_goals first
      | rfl
      | exact absurd (by decide) h.1
  · unfold actI
    rw [not_cd hb]
    rcases ha with rfl | rfl | rfl <;> rfl
theorem Safe.act1 {a b : UInt8} (hb : Cd b) (h : Safe a 1 b) : actI a b = 1 := by
  by_cases ha : Cd a
  · rcases ha with rfl | rfl | rfl <;> rcases hb with rfl | rfl | rfl
    all_goals first
      | rfl
      | exact absurd (by decide) h.1
      | exact absurd (by decide) (h.2 rfl)
  · unfold actI
    rw [not_cd ha]
    rcases hb with rfl | rfl | rfl <;> rfl
theorem act0_safe {a b : UInt8} (hb : Cd b ∨ b = 255) (h : actI a b = 0) : Cd a ∧ Safe b 0 a := by
  have ha : Cd a := by
    by_cases ha : Cd a
    · exact ha
    · exfalso
      unfold actI at h
      rw [not_cd ha] at h
      rcases hb with (rfl | rfl | rfl) | rfl <;> exact absurd h (by decide)
  refine ⟨ha, ?_⟩
  rcases hb with hb | rfl
  · rcases ha with rfl | rfl | rfl <;> rcases hb with rfl | rfl | rfl
    all_goals first
      | exact absurd h (by decide)
      | exact ⟨by decide, fun e => by cases e⟩
  · exact Safe.ff ha 0
theorem act1_safe {a b : UInt8} (ha : Cd a ∨ a = 255) (h : actI a b = 1) : Cd b ∧ Safe a 1 b := by
  have hb : Cd b := by
    by_cases hb : Cd b
    · exact hb
    · exfalso
      unfold actI at h
      rw [not_cd hb] at h
      rcases ha with (rfl | rfl | rfl) | rfl <;> exact absurd h (by decide)
  refine ⟨hb, ?_⟩
  rcases ha with ha | rfl
  · rcases ha with rfl | rfl | rfl <;> rcases hb with rfl | rfl | rfl
    all_goals first
      | exact absurd h (by decide)
      | exact ⟨by decide, fun _ => by decide⟩
  · exact Safe.ff hb 1
/-- a code that is programmed in part -/
theorem Safe.cut {c x : UInt8} (hc : Cd c) (ac : Nat) (h : nxt c ||| x ≠ nxt c) : Safe (nxt c ||| x) ac c := by
  refine ⟨fun e => h ?_, fun _ e => ?_⟩
  · rw [or_and8] at e
    have e2 : x &&& ~~~(nxt c) = 0 := by
      have : (x &&& ~~~(nxt c)) ||| (nxt c &&& ~~~(nxt c)) = 0 := by rw [UInt8.or_comm]; exact e
      exact or_zero this
    have e3 : x.toBitVec &&& ~~~(nxt c).toBitVec = 0#8 := congrArg UInt8.toBitVec e2
    apply UInt8.toBitVec_inj.1
    show (nxt c).toBitVec ||| x.toBitVec = (nxt c).toBitVec
    ext i hi
    have := congrArg (fun v => v.getLsbD i) e3
    simp at this ⊢
    intro hx
    cases hn : (nxt c).toBitVec[i]
    · simp_all
    · rfl
  · rw [or_and8] at e
    have := or_zero e
    rcases hc with rfl | rfl | rfl <;> exact absurd this (by decide)
/-- behind a move the old sector is a safe spare -/
theorem Safe.moved {c : UInt8} (hc : Cd c) (ac : Nat) : Safe c ac (nxt c) := by
  rcases hc with rfl | rfl | rfl <;> exact ⟨by decide, fun _ => by decide⟩
end Go.Proofs.Ytcjahdgppnmdkaa
namespace Go.Proofs.Ytcjahdgppnmdkaa
open Go.RowKit Go.Great
abbrev Vl := Nat → Option (List UInt8)
/-- what a sector keeps of object i -/
def cont (C : List UInt8) (ac : Nat) (k : Kp) (i : Nat) : Option (List UInt8) := if (k i).th then some (txt C ac (k i)) else none
theorem Ends.kok {l : List UInt8} (hl : l.length = 4096) {b : Nat} {k : Kp} {cl : Bool} (h : Ends l 1 kz b k cl) : b ≤ 4096 ∧ 1 ≤ b ∧ KOk k b := by
  have e := h.rd 4096 (by omega) (by omega)
  have := rd_ok l 4096 1 kz (by omega) KOk.kz
  rw [e] at this
  exact ⟨by have := this.2.1; simp only at this; omega, this.1, this.2.2⟩
theorem txt_same {C D : List UInt8} {ac e : Nat} {s : Sg} (hC : C.length = 8192) (hD : D.length = 8192) (hac : ac < 2) (hs : ∀ j, j < e → C.getD (ac * 4096 + j) 0 = D.getD (ac * 4096 + j) 0) (he : e ≤ 4096) (h : s.lo + s.n ≤ e) : txt C ac s = txt D ac s := by
  unfold txt
  refine txt_ext (fun j hj => ?_) (by omega) (by omega)
  have := hs (s.lo + j) (by omega)
  rw [← Nat.add_assoc] at this
  exact this
theorem cont_same {C D : List UInt8} {ac e : Nat} {k : Kp} (hC : C.length = 8192) (hD : D.length = 8192) (hac : ac < 2) (hs : ∀ j, j < e → C.getD (ac * 4096 + j) 0 = D.getD (ac * 4096 + j) 0) (he : e ≤ 4096) (hk : KOk k e) (i : Nat) : cont C ac k i = cont D ac k i := by
  unfold cont
  by_cases h : (k i).th = true
  · rw [if_pos h, if_pos h, txt_same hC hD hac hs he (by have := (hk.1 i h).1; omega)]
  · rw [if_neg h, if_neg h]
theorem sec_same {C D : List UInt8} {ac : Nat} (hC : C.length = 8192) (hD : D.length = 8192) (hac : ac < 2) (hs : ∀ j, j < 4096 → C.getD (ac * 4096 + j) 0 = D.getD (ac * 4096 + j) 0) : secL C ac = secL D ac := by
  unfold secL
  exact txt_ext (fun j hj => hs j hj) (by omega) (by omega)
/-- sector ac is the active one, stays it whatever becomes of the spare by OR, and keeps V -/
structure Up (C : List UInt8) (ac : Nat) (V : Vl) : Prop where
  len : C.length = 8192
  a2 : ac < 2
  cd : Cd (C.getD (ac * 4096) 0)
  sf : Safe (C.getD ((1 - ac) * 4096) 0) ac (C.getD (ac * 4096) 0)
  rd : ∃ en k cl, Ends (secL C ac) 1 kz en k cl ∧ ∀ i, i < 3 → V i = cont C ac k i
theorem Up.spare {C D : List UInt8} {ac : Nat} {V : Vl} (h : Up C ac V) (hD : D.length = 8192) (hs : ∀ j, j < 4096 → C.getD (ac * 4096 + j) 0 = D.getD (ac * 4096 + j) 0) (hf : Safe (D.getD ((1 - ac) * 4096) 0) ac (C.getD (ac * 4096) 0)) : Up D ac V := by
  have e0 := hs 0 (by omega)
  rw [Nat.add_zero] at e0
  obtain ⟨en, k, cl, h1, h2⟩ := h.rd
  obtain ⟨g1, g2, g3⟩ := h1.kok (secL_len h.len h.a2)
  refine ⟨hD, h.a2, by rw [← e0]; exact h.cd, by rw [← e0]; exact hf, en, k, cl, by rw [← sec_same h.len hD h.a2 hs]; exact h1, fun i hi => ?_⟩
  rw [h2 i hi]
  exact cont_same h.len hD h.a2 hs (Nat.le_refl _) (g3.mono g1) i
theorem Up.act {C : List UInt8} {ac : Nat} {V : Vl} (h : Up C ac V) : actI ((secL C 0).getD 0 0) ((secL C 1).getD 0 0) = (ac : Int) := by
  rw [sec_at C h.len 0 (by omega) 0 (by omega), sec_at C h.len 1 (by omega) 0 (by omega)]
  have hc := h.cd
  have hf := h.sf
  obtain rfl | rfl : ac = 0 ∨ ac = 1 := by have := h.a2; omega
  · exact Safe.act0 hc hf
  · exact Safe.act1 hc hf
/-- an erase of the spare -/
theorem Up.erase {σ : St} {ac : Nat} {V : Vl} (h : Up σ.C ac V) : Up (eraseS σ (1 - ac)).1.C ac V ∧ ((eraseS σ (1 - ac)).2 = true → ∀ j, j < 4096 → (eraseS σ (1 - ac)).1.C.getD ((1 - ac) * 4096 + j) 0 = 255) := by
  have hac := h.a2
  have hl := h.len
  have hD : (eraseS σ (1 - ac)).1.C.length = 8192 := by rw [eraseS_len, hl]
  obtain ⟨p1, p2⟩ := eraseS_part σ (1 - ac) (by omega)
  cases hb : (eraseS σ (1 - ac)).2
  · obtain ⟨_, g, hg⟩ := p2 hb
    refine ⟨h.spare hD (fun j hj => by rw [hg, if_neg (by omega)]) ?_, fun e => by cases e⟩
    rw [hg, if_pos (by omega)]
    exact h.sf.or _
  · have hg := p1 hb
    refine ⟨h.spare hD (fun j hj => by rw [hg, if_neg (by omega)]) ?_, fun _ j hj => by rw [hg, if_pos (by omega)]⟩
    rw [hg, if_pos (by omega)]
    exact Safe.ff h.cd ac
end Go.Proofs.Ytcjahdgppnmdkaa
namespace Go.Proofs.Ytcjahdgppnmdkaa
open Go.RowKit Go.Great
/-- the active sector is as it was; the spare has no code and keeps V below i -/
structure Mid (C0 : List UInt8) (ac : Nat) (m : Mv) (V : Vl) (i : Nat) : Prop where
  len : m.σ.C.length = 8192
  act : ∀ j, j < 4096 → C0.getD (ac * 4096 + j) 0 = m.σ.C.getD (ac * 4096 + j) 0
  ff : m.σ.C.getD ((1 - ac) * 4096) 0 = 255
  en : Ends (secL m.σ.C (1 - ac)) 1 kz m.en m.k true
  val : ∀ j, j < 3 → cont m.σ.C (1 - ac) m.k j = if j < i then V j else none
theorem addS_σ (s i : Nat) (t : List UInt8) (m : Mv) : (addS s i t m).1.σ = (progS m.σ (s * 4096 + m.en) (recB i t)).1 := by
  unfold addS; split <;> rfl
theorem addS_2 (s i : Nat) (t : List UInt8) (m : Mv) : (addS s i t m).2 = (progS m.σ (s * 4096 + m.en) (recB i t)).2 := by
  unfold addS
  cases h : (progS m.σ (s * 4096 + m.en) (recB i t)).2 <;> rfl
theorem addS_k {s i : Nat} {t : List UInt8} {m : Mv} (h : (addS s i t m).2 = true) : (addS s i t m).1.k = upd m.k i ⟨true, m.en + 3, t.length⟩ ∧ (addS s i t m).1.en = m.en + 4 + t.length := by
  rw [addS_2] at h
  unfold addS
  rw [if_pos h]
  exact ⟨rfl, rfl⟩
theorem Mid.add {C0 : List UInt8} {ac : Nat} {m : Mv} {V : Vl} {i : Nat} (h : Mid C0 ac m V i) (hac : ac < 2) (hi : i < 3) (t : List UInt8) (ht : t.length ≤ 2000) (he : m.en + 4 + t.length ≤ 4096) (hV : V i = some t) :
    ((addS (1 - ac) i t m).2 = true → Mid C0 ac (addS (1 - ac) i t m).1 V (i + 1)) ∧ (addS (1 - ac) i t m).1.σ.C.length = 8192 ∧ (∀ j, j < 4096 → C0.getD (ac * 4096 + j) 0 = (addS (1 - ac) i t m).1.σ.C.getD (ac * 4096 + j) 0) ∧ (addS (1 - ac) i t m).1.σ.C.getD ((1 - ac) * 4096) 0 = 255 := by
  have hs : 1 - ac < 2 := by omega
  have hrl := recB_length i t
  obtain ⟨g1, g2, g3⟩ := h.en.kok (secL_len h.len hs)
  obtain ⟨L, x, p1, p2, p3, p4⟩ := progS_part (recB i t) m.σ ((1 - ac) * 4096 + m.en) (by rw [h.len]; omega)
  rw [addS_σ, addS_2]
  obtain ⟨D, hD⟩ : ∃ D, (progS m.σ ((1 - ac) * 4096 + m.en) (recB i t)).1.C = D := ⟨_, rfl⟩
  rw [hD] at p4 ⊢
  have hDl : D.length = 8192 := by rw [p4.1, h.len]
  have hact : ∀ j, j < 4096 → C0.getD (ac * 4096 + j) 0 = D.getD (ac * 4096 + j) 0 := fun j hj => by
    rw [h.act j hj, p4.2, if_neg (by omega), if_neg (by omega)]
  have hff : D.getD ((1 - ac) * 4096) 0 = 255 := by
    rw [p4.2, if_neg (by omega), if_neg (by omega), h.ff]
  refine ⟨fun hok => ?_, hDl, hact, hff⟩
  have hL : L = 4 + t.length := by rw [p2 hok, hrl]
  have hok2 : (addS (1 - ac) i t m).2 = true := by rw [addS_2]; exact hok
  obtain ⟨k1, k2⟩ := addS_k hok2
  have hσ : (addS (1 - ac) i t m).1.σ.C = D := by rw [addS_σ]; exact hD
  have hW := Wrote.of h.len hs (by omega) p1 h.en.2.1 p4
  have hE := hW.whole h.en.1 hi ht he (.inl hL)
  refine ⟨by rw [hσ]; exact hDl, fun j hj => by rw [hσ]; exact hact j hj, by rw [hσ]; exact hff, by rw [hσ, k1, k2]; exact hE, fun j hj => ?_⟩
  rw [hσ, k1]
  by_cases e : j = i
  · subst e
    rw [if_pos (by omega), hV]
    unfold cont
    rw [upd_at, if_pos rfl]
    apply congrArg some
    show (D.drop ((1 - ac) * 4096 + (m.en + 3))).take t.length = t
    have := @txt_ext D t ((1 - ac) * 4096 + (m.en + 3)) 0 t.length (fun q hq => by
      have hm := hW.mid (3 + q) (by omega)
      rw [sec_at D hDl (1 - ac) hs _ (by omega), recB_v _ t q hq] at hm
      rw [Nat.zero_add, show (1 - ac) * 4096 + (m.en + 3) + q = (1 - ac) * 4096 + (m.en + (3 + q)) by omega]
      exact hm) (by omega) (by omega)
    rw [this, List.drop_zero, List.take_of_length_le (Nat.le_refl _)]
  · have e2 : cont D (1 - ac) (upd m.k i ⟨true, m.en + 3, t.length⟩) j = cont D (1 - ac) m.k j := by
      unfold cont
      rw [upd_ne _ _ e]
    have e3 := cont_same (k := m.k) h.len hDl hs (e := m.en) (fun q hq => by
      have := hW.lo q hq
      rw [sec_at _ h.len (1 - ac) hs q (by omega), sec_at _ hDl (1 - ac) hs q (by omega)] at this
      exact this) g1 g3 j
    rw [e2, ← e3, h.val j hj]
    by_cases c : j < i
    · rw [if_pos c, if_pos (by omega)]
    · rw [if_neg c, if_neg (by omega)]
end Go.Proofs.Ytcjahdgppnmdkaa
namespace Go.Proofs.Ytcjahdgppnmdkaa
open Go.RowKit Go.Great
theorem mvL_same {C D : List UInt8} {ac : Nat} {k : Kp} (hC : C.length = 8192) (hD : D.length = 8192) (hac : ac < 2) (hk : KOk k 4096) (hs : ∀ j, j < 4096 → C.getD (ac * 4096 + j) 0 = D.getD (ac * 4096 + j) 0) (id : Int) (v : List UInt8) (i : Nat) : mvL C ac k id v i = mvL D ac k id v i := by
  unfold mvL
  by_cases h1 : (i : Int) = id
  · rw [if_pos h1, if_pos h1]
  · rw [if_neg h1, if_neg h1]
    by_cases h2 : (k i).th = true
    · rw [if_pos h2, if_pos h2, txt_same hC hD hac hs (Nat.le_refl _) (by have := (hk.1 i h2).1; omega)]
    · rw [if_neg h2, if_neg h2]
theorem each_mid {C0 : List UInt8} {ac : Nat} {k : Kp} {id : Int} {v : List UInt8} {V : Vl} (hC0 : C0.length = 8192) (hac : ac < 2) (hk : KOk k 4096) (hv : v.length ≤ 2000) (hV : ∀ j, j < 3 → V j = mvL C0 ac k id v j) :
    ∀ (n i : Nat) (m : Mv), i + n = 3 → Mid C0 ac m V i → m.en + restM k id v.length i n ≤ 4096 →
      ((eachS ac k id v i n m).2 = true → Mid C0 ac (eachS ac k id v i n m).1 V 3) ∧ (eachS ac k id v i n m).1.σ.C.length = 8192 ∧ (∀ j, j < 4096 → C0.getD (ac * 4096 + j) 0 = (eachS ac k id v i n m).1.σ.C.getD (ac * 4096 + j) 0) ∧ (eachS ac k id v i n m).1.σ.C.getD ((1 - ac) * 4096) 0 = 255 := by
  intro n
  induction n with
  | zero =>
    intro i m hin hM _
    obtain rfl : i = 3 := by omega
    exact ⟨fun _ => hM, hM.len, hM.act, hM.ff⟩
  | succ n ih =>
    intro i m hin hM hfit
    have hi : i < 3 := by omega
    rw [restM] at hfit
    have hmv : mvL m.σ.C ac k id v i = V i := by
      rw [hV i hi]
      exact (mvL_same hC0 hM.len hac hk hM.act id v i).symm
    rw [eachS]
    cases hx : V i with
    | none =>
      have hs : step1 ac k id v i m = (m, true) := by unfold step1; rw [hmv, hx]
      rw [hs]
      simp only [if_true]
      refine ih (i + 1) m (by omega) ⟨hM.len, hM.act, hM.ff, hM.en, fun j hj => ?_⟩ (by omega)
      rw [hM.val j hj]
      by_cases c : j < i
      · rw [if_pos c, if_pos (by omega)]
      · rw [if_neg c]
        by_cases e : j = i
        · subst e; rw [if_pos (by omega), hx]
        · rw [if_neg (by omega)]
    | some t =>
      have hs : step1 ac k id v i m = addS (1 - ac) i t m := by unfold step1; rw [hmv, hx]
      have ht : t.length ≤ 2000 ∧ 4 + t.length = szM k id v.length i := by
        have h0 := hV i hi
        rw [hx] at h0
        unfold mvL at h0
        unfold szM szK
        by_cases h1 : (i : Int) = id
        · rw [if_pos h1] at h0 ⊢
          injection h0 with h0
          rw [h0]
          exact ⟨hv, rfl⟩
        · rw [if_neg h1] at h0 ⊢
          by_cases h2 : (k i).th = true
          · rw [if_pos h2] at h0 ⊢
            injection h0 with h0
            have hkk := hk.1 i h2
            rw [h0, txt_len C0 hC0 ac hac (k i) (by omega)]
            exact ⟨hkk.2, rfl⟩
          · rw [if_neg h2] at h0; cases h0
      obtain ⟨a1, a2, a3, a4⟩ := hM.add hac hi t ht.1 (by omega) hx
      rw [hs]
      cases hb : (addS (1 - ac) i t m).2
      · simp only [Bool.false_eq_true, if_false]
        exact ⟨(fun e => by cases e), a2, a3, a4⟩
      · simp only [if_true]
        exact ih (i + 1) _ (by omega) (a1 hb) (by rw [(addS_k hb).2]; omega)
/-- a blank spare -/
theorem Mid.start {C0 : List UInt8} {ac : Nat} {σ : St} {V : Vl} (hac : ac < 2) (hl : σ.C.length = 8192) (ha : ∀ j, j < 4096 → C0.getD (ac * 4096 + j) 0 = σ.C.getD (ac * 4096 + j) 0) (hb : ∀ j, j < 4096 → σ.C.getD ((1 - ac) * 4096 + j) 0 = 255) : Mid C0 ac ⟨σ, 1, kz⟩ V 0 := by
  have h0 := hb 0 (by omega)
  rw [Nat.add_zero] at h0
  refine ⟨hl, ha, h0, ⟨.nil _ _, ?_, fun e => by cases e⟩, fun j hj => ?_⟩
  · rw [blankB_iff]
    intro j _ h2
    rw [secL_len hl (by omega)] at h2
    rw [sec_at _ hl _ (by omega) _ h2]
    exact hb j h2
  · rw [if_neg (by omega)]
    rfl
end Go.Proofs.Ytcjahdgppnmdkaa
namespace Go.Proofs.Ytcjahdgppnmdkaa
open Go.RowKit Go.Great
theorem Recs.same1 {l m : List UInt8} {a b : Nat} {k k' : Kp} (h : Recs l a k b k') (hl : l.length = m.length) (ha : 1 ≤ a) (hs : ∀ j, 1 ≤ j → j < b → l.getD j 0 = m.getD j 0) : Recs m a k b k' := by
  induction h using Recs.ind with
  | nil => exact .nil _ _
  | @cons a k b k' h t ih =>
    obtain ⟨c1, c2, c3, c4, c5⟩ := wholeB_true h
    have hle := t.le
    have e1 : lenAt m a = lenAt l a := by unfold lenAt; rw [hs (a + 1) (by omega) (by omega), hs (a + 2) (by omega) (by omega)]
    have e2 : idAt m a = idAt l a := by unfold idAt; rw [hs a ha (by omega)]
    refine .cons (wholeB_of (by rw [e2]; exact c2) (by rw [e1]; exact c3) (by rw [e1, ← hl]; exact c4) (by rw [e1, ← hs _ (by omega) (by omega)]; exact c5)) ?_
    rw [e1, e2, sgAt, e1]
    exact ih (by omega) hs
theorem Recs.low {l : List UInt8} {a b : Nat} {k k' : Kp} (h : Recs l a k b k') (hk : ∀ i, (k i).th = true → 1 ≤ (k i).lo) : ∀ i, (k' i).th = true → 1 ≤ (k' i).lo := by
  induction h using Recs.ind with
  | nil => exact hk
  | @cons a k b k' h t ih =>
    refine ih fun i hi => ?_
    by_cases e : i = idAt l a
    · subst e
      rw [upd_at]
      show 1 ≤ a + 3
      omega
    · rw [upd_ne _ _ e] at hi ⊢
      exact hk i hi
theorem kz_low (i : Nat) (h : (kz i).th = true) : 1 ≤ (kz i).lo := by simp [kz, sgz] at h
/-- a store that lives on an image, and what it keeps -/
structure Live (C : List UInt8) (s : Sv) (V : Vl) : Prop where
  up : Up C s.ac V
  tu : s.tu < 3
  cd : codeN s.tu = C.getD (s.ac * 4096) 0
  en : Ends (secL C s.ac) 1 kz s.en s.k true
  val : ∀ i, i < 3 → V i = cont C s.ac s.k i
  sp : Cd (C.getD ((1 - s.ac) * 4096) 0) ∨ C.getD ((1 - s.ac) * 4096) 0 = 255
theorem nxt_of {t : Nat} (ht : t < 3) : codeN (folN t) = nxt (codeN t) ∧ Cd (codeN t) := by
  obtain rfl | rfl | rfl : t = 0 ∨ t = 1 ∨ t = 2 := by omega
  · exact ⟨rfl, .inl rfl⟩
  · exact ⟨rfl, .inr (.inl rfl)⟩
  · exact ⟨rfl, .inr (.inr rfl)⟩
/-- the code is there: the spare is the active one -/
theorem Mid.signed {C0 D : List UInt8} {ac tu : Nat} {m : Mv} {V : Vl} (h : Mid C0 ac m V 3) (hac : ac < 2) (htu : tu < 3) (hcd : codeN tu = C0.getD (ac * 4096) 0) (hD : D.length = 8192) (hb : D.getD ((1 - ac) * 4096) 0 = codeN (folN tu)) (hs : ∀ j, j ≠ (1 - ac) * 4096 → D.getD j 0 = m.σ.C.getD j 0) : Live D ⟨1 - ac, folN tu, m.en, m.k⟩ V := by
  have hsp : 1 - ac < 2 := by omega
  have h11 : 1 - (1 - ac) = ac := by omega
  obtain ⟨n1, n2⟩ := nxt_of htu
  obtain ⟨g1, g2, g3⟩ := h.en.kok (secL_len h.len hsp)
  have hsec : ∀ j, 1 ≤ j → j < 4096 → (secL m.σ.C (1 - ac)).getD j 0 = (secL D (1 - ac)).getD j 0 := fun j h1 h2 => by
    rw [sec_at _ h.len _ hsp _ h2, sec_at _ hD _ hsp _ h2, hs _ (by omega)]
  have hE : Ends (secL D (1 - ac)) 1 kz m.en m.k true := by
    refine ⟨h.en.1.same1 (by rw [secL_len h.len hsp, secL_len hD hsp]) (Nat.le_refl _) (fun j h1 h2 => hsec j h1 (by omega)), ?_, fun e => by cases e⟩
    rw [blankB_iff]
    intro j h1 h2
    rw [secL_len hD hsp] at h2
    rw [← hsec j (by omega) h2]
    exact (blankB_iff _ _).1 h.en.2.1 j h1 (by rw [secL_len h.len hsp]; exact h2)
  have hold : D.getD (ac * 4096) 0 = codeN tu := by
    have := h.act 0 (by omega)
    rw [Nat.add_zero] at this
    rw [hs _ (by omega), ← this, hcd]
  have hval : ∀ i, i < 3 → V i = cont D (1 - ac) m.k i := fun i hi => by
    have e := h.val i hi
    rw [if_pos hi] at e
    rw [← e]
    unfold cont
    by_cases ht : (m.k i).th = true
    · rw [if_pos ht, if_pos ht]
      have hkk := (g3.1 i ht).1
      apply congrArg some
      unfold txt
      refine txt_ext (fun j hj => ?_) (by rw [h.len]; omega) (by omega)
      have hlo := h.en.1.low kz_low i ht
      rw [hs _ (by omega)]
    · rw [if_neg ht, if_neg ht]
  have hup : Up D (1 - ac) V := ⟨hD, hsp, by rw [hb, n1]; exact nxt_cd n2, by rw [h11, hold, hb, n1]; exact Safe.moved n2 _, m.en, m.k, true, hE, hval⟩
  exact ⟨hup, by show (tu + 1) % 3 < 3; omega, by rw [hb], hE, hval, .inl (by show Cd (D.getD ((1 - (1 - ac)) * 4096) 0); rw [h11, hold]; exact n2)⟩
/-- a move: done, or cut -/
theorem Up.move {σ : St} {s : Sv} {V0 V : Vl} {id : Int} {v : List UInt8} (h : Up σ.C s.ac V0) (hk : KOk s.k 4096) (hv : v.length ≤ 2000) (htu : s.tu < 3) (hcd : codeN s.tu = σ.C.getD (s.ac * 4096) 0) (hV : ∀ j, j < 3 → V j = mvL σ.C s.ac s.k id v j) (hfit : 1 + restM s.k id v.length 0 3 ≤ 4096) :
    (∀ τ s', moveS σ s id v = (τ, some s') → Live τ.C s' V) ∧ (∀ τ, moveS σ s id v = (τ, none) → Up τ.C s.ac V0 ∨ Up τ.C (1 - s.ac) V) := by
  have hac := h.a2
  obtain ⟨hE1, hE2⟩ := h.erase
  unfold moveS
  have hl1 : (eraseS σ (1 - s.ac)).1.C.length = 8192 := by rw [eraseS_len, h.len]
  have hact1 : ∀ j, j < 4096 → σ.C.getD (s.ac * 4096 + j) 0 = (eraseS σ (1 - s.ac)).1.C.getD (s.ac * 4096 + j) 0 := fun j hj => by
    obtain ⟨q1, q2⟩ := eraseS_part σ (1 - s.ac) (by rw [h.len]; omega)
    cases hb : (eraseS σ (1 - s.ac)).2
    · obtain ⟨_, g, hg⟩ := q2 hb
      rw [hg, if_neg (by omega)]
    · rw [q1 hb, if_neg (by omega)]
  cases hb1 : (eraseS σ (1 - s.ac)).2
  · simp only [Bool.false_eq_true, if_false]
    refine ⟨(fun τ s' e => by injection e with _ e; cases e), fun τ e => ?_⟩
    injection e with e _
    subst e
    exact .inl hE1
  · simp only [if_true]
    obtain ⟨a1, a2, a3, a4⟩ := each_mid h.len hac hk hv hV 3 0 ⟨(eraseS σ (1 - s.ac)).1, 1, kz⟩ rfl (Mid.start hac hl1 hact1 (hE2 hb1)) hfit
    obtain ⟨⟨M, ok⟩, hx⟩ : ∃ x, eachS s.ac s.k id v 0 3 ⟨(eraseS σ (1 - s.ac)).1, 1, kz⟩ = x := ⟨_, rfl⟩
    rw [hx] at a1 a2 a3 a4 ⊢
    simp only at a1 a2 a3 a4 ⊢
    cases ok
    · simp only [Bool.false_eq_true, if_false]
      refine ⟨(fun τ s' e => by injection e with _ e; cases e), fun τ e => ?_⟩
      injection e with e _
      subst e
      exact .inl (h.spare a2 a3 (by rw [a4]; exact Safe.ff h.cd _))
    · simp only [if_true]
      have hM := a1 rfl
      obtain ⟨L, x, p1, p2, p3, p4⟩ := progS_part [codeN (folN s.tu)] M.σ ((1 - s.ac) * 4096) (by rw [a2, List.length_singleton]; omega)
      obtain ⟨⟨τ0, ok3⟩, hx3⟩ : ∃ x, progS M.σ ((1 - s.ac) * 4096) [codeN (folN s.tu)] = x := ⟨_, rfl⟩
      rw [hx3] at p2 p3 p4 ⊢
      simp only at p2 p3 p4 ⊢
      have hDl : τ0.C.length = 8192 := by rw [p4.1, a2]
      cases ok3
      · simp only [Bool.false_eq_true, if_false]
        refine ⟨(fun τ s' e => by injection e with _ e; cases e), fun τ e => ?_⟩
        injection e with e _
        subst e
        obtain rfl : L = 0 := by have := (p3 rfl).1; rw [List.length_singleton] at this; omega
        have hfirst : τ0.C.getD ((1 - s.ac) * 4096) 0 = codeN (folN s.tu) ||| x := by
          rw [p4.2, if_neg (by omega), if_pos (by rw [List.length_singleton]; omega), a4, and255]
          rfl
        have helse : ∀ j, j ≠ (1 - s.ac) * 4096 → τ0.C.getD j 0 = M.σ.C.getD j 0 := fun j hj => by
          rw [p4.2, if_neg (by omega), if_neg (by omega)]
        by_cases hc : codeN (folN s.tu) ||| x = codeN (folN s.tu)
        · exact .inr (hM.signed hac htu hcd hDl (by rw [hfirst, hc]) helse).up
        · refine .inl (h.spare hDl (fun j hj => by rw [a3 j hj, helse _ (by omega)]) ?_)
          rw [hfirst, ← hcd, (nxt_of htu).1]
          rw [(nxt_of htu).1] at hc
          exact Safe.cut (nxt_of htu).2 _ hc
      · simp only [if_true]
        refine ⟨fun τ s' e => ?_, fun τ e => by injection e with _ e; cases e⟩
        injection e with e1 e2
        injection e2 with e2
        subst e1 e2
        obtain rfl : L = 1 := p2 rfl
        exact hM.signed hac htu hcd hDl (by rw [p4.2, if_pos (by omega), a4, and255, Nat.sub_self]; rfl) (fun j hj => by rw [p4.2, if_neg (by omega), if_neg (by rw [List.length_singleton]; omega)])
end Go.Proofs.Ytcjahdgppnmdkaa
namespace Go.Proofs.Ytcjahdgppnmdkaa
open Go.RowKit Go.Great
def updV (V : Vl) (i : Nat) (v : List UInt8) : Vl := fun j => if j = i then some v else V j
/-- a record behind the others, cut or not -/
theorem Live.addP {C D : List UInt8} {s : Sv} {V : Vl} (h : Live C s V) (i : Nat) (hi : i < 3) (v : List UInt8) (hv : v.length ≤ 2000) (he : s.en + 4 + v.length ≤ 4096) {L : Nat} {x : UInt8} (hL : L ≤ 4 + v.length) (hP : Part C (s.ac * 4096 + s.en) (recB i v) L x D) :
    ((L = 4 + v.length ∨ L = 3 + v.length ∧ x = 0) → Live D ⟨s.ac, s.tu, s.en + 4 + v.length, upd s.k i ⟨true, s.en + 3, v.length⟩⟩ (updV V i v)) ∧ (L < 4 + v.length → ¬ (L = 3 + v.length ∧ x = 0) → Up D s.ac V) := by
  have hac := h.up.a2
  have hC := h.up.len
  have hrl := recB_length i v
  have hD : D.length = 8192 := by rw [hP.1, hC]
  obtain ⟨g1, g2, g3⟩ := h.en.kok (secL_len hC hac)
  have hW := Wrote.of hC hac (by omega) (by omega) h.en.2.1 hP
  have hfirst : D.getD (s.ac * 4096) 0 = C.getD (s.ac * 4096) 0 := by rw [hP.2, if_neg (by omega), if_neg (by omega)]
  have hspare : D.getD ((1 - s.ac) * 4096) 0 = C.getD ((1 - s.ac) * 4096) 0 := by rw [hP.2, if_neg (by omega), if_neg (by omega)]
  have hlow : ∀ j, j < s.en → C.getD (s.ac * 4096 + j) 0 = D.getD (s.ac * 4096 + j) 0 := fun j hj => by rw [hP.2, if_neg (by omega), if_neg (by omega)]
  have hold : ∀ j, cont C s.ac s.k j = cont D s.ac s.k j := fun j => cont_same hC hD hac hlow g1 g3 j
  refine ⟨fun hc => ?_, fun hlt hn => ?_⟩
  · have hE := hW.whole h.en.1 hi hv he hc
    have hval : ∀ j, j < 3 → updV V i v j = cont D s.ac (upd s.k i ⟨true, s.en + 3, v.length⟩) j := fun j hj => by
      unfold updV
      by_cases e : j = i
      · subst e
        rw [if_pos rfl]
        unfold cont
        rw [upd_at, if_pos rfl]
        apply congrArg some
        show v = (D.drop (s.ac * 4096 + (s.en + 3))).take v.length
        have := @txt_ext D v (s.ac * 4096 + (s.en + 3)) 0 v.length (fun q hq => by
          have hm := hW.mid (3 + q) (by omega)
          rw [sec_at D hD s.ac hac _ (by omega), recB_v _ v q hq] at hm
          rw [Nat.zero_add, show s.ac * 4096 + (s.en + 3) + q = s.ac * 4096 + (s.en + (3 + q)) by omega]
          exact hm) (by omega) (by omega)
        rw [this, List.drop_zero, List.take_of_length_le (Nat.le_refl _)]
      · rw [if_neg e, h.val j hj, hold j]
        unfold cont
        rw [upd_ne _ _ e]
    exact ⟨⟨hD, hac, by rw [hfirst]; exact h.up.cd, by rw [hfirst, hspare]; exact h.up.sf, _, _, _, hE, hval⟩, h.tu, by rw [hfirst]; exact h.cd, hE, hval, by rw [hspare]; exact h.sp⟩
  · obtain ⟨cl, hE⟩ := Ends.not h.en.1 (by rw [hW.ll, hW.ml]) hW.lo (hW.part hv he hlt hn)
    exact ⟨hD, hac, by rw [hfirst]; exact h.up.cd, by rw [hfirst, hspare]; exact h.up.sf, s.en, s.k, cl, hE, fun j hj => by rw [h.val j hj, hold j]⟩
/-- write: done, or cut -/
theorem Live.write {σ : St} {s : Sv} {V : Vl} (h : Live σ.C s V) (i : Nat) (hi : i < 3) (v : List UInt8) (hv : v.length ≤ 2000) (hn : needN s.k i v.length ≤ 4096) :
    (∀ τ s', wriS σ s i v = (τ, some s') → Live τ.C s' (updV V i v)) ∧ (∀ τ, wriS σ s i v = (τ, none) → ∃ ac, Up τ.C ac V ∨ Up τ.C ac (updV V i v)) := by
  have hac := h.up.a2
  obtain ⟨g1, g2, g3⟩ := h.en.kok (secL_len h.up.len hac)
  unfold wriS
  by_cases hc : s.en + 4 + v.length ≤ 4096
  · rw [if_pos hc]
    obtain ⟨L, x, p1, p2, p3, p4⟩ := progS_part (recB i v) σ (s.ac * 4096 + s.en) (by rw [h.up.len, recB_length]; omega)
    rw [recB_length] at p1 p2 p3
    have A := h.addP i hi v hv hc p1 p4
    have e1 := addS_σ s.ac i v ⟨σ, s.en, s.k⟩
    have e2 := addS_2 s.ac i v ⟨σ, s.en, s.k⟩
    simp only at e1 e2
    rw [← e1] at p4 A
    rw [← e2] at p2 p3
    cases hb : (addS s.ac i v ⟨σ, s.en, s.k⟩).2
    · simp only [Bool.false_eq_true, if_false]
      refine ⟨(fun τ s' e => by injection e with _ e; cases e), fun τ e => ?_⟩
      injection e with e _
      subst e
      by_cases hw : L = 3 + v.length ∧ x = 0
      · exact ⟨s.ac, .inr (A.1 (.inr hw)).up⟩
      · exact ⟨s.ac, .inl (A.2 (p3 hb).1 hw)⟩
    · simp only [if_true]
      refine ⟨fun τ s' e => ?_, fun τ e => by injection e with _ e; cases e⟩
      injection e with e3 e4
      injection e4 with e4
      subst e3 e4
      obtain ⟨k1, k2⟩ := addS_k hb
      rw [k1, k2]
      exact A.1 (.inl (p2 hb))
  · rw [if_neg hc]
    have hV : ∀ j, j < 3 → updV V i v j = mvL σ.C s.ac s.k (i : Int) v j := fun j hj => by
      unfold updV mvL
      by_cases e : j = i
      · rw [if_pos e, if_pos (by omega)]
      · rw [if_neg e, if_neg (by omega), h.val j hj]
        rfl
    obtain ⟨m1, m2⟩ := h.up.move (g3.mono g1) hv h.tu h.cd hV (by rw [needN_rest _ _ _ hi]; exact hn)
    exact ⟨m1, fun τ e => by
      rcases m2 τ e with hu | hu
      · exact ⟨_, .inl hu⟩
      · exact ⟨_, .inr hu⟩⟩
end Go.Proofs.Ytcjahdgppnmdkaa
