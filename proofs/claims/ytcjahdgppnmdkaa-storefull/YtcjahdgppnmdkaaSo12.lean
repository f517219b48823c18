/- Package store: Put and Get. -/
import Derived.Test.YtcjahdgppnmdkaaSo9
set_option maxRecDepth 100000
namespace Go.Proofs.Ytcjahdgppnmdkaa
open Go.RowKit Go.Great

/-- a store that can be asked -/
structure Ask (s : Sv) : Prop where
  ac : s.ac < 2
  tu : s.tu < 3
  en : s.en ≤ 4096
  k : KOk s.k 4096
theorem needN_rest (k : Kp) (i n : Nat) (hi : i < 3) : 1 + restM k (i : Int) n 0 3 = needN k i n := by
  show 1 + (szM k (i : Int) n 0 + (szM k (i : Int) n 1 + (szM k (i : Int) n 2 + 0))) = _
  unfold szM needN szK
  obtain rfl | rfl | rfl : i = 0 ∨ i = 1 ∨ i = 2 := by omega
  all_goals
    cases (k 0).th <;> cases (k 1).th <;> cases (k 2).th <;> simp <;> omega
/-- write: add or move -/
def wriS (σ : St) (s : Sv) (i : Nat) (v : List UInt8) : St × Option Sv :=
  if s.en + 4 + v.length ≤ 4096 then ((addS s.ac i v ⟨σ, s.en, s.k⟩).1.σ, if (addS s.ac i v ⟨σ, s.en, s.k⟩).2 then some ⟨s.ac, s.tu, (addS s.ac i v ⟨σ, s.en, s.k⟩).1.en, (addS s.ac i v ⟨σ, s.en, s.k⟩).1.k⟩ else none)
  else moveS σ s (i : Int) v
theorem addS_fail {s i : Nat} {t : List UInt8} {m : Mv} (h : (addS s i t m).2 = false) : (addS s i t m).1.en = m.en ∧ (addS s i t m).1.k = m.k := by
  unfold addS at h ⊢
  by_cases hc : (progS m.σ (s * 4096 + m.en) (recB i t)).2 = true
  · rw [if_pos hc] at h; cases h
  · rw [if_neg hc]; exact ⟨rfl, rfl⟩
theorem write_any (w : World) (S R : Nat) (σ : St) (hon : On σ) (s : Sv) (ha : Ask s) (hF : Fl w R σ) (h : So w S (fp R) s.ac s.tu s.en s.k) (i : Nat) (hi : i < 3) (tv : ByteArray) (htv : tv.size ≤ 2000) (hn : needN s.k i tv.size ≤ 4096) :
    Calls Try.prog 52 #[fp S, .int .i64 (i : Int), .string tv] w fun e w' => StEnd (wriS σ s i tv.data.toList) s S R w e w' := by
  have c3 := h.c3
  by_cases hc : s.en + 4 + tv.size ≤ 4096
  · have A := add_any w S R σ hon s.ac s.tu s.en s.k i tv hF h ha.ac hi htv hc
    have hfl := @addS_fail s.ac i tv.data.toList ⟨σ, s.en, s.k⟩
    have HW : Hid (wriS σ s i tv.data.toList = ((addS s.ac i tv.data.toList ⟨σ, s.en, s.k⟩).1.σ, if (addS s.ac i tv.data.toList ⟨σ, s.en, s.k⟩).2 then some ⟨s.ac, s.tu, (addS s.ac i tv.data.toList ⟨σ, s.en, s.k⟩).1.en, (addS s.ac i tv.data.toList ⟨σ, s.en, s.k⟩).1.k⟩ else none)) := by
      show _ = _
      unfold wriS
      rw [if_pos (by rw [list_size]; exact hc)]
    obtain ⟨⟨m, ok⟩, hx⟩ : ∃ x, addS s.ac i tv.data.toList ⟨σ, s.en, s.k⟩ = x := ⟨_, rfl⟩
    rw [hx] at A HW hfl
    simp only at A HW hfl
    obtain ⟨r, hr⟩ : ∃ r : Int, Hid ((if ok then 0 else 60) = r) := ⟨_, hide rfl⟩
    rw [show (if ok = true then (0 : Int) else 60) = r from hr.out] at A
    obtain ⟨en, hen⟩ : ∃ en, Hid (s.en = en) := ⟨_, hide rfl⟩
    rw [hen.out] at c3
    obtain ⟨n, hnn⟩ : ∃ n, tv.size = n := ⟨_, rfl⟩
    have hc1 : (en : Int) + 4 + (n : Int) ≤ 4096 := by have := hen.out; omega
    clear hx hc hn
    go_enter Try.func52, Try.ntmps52
    go_wp2_with fail
    refine A.mono ?_
    rintro e w1 ⟨rfl, f1, s1, k1⟩
    have S1 := hide s1
    clear s1 A
    go_wp2_with fail
    go_ret
    cases ok
    · have g := hfl rfl
      have := S1.out
      rw [g.1, g.2] at this
      exact (show StEnd _ _ _ _ _ _ _ from ⟨false, m.σ, s, by rw [hr.out]; rfl, HW.out, f1, this, k1⟩)
    · exact (show StEnd _ _ _ _ _ _ _ from ⟨true, m.σ, ⟨s.ac, s.tu, m.en, m.k⟩, by rw [hr.out]; rfl, HW.out, f1, S1.out, k1⟩)
  · have A := move_any w S R σ hon s.ac s.tu s.en s.k hF h ha.ac ha.tu ha.k (i : Int) tv htv (by rw [needN_rest _ _ _ hi]; exact hn)
    have HW : Hid (wriS σ s i tv.data.toList = moveS σ s (i : Int) tv.data.toList) := by
      show _ = _
      unfold wriS
      rw [if_neg (by rw [list_size]; exact hc)]
    obtain ⟨en, hen⟩ : ∃ en, Hid (s.en = en) := ⟨_, hide rfl⟩
    rw [hen.out] at c3
    obtain ⟨n, hnn⟩ : ∃ n, tv.size = n := ⟨_, rfl⟩
    have he1 : (en : Int) ≤ 4096 := by have := hen.out; have := ha.en; omega
    have hn1 : (n : Int) ≤ 2000 := by omega
    have hc1 : decide ((en : Int) + 4 + (n : Int) ≤ 4096) = false := decide_eq_false (by have := hen.out; omega)
    clear hc hn htv
    go_enter Try.func52, Try.ntmps52
    go_wp2_with fail
    refine A.mono ?_
    intro e w1 h1
    have H1 := hide h1
    clear h1 A
    obtain ⟨ok, τ, s', rfl, g2, g3, g4, g5⟩ := H1.out
    clear H1
    obtain ⟨r, hr⟩ : ∃ r : Int, Hid ((if ok then 0 else 60) = r) := ⟨_, hide rfl⟩
    rw [show (if ok = true then (0 : Int) else 60) = r from hr.out]
    have G2 := hide g2
    have G4 := hide g4
    clear g2 g4
    go_wp2_with fail
    go_ret
    exact (show StEnd _ _ _ _ _ _ _ from ⟨ok, τ, s', by rw [hr.out]; rfl, by rw [HW.out]; exact G2.out, g3, G4.out, g5⟩)
theorem put_nil (w : World) (id : Int) (v : ByteArray) : Calls Try.prog 21 #[.pointer none, .int .i64 id, .string v] w fun e w' => e = .returned (.int .i64 2) ∧ w' = w := by
  go_enter Try.func21, Try.ntmps21
  go_wp2
  go_ret
  exact ⟨rfl, rfl⟩
theorem put_stands (w : World) (S : Nat) (ac tu en : Int) (k : Kp) (h : So w S (.pointer none) ac tu en k) (id : Int) (v : ByteArray) : Calls Try.prog 21 #[fp S, .int .i64 id, .string v] w fun e w' => e = .returned (.int .i64 60) ∧ w' = w := by
  have c0 := h.c0
  go_enter Try.func21, Try.ntmps21
  go_wp2
  go_ret
  exact ⟨rfl, rfl⟩
/-- what Put leaves -/
def PutEnd (x : St × Option Sv × Int) (S R : Nat) (w : World) (e : Ending) (w' : World) : Prop :=
  ∃ (τ : St) (o : Option Sv) (r : Int), e = .returned (.int .i64 r) ∧ x = (τ, o, r) ∧ Fl w' R τ ∧ (∀ s', o = some s' → So w' S (fp R) s'.ac s'.tu s'.en s'.k) ∧ (o = none → So w' S (.pointer none) 0 0 0 kz) ∧ Kep2 R S w w'
theorem put_arg (w : World) (S R : Nat) (σ : St) (s : Sv) (hF : Fl w R σ) (h : So w S (fp R) s.ac s.tu s.en s.k) (id : Int) (tv : ByteArray) (hb : ¬ (0 ≤ id ∧ id < 3) ∨ 2000 < tv.size) :
    Calls Try.prog 21 #[fp S, .int .i64 id, .string tv] w fun e w' => PutEnd (putS σ s id tv.data.toList) S R w e w' := by
  have HX : Hid (putS σ s id tv.data.toList = (σ, some s, 1)) := by
    show _ = _
    unfold putS
    rw [if_pos (by rw [list_size]; exact hb)]
  have O := obj_any w id
  have c0 := h.c0
  go_enter Try.func21, Try.ntmps21
  by_cases hid : 0 ≤ id ∧ id < 3
  · have e0 : (decide (0 ≤ id) && decide (id < 3)) = true := by simp; omega
    rw [e0] at O
    have hz : (2000 : Int) < (tv.size : Int) := by omega
    clear hb hid
    go_wp2_with (go_at_call 50; refine O.mono ?_; rintro e w1 ⟨rfl, rfl⟩)
    go_ret
    exact (show PutEnd _ _ _ _ _ _ from ⟨σ, some s, 1, rfl, HX.out, hF, (fun s' e => by injection e with e; subst e; exact h), (fun e => by cases e), Kep2.refl _ _ _⟩)
  · have e0 : (decide (0 ≤ id) && decide (id < 3)) = false := by simp; omega
    rw [e0] at O
    clear hb hid
    go_wp2_with (go_at_call 50; refine O.mono ?_; rintro e w1 ⟨rfl, rfl⟩)
    go_ret
    exact (show PutEnd _ _ _ _ _ _ from ⟨σ, some s, 1, rfl, HX.out, hF, (fun s' e => by injection e with e; subst e; exact h), (fun e => by cases e), Kep2.refl _ _ _⟩)
theorem wri_put (σ : St) (s : Sv) (i : Nat) (hi : i < 3) (v : List UInt8) (hv : v.length ≤ 2000) (hn : needN s.k i v.length ≤ 4096) : putS σ s (i : Int) v = ((wriS σ s i v).1, (wriS σ s i v).2, if (wriS σ s i v).2.isSome then 0 else 60) := by
  unfold putS wriS
  rw [if_neg (by omega), show ((i : Int)).toNat = i by omega, if_neg (by omega)]
  by_cases hc : s.en + 4 + v.length ≤ 4096
  · rw [if_pos hc, if_pos hc]
    cases hb : (addS s.ac i v ⟨σ, s.en, s.k⟩).2
    · simp
    · simp
  · rw [if_neg hc, if_neg hc]
set_option maxHeartbeats 1000000 in
theorem put_in (w : World) (S R : Nat) (σ : St) (hon : On σ) (s : Sv) (ha : Ask s) (hF : Fl w R σ) (h : So w S (fp R) s.ac s.tu s.en s.k) (i : Nat) (hi : i < 3) (tv : ByteArray) (htv : tv.size ≤ 2000) :
    Calls Try.prog 21 #[fp S, .int .i64 (i : Int), .string tv] w fun e w' => PutEnd (putS σ s (i : Int) tv.data.toList) S R w e w' := by
  have O := obj_any w (i : Int)
  have e0 : (decide (0 ≤ (i : Int)) && decide ((i : Int) < 3)) = true := by simp; omega
  rw [e0] at O
  have c0 := h.c0
  have N := need_any w S (fp R) s.ac s.tu s.en s.k h (fun j hj => (ha.k.1 j hj).2) i tv.size htv
  obtain ⟨q, hq⟩ : ∃ q, Hid (needN s.k i tv.size = q) := ⟨_, hide rfl⟩
  rw [hq.out] at N
  obtain ⟨n, hnn⟩ : ∃ n, tv.size = n := ⟨_, rfl⟩
  have hn1 : (n : Int) ≤ 2000 := by omega
  have HTV := hide htv
  by_cases hc : q ≤ 4096
  · have A := fun w1 (b1 : Below w.heap.size w w1) => write_any w1 S R σ hon s ha (hF.below b1) (h.below b1) i hi tv HTV.out (by rw [hq.out]; exact hc)
    have HX := hide (wri_put σ s i hi tv.data.toList (by rw [list_size]; exact HTV.out) (by rw [list_size, hq.out]; exact hc))
    have hc1 : (q : Int) ≤ 4096 := by omega
    rw [hnn] at N
    clear hc htv
    go_enter Try.func21, Try.ntmps21
    go_wp2_with (go_at_call 50; refine O.mono ?_; rintro e w1 ⟨rfl, hw⟩; obtain rfl := hw.symm; clear hw)
    refine N.mono ?_
    rintro e w1 ⟨rfl, b1⟩
    have A1 := A w1 b1
    have B1 := hide b1
    clear A N b1
    go_wp2_with fail
    refine A1.mono ?_
    intro e w2 h2
    have H2 := hide h2
    clear h2 A1
    obtain ⟨ok, τ, s', rfl, g2, g3, g4, g5⟩ := H2.out
    clear H2
    cases ok
    · simp only [Bool.false_eq_true, if_false] at g2 g4
      have G2 := hide g2
      have G4 := hide g4
      have q0 := g4.c0
      have z0 := g4.frozen 0
      have q1 := g4.c1
      have z1 := g4.frozen 1
      have q2 := g4.c2
      have z2 := g4.frozen 2
      have q3 := g4.c3
      have z3 := g4.frozen 3
      have q4 := g4.c4
      have z4 := g4.frozen 4
      have q5 := g4.c5
      have z5 := g4.frozen 5
      have q6 := g4.c6
      have z6 := g4.frozen 6
      have q7 := g4.c7
      have z7 := g4.frozen 7
      have q8 := g4.c8
      have z8 := g4.frozen 8
      have q9 := g4.c9
      have z9 := g4.frozen 9
      have q10 := g4.c10
      have z10 := g4.frozen 10
      have q11 := g4.c11
      have z11 := g4.frozen 11
      have q12 := g4.c12
      have z12 := g4.frozen 12
      have hRS := g3.ne g4
      clear g2 g4
      go_wp2_with fail
      go_ret
      exact (show PutEnd _ _ _ _ _ _ from ⟨τ, none, 60, rfl, by rw [HX.out, G2.out]; rfl, g3.kept (Kept.all13 (Kept.refl S w2) _ _ _ _ _ _ _ _ _ _ _ _ _) hRS, (fun s' e => by cases e), (fun _ => G4.out.all (.pointer none) 0 0 0 kz), ((below_kept B1.out R).l2 S).trans (g5.trans ((Kept.all13 (Kept.refl S w2) _ _ _ _ _ _ _ _ _ _ _ _ _).r2 R))⟩)
    · simp only [if_true] at g2 g4
      have G2 := hide g2
      have G4 := hide g4
      clear g2 g4
      go_wp2_with fail
      go_ret
      exact (show PutEnd _ _ _ _ _ _ from ⟨τ, some s', 0, rfl, by rw [HX.out, G2.out]; rfl, g3, (fun s1 e => by injection e with e; subst e; exact G4.out), (fun e => by cases e), ((below_kept B1.out R).l2 S).trans g5⟩)
  · have HX : Hid (putS σ s (i : Int) tv.data.toList = (σ, some s, 70)) := by
      show _ = _
      unfold putS
      rw [if_neg (by rw [list_size]; omega), show ((i : Int)).toNat = i by omega, if_pos (by rw [list_size, hq.out]; omega)]
    have hc1 : (4096 : Int) < (q : Int) := by omega
    rw [hnn] at N
    clear hc htv
    go_enter Try.func21, Try.ntmps21
    go_wp2_with (go_at_call 50; refine O.mono ?_; rintro e w1 ⟨rfl, hw⟩; obtain rfl := hw.symm; clear hw)
    refine N.mono ?_
    rintro e w1 ⟨rfl, b1⟩
    go_wp2_with fail
    go_ret
    exact (show PutEnd _ _ _ _ _ _ from ⟨σ, some s, 70, rfl, HX.out, hF.below b1, (fun s' e => by injection e with e; subst e; exact h.below b1), (fun e => by cases e), (below_kept b1 R).l2 S⟩)
theorem put_any (w : World) (S R : Nat) (σ : St) (hon : On σ) (s : Sv) (ha : Ask s) (hF : Fl w R σ) (h : So w S (fp R) s.ac s.tu s.en s.k) (id : Int) (tv : ByteArray) :
    Calls Try.prog 21 #[fp S, .int .i64 id, .string tv] w fun e w' => PutEnd (putS σ s id tv.data.toList) S R w e w' := by
  by_cases hb : ¬ (0 ≤ id ∧ id < 3) ∨ 2000 < tv.size
  · exact put_arg w S R σ s hF h id tv hb
  · obtain ⟨i, rfl⟩ := Int.eq_ofNat_of_zero_le (show 0 ≤ id by omega)
    exact put_in w S R σ hon s ha hF h i (by omega) tv (by omega)
theorem get_nil (w : World) (id : Int) : Calls Try.prog 24 #[.pointer none, .int .i64 id] w fun e w' => e = .returned (.tuple #[.string ⟨#[]⟩, .bool false]) ∧ w' = w := by
  go_enter Try.func24, Try.ntmps24
  go_wp2
  go_ret2
  exact ⟨rfl, rfl⟩
theorem get_out (w : World) (S : Nat) (id : Int) (hid : ¬ (0 ≤ id ∧ id < 3)) : Calls Try.prog 24 #[fp S, .int .i64 id] w fun e w' => e = .returned (.tuple #[.string ⟨#[]⟩, .bool false]) ∧ w' = w := by
  have O := obj_any w id
  have e0 : (decide (0 ≤ id) && decide (id < 3)) = false := by simp; omega
  rw [e0] at O
  clear hid
  go_enter Try.func24, Try.ntmps24
  go_wp2_with (go_at_call 50; refine O.mono ?_; rintro e w1 ⟨rfl, hw⟩; obtain rfl := hw.symm; clear hw)
  go_ret2
  exact ⟨rfl, rfl⟩
theorem get_not (w : World) (S : Nat) (p : Value) (ac tu en : Int) (k : Kp) (h : So w S p ac tu en k) (i : Nat) (hi : i < 3) (ht : (k i).th = false) : Calls Try.prog 24 #[fp S, .int .i64 (i : Int)] w fun e w' => e = .returned (.tuple #[.string ⟨#[]⟩, .bool false]) ∧ w' = w := by
  have O := obj_any w (i : Int)
  have e0 : (decide (0 ≤ (i : Int)) && decide ((i : Int) < 3)) = true := by simp; omega
  rw [e0] at O
  have c4 := h.c4
  have c7 := h.c7
  have c10 := h.c10
  clear e0
  obtain rfl | rfl | rfl : i = 0 ∨ i = 1 ∨ i = 2 := by omega
  all_goals
    go_enter Try.func24, Try.ntmps24
    go_wp2_with (go_at_call 50; refine O.mono ?_; rintro e w1 ⟨rfl, hw⟩; obtain rfl := hw.symm; clear hw)
    go_ret2
    exact ⟨rfl, rfl⟩
theorem get_there (w : World) (S R : Nat) (σ : St) (hon : On σ) (s : Sv) (ha : Ask s) (hF : Fl w R σ) (h : So w S (fp R) s.ac s.tu s.en s.k) (i : Nat) (hi : i < 3) (ht : (s.k i).th = true) : Calls Try.prog 24 #[fp S, .int .i64 (i : Int)] w fun e w' => e = .returned (.tuple #[.string (bs (txt σ.C s.ac (s.k i))), .bool true]) ∧ Below w.heap.size w w' := by
  have O := obj_any w (i : Int)
  have e0 : (decide (0 ≤ (i : Int)) && decide ((i : Int) < 3)) = true := by simp; omega
  rw [e0] at O
  have RD := read_st w S R σ hF hon.off s.ac s.tu s.en s.k h ha.ac i hi (by have := (ha.k.1 i ht).1; omega)
  obtain ⟨t, hx⟩ : ∃ t, bs (txt σ.C s.ac (s.k i)) = t := ⟨_, rfl⟩
  rw [hx] at RD ⊢
  have c4 := h.c4
  have c7 := h.c7
  have c10 := h.c10
  clear e0 hx
  obtain rfl | rfl | rfl : i = 0 ∨ i = 1 ∨ i = 2 := by omega
  all_goals
    go_enter Try.func24, Try.ntmps24
    go_wp2_with (go_at_call 50; refine O.mono ?_; rintro e w1 ⟨rfl, hw⟩; obtain rfl := hw.symm; clear hw)
    refine RD.mono ?_
    rintro e w1 ⟨rfl, b1⟩
    go_wp2_with fail
    go_ret2
    exact ⟨rfl, b1⟩
/-- what Get answers -/
def getV (o : Option (List UInt8)) : Value := match o with | some l => .tuple #[.string (bs l), .bool true] | none => .tuple #[.string ⟨#[]⟩, .bool false]
theorem get_any (w : World) (S R : Nat) (σ : St) (hon : On σ) (s : Sv) (ha : Ask s) (hF : Fl w R σ) (h : So w S (fp R) s.ac s.tu s.en s.k) (id : Int) : Calls Try.prog 24 #[fp S, .int .i64 id] w fun e w' => e = .returned (getV (getS σ.C s id)) ∧ Below w.heap.size w w' := by
  by_cases hid : 0 ≤ id ∧ id < 3
  · obtain ⟨i, rfl⟩ := Int.eq_ofNat_of_zero_le hid.1
    cases ht : (s.k i).th
    · rw [getS, if_neg (by rw [show ((i : Int)).toNat = i by omega, ht]; simp)]
      refine (get_not w S _ _ _ _ _ h i (by omega) ht).mono ?_
      rintro e w1 ⟨rfl, rfl⟩
      exact ⟨rfl, Below.refl _ _⟩
    · rw [getS, if_pos (by rw [show ((i : Int)).toNat = i by omega, ht]; exact ⟨hid.1, hid.2, rfl⟩), show ((i : Int)).toNat = i by omega]
      exact get_there w S R σ hon s ha hF h i (by omega) ht
  · rw [getS, if_neg (fun c => hid ⟨c.1, c.2.1⟩)]
    refine (get_out w S id hid).mono ?_
    rintro e w1 ⟨rfl, rfl⟩
    exact ⟨rfl, Below.refl _ _⟩
theorem get_stands (w : World) (S : Nat) (p : Value) (ac tu en : Int) (h : So w S p ac tu en kz) (id : Int) : Calls Try.prog 24 #[fp S, .int .i64 id] w fun e w' => e = .returned (.tuple #[.string ⟨#[]⟩, .bool false]) ∧ w' = w := by
  by_cases hid : 0 ≤ id ∧ id < 3
  · obtain ⟨i, rfl⟩ := Int.eq_ofNat_of_zero_le hid.1
    exact get_not w S p ac tu en kz h i (by omega) rfl
  · exact get_out w S id hid
end Go.Proofs.Ytcjahdgppnmdkaa
