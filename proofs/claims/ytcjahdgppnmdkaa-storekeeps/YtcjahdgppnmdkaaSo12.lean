/- Package store: Put and Get. -/
import Derived.Test.YtcjahdgppnmdkaaSo9
set_option maxRecDepth 100000
namespace Go.Proofs.Ytcjahdgppnmdkaa
open Go.RowKit Go.Great

/-- a store that can be asked -/
structure Ask (s : Sv) : Prop where
  ac : s.ac < 2
  tu : s.tu < 3
  en : s.en ≤ 4096
  k : KOk s.k 4096
theorem needN_rest (k : Kp) (i n : Nat) (hi : i < 3) : 1 + restM k (i : Int) n 0 3 = needN k i n := by
  show 1 + (szM k (i : Int) n 0 + (szM k (i : Int) n 1 + (szM k (i : Int) n 2 + 0))) = _
  unfold szM needN szK
  obtain rfl | rfl | rfl : i = 0 ∨ i = 1 ∨ i = 2 := by omega
  all_goals
    cases (k 0).th <;> cases (k 1).th <;> cases (k 2).th <;> simp <;> omega
/-- write: add or move -/
def wriS (σ : St) (s : Sv) (i : Nat) (v : List UInt8) : St × Option Sv :=
  if s.en + 4 + v.length ≤ 4096 then ((addS s.ac i v ⟨σ, s.en, s.k⟩).1.σ, if (addS s.ac i v ⟨σ, s.en, s.k⟩).2 then some ⟨s.ac, s.tu, (addS s.ac i v ⟨σ, s.en, s.k⟩).1.en, (addS s.ac i v ⟨σ, s.en, s.k⟩).1.k⟩ else none)
  else moveS σ s (i : Int) v
theorem addS_fail {s i : Nat} {t : List UInt8} {m : Mv} (h : (addS s i t m).2 = false) : (addS s i t m).1.en = m.en ∧ (addS s i t m).1.k = m.k := by
  unfold addS at h ⊢
  by_cases hc : (progS m.σ (s * 4096 + m.en) (recB i t)).2 = true
  · rw [if_pos hc] at h; cases h
  · rw [if_neg hc]; exact ⟨rfl, rfl⟩
theorem put_nil (w : World) (id : Int) (v : ByteArray) : Calls Try.prog 21 #[.pointer none, .int .i64 id, .string v] w fun e w' => e = .returned (.int .i64 2) ∧ w' = w := by
  go_enter Try.func21, Try.ntmps21
  go_wp2
  go_ret
  exact ⟨rfl, rfl⟩
theorem put_stands (w : World) (S : Nat) (ac tu en : Int) (k : Kp) (h : So w S (.pointer none) ac tu en k) (id : Int) (v : ByteArray) : Calls Try.prog 21 #[fp S, .int .i64 id, .string v] w fun e w' => e = .returned (.int .i64 60) ∧ w' = w := by
  have c0 := h.c0
  go_enter Try.func21, Try.ntmps21
  go_wp2
  go_ret
  exact ⟨rfl, rfl⟩
/-- what Put leaves -/
def PutEnd (x : St × Option Sv × Int) (S R : Nat) (w : World) (e : Ending) (w' : World) : Prop :=
  ∃ (τ : St) (o : Option Sv) (r : Int), e = .returned (.int .i64 r) ∧ x = (τ, o, r) ∧ Fl w' R τ ∧ (∀ s', o = some s' → So w' S (fp R) s'.ac s'.tu s'.en s'.k) ∧ (o = none → So w' S (.pointer none) 0 0 0 kz) ∧ Kep2 R S w w'
theorem put_arg (w : World) (S R : Nat) (σ : St) (s : Sv) (hF : Fl w R σ) (h : So w S (fp R) s.ac s.tu s.en s.k) (id : Int) (tv : ByteArray) (hb : ¬ (0 ≤ id ∧ id < 3) ∨ 2000 < tv.size) :
    Calls Try.prog 21 #[fp S, .int .i64 id, .string tv] w fun e w' => PutEnd (putS σ s id tv.data.toList) S R w e w' := by
  have HX : Hid (putS σ s id tv.data.toList = (σ, some s, 1)) := by
    show _ = _
    unfold putS
    rw [if_pos (by rw [list_size]; exact hb)]
  have O := obj_any w id
  have c0 := h.c0
  go_enter Try.func21, Try.ntmps21
  by_cases hid : 0 ≤ id ∧ id < 3
  · have e0 : (decide (0 ≤ id) && decide (id < 3)) = true := by simp; omega
    rw [e0] at O
    have hz : (2000 : Int) < (tv.size : Int) := by omega
    clear hb hid
    go_wp2_with (go_at_call 50; refine O.mono ?_; rintro e w1 ⟨rfl, rfl⟩)
    go_ret
    exact (show PutEnd _ _ _ _ _ _ from ⟨σ, some s, 1, rfl, HX.out, hF, (fun s' e => by injection e with e; subst e; exact h), (fun e => by cases e), Kep2.refl _ _ _⟩)
  · have e0 : (decide (0 ≤ id) && decide (id < 3)) = false := by simp; omega
    rw [e0] at O
    clear hb hid
    go_wp2_with (go_at_call 50; refine O.mono ?_; rintro e w1 ⟨rfl, rfl⟩)
    go_ret
    exact (show PutEnd _ _ _ _ _ _ from ⟨σ, some s, 1, rfl, HX.out, hF, (fun s' e => by injection e with e; subst e; exact h), (fun e => by cases e), Kep2.refl _ _ _⟩)
theorem wri_put (σ : St) (s : Sv) (i : Nat) (hi : i < 3) (v : List UInt8) (hv : v.length ≤ 2000) (hn : needN s.k i v.length ≤ 4096) : putS σ s (i : Int) v = ((wriS σ s i v).1, (wriS σ s i v).2, if (wriS σ s i v).2.isSome then 0 else 60) := by
  unfold putS wriS
  rw [if_neg (by omega), show ((i : Int)).toNat = i by omega, if_neg (by omega)]
  by_cases hc : s.en + 4 + v.length ≤ 4096
  · rw [if_pos hc, if_pos hc]
    cases hb : (addS s.ac i v ⟨σ, s.en, s.k⟩).2
    · simp
    · simp
  · rw [if_neg hc, if_neg hc]
theorem get_nil (w : World) (id : Int) : Calls Try.prog 24 #[.pointer none, .int .i64 id] w fun e w' => e = .returned (.tuple #[.string ⟨#[]⟩, .bool false]) ∧ w' = w := by
  go_enter Try.func24, Try.ntmps24
  go_wp2
  go_ret2
  exact ⟨rfl, rfl⟩
theorem get_out (w : World) (S : Nat) (id : Int) (hid : ¬ (0 ≤ id ∧ id < 3)) : Calls Try.prog 24 #[fp S, .int .i64 id] w fun e w' => e = .returned (.tuple #[.string ⟨#[]⟩, .bool false]) ∧ w' = w := by
  have O := obj_any w id
  have e0 : (decide (0 ≤ id) && decide (id < 3)) = false := by simp; omega
  rw [e0] at O
  clear hid
  go_enter Try.func24, Try.ntmps24
  go_wp2_with (go_at_call 50; refine O.mono ?_; rintro e w1 ⟨rfl, hw⟩; obtain rfl := hw.symm; clear hw)
  go_ret2
  exact ⟨rfl, rfl⟩
theorem get_not (w : World) (S : Nat) (p : Value) (ac tu en : Int) (k : Kp) (h : So w S p ac tu en k) (i : Nat) (hi : i < 3) (ht : (k i).th = false) : Calls Try.prog 24 #[fp S, .int .i64 (i : Int)] w fun e w' => e = .returned (.tuple #[.string ⟨#[]⟩, .bool false]) ∧ w' = w := by
  have O := obj_any w (i : Int)
  have e0 : (decide (0 ≤ (i : Int)) && decide ((i : Int) < 3)) = true := by simp; omega
  rw [e0] at O
  have c4 := h.c4
  have c7 := h.c7
  have c10 := h.c10
  clear e0
  obtain rfl | rfl | rfl : i = 0 ∨ i = 1 ∨ i = 2 := by omega
  all_goals
    go_enter Try.func24, Try.ntmps24
    go_wp2_with (go_at_call 50; refine O.mono ?_; rintro e w1 ⟨rfl, hw⟩; obtain rfl := hw.symm; clear hw)
    go_ret2
    exact ⟨rfl, rfl⟩
theorem get_there (w : World) (S R : Nat) (σ : St) (hon : On σ) (s : Sv) (ha : Ask s) (hF : Fl w R σ) (h : So w S (fp R) s.ac s.tu s.en s.k) (i : Nat) (hi : i < 3) (ht : (s.k i).th = true) : Calls Try.prog 24 #[fp S, .int .i64 (i : Int)] w fun e w' => e = .returned (.tuple #[.string (bs (txt σ.C s.ac (s.k i))), .bool true]) ∧ Below w.heap.size w w' := by
  have O := obj_any w (i : Int)
  have e0 : (decide (0 ≤ (i : Int)) && decide ((i : Int) < 3)) = true := by simp; omega
  rw [e0] at O
  have RD := read_st w S R σ hF hon.off s.ac s.tu s.en s.k h ha.ac i hi (by have := (ha.k.1 i ht).1; omega)
  obtain ⟨t, hx⟩ : ∃ t, bs (txt σ.C s.ac (s.k i)) = t := ⟨_, rfl⟩
  rw [hx] at RD ⊢
  have c4 := h.c4
  have c7 := h.c7
  have c10 := h.c10
  clear e0 hx
  obtain rfl | rfl | rfl : i = 0 ∨ i = 1 ∨ i = 2 := by omega
  all_goals
    go_enter Try.func24, Try.ntmps24
    go_wp2_with (go_at_call 50; refine O.mono ?_; rintro e w1 ⟨rfl, hw⟩; obtain rfl := hw.symm; clear hw)
    refine RD.mono ?_
    rintro e w1 ⟨rfl, b1⟩
    go_wp2_with fail
    go_ret2
    exact ⟨rfl, b1⟩
/-- what Get answers -/
def getV (o : Option (List UInt8)) : Value := match o with | some l => .tuple #[.string (bs l), .bool true] | none => .tuple #[.string ⟨#[]⟩, .bool false]
theorem get_any (w : World) (S R : Nat) (σ : St) (hon : On σ) (s : Sv) (ha : Ask s) (hF : Fl w R σ) (h : So w S (fp R) s.ac s.tu s.en s.k) (id : Int) : Calls Try.prog 24 #[fp S, .int .i64 id] w fun e w' => e = .returned (getV (getS σ.C s id)) ∧ Below w.heap.size w w' := by
  by_cases hid : 0 ≤ id ∧ id < 3
  · obtain ⟨i, rfl⟩ := Int.eq_ofNat_of_zero_le hid.1
    cases ht : (s.k i).th
    · rw [getS, if_neg (by rw [show ((i : Int)).toNat = i by omega, ht]; simp)]
      refine (get_not w S _ _ _ _ _ h i (by omega) ht).mono ?_
      rintro e w1 ⟨rfl, rfl⟩
      exact ⟨rfl, Below.refl _ _⟩
    · rw [getS, if_pos (by rw [show ((i : Int)).toNat = i by omega, ht]; exact ⟨hid.1, hid.2, rfl⟩), show ((i : Int)).toNat = i by omega]
      exact get_there w S R σ hon s ha hF h i (by omega) ht
  · rw [getS, if_neg (fun c => hid ⟨c.1, c.2.1⟩)]
    refine (get_out w S id hid).mono ?_
    rintro e w1 ⟨rfl, rfl⟩
    exact ⟨rfl, Below.refl _ _⟩
theorem get_stands (w : World) (S : Nat) (p : Value) (ac tu en : Int) (h : So w S p ac tu en kz) (id : Int) : Calls Try.prog 24 #[fp S, .int .i64 id] w fun e w' => e = .returned (.tuple #[.string ⟨#[]⟩, .bool false]) ∧ w' = w := by
  by_cases hid : 0 ≤ id ∧ id < 3
  · obtain ⟨i, rfl⟩ := Int.eq_ofNat_of_zero_le hid.1
    exact get_not w S p ac tu en kz h i (by omega) rfl
  · exact get_out w S id hid
end Go.Proofs.Ytcjahdgppnmdkaa
