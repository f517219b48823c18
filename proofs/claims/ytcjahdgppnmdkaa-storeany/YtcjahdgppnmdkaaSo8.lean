/- Package store: each, with the closure of move. -/
import Derived.Test.YtcjahdgppnmdkaaSo7
set_option maxRecDepth 100000
namespace Go.Proofs.Ytcjahdgppnmdkaa
open Go.RowKit Go.Great

def szM (k : Kp) (id : Int) (vl i : Nat) : Nat := if (i : Int) = id then 4 + vl else szK k i
def restM (k : Kp) (id : Int) (vl : Nat) : Nat → Nat → Nat
  | _, 0 => 0
  | i, n + 1 => szM k id vl i + restM k id vl (i + 1) n
theorem txt_len (C : List UInt8) (hC : C.length = 8192) (ac : Nat) (hac : ac < 2) (s : Sg) (hs : s.lo + s.n ≤ 4096) : (txt C ac s).length = s.n := by
  unfold txt; rw [List.length_take, List.length_drop]; omega
theorem addS_ok {s i : Nat} {t : List UInt8} {m : Mv} (ho : On m.σ) (h : (addS s i t m).2 = true) : On (addS s i t m).1.σ ∧ (addS s i t m).1.en = m.en + 4 + t.length := by
  unfold addS at h ⊢
  by_cases hc : (progS m.σ (s * 4096 + m.en) (recB i t)).2 = true
  · rw [if_pos hc]; exact ⟨progS_on _ _ _ ho hc, rfl⟩
  · rw [if_neg hc] at h; cases h
structure EachMid (w : World) (B N S R : Nat) (ac : Nat) (tu tn : Int) (en : Int) (k : Kp) (m : Mv) (wr : World) : Prop where
  on : On m.σ
  f : Fl wr R m.σ
  n : So wr N (fp R) ((1 - ac : Nat) : Int) tn m.en m.k
  s : So wr S (fp R) ac tu en k
  b : wr.heap[B]? = some (.cells #[fp N] 24 (0, 0))
  k : Kep2 R N w wr
theorem EachMid.below {w : World} {B N S R : Nat} {ac : Nat} {tu tn : Int} {en : Int} {k : Kp} {m : Mv} {wr w1 : World} (h : EachMid w B N S R ac tu tn en k m wr) (hb : Below wr.heap.size wr w1) : EachMid w B N S R ac tu tn en k m w1 :=
  ⟨h.on, h.f.below hb, h.n.below hb, h.s.below hb, by rw [hb.block B (lt_of_block h.b)]; exact h.b, h.k.below hb⟩
/-- behind an add -/
theorem EachMid.add {w : World} {B N S R : Nat} {ac : Nat} {tu tn : Int} {en : Int} {k : Kp} {m m' : Mv} {wr w1 : World} (h : EachMid w B N S R ac tu tn en k m wr) (hNS : N ≠ S) (on : On m'.σ) (f : Fl w1 R m'.σ) (n : So w1 N (fp R) ((1 - ac : Nat) : Int) tn m'.en m'.k) (kk : Kep2 R N wr w1) : EachMid w B N S R ac tu tn en k m' w1 := by
  have h1 := h.f.ne h.s
  have h2 := box_ne h.n h.b
  have h3 : B ≠ R := by
    intro e
    subst e
    have := h.b.symm.trans h.f.blk
    simp [flRow, bytesV] at this
  exact ⟨on, f, n, h.s.kep2 kk (Ne.symm h1) (Ne.symm hNS), kk.other h.b h3 h2, h.k.trans kk⟩
set_option maxHeartbeats 4000000 in
set_option maxRecDepth 100000 in
theorem each_any (w : World) (B N S R : Nat) (ac : Nat) (hac : ac < 2) (tu tn en : Int) (k : Kp) (hk : KOk k 4096) (m0 : Mv) (hM : EachMid w B N S R ac tu tn en k m0 w) (hNS : N ≠ S) (id : Int) (tv : ByteArray) (htv : tv.size ≤ 2000) (hfit : m0.en + restM k id tv.size 0 3 ≤ 4096) :
    Calls Try.prog 99 #[fp S, .int .i64 id, .string tv, .func (.func 100) #[] #[fp B]] w fun e w' => e = .returned (.int .i64 (if (eachS ac k id tv.data.toList 0 3 m0).2 then 0 else 60)) ∧ Fl w' R (eachS ac k id tv.data.toList 0 3 m0).1.σ ∧ So w' N (fp R) ((1 - ac : Nat) : Int) tn (eachS ac k id tv.data.toList 0 3 m0).1.en (eachS ac k id tv.data.toList 0 3 m0).1.k ∧ Kep2 R N w w' := by
  have c4 := hM.s.c4
  have c5 := hM.s.c5
  have c6 := hM.s.c6
  have c7 := hM.s.c7
  have c8 := hM.s.c8
  have c9 := hM.s.c9
  have c10 := hM.s.c10
  have c11 := hM.s.c11
  have c12 := hM.s.c12
  have x0 := ix3_0
  have x1 := ix3_1
  have x2 := ix3_2
  obtain ⟨⟨M, ok⟩, hr⟩ : ∃ x, Hid (eachS ac k id tv.data.toList 0 3 m0 = x) := ⟨_, hide rfl⟩
  rw [hr.out]
  simp only
  obtain ⟨v, hv⟩ : ∃ v : Int, Hid ((if ok then 0 else 60) = v) := ⟨_, hide rfl⟩
  rw [show (if ok = true then (0 : Int) else 60) = v from hv.out]
  have HM := hide hM
  have HFIT := hide hfit
  have HK := hide hk
  have HTV := hide htv
  clear hM hfit hk htv
  go_enter Try.func99, Try.ntmps99
  go_wp2_with fail
  clear c4 c5 c6 c7 c8 c9 c10 c11 c12
  go_loopw [19] (fun v wr => ∃ (i : Nat) (m : Mv), v = .int .i64 (i : Int) ∧ i ≤ 3 ∧ Hid (EachMid w B N S R ac tu tn en k m wr) ∧ Hid (m.en + restM k id tv.size i (3 - i) ≤ 4096) ∧ Hid ((M, ok) = eachS ac k id tv.data.toList i (3 - i) m)) (fun v _ => 3 - (intOf v).toNat)
  case atStart => exact ⟨0, m0, rfl, by omega, HM, HFIT, hide hr.out.symm⟩
  case round =>
    obtain ⟨i, m, rfl, hi, hE, hfit, hrun⟩ := hrel
    clear HM HFIT hr
    by_cases h3 : i = 3
    · subst h3
      have e1 := hrun.out
      rw [show (3 - 3 : Nat) = 0 from rfl, eachS] at e1
      have E1 := hide e1
      clear e1 hrun
      go_wp2_with fail
      go_ret
      have := E1.out
      injection this with e1 e2
      subst e1 e2
      have e3 := hv.out
      subst e3
      exact ⟨rfl, hE.out.f, hE.out.n, hE.out.k⟩
    · obtain ⟨n, hn⟩ : ∃ n, 3 - i = n + 1 := ⟨3 - i - 1, by omega⟩
      have e1 := hrun.out
      have e2 := hfit.out
      rw [hn, eachS] at e1
      rw [hn, restM] at e2
      have hn' : n = 3 - (i + 1) := by omega
      subst hn'
      have hon := hE.out.on
      have hkb : ∀ o, Hid (EachMid w B N S R ac tu tn en k m (wr.alloc o)) := fun o => hide (hE.out.below (below_alloc _ _))
      have X1 := hide e1
      have X2 := hide e2
      have hi3 : i < 3 := by omega
      clear e1 e2 hn hrun hfit hi
      by_cases hid : (i : Int) = id
      · have es : step1 ac k id tv.data.toList i m = addS (1 - ac) i tv.data.toList m := by
          unfold step1 mvL
          rw [if_pos hid]
        have e1 := X1.out
        rw [es] at e1
        have e2 := X2.out
        rw [szM, if_pos hid] at e2
        have D := fun o => put1_any (wr.alloc o) B N R (hkb o).out.b m.σ hon (1 - ac) tn m.en m.k i tv (hkb o).out.f (hkb o).out.n (by omega) hi3 HTV.out (by omega)
        have hA := @addS_ok (1 - ac) i tv.data.toList m hon
        rw [list_size] at hA
        have hmm : (⟨m.σ, m.en, m.k⟩ : Mv) = m := rfl
        rw [hmm] at D
        obtain ⟨⟨m', ok'⟩, hx⟩ : ∃ x, addS (1 - ac) i tv.data.toList m = x := ⟨_, rfl⟩
        rw [hx] at D e1 hA
        simp only at D e1 hA
        have Y1 := hide e1
        have Y2 := hide e2
        have HA := hide hA
        clear e1 e2 es X1 X2 hx hmm hA hE
        have HI := hide hid
        obtain rfl | rfl | rfl : i = 0 ∨ i = 1 ∨ i = 2 := by omega
        · have hne : ((0 : Int) != id) = false := by simp; exact HI.out
          clear hid
          cases ok'
          · simp only [Bool.false_eq_true, if_false] at D
            go_wp2_with fail
            refine (D _).mono ?_
            rintro e w2 ⟨rfl, f2, n2, k2⟩
            go_wp2_with fail
            go_ret
            have := Y1.out
            simp only [Bool.false_eq_true, if_false] at this
            injection this with e1 e2
            subst e1 e2
            have e3 := hv.out
            subst e3
            exact ⟨rfl, f2, n2, (hkb _).out.k.trans k2⟩
          · simp only [if_true] at D
            go_wp2_with fail
            refine (D _).mono ?_
            rintro e w2 ⟨rfl, f2, n2, k2⟩
            have hE2 := hide ((hkb _).out.add hNS (HA.out trivial).1 f2 n2 k2)
            clear D
            go_wp2_with fail
            go_roundw
            case rel => exact ⟨0 + 1, m', by go_num, by omega, hE2, hide (by have := (HA.out trivial).2; have := Y2.out; omega), hide (by have := Y1.out; simpa using this)⟩
            case measure => simp [intOf]
        · have hne : ((1 : Int) != id) = false := by simp; exact HI.out
          clear hid
          cases ok'
          · simp only [Bool.false_eq_true, if_false] at D
            go_wp2_with fail
            refine (D _).mono ?_
            rintro e w2 ⟨rfl, f2, n2, k2⟩
            go_wp2_with fail
            go_ret
            have := Y1.out
            simp only [Bool.false_eq_true, if_false] at this
            injection this with e1 e2
            subst e1 e2
            have e3 := hv.out
            subst e3
            exact ⟨rfl, f2, n2, (hkb _).out.k.trans k2⟩
          · simp only [if_true] at D
            go_wp2_with fail
            refine (D _).mono ?_
            rintro e w2 ⟨rfl, f2, n2, k2⟩
            have hE2 := hide ((hkb _).out.add hNS (HA.out trivial).1 f2 n2 k2)
            clear D
            go_wp2_with fail
            go_roundw
            case rel => exact ⟨1 + 1, m', by go_num, by omega, hE2, hide (by have := (HA.out trivial).2; have := Y2.out; omega), hide (by have := Y1.out; simpa using this)⟩
            case measure => simp [intOf]
        · have hne : ((2 : Int) != id) = false := by simp; exact HI.out
          clear hid
          cases ok'
          · simp only [Bool.false_eq_true, if_false] at D
            go_wp2_with fail
            refine (D _).mono ?_
            rintro e w2 ⟨rfl, f2, n2, k2⟩
            go_wp2_with fail
            go_ret
            have := Y1.out
            simp only [Bool.false_eq_true, if_false] at this
            injection this with e1 e2
            subst e1 e2
            have e3 := hv.out
            subst e3
            exact ⟨rfl, f2, n2, (hkb _).out.k.trans k2⟩
          · simp only [if_true] at D
            go_wp2_with fail
            refine (D _).mono ?_
            rintro e w2 ⟨rfl, f2, n2, k2⟩
            have hE2 := hide ((hkb _).out.add hNS (HA.out trivial).1 f2 n2 k2)
            clear D
            go_wp2_with fail
            go_roundw
            case rel => exact ⟨2 + 1, m', by go_num, by omega, hE2, hide (by have := (HA.out trivial).2; have := Y2.out; omega), hide (by have := Y1.out; simpa using this)⟩
            case measure => simp [intOf]
      · cases hth : (k i).th
        · have es : step1 ac k id tv.data.toList i m = (m, true) := by
            unfold step1 mvL
            rw [if_neg hid, if_neg (by rw [hth]; simp)]
          have e1 := X1.out
          rw [es] at e1
          simp only [if_true] at e1
          have e2 := X2.out
          rw [szM, if_neg hid, szK, if_neg (by rw [hth]; simp), Nat.zero_add] at e2
          have Y1 := hide e1
          have Y2 := hide e2
          clear e1 e2 es X1 X2 hE
          have HI := hide hid
          obtain rfl | rfl | rfl : i = 0 ∨ i = 1 ∨ i = 2 := by omega
          · have hne : ((0 : Int) != id) = true := by simp; exact HI.out
            clear hid
            go_wp2_with fail
            go_roundw
            case rel => exact ⟨1, m, by go_num, by omega, hkb _, Y2, Y1⟩
            case measure => simp [intOf]
          · have hne : ((1 : Int) != id) = true := by simp; exact HI.out
            clear hid
            go_wp2_with fail
            go_roundw
            case rel => exact ⟨2, m, by go_num, by omega, hkb _, Y2, Y1⟩
            case measure => simp [intOf]
          · have hne : ((2 : Int) != id) = true := by simp; exact HI.out
            clear hid
            go_wp2_with fail
            go_roundw
            case rel => exact ⟨3, m, by go_num, by omega, hkb _, Y2, Y1⟩
            case measure => simp [intOf]
        · have hkk := HK.out.1 i hth
          have hlo : (k i).lo + (k i).n ≤ 4096 := by omega
          have htl := txt_len m.σ.C hon.len ac hac (k i) hlo
          obtain ⟨l, hl⟩ : ∃ l, txt m.σ.C ac (k i) = l := ⟨_, rfl⟩
          have es : step1 ac k id tv.data.toList i m = addS (1 - ac) i l m := by
            unfold step1 mvL
            rw [if_neg hid, if_pos hth, hl]
          have e1 := X1.out
          rw [es] at e1
          have e2 := X2.out
          rw [szM, if_neg hid, szK, if_pos hth] at e2
          have RD := fun o => read_st (wr.alloc o) S R m.σ (hkb o).out.f hon.off ac tu en k (hkb o).out.s hac i hi3 hlo
          rw [hl] at htl
          simp only [hl] at RD
          have D : ∀ w1, EachMid w B N S R ac tu tn en k m w1 → _ := fun w1 h1 => put1_any w1 B N R h1.b m.σ hon (1 - ac) tn m.en m.k i (bs l) h1.f h1.n (by omega) hi3 (by rw [bs_size]; omega) (by rw [bs_size]; omega)
          have hA := @addS_ok (1 - ac) i l m hon
          rw [htl] at hA
          have hmm : (⟨m.σ, m.en, m.k⟩ : Mv) = m := rfl
          simp only [hmm, bs_list] at D
          obtain ⟨⟨m', ok'⟩, hx⟩ : ∃ x, addS (1 - ac) i l m = x := ⟨_, rfl⟩
          simp only [hx] at D
          rw [hx] at e1 hA
          simp only at e1 hA
          have Y1 := hide e1
          have Y2 := hide e2
          have HA := hide hA
          obtain ⟨t, ht⟩ : ∃ t, bs l = t := ⟨_, rfl⟩
          simp only [ht] at D RD
          have HTH := hide hth
          clear e1 e2 es X1 X2 hx hmm hA hE hl htl hkk hlo ht hth
          have HI := hide hid
          obtain rfl | rfl | rfl : i = 0 ∨ i = 1 ∨ i = 2 := by omega
          · have hne : ((0 : Int) != id) = true := by simp; exact HI.out
            have hth : (k 0).th = true := HTH.out
            clear hid
            cases ok'
            · simp only [Bool.false_eq_true, if_false] at D
              go_wp2_with fail
              refine (RD _).mono ?_
              rintro e w1 ⟨rfl, b1⟩
              have E1 := hide ((hkb _).out.below b1)
              have D1 := D w1 E1.out
              clear RD D hth
              go_wp2_with fail
              refine D1.mono ?_
              rintro e w2 ⟨rfl, f2, n2, k2⟩
              clear D1
              go_wp2_with fail
              go_ret
              have := Y1.out
              simp only [Bool.false_eq_true, if_false] at this
              injection this with e1 e2
              subst e1 e2
              have e3 := hv.out
              subst e3
              exact ⟨rfl, f2, n2, E1.out.k.trans k2⟩
            · simp only [if_true] at D
              go_wp2_with fail
              refine (RD _).mono ?_
              rintro e w1 ⟨rfl, b1⟩
              have E1 := hide ((hkb _).out.below b1)
              have D1 := D w1 E1.out
              clear RD D hth
              go_wp2_with fail
              refine D1.mono ?_
              rintro e w2 ⟨rfl, f2, n2, k2⟩
              have hE2 := hide (E1.out.add hNS (HA.out trivial).1 f2 n2 k2)
              clear D1
              go_wp2_with fail
              go_roundw
              case rel =>
                refine ⟨_, _, _, _, _, _, _, _, _, _, _, _, _, _, _, _, _, _, _, _, _, _, _, _, _, _, _, _, _, _, _, _, _, _, _, _, _, _, _, _, _, ?_, by rw [HTH.out]⟩
                exact ⟨0 + 1, m', by go_num, by omega, hE2, hide (by have := (HA.out trivial).2; have := Y2.out; omega), hide (by have := Y1.out; simpa using this)⟩
              case measure => simp [intOf]
          · have hne : ((1 : Int) != id) = true := by simp; exact HI.out
            have hth : (k 1).th = true := HTH.out
            clear hid
            cases ok'
            · simp only [Bool.false_eq_true, if_false] at D
              go_wp2_with fail
              refine (RD _).mono ?_
              rintro e w1 ⟨rfl, b1⟩
              have E1 := hide ((hkb _).out.below b1)
              have D1 := D w1 E1.out
              clear RD D hth
              go_wp2_with fail
              refine D1.mono ?_
              rintro e w2 ⟨rfl, f2, n2, k2⟩
              clear D1
              go_wp2_with fail
              go_ret
              have := Y1.out
              simp only [Bool.false_eq_true, if_false] at this
              injection this with e1 e2
              subst e1 e2
              have e3 := hv.out
              subst e3
              exact ⟨rfl, f2, n2, E1.out.k.trans k2⟩
            · simp only [if_true] at D
              go_wp2_with fail
              refine (RD _).mono ?_
              rintro e w1 ⟨rfl, b1⟩
              have E1 := hide ((hkb _).out.below b1)
              have D1 := D w1 E1.out
              clear RD D hth
              go_wp2_with fail
              refine D1.mono ?_
              rintro e w2 ⟨rfl, f2, n2, k2⟩
              have hE2 := hide (E1.out.add hNS (HA.out trivial).1 f2 n2 k2)
              clear D1
              go_wp2_with fail
              go_roundw
              case rel =>
                refine ⟨_, _, _, _, _, _, _, _, _, _, _, _, _, _, _, _, _, _, _, _, _, _, _, _, _, _, _, _, _, _, _, _, _, _, _, _, _, _, _, _, _, ?_, by rw [HTH.out]⟩
                exact ⟨1 + 1, m', by go_num, by omega, hE2, hide (by have := (HA.out trivial).2; have := Y2.out; omega), hide (by have := Y1.out; simpa using this)⟩
              case measure => simp [intOf]
          · have hne : ((2 : Int) != id) = true := by simp; exact HI.out
            have hth : (k 2).th = true := HTH.out
            clear hid
            cases ok'
            · simp only [Bool.false_eq_true, if_false] at D
              go_wp2_with fail
              refine (RD _).mono ?_
              rintro e w1 ⟨rfl, b1⟩
              have E1 := hide ((hkb _).out.below b1)
              have D1 := D w1 E1.out
              clear RD D hth
              go_wp2_with fail
              refine D1.mono ?_
              rintro e w2 ⟨rfl, f2, n2, k2⟩
              clear D1
              go_wp2_with fail
              go_ret
              have := Y1.out
              simp only [Bool.false_eq_true, if_false] at this
              injection this with e1 e2
              subst e1 e2
              have e3 := hv.out
              subst e3
              exact ⟨rfl, f2, n2, E1.out.k.trans k2⟩
            · simp only [if_true] at D
              go_wp2_with fail
              refine (RD _).mono ?_
              rintro e w1 ⟨rfl, b1⟩
              have E1 := hide ((hkb _).out.below b1)
              have D1 := D w1 E1.out
              clear RD D hth
              go_wp2_with fail
              refine D1.mono ?_
              rintro e w2 ⟨rfl, f2, n2, k2⟩
              have hE2 := hide (E1.out.add hNS (HA.out trivial).1 f2 n2 k2)
              clear D1
              go_wp2_with fail
              go_roundw
              case rel =>
                refine ⟨_, _, _, _, _, _, _, _, _, _, _, _, _, _, _, _, _, _, _, _, _, _, _, _, _, _, _, _, _, _, _, _, _, _, _, _, _, _, _, _, _, ?_, by rw [HTH.out]⟩
                exact ⟨2 + 1, m', by go_num, by omega, hE2, hide (by have := (HA.out trivial).2; have := Y2.out; omega), hide (by have := Y1.out; simpa using this)⟩
              case measure => simp [intOf]
end Go.Proofs.Ytcjahdgppnmdkaa
