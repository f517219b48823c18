/- SenseBack. -/
import Derived.Test.YtmlcknaahpfhbaaSeO
import Derived.Test.YtmlcknaahpfhbaaOpL
namespace Go.Proofs.Ytmlcknaahpfhbaa
open Go.RowKit Go.Great

def qt (l : List UInt8) : List UInt8 := l.filter (fun b => b != 165)
theorem qt_not (l : List UInt8) : ∀ b ∈ qt l, b ≠ 165 := fun b hb => by
  have := (List.mem_filter.1 hb).2
  simpa using this
theorem qt_len (l : List UInt8) : (qt l).length ≤ l.length := List.length_filter_le _ _
theorem qt_take (l : List UInt8) (k : Nat) (h : k < l.length) : qt (l.take (k + 1)) = qt (l.take k) ++ (if l.getD k 0 = 165 then [] else [l.getD k 0]) := by
  rw [List.take_add_one, List.getElem?_eq_getElem h]
  unfold qt
  rw [List.filter_append]
  have e : l.getD k 0 = l[k] := by rw [List.getD, List.getElem?_eq_getElem h]; rfl
  rw [e]
  show _ ++ [l[k]].filter _ = _
  rw [List.filter_cons, List.filter_nil]
  by_cases hh : l[k] = 165
  · rw [if_neg (by simpa using hh), if_pos hh]
  · rw [if_pos (by simpa using hh), if_neg hh]
set_option maxRecDepth 100000 in
set_option maxHeartbeats 2000000 in
theorem quiet_any (d : ByteArray) (hd : d.size ≤ 140737488351232) (w : World) : Calls Try.prog 18 #[.string d] w fun e w' => e = .returned (.string (bs (qt d.data.toList))) ∧ Below w.heap.size w w' := by
  obtain ⟨i0, hi, hz0, hz1, hz2⟩ := info_parts info_byte
  obtain ⟨l, HDL⟩ : ∃ l, Hid (bs l = d) := ⟨_, hide (bs_of d)⟩
  rw [show d.data.toList = l by rw [← HDL.out, bs_list]]
  have HQT := hide (qt_take l)
  have HGA : Hid (∀ k, k < l.length → ∃ h : k < d.size, d[k] = l.getD k 0) := hide (by
    rw [← HDL.out]
    exact fun k hk => ⟨by rw [bs_size]; exact hk, by rw [← getD_at (bs l) k (by rw [bs_size]; exact hk), bs_list]⟩)
  have HSZ : Hid (d.size = l.length) := hide (by rw [← HDL.out]; exact bs_size l)
  have HTK : Hid (qt (l.take l.length) = qt l) := hide (by rw [List.take_length])
  have hl : l.length ≤ 140737488351232 := by have := HSZ.out; omega
  have HLN : Hid (∀ k, (qt (l.take k)).length ≤ k) := hide (fun k => Nat.le_trans (qt_len _) (by rw [List.length_take]; omega))
  obtain ⟨t, HTX⟩ : ∃ t, Hid (bs (qt l) = t) := ⟨_, rfl⟩
  rw [HTX.out]
  go_enter Try.func18, Try.ntmps18
  go_wp2_with fail
  go_loopw [3, 4] (fun v i wx => ∃ k : Nat, k ≤ l.length ∧ i = .int .i64 k ∧ BRow wx w.heap.size v (qt (l.take k)) ∧ Below w.heap.size w wx) (fun _ i _ => l.length - (intOf i).toNat)
  case atStart => exact ⟨0, Nat.zero_le _, rfl, BRow.nil _ _, Below.refl _ _⟩
  case round =>
    obtain ⟨k, hk, rfl, hR, hB⟩ := hrel
    have HB := hide hB
    by_cases hlt : k < l.length
    · obtain ⟨hkb, he⟩ := HGA.out k hlt
      have HN := hide (HQT.out k hlt)
      have hlt2 : (k : Int) < (d.size : Int) := by rw [HSZ.out]; omega
      have HE := hide he
      clear he
      by_cases hb : l.getD k 0 = 165
      · have hx : ((d[k].toNat : Int) != 165) = false := by rw [HE.out, hb]; rfl
        have HN2 : Hid (qt (l.take (k + 1)) = qt (l.take k)) := hide (by rw [HN.out, if_pos hb, List.append_nil])
        have HR := hide hR
        clear hb HN hR hB hi hz0 hz1 hz2
        go_wp2_with fail
        go_roundw
        case rel => exact ⟨k + 1, by omega, by go_num, by rw [HN2.out]; exact HR.out, HB.out⟩
        case measure => simp [intOf]; omega
      · have hx : ((d[k].toNat : Int) != 165) = true := by
          rw [HE.out, bne_iff_ne]
          intro e
          apply hb
          apply UInt8.toNat_inj.1
          show _ = 165
          exact Int.ofNat.inj e
        have HL := hide (HLN.out k)
        have HN2 : Hid (qt (l.take (k + 1)) = qt (l.take k) ++ [d[k]]) := hide (by rw [HN.out, if_neg hb, HE.out])
        generalize qt (l.take k) = m at *
        have HO : ∀ o, Hid ((wr.alloc o).ownsRow w.heap.size 5 1 u3 m.length (bytesV m)) := fun o => hR.alloc o
        have hws := hB.size
        clear hb HN hR hB
        go_wp2_with (at_builtin; refine wpList_append_own _ rfl (.tmp 15) (.tmp 19) 40 rfl w.heap.size 5 i0 _ 1 1 Try.underlying40 hi hz0 hz1 hz2 rfl (by decide) _ _ _ rfl (HO _).out ⟨wr.heap.size, 0, none⟩ 1 1 [.int .u8 (d[k].toNat : Int)] rfl rfl ?c1 ?c2 ?c3 ?c4 ?c5 ?_)
        case c1 => exact new_cell1 _ _ rfl _ _
        case c2 => intro u hu; simp at hu; subst hu; rfl
        case c3 => have := HL.out; unfold maxLen; omega
        case c4 => have := HL.out; omega
        case c5 => rw [size_alloc]; omega
        intro v' w5 hown5 hgrow5 _
        have HR5 : Hid (BRow w5 w.heap.size v' (qt (l.take (k + 1)))) := by
          show World.ownsRow _ _ _ _ _ _ _
          rw [HN2.out, List.length_append, bytesV_app]; exact hown5
        have HB5 : Hid (Below w.heap.size w w5) := ((HB.out.alloc hws _).grown hgrow5 (by rw [size_alloc]; omega) (fun j e => ((HO (.cells #[] 5)).out.lt j e).1))
        clear hown5 hgrow5 HO hi hz0 hz1 hz2
        go_wp2_with fail
        go_roundw
        case rel => exact ⟨k + 1, by omega, by go_num, HR5.out, HB5.out⟩
        case measure => simp [intOf]; omega
    · have e : k = l.length := by omega
      have hlt2 : ¬ (k : Int) < (d.size : Int) := by rw [HSZ.out]; omega
      have htx := hR.text
      rw [e, HTK.out, HTX.out] at htx
      clear hi hz0 hz1 hz2 hR hB e
      go_wp2_with fail
      go_ret
      exact ⟨rfl, HB.out⟩
/-- bytes that were passed, whatever stands behind them: this was read last, and nothing was bad -/
def Pass (s : Nat) (A : List UInt8) (r : List Int) : Prop := (∀ rest, reS s (A ++ rest) ⟨[], false, 0⟩ = reS s rest ⟨r, decide (0 < r.length), 0⟩) ∧ ((wsS s).length = 0 → r = [])
theorem Pass.quiet (s : Nat) (q : List UInt8) (h : ∀ b ∈ q, b ≠ 165) : Pass s q [] := ⟨fun rest => reS_quiet s q rest _ h, fun _ => rfl⟩
theorem Pass.more {s : Nat} {A : List UInt8} {r : List Int} (h : Pass s A r) (ns : List Int) (q : List UInt8) (hq : ∀ b ∈ q, b ≠ 165) (he : wrE s ns = 0) : Pass s (A ++ wrB s ns ++ q) ns := by
  rcases wrE_cases s ns with ⟨h1, _⟩ | ⟨_, h2, h3, h4, _⟩
  · exact absurd he h1
  · refine ⟨fun rest => ?_, fun h0 => absurd h0 h2⟩
    rw [List.append_assoc, List.append_assoc, h.1, h3, reS_written s ns _ _ he, reS_quiet s q rest _ hq]
    have : decide (0 < ns.length) = true := decide_eq_true (by omega)
    rw [this]
theorem Pass.read {s : Nat} {A : List UInt8} {r : List Int} (h : Pass s A r) : rdR s A = ⟨r, decide (0 < r.length), 0⟩ := by
  unfold rdR
  by_cases h0 : (wsS s).length = 0
  · rw [if_pos h0, h.2 h0]; rfl
  · rw [if_neg h0]
    have := h.1 []
    rwa [List.append_nil, reS_nil] at this
theorem wrB_len (s : Nat) (ns : List Int) : (wrB s ns).length ≤ 20 := by
  rcases wrE_cases s ns with ⟨_, h⟩ | ⟨_, _, h, _⟩
  · rw [h]; exact Nat.zero_le _
  · rw [h, frS_len, payK_len]; have := toS_le s; unfold toS at this; omega
set_option maxRecDepth 100000 in
set_option maxHeartbeats 4000000 in
theorem SenseBack_walk (s0 : Int) (v : Value) (d : ByteArray) (w : World) (hws : (Lit.int .u8 s0).wf = true) (hi : ∃ L, LstsIn w v L) (hd : d.size ≤ 140737488351232) : Calls Try.prog 5 #[.int .u8 s0, v, .string d] w fun e w' => e = .returned (.bool true) ∧ Below w.heap.size w w' := by
  obtain ⟨c, rfl⟩ := wf_u8 hws
  have hs := c.toNat_lt
  generalize c.toNat = s at *
  clear hws c
  obtain ⟨L, hL24, av, cv, rfl, hcl⟩ := hi
  have QT := quiet_any d hd w
  have HQN := hide (qt_not d.data.toList)
  have hql : (qt d.data.toList).length ≤ 140737488351232 := Nat.le_trans (qt_len _) (by rw [list_size]; exact hd)
  generalize qt d.data.toList = q at *
  have HCL := hide hcl
  have AW := fun W => awakeS_any W
  have hqs : (bs q).size ≤ 140737488351232 := by rw [bs_size]; exact hql
  obtain ⟨Q, HQ⟩ : ∃ Q, Hid (bs q = Q) := ⟨_, rfl⟩
  rw [HQ.out] at QT hqs
  obtain ⟨n, hn⟩ : ∃ n, L.length = n := ⟨_, rfl⟩
  have HNL := hide hn
  rw [hn] at hL24 ⊢
  clear hcl hn
  go_enter Try.func5, Try.ntmps5
  go_wp2_with fail
  refine QT.mono ?_
  rintro e w1 ⟨rfl, hb1⟩
  have HB1 := hide hb1
  clear hb1 QT
  go_wp2_with fail
  go_loopw [8, 9, 10] (fun al la i wx => ∃ (k : Nat) (A : List UInt8) (r : List Int) (a : Option Addr) (c : Nat), k ≤ n ∧ i = .int .i64 k ∧ (∃ tx, al = .string tx ∧ Hid (tx = bs A)) ∧ (∃ rl, la = .slice a rl c ∧ Hid (rl = r.length) ∧ rl ≤ 4611686018427387904) ∧ Hid (Ints wx (.slice a r.length c) r) ∧ Hid (Pass s A r) ∧ Hid (Below w1.heap.size w1 wx) ∧ A.length ≤ 140737488500000) (fun _ _ i _ => n - (intOf i).toNat)
  case atStart => exact ⟨0, q, [], none, 0, Nat.zero_le _, rfl, ⟨_, rfl, hide HQ.out.symm⟩, ⟨_, rfl, hide rfl, by simp⟩, hide (Ints.nil _), hide (Pass.quiet s q HQN.out), hide (Below.refl _ _), by omega⟩
  case round =>
    obtain ⟨k, A, r, a, c, hk, rfl, ⟨tx, rfl, HTX⟩, ⟨rl, rfl, HRL, hrl⟩, HIr, HPa, HBX, hAl⟩ := hrel
    have htx : tx.size = A.length := by rw [HTX.out, bs_size]
    have HHT := hide htx
    by_cases hgo : k < n ∧ A.length < 65536
    · obtain ⟨hlt, hal⟩ := hgo
      have hd1 : decide ((tx.size : Int) < 65536) = true := by rw [decide_eq_true_eq, htx]; omega
      have htz : (tx.size : Int) ≤ 65536 := by omega
      obtain ⟨g, o, rfl, hg, hcc⟩ := HCL.out (by rw [HNL.out]; omega)
      obtain ⟨u, hu, hIu⟩ := hcc k (by rw [HNL.out]; exact hlt)
      have hb0 : Below w.heap.size w wr := below_next HB1.out (Nat.le_refl _) HBX.out
      have d0 := (hb0.cell (p := ⟨g, o + k, none⟩) hg).trans hu
      obtain ⟨hI, hnil, hlen⟩ := hIu
      have hI' := hI.below hb0
      have LN := lentI_any (L.getD k []) u wr hI' hnil hlen
      have LW := fun w1 g hR => lent_write s hs (L.getD k []) wr w1 g hR (by omega)
      have HMO := hide (fun he => HPa.out.more (L.getD k []) q HQN.out he)
      have hwl := wrB_len s (L.getD k [])
      have HIu := hide hI'
      obtain ⟨ua, uc, hue, _⟩ := hI
      subst hue
      generalize L.getD k [] = ns at *
      generalize wrE s ns = E at *
      have HWB : Hid (bs (A ++ wrB s ns ++ q) = tx ++ bs (wrB s ns) ++ Q) := hide (by rw [HTX.out, ← HQ.out, bs_app, bs_app])
      have hwz : (bs (wrB s ns)).size ≤ 20 := by rw [bs_size]; exact hwl
      have HWL : Hid ((A ++ wrB s ns ++ q).length ≤ 140737488500000) := hide (by rw [List.length_append, List.length_append]; omega)
      generalize A ++ wrB s ns ++ q = A2 at *
      generalize bs (wrB s ns) = B at *
      clear hcc hu htx hnil hwl
      go_wp2_with fail
      refine LN.mono ?_
      rintro e w2 ⟨rfl, hR2, hb2⟩
      have HB2 := hide hb2
      have LWW := LW _ _ hR2
      generalize hnn : ns.length = nl at *
      have HNN := hide hnn
      clear hb2 LN LW hR2 hnn
      go_wp2_with fail
      refine LWW.mono ?_
      rintro e w3 ⟨rfl, hb3⟩
      have HB3 := hide (below_next HB2.out (Nat.le_refl _) hb3)
      have d3 := (HB3.out.cell (p := ⟨g, o + k, none⟩) (by show g < wr.heap.size; have := hb0.size; omega)).trans d0
      clear hb3 LWW HB2 d0
      by_cases hE : E = 0
      · have hEb : (E == 0) = true := by simp [hE]
        have HPN := hide (HMO.out hE)
        clear HMO hE
        go_wp2_with fail
        go_roundw
        case rel => exact ⟨k + 1, A2, ns, ua, uc, by omega, by go_num, ⟨_, rfl, hide HWB.out.symm⟩, ⟨_, rfl, hide HNN.out.symm, by have := hlen; omega⟩, hide (by rw [HNN.out]; exact HIu.out.below HB3.out), HPN, hide (below_next HBX.out (Nat.le_refl _) HB3.out), HWL.out⟩
        case measure => simp [intOf]; omega
      · have hEb : (E == 0) = false := by simp [hE]
        clear HMO hE d3
        go_wp2_with fail
        go_roundw
        case rel => exact ⟨k + 1, A, r, a, c, by omega, by go_num, ⟨_, rfl, HTX⟩, ⟨_, rfl, HRL, hrl⟩, hide (HIr.out.below HB3.out), HPa, hide (below_next HBX.out (Nat.le_refl _) HB3.out), by omega⟩
        case measure => simp [intOf]; omega
    · have RD := fun W => read_any s hs A (by omega) W
      rw [← HTX.out, HPa.out.read] at RD
      have SI := fun W v u hv hu => sameInts_true r v u W hv hu (by rw [← HRL.out]; exact hrl)
      have HDC : Hid (decide (0 < r.length) = decide (0 < rl)) := hide (by rw [HRL.out])
      rw [HDC.out] at RD
      have hd2 : decide ((0 : Int) < (rl : Int)) = decide (0 < rl) := by rcases Nat.eq_zero_or_pos rl with h | h <;> simp [h]
      have hcs : (¬ k < n) ∨ (k < n ∧ decide ((tx.size : Int) < 65536) = false) := by
        by_cases h1 : k < n
        · right; refine ⟨h1, ?_⟩; rw [decide_eq_false_iff_not, htx]; omega
        · left; exact h1
      have hdB : (decide (0 < rl) == decide (0 < rl)) = true := by simp
      clear htx hgo
      rcases hcs with h1 | ⟨h1, h2⟩
      · go_wp2_with fail
        refine (RD _).mono ?_
        rintro e w4 ⟨v4, rfl, hr4, hb4⟩
        have HB4 := hide hb4
        have HI4 := hide hr4.ints
        obtain ⟨va, vc, hve⟩ := IRow.shape hr4
        subst hve
        clear hb4 hr4 RD
        rw [← HRL.out]
        go_wp2_with fail
        refine (AW _).mono ?_
        rintro e w5 ⟨rfl, hb5⟩
        have HB5 := hide (below_next HB4.out (Nat.le_refl _) hb5)
        have HI5 := hide (HI4.out.below hb5)
        have HI6 := hide (HIr.out.below HB5.out)
        rw [← HRL.out] at HI5 HI6
        clear hb5 AW HB4 HI4
        go_wp2_with fail
        refine (SI _ _ _ HI5.out HI6.out).mono ?_
        rintro e w6 ⟨rfl, n6, hw6⟩
        have HB6 : Hid (Below w.heap.size w w6) := hide (by rw [hw6]; exact below_drewN (below_next (below_next HB1.out (Nat.le_refl _) HBX.out) (Nat.le_refl _) HB5.out) n6)
        clear hw6 SI
        go_wp2_with fail
        go_ret
        exact ⟨rfl, HB6.out⟩
      · go_wp2_with fail
        refine (RD _).mono ?_
        rintro e w4 ⟨v4, rfl, hr4, hb4⟩
        have HB4 := hide hb4
        have HI4 := hide hr4.ints
        obtain ⟨va, vc, hve⟩ := IRow.shape hr4
        subst hve
        clear hb4 hr4 RD
        rw [← HRL.out]
        go_wp2_with fail
        refine (AW _).mono ?_
        rintro e w5 ⟨rfl, hb5⟩
        have HB5 := hide (below_next HB4.out (Nat.le_refl _) hb5)
        have HI5 := hide (HI4.out.below hb5)
        have HI6 := hide (HIr.out.below HB5.out)
        rw [← HRL.out] at HI5 HI6
        clear hb5 AW HB4 HI4
        go_wp2_with fail
        refine (SI _ _ _ HI5.out HI6.out).mono ?_
        rintro e w6 ⟨rfl, n6, hw6⟩
        have HB6 : Hid (Below w.heap.size w w6) := hide (by rw [hw6]; exact below_drewN (below_next (below_next HB1.out (Nat.le_refl _) HBX.out) (Nat.le_refl _) HB5.out) n6)
        clear hw6 SI
        go_wp2_with fail
        go_ret
        exact ⟨rfl, HB6.out⟩
end Go.Proofs.Ytmlcknaahpfhbaa
