/- Package fence: appendPoints, Encode. -/
import Derived.Test.YtnenbbkkhnlgbaaFe6
namespace Go.Proofs.Ytnenbbkkhnlgbaa
open Go.RowKit Go.Great

theorem byte_len (n : Nat) (h : n ≤ 255) : bytesV [u8 (n : Int)] = [Value.int .u8 (n : Int)] := by
  have := u8_back (n : Int)
  unfold bytesV
  simp only [List.map_cons, List.map_nil]
  rw [this, Int.emod_eq_of_lt (by omega) (by omega)]
theorem pts_src {w : World} {base : Nat} {v : Value} {P : List Pt} (h : ∀ W, Below base w W → Pts W v P) : ∃ a cap, v = .slice a P.length cap := by
  obtain ⟨a, cap, e, _⟩ := h w (Below.refl _ _)
  exact ⟨a, cap, e⟩
set_option maxRecDepth 100000 in
set_option maxHeartbeats 4000000 in
theorem appP_any (l : List UInt8) (hl : l.length ≤ 1024) (v : Value) (base : Nat) (P : List Pt) (hP : P.length ≤ 255) (pv : Value) (w : World) (hR : BRow w base v l) (hbase : base ≤ w.heap.size) (hv : ∀ W, Below base w W → Pts W pv P) : Calls Try.prog 58 #[v, pv] w fun e w' => ∃ v', e = .returned v' ∧ BRow w' base v' (l ++ ptsB P) ∧ Below base w w' := by
  obtain ⟨i0, hi, hz0, hz1, hz2⟩ := info_parts info_byte
  obtain ⟨pa, pc, rfl⟩ := pts_src hv
  have HV := hide hv
  have HPB : Hid (ptsB P = u8 (P.length : Int) :: ptB (P.take P.length)) := hide (by rw [List.take_length]; rfl)
  have HTK : Hid (∀ k, k < P.length → P.take (k + 1) = P.take k ++ [P.getD k (0, 0)]) := fun k hk => take_pt hk
  obtain ⟨m, hm⟩ : ∃ m, P.length = m := ⟨_, rfl⟩
  have HM := hide hm
  rw [hm] at hP HPB HTK HV ⊢
  rw [HPB.out]
  have HTL : Hid (∀ k, k ≤ m → (ptB (P.take k)).length = 8 * k) := fun k hk => by rw [ptB_len, List.length_take, hm]; omega
  clear hm hv
  obtain ⟨ao, cap, rfl⟩ := hR.shape
  have HL := hide hl
  have HO : ∀ o, Hid ((w.alloc o).ownsRow base 5 1 (.slice ao l.length cap) l.length (bytesV l)) := fun o => hR.alloc o
  have AN := fun (q : List UInt8) (hq : q.length ≤ 8192) v a b g W h1 h2 h3 => appN_any q hq v base a b g W h1 h2 h3
  generalize hll : l.length = len at *
  have HLL := hide hll
  clear hR hll hl
  go_enter Try.func58, Try.ntmps58
  go_wp2_with (at_builtin; refine wpList_append_own _ rfl (.tmp 7) (.tmp 11) 80 rfl base 5 i0 _ 1 1 Try.underlying80 hi hz0 hz1 hz2 rfl (by decide) _ _ _ rfl (HO _).out ⟨w.heap.size, 0, none⟩ 1 1 [.int .u8 (m : Int)] rfl rfl ?c1 ?c2 ?c3 ?c4 ?c5 ?_)
  case c1 => exact new_cell1 _ _ rfl _ _
  case c2 => intro u hu; simp at hu; subst hu; rfl
  case c3 => have := HL.out; unfold maxLen; omega
  case c4 => have := HL.out; omega
  case c5 => rw [size_alloc]; omega
  intro v' w5 hown5 hgrow5 _
  have HR5 : Hid (BRow w5 base v' (l ++ [u8 (m : Int)])) := by
    show World.ownsRow _ _ _ _ _ _ _
    rw [List.length_append, bytesV_app, byte_len m hP, HLL.out]
    exact hown5
  have HB5 : Hid (Below base w w5) := hide ((((Below.refl _ _).alloc (by omega) _).grown hgrow5 (by rw [size_alloc]; omega) (fun j e => ((HO (.cells #[] 5)).out.lt j e).1)))
  obtain ⟨ao5, cap5, rfl⟩ := HR5.out.shape
  clear hown5 hgrow5 HO hi hz0 hz1 hz2
  generalize (l ++ [u8 (m : Int)]).length = len5 at *
  go_wp2_with fail
  go_loopw [0, 15] (fun v i wx => ∃ k : Nat, k ≤ m ∧ i = .int .i64 k ∧ Hid (BRow wx base v (l ++ (u8 (m : Int) :: ptB (P.take k)))) ∧ Hid (Below base w wx)) (fun _ i _ => m - (intOf i).toNat)
  case atStart => exact ⟨0, Nat.zero_le _, rfl, hide (by simpa [ptB] using HR5.out), HB5⟩
  case round =>
    clear HR5 HB5
    obtain ⟨k, hk, rfl, hR, hB⟩ := hrel
    have hws := hB.out.size
    by_cases hlt : k < m
    · obtain ⟨a', c', e', hcc0⟩ := HV.out wr hB.out
      injection e' with ea em ec
      subst ea ec
      obtain ⟨g, o, rfl, hg, hcc⟩ := hcc0 (by rw [HM.out]; omega)
      obtain ⟨c0, c1⟩ := hcc k (by rw [HM.out]; exact hlt)
      have HS : Hid (l ++ (u8 (m : Int) :: ptB (P.take (k + 1))) = (l ++ (u8 (m : Int) :: ptB (P.take k))) ++ (n4 (P.getD k (0, 0)).1 ++ n4 (P.getD k (0, 0)).2)) := hide (by rw [HTK.out k hlt, ptB_snoc]; simp)
      have HQ : Hid ((l ++ (u8 (m : Int) :: ptB (P.take k))).length ≤ 8192) := hide (by
        rw [List.length_append, List.length_cons, HTL.out k hk, HLL.out]
        have := HL.out
        omega)
      generalize (P.getD k (0, 0)).1 = x at *
      generalize (P.getD k (0, 0)).2 = y at *
      generalize l ++ (u8 (m : Int) :: ptB (P.take k)) = q at *
      obtain ⟨aor, capr, rfl⟩ := hR.out.shape
      have AN2 := AN q HQ.out (.slice aor q.length capr) x y
      generalize hql : q.length = ql at *
      clear em hcc0 hcc HV HTK hql
      go_wp2_with fail
      refine (AN2 _ _ ?r1 ?r2 ?r3).mono ?_
      case r1 => exact (hR.out.alloc _).alloc _
      case r2 => rw [size_alloc, size_alloc]; omega
      case r3 => exact (by have := Blk.new (wr.alloc (.cells #[.int .i64 x, .int .i64 y] 39)) #[.int .i64 x, .int .i64 y] 3; rw [size_alloc] at this; exact this)
      rintro e w6 ⟨v6, rfl, hR6, hB6⟩
      have HR6 : Hid (BRow w6 base v6 (l ++ (u8 (m : Int) :: ptB (P.take (k + 1))))) := hide (by rw [HS.out]; exact hR6)
      have HB6 : Hid (Below base w w6) := hide (((hB.out.alloc (by omega) _).alloc (by rw [size_alloc]; omega) _).trans hB6)
      obtain ⟨ao6, cap6, rfl⟩ := hR6.shape
      generalize (q ++ (n4 x ++ n4 y)).length = l6 at *
      clear hR6 hB6 c0 c1 AN AN2
      go_wp2_with fail
      go_roundw
      case rel => exact ⟨k + 1, by omega, by go_num, HR6, HB6⟩
      case measure => simp [intOf]; omega
    · go_wp2_with fail
      go_ret
      obtain rfl : k = m := by omega
      exact ⟨_, rfl, hR.out, hB.out⟩
set_option maxRecDepth 100000 in
set_option maxHeartbeats 4000000 in
theorem encode_any (P R : List Pt) (fl ce : Int) (p r : Value) (w : World) (hp : Pts w p P) (hr : Pts w r R) (hP : P.length ≤ 4611686018427387904) (hR : R.length ≤ 4611686018427387904) : Calls Try.prog 27 #[fV p fl ce r] w fun e w' => e = .returned (.tuple #[.string (bs (encI P fl ce R)), .int .i64 (chk P fl ce R)]) ∧ Below w.heap.size w w' := by
  have CH := fun W (hb : Below w.heap.size w W) => check_any P R fl ce p r W (hp.below hb) (hr.below hb) hP hR
  have A1 := fun (l : List UInt8) (hl : l.length ≤ 1024) v base W (hs : chk P fl ce R = 0) h1 h2 (h3 : w.heap.size ≤ base) (hb : Below w.heap.size w W) => appP_any l hl v base P (by have := (sim_len (chk_ok hs).1).2.1; omega) p W h1 h2 (fun W' hb' => hp.below (hb.trans (hb'.mono h3)))
  have A3 := fun (l : List UInt8) (hl : l.length ≤ 1024) v base W (hs : chk P fl ce R = 0) h1 h2 (h3 : w.heap.size ≤ base) (hb : Below w.heap.size w W) => appP_any l hl v base R (by have := (chk_ok hs).2.2.2.2.2.1; omega) r W h1 h2 (fun W' hb' => hr.below (hb.trans (hb'.mono h3)))
  have HI : Hid (encI P fl ce R = if chk P fl ce R = 0 then encF P fl ce R else []) := rfl
  have HPL : Hid (chk P fl ce R = 0 → P.length ≤ 64) := fun hs => (sim_len (chk_ok hs).1).2.1
  generalize encI P fl ce R = I at HI ⊢
  obtain ⟨c, hc⟩ : ∃ c, chk P fl ce R = c := ⟨_, rfl⟩
  rw [hc] at CH A1 A3 HI HPL ⊢
  clear hc
  obtain ⟨ap, cp, rfl, hcl⟩ := hp
  obtain ⟨ar, cr, rfl, hcl'⟩ := hr
  obtain ⟨n1, hn1⟩ : ∃ n, P.length = n := ⟨_, rfl⟩
  obtain ⟨n2, hn2⟩ : ∃ n, R.length = n := ⟨_, rfl⟩
  rw [hn1, hn2] at CH ⊢
  rw [hn1] at A1
  rw [hn2] at A3
  have HN1 := hide hn1
  clear hcl hcl' hP hR hn1 hn2
  simp only [fV] at *
  have B0 := Blk.new w (fC (.slice ap n1 cp) fl ce (.slice ar n2 cr)) 24
  obtain ⟨W0, hW0⟩ : ∃ W0, w.alloc (.cells (fC (.slice ap n1 cp) fl ce (.slice ar n2 cr)) 24) = W0 := ⟨_, rfl⟩
  have hB0 : Below w.heap.size w W0 := hW0 ▸ below_alloc _ _
  have hz : W0.heap.size = w.heap.size + 1 := by rw [← hW0, size_alloc]
  rw [hW0] at B0
  unfold fC at hW0 B0
  have j0 := B0.cell 0 rfl
  have j1 := B0.cell 1 rfl
  have j2 := B0.cell 2 rfl
  have j3 := B0.cell 3 rfl
  go_enter Try.func27, Try.ntmps27
  go_wp2_with fail
  try rw [hW0]
  clear hW0 j0 j1 j2 j3
  refine (CH W0 hB0).mono ?_
  rintro e w1 ⟨rfl, hb1⟩
  replace B0 := B0.after hb1
  replace hB0 := below_next hB0 (Nat.le_refl _) hb1
  have hz1 := hb1.size
  clear hb1 CH
  by_cases hs : c = 0
  · subst hs
    have j0 := B0.cell 0 rfl
    have HI2 : Hid (I = encF P fl ce R) := hide (by rw [HI.out, if_pos (by trivial)])
    have hp64 := HPL.out (by trivial)
    clear HI HPL
    go_wp2_with fail
    refine (A1 [] (by simp) _ w1.heap.size w1 (by trivial) (BRow.nil _ _) (Nat.le_refl _) (by omega) hB0).mono ?_
    rintro e w2 ⟨v2, rfl, hR2, hb2⟩
    rw [List.nil_append] at hR2
    replace B0 := B0.after hb2
    have hz2 := hb2.size
    obtain ⟨a2, c2, rfl⟩ := hR2.shape
    have HR2 := hide hR2
    have HB2 := hide hb2
    clear A1 hR2 j0 hb2
    have hlp : (ptsB P).length ≤ 513 := by rw [ptsB_len]; omega
    have HLP := hide (ptsB_len P)
    have HLP2 := hide hlp
    generalize hlq : (ptsB P).length = lq at *
    have HLQ := hide hlq
    have j1 := B0.cell 1 rfl
    have j2 := B0.cell 2 rfl
    clear hlp hlq
    go_wp2_with fail
    refine (appN_any (ptsB P) (by rw [HLQ.out]; have := HLP2.out; omega) _ w1.heap.size fl ce _ _ ?r1 ?r2 ?r3).mono ?_
    case r1 => exact HR2.out.alloc _
    case r2 => rw [size_alloc]; omega
    case r3 => exact Blk.new _ _ _
    rintro e w3 ⟨v3, rfl, hR3, hb3⟩
    have hb3' : Below w1.heap.size w1 w3 := (HB2.out.alloc hz2 _).trans hb3
    replace B0 := (B0.alloc (.cells #[.int .i64 fl, .int .i64 ce] 3)).below hb3 (by omega)
    obtain ⟨a3, c3, rfl⟩ := hR3.shape
    have HR3 := hide hR3
    have HB3 := hide hb3'
    have hz3 := hb3'.size
    have HL3 : Hid ((ptsB P ++ (n4 fl ++ n4 ce)).length ≤ 1024) := hide (by rw [List.length_append, List.length_append, n4_len, n4_len, HLQ.out]; have := HLP2.out; omega)
    clear hR3 hb3 hb3' HR2 HB2 j1 j2
    have j3 := B0.cell 3 rfl
    generalize hlr : (ptsB P ++ (n4 fl ++ n4 ce)).length = lr at *
    have HLR := hide hlr
    clear hlr
    go_wp2_with fail
    refine (A3 (ptsB P ++ (n4 fl ++ n4 ce)) (by rw [HLR.out]; exact HL3.out) _ w1.heap.size w3 (by trivial) HR3.out hz3 (by omega) (below_next hB0 (Nat.le_refl _) HB3.out)).mono ?_
    rintro e w4 ⟨v4, rfl, hR4, hb4⟩
    have hT := hR4.text
    have HB4 := hide (HB3.out.trans hb4)
    have HI3 : Hid (I = ptsB P ++ (n4 fl ++ n4 ce) ++ ptsB R) := hide HI2.out
    obtain ⟨a4, c4, rfl⟩ := hR4.shape
    generalize ptsB P ++ (n4 fl ++ n4 ce) ++ ptsB R = T at *
    generalize T.length = lt at *
    clear hR4 hb4 A3 HR3 j3 HI2
    go_wp2_with fail
    go_ret2
    exact ⟨by rw [HI3.out]; rfl, below_next hB0 (Nat.le_refl _) HB4.out⟩
  · have HI2 : Hid (I = []) := hide (by rw [HI.out, if_neg hs])
    clear HI A1 A3 HPL
    go_wp2_with fail
    all_goals go_ret2
    all_goals exact ⟨by rw [HI2.out]; rfl, hB0⟩
end Go.Proofs.Ytnenbbkkhnlgbaa
