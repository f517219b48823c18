/- FrameFeeds. -/
import Derived.Test.YtijdobhdjmmgmaaFrRd
import Derived.Test.YtijdobhdjmmgmaaFrF0
namespace Go.Proofs.Ytijdobhdjmmgmaa
open Go.RowKit Go.Great

/-- all bytes of the pieces -/
def allL (ss : List ByteArray) : List UInt8 := ss.flatMap fun s => s.data.toList
theorem allL_snoc (ss : List ByteArray) (s : ByteArray) : allL (ss ++ [s]) = allL ss ++ s.data.toList := by simp [allL]
/-- behind so many pieces -/
def FeedsRel (w w1 : World) (A : List UInt8) (va given : Value) (wx : World) : Prop :=
  BRow wx w1.heap.size va A ∧ given = .int .i64 ((rd A).1.length : Int) ∧ Rdr wx w.heap.size (bs (rd A).2.2) (min ((rd A).2.1 : Int) 65535) ∧ Below w.heap.size w wx ∧ A.length ≤ 1114112
set_option maxHeartbeats 4000000 in
set_option maxRecDepth 100000 in
theorem feeds_walk (ss : List ByteArray) (v0 : Value) (w : World) (hss : StrsIn w v0 ss) : Calls Try.prog 4 #[v0] w fun e w' => e = .returned (.bool true) ∧ Below w.heap.size w w' := by
  obtain ⟨hmx, hsm, a0, cap0, rfl, hcl⟩ := hss
  obtain ⟨i0, hi, hz0, hz1, hz2⟩ := info_parts info_frame
  obtain ⟨j0, gi, gz0, gz1, gz2⟩ := info_parts info_byte
  have HCL := hide hcl
  have HSM := hide hsm
  have hmy : (ss.length : Int) ≤ 9223372036854775807 := by unfold maxLen at hmx; omega
  clear hcl hsm hmx
  go_enter Try.func4, Try.ntmps4
  go_wp2_with fail
  refine (new_any _).mono ?_
  rintro e w1 ⟨rfl, hw1⟩
  have HR1 : Hid (Rdr w1 w.heap.size (bs []) 0) := by show Rdr _ _ _ _; rw [hw1]; exact heap_alloc_new _ _
  have HB1 : Hid (Below w.heap.size w w1) := by show Below _ _ _; rw [hw1]; exact below_alloc _ _
  have HRB : Hid (w.heap.size < w1.heap.size) := HR1.out.lt
  clear hw1
  go_wp2_with fail
  go_loopw [4, 5, 6] (fun va given i wx => ∃ k : Nat, k ≤ ss.length ∧ i = .int .i64 k ∧ FeedsRel w w1 (allL (ss.take k)) va given wx ∧ w1.heap.size ≤ wx.heap.size) (fun _ _ i _ => ss.length - (intOf i).toNat)
  case atStart => exact ⟨0, Nat.zero_le _, rfl, ⟨BRow.nil _ _, rfl, HR1.out, HB1.out, by simp [allL]⟩, Nat.le_refl _⟩
  case round =>
    obtain ⟨k, hk, rfl, ⟨hBR, rfl, hR, hB, hAl⟩, hws⟩ := hrel
    obtain ⟨ab, cb, rfl⟩ := hBR.shape
    have HB := hide hB
    have HBR := hide hBR
    have HR := hide hR
    have HAL := hide hAl
    have HWS := hide hws
    by_cases hlt : k < ss.length ∧ (allL (ss.take k)).length < 65536
    · obtain ⟨hlt, hl16⟩ := hlt
      obtain ⟨g, o, rfl, hgl, hcell⟩ := HCL.out (by omega)
      have c0 := hcell k hlt
      have hsz := HSM.out ss[k] (List.getElem_mem hlt)
      have hsn : allL (ss.take (k + 1)) = allL (ss.take k) ++ ss[k].data.toList := by
        rw [List.take_succ_eq_append_getElem hlt, allL_snoc]
      generalize ss[k] = s at c0 hsz hsn
      have d0 := (hB.cell (p := ⟨g, o + k, none⟩) hgl).trans c0
      have HSN := hide hsn
      generalize allL (ss.take k) = A at HBR HR HAL HSN hl16
      have HMO := hide (rd_more A s.data.toList)
      have hrh := rd_held A
      have hfc := rd_count ((rd A).2.2 ++ s.data.toList)
      rw [List.length_append, list_size] at hfc
      have hac := rd_count (A ++ s.data.toList)
      rw [List.length_append, list_size] at hac
      have hfd := feed_any wr w.heap.size (bs (rd A).2.2) s (min ((rd A).2.1 : Int) 65535) HR.out (by omega) (by omega) (by rw [bs_size]; omega) (by rw [bs_list]; omega)
      rw [bs_list] at hfd
      have hrd := fun wx => read_any (bs (A ++ s.data.toList)) (by rw [bs_size, List.length_append, list_size]; omega) wx
      simp only [bs_list] at hrd
      generalize hra : rd A = ra at hfd HMO hrh hfc
      generalize hrq : rd (ra.2.2 ++ s.data.toList) = rq at hfd HMO hfc
      generalize hrs : rd (A ++ s.data.toList) = rs at hrd HMO hac
      have HX := hide (And.intro hra hrs)
      have HFC := hide hfc
      have HAC := hide hac
      have HSZ := hide hsz
      have HL16 := hide hl16
      have hq16 : (A.length : Int) < 65536 := by omega
      have HC0 := hide c0
      clear hra hrq hrs hBR hR hB hAl hws hsn hcell HCL hfc hac hsz hl16 c0 HR1 HB1 hrh HSM
      go_wp2_with fail
      refine hfd.mono ?_
      rintro e w4 ⟨v1, rfl, hO4, hR4, hK4⟩
      obtain ⟨a1, c1, rfl⟩ := own_shape hO4
      have HB4 : Hid (Below w.heap.size w w4) := hK4.toBelow HB.out HB.out.size (Nat.le_refl _)
      have HBR4 : Hid (BRow w4 w1.heap.size (.slice ab A.length cb) A) := World.ownsRow.kept HBR.out hK4 (.inr fun e => by have h1 := (World.ownsRow.lt HBR.out _ e).1; have h2 := HRB.out; omega)
      have HO4 := hide hO4
      have HR4 := hide hR4
      have HW4 : Hid (wr.heap.size ≤ w4.heap.size) := hK4.size
      have d4 := (HB4.out.cell (p := ⟨g, o + k, none⟩) hgl).trans HC0.out
      clear hO4 hR4 hK4 hfd d0 hq16
      go_wp2_with (at_builtin; refine Lib.wpList_append_own_string _ rfl (.tmp 33) (.tmp 37) 32 9 rfl w1.heap.size 5 j0 Try.underlying32 Try.underlying9 gi gz0 gz1 gz2 _ _ _ rfl HBR4.out s rfl ?p1 ?p2 ?p3 ?_)
      case p1 => have h1 := HL16.out; have h2 := HSZ.out; unfold maxLen; omega
      case p2 => have h1 := HL16.out; have h2 := HSZ.out; omega
      case p3 => have h1 := HW4.out; have h2 := HWS.out; omega
      intro v5 w5 hown5 hgrow5 _
      have HBR5 : Hid (BRow w5 w1.heap.size v5 (A ++ s.data.toList)) := by
        show World.ownsRow _ _ _ _ _ _ _
        rw [bytesV_str] at hown5
        rw [List.length_append, list_size, bytesV_app]; exact hown5
      have HO5 := hide (pair_b HBR4.out HO4.out hgrow5)
      have HR5 := hide (HR4.out.grown hgrow5 (fun e => by have h1 := (World.ownsRow.lt HBR4.out _ e).1; have h2 := HRB.out; omega))
      have HB5 : Hid (Below w.heap.size w w5) := HB4.out.grown hgrow5 HB4.out.size (fun j e => by have h1 := (World.ownsRow.lt HBR4.out _ e).1; have h2 := HRB.out; omega)
      have HW5 : Hid (wr.heap.size ≤ w5.heap.size) := Nat.le_trans HW4.out hgrow5.size
      have htx := HBR5.out.text
      clear hown5 hgrow5 HB4 HBR4 HO4 HR4 d4 HW4 gi gz0 gz1 gz2
      go_wp2_with fail
      refine (hrd _).mono ?_
      rintro e w6 ⟨v2, rfl, hO6, hB6⟩
      have hr1 : rs.1 = ra.1 ++ rq.1 := by rw [HMO.out]
      have hr2 : rs.2.1 = ra.2.1 + rq.2.1 := by rw [HMO.out]
      have hr3 : rs.2.2 = rq.2.2 := by rw [HMO.out]
      have hO6' : w6.ownsRow w5.heap.size 23 3 v2 (ra.1 ++ rq.1).length (cellsF (ra.1 ++ rq.1)) := by rw [← hr1]; exact hO6
      obtain ⟨a2, c2, hv2⟩ := own_shape hO6
      obtain ⟨u, hu1, hu2⟩ := tail_run ra.1 rq.1 hO6'
      have HO16 := hide (own_below HO5.out hB6)
      have hS := same_true w6 _ u rq.1 (frs_own HO16.out) (hu2 w6 hO6') (by have h1 := HAC.out; have h2 := HSZ.out; have h3 := HL16.out; rw [hr1] at h1; simp at h1; omega)
      have HBR6 := hide (HBR5.out.below hB6)
      have HR6 : Hid (Rdr w6 w.heap.size (bs rq.2.2) (min (rs.2.1 : Int) 65535)) := by
        show Rdr _ _ _ _
        have := HR5.out.below hB6
        rw [show min (min (ra.2.1 : Int) 65535 + (rq.2.1 : Int)) 65535 = min (rs.2.1 : Int) 65535 by rw [hr2]; omega] at this
        exact this
      have HB6 := hide (below_next HB5.out (Nat.le_refl _) hB6)
      have HW6 : Hid (wr.heap.size ≤ w6.heap.size) := Nat.le_trans HW5.out hB6.size
      have hge : (ra.1.length : Int) ≤ (rs.1.length : Int) := by rw [hr1]; simp; omega
      have hzz : ((bs rq.2.2).size : Int) = (rs.2.2.length : Int) := by rw [hr3, bs_size]
      have HNQ : Hid (rq.1.length ≤ 2097152) := by
        show _ ≤ _
        have h1 := HAC.out; have h2 := HSZ.out; have h3 := HL16.out; rw [hr1] at h1; simp at h1; omega
      have HR3 := hide (And.intro hr1 hr3)
      subst hv2
      clear hO6 hO6' hB6 hr1 hr2 hr3 hu2 hrd htx HO5 HR5 HB5 HBR5 HW5
      generalize hrl : rs.1.length = rl at hge hu1
      have HRL := hide hrl
      have hdf1 : decide ((rl : Int) < (ra.1.length : Int)) = false := by simp only [decide_eq_false_iff_not]; omega
      have hdf2 : decide (rl < ra.1.length) = false := by simp only [decide_eq_false_iff_not]; omega
      clear hrl hge
      go_wp2_with fail
      refine hS.mono ?_
      rintro e w7 ⟨rfl, q, hw7⟩
      have hb7 : Below w6.heap.size w6 w7 := by rw [hw7]; exact below_drewN (Below.refl _ _) q
      have hR7 := HR6.out.below hb7
      have HR7 := hide hR7
      have HO7 := hide (own_below HO16.out hb7)
      have HBR7 := hide (HBR6.out.below hb7)
      have HB7 := hide (below_next HB6.out (Nat.le_refl _) hb7)
      have HW7 : Hid (wr.heap.size ≤ w7.heap.size) := Nat.le_trans HW6.out hb7.size
      clear hb7 hw7 hS HR6 HO16 HBR6 HB6 HW6 hu1
      go_wp2_with fail
      refine (bad_any _ _ _ _ hR7).mono ?_
      rintro e w8 ⟨rfl, hw8⟩
      obtain rfl : w7 = w8 := hw8.symm
      go_wp2_with fail
      refine (held_any _ _ _ _ hR7).mono ?_
      rintro e w8 ⟨rfl, hw8⟩
      obtain rfl : w7 = w8 := hw8.symm
      clear hR7
      go_wp2_with fail
      have HWB : Hid (w1.heap.size ≤ wr.heap.size) := HWS.out
      clear HB HBR HR HWS HFC HMO hzz HAC HAL
      generalize wr.heap.size = B1 at HO7 HW7 HWB
      obtain ⟨xs0, HO70⟩ : ∃ xs0, Hid (w7.ownsRow B1 23 3 (.slice a1 rq.1.length c1) rq.1.length xs0) := ⟨_, HO7.out⟩
      clear HO7
      generalize rq.1.length = n at HO70 HNQ ⊢
      have hni : (n : Int) ≤ 2097152 := by have := HNQ.out; omega
      go_loopw [11] (fun i wx => ∃ (j : Nat) (xs : List Value), j ≤ n ∧ i = .int .i64 j ∧ wx.ownsRow B1 23 3 (.slice a1 n c1) n xs ∧ w7.grownBy wx (Value.slice a1 n c1).ownBlock) (fun i _ => n - (intOf i).toNat)
      case atStart => exact ⟨0, xs0, Nat.zero_le _, rfl, HO70.out, World.grownBy.refl _ _⟩
      case round =>
        obtain ⟨j, xs, hj, rfl, hO, hG⟩ := hrel
        by_cases hlt2 : j < n
        · obtain ⟨g1, cap1, hv, hg1, hgs1, hcl1, hfz1⟩ := own_row hO (by omega)
          injection hv with hv1 _ hv3
          subst hv1 hv3
          have hxl : xs.length = n * 3 := hO.1
          have x0 : wr.cell? ⟨g1, j * 3, none⟩ = some xs[j * 3] := (hcl1 _ (by omega)).trans (List.getElem?_eq_getElem (by omega))
          have x1 : wr.cell? ⟨g1, j * 3 + 1, none⟩ = some xs[j * 3 + 1] := (hcl1 _ (by omega)).trans (List.getElem?_eq_getElem (by omega))
          have x2 : wr.cell? ⟨g1, j * 3 + 2, none⟩ = some xs[j * 3 + 2] := (hcl1 _ (by omega)).trans (List.getElem?_eq_getElem (by omega))
          generalize xs[j * 3] = y0 at x0
          generalize xs[j * 3 + 1] = y1 at x1
          generalize xs[j * 3 + 2] = y2 at x2
          have st1 := hO.stored (j * 3) (.int .i64 (-7))
          have st2 := st1.1.stored (j * 3 + 1) (.int .i64 0)
          have st3 := st2.1.stored (j * 3 + 2) (.string ⟨#[]⟩)
          have HN := hide st3.1
          have HG2 : Hid (w7.grownBy (((wr.setCell ⟨g1, j * 3, none⟩ (.int .i64 (-7))).setCell ⟨g1, j * 3 + 1, none⟩ (.int .i64 0)).setCell ⟨g1, j * 3 + 2, none⟩ (.string ⟨#[]⟩)) (some g1)) := Kept.trans (Kept.trans (Kept.trans (show Kept g1 w7 wr from hG) st1.2) st2.2) st3.2
          clear st1 st2 st3 hO hG hcl1 HO70 hxl hi hz0 hz1 hz2
          go_wp2_with fail
          go_roundw
          case rel => exact ⟨j + 1, _, by omega, by go_num, HN.out, HG2.out⟩
          case measure => simp [intOf]; omega
        · obtain rfl : j = n := by omega
          have HBRx := hide (pair_f HBR7.out HO70.out hG)
          have HRx := hide (HR7.out.grown hG (fun e => by have h1 := (HO70.out.lt _ e).1; have h2 := HRB.out; have h3 := HWB.out; omega))
          have HBx : Hid (Below w.heap.size w wr) := HB7.out.grown hG HB7.out.size (fun k e => by have h1 := (HO70.out.lt _ e).1; have h2 := HRB.out; have h3 := HWB.out; omega)
          have HWx : Hid (B1 ≤ wr.heap.size) := Nat.le_trans HW7.out hG.size
          have HOx := hide hO
          clear hO hG HBR7 HR7 HB7 HW7 HO70 hlt2 hj
          go_wp2_with fail
          go_loopw [7, 12] (fun l i wx => ∃ (i3 m : Nat) (xs : List Value), i3 ≤ 9 ∧ i = .int .i64 i3 ∧ m ≤ j + i3 ∧ wx.ownsRow B1 23 3 l m xs ∧ BRow wx w1.heap.size v5 (A ++ s.data.toList) ∧ Rdr wx w.heap.size (bs rq.2.2) (min (rs.2.1 : Int) 65535) ∧ Below w.heap.size w wx ∧ B1 ≤ wx.heap.size) (fun _ i _ => 9 - (intOf i).toNat)
          case atStart => exact ⟨0, j, xs, by omega, rfl, by omega, HOx.out, HBRx.out, HRx.out, HBx.out, HWx.out⟩
          case round =>
            obtain ⟨j3, m3, xs3, hj3, rfl, hm3, hO3, hBR3, hR3, hB3, hW3⟩ := hrel
            by_cases hlt3 : j3 < 9
            · have HO3 : Hid ((wr.alloc (.cells #[.int .i64 (-8), .int .i64 0, .string ⟨#[]⟩] 23)).ownsRow B1 23 3 u7 m3 xs3) := own_below hO3 (below_alloc _ _)
              have HBR3 := hide hBR3
              have HR3' := hide hR3
              have HB3 := hide hB3
              have HW3 := hide hW3
              have HM3 := hide hm3
              clear hO3 hBR3 hR3 hB3 hW3 hm3 HOx HBRx HRx HBx HWx
              go_wp2_with (at_builtin; refine wpList_append_own _ rfl (.tmp 87) (.tmp 89) 33 rfl B1 23 i0 _ 3 32 Try.underlying33 hi hz0 hz1 hz2 rfl (by decide) _ _ _ rfl HO3.out ⟨wr.heap.size, 0, none⟩ 1 1 [.int .i64 (-8), .int .i64 0, .string ⟨#[]⟩] rfl rfl ?c1 ?c2 ?c3 ?c4 ?c5 ?_)
              case c1 => exact new_cells _ _ rfl _ _ _ _
              case c2 => exact one_cells _ _ _
              case c3 => have h1 := HM3.out; have h2 := HNQ.out; unfold maxLen; omega
              case c4 => have h1 := HM3.out; have h2 := HNQ.out; omega
              case c5 => rw [size_alloc]; exact Nat.le_succ_of_le HW3.out
              intro v8 w8 hown8 hgrow8 _
              have HN : Hid (w8.ownsRow B1 23 3 v8 (m3 + 1) (xs3 ++ [.int .i64 (-8), .int .i64 0, .string ⟨#[]⟩]) ∧ BRow w8 w1.heap.size v5 (A ++ s.data.toList) ∧ Rdr w8 w.heap.size (bs rq.2.2) (min (rs.2.1 : Int) 65535) ∧ Below w.heap.size w w8 ∧ B1 ≤ w8.heap.size) := by
                refine ⟨hown8, pair_f (BRow.alloc HBR3.out _) HO3.out hgrow8, (HR3'.out.alloc _).grown hgrow8 (fun e => ?_), (HB3.out.alloc HB3.out.size _).grown hgrow8 (by rw [size_alloc]; exact Nat.le_succ_of_le HB3.out.size) (fun k e => ?_), ?_⟩
                · have h1 := (HO3.out.lt _ e).1; have h2 := HRB.out; have h3 := HWB.out; omega
                · have h1 := (HO3.out.lt _ e).1; have h2 := HRB.out; have h3 := HWB.out; omega
                · have h1 := hgrow8.size; rw [size_alloc] at h1; have h2 := HW3.out; omega
              clear hown8 hgrow8 hi hz0 hz1 hz2
              go_wp2_with fail
              go_roundw
              case rel => exact ⟨j3 + 1, m3 + 1, _, by omega, by go_num, by have := HM3.out; omega, HN.out⟩
              case measure => simp [intOf]; omega
            · have HF : Hid (FeedsRel w w1 (allL (ss.take (k + 1))) v5 (.int .i64 (rl : Int)) wr ∧ w1.heap.size ≤ wr.heap.size) := by
                refine ⟨⟨?_, ?_, ?_, hB3, ?_⟩, Nat.le_trans HWB.out hW3⟩
                · rw [HSN.out]; exact hBR3
                · rw [HSN.out, HX.out.2, HRL.out]
                · rw [HSN.out, HX.out.2, HR3.out.2]; exact hR3
                · rw [HSN.out, List.length_append, list_size]; have h1 := HL16.out; have h2 := HSZ.out; omega
              clear hO3 hBR3 hR3 hB3 hW3 hm3 HOx HBRx HRx HBx HWx hi hz0 hz1 hz2
              go_wp2_with fail
              go_roundw
              case rel => exact ⟨k + 1, by omega, by go_num, HF.out⟩
              case measure => simp [intOf]; omega
    · have hex : ss.length ≤ k ∨ (k < ss.length ∧ (65536 : Int) ≤ ((allL (ss.take k)).length : Int)) := by omega
      clear hBR hR hB hAl hws hlt hi hz0 hz1 hz2 gi gz0 gz1 gz2 HCL HBR HR HAL HWS HR1 HB1 HRB HSM
      rcases hex with hex | ⟨hex, hq⟩
      · go_wp2_with fail
        refine (awake_any _).mono ?_
        rintro e w5 ⟨rfl, h5⟩
        go_wp2_with fail
        go_ret
        exact ⟨rfl, below_next HB.out (Nat.le_refl _) h5⟩
      · have hqd : decide (((allL (ss.take k)).length : Int) < 65536) = false := by simp only [decide_eq_false_iff_not]; omega
        clear hq
        go_wp2_with fail
        refine (awake_any _).mono ?_
        rintro e w5 ⟨rfl, h5⟩
        go_wp2_with fail
        go_ret
        exact ⟨rfl, below_next HB.out (Nat.le_refl _) h5⟩
theorem FrameFeeds_walk (v0 : Value) (w : World) (hss : ∃ ss, StrsIn w v0 ss) : Calls Try.prog 4 #[v0] w fun e w' => e = .returned (.bool true) ∧ Below w.heap.size w w' := by
  obtain ⟨ss, h⟩ := hss
  exact feeds_walk ss v0 w h
end Go.Proofs.Ytijdobhdjmmgmaa
