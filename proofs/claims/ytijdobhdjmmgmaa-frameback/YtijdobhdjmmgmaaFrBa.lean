/- FrameBack. -/
import Derived.Test.YtijdobhdjmmgmaaFrB0
import Derived.Test.YtijdobhdjmmgmaaFrQ
import Derived.Test.YtijdobhdjmmgmaaFrO
namespace Go.Proofs.Ytijdobhdjmmgmaa
open Go.RowKit Go.Great

/-- frames one behind the other, a text ahead of each -/
def joinL (c : List UInt8) (gs : List Fr) : List UInt8 := gs.flatMap fun g => c ++ encF g
theorem joinL_snoc (c : List UInt8) (gs : List Fr) (f : Fr) : joinL c (gs ++ [f]) = joinL c gs ++ c ++ encF f := by simp [joinL]
theorem joinL_cons (c : List UInt8) (gs : List Fr) (f : Fr) : joinL c (f :: gs) = c ++ (encF f ++ joinL c gs) := by simp [joinL]
theorem joinL_len (c : List UInt8) (gs : List Fr) : 6 * gs.length ≤ (joinL c gs).length ∧ (gs = [] ∨ c.length + 6 ≤ (joinL c gs).length) := by
  induction gs with
  | nil => exact ⟨by simp, .inl rfl⟩
  | cons f gs ih =>
    have hl := encF_length f
    rw [joinL_cons, List.length_append, List.length_append]
    exact ⟨by simp; omega, .inr (by omega)⟩
theorem rd_join (c : List UInt8) (hc : ∀ x ∈ c, x ≠ 253) (gs : List Fr) (hg : ∀ g ∈ gs, Right g) : rd (joinL c gs) = (gs, 0, []) := by
  induction gs with
  | nil => exact rd_stop rfl
  | cons f gs ih =>
    rw [joinL_cons, rd_clean _ _ hc, rd_enc (hg f (by simp)), ih (fun g h => hg g (by simp [h]))]
theorem cleanL_free (l : List UInt8) : ∀ x ∈ cleanL l, x ≠ 253 := by
  intro x hx
  unfold cleanL at hx
  rw [List.mem_filter] at hx
  simpa using hx.2
/-- how far the frames have been written -/
def BackRel (w : World) (c : List UInt8) (vb vw : Value) (wx : World) : Prop :=
  ∃ gs : List Fr, (∀ g ∈ gs, Right g) ∧ BRow wx w.heap.size vb (joinL c gs) ∧ wx.ownsRow w.heap.size 23 3 vw gs.length (cellsF gs) ∧ Below w.heap.size w wx ∧ (joinL c gs).length ≤ 281474976710656 ∧ gs.length ≤ 1048576
set_option maxHeartbeats 4000000 in
set_option maxRecDepth 100000 in
theorem back_walk (fs : List Fr) (v0 : Value) (t : ByteArray) (ht : t.size ≤ 140737488351232) (w : World) (hfs : FrsIn w v0 fs) : Calls Try.prog 6 #[v0, .string t] w fun e w' => e = .returned (.bool true) ∧ Below w.heap.size w w' := by
  obtain ⟨hmx, a0, cap0, rfl, hcl⟩ := hfs
  obtain ⟨i0, hi, hz0, hz1, hz2⟩ := info_parts info_frame
  obtain ⟨j0, gi, gz0, gz1, gz2⟩ := info_parts info_byte
  have hcn := fun wx => clean_any t ht wx
  have hcc := cleanL_le t.data.toList
  rw [list_size] at hcc
  have HCF := hide (cleanL_free t.data.toList)
  have hbz := bs_size (cleanL t.data.toList)
  have HBL := hide (bs_list (cleanL t.data.toList))
  generalize cleanL t.data.toList = c at hcn hcc HCF hbz HBL
  generalize bs c = ct at hcn hbz HBL
  have HCL := hide hcl
  have hmy : (fs.length : Int) ≤ 9223372036854775807 := by unfold maxLen at hmx; omega
  have HCC := hide hcc
  have HTT := hide ht
  clear hcl hmx hcc ht
  go_enter Try.func6, Try.ntmps6
  go_wp2_with fail
  go_loopw [5, 6, 7] (fun vb vw i wx => ∃ k : Nat, k ≤ fs.length ∧ i = .int .i64 k ∧ BackRel w c vb vw wx) (fun _ _ i _ => fs.length - (intOf i).toNat)
  case atStart => exact ⟨0, Nat.zero_le _, rfl, [], by simp, BRow.nil _ _, World.ownsRow_nil _ _ _ _, Below.refl _ _, by simp [joinL], by simp⟩
  case round =>
    obtain ⟨k, hk, rfl, gs, hgr, hBR, hW, hB, hbig, hcnt⟩ := hrel
    have HCN := hide hcnt
    clear hcnt
    obtain ⟨ab, cb, rfl⟩ := hBR.shape
    have hjl := joinL_len c gs
    by_cases hlt : k < fs.length ∧ (joinL c gs).length < 1048576
    · obtain ⟨hlt, hl20⟩ := hlt
      obtain ⟨g, o, rfl, hgl, hcell⟩ := HCL.out (by omega)
      obtain ⟨c0, c1, c2⟩ := hcell k hlt
      have d0 := (hB.cell (p := ⟨g, o + k * 3, none⟩) hgl).trans c0
      have d1 := (hB.cell (p := ⟨g, o + k * 3 + 1, none⟩) hgl).trans c1
      have d2 := (hB.cell (p := ⟨g, o + k * 3 + 2, none⟩) hgl).trans c2
      generalize fs[k] = f at c0 c1 c2 d0 d1 d2
      have hen := fun wx => encode_any f wx
      have HB := hide hB
      have HBR := hide hBR
      have HW := hide hW
      have HG := hide hgr
      clear hcell HCL hB hBR hW hgr
      by_cases hr : Right f
      · rw [encV_right hr] at hen
        simp only [] at hen
        have HRT := hide hr
        obtain ⟨r1, r2, r3, r4, r5'⟩ := hr
        have r5 : (f.2.2.size : Int) ≤ 64 := by omega
        clear r5'
        have hel := encF_length f
        have hez := bs_size (encF f)
        have HEL := hide (bs_list (encF f))
        generalize hee : bs (encF f) = et at hen hez HEL
        clear hee
        have HJL := hide hjl
        have HBZ := hide hbz
        have HEZ := hide hez
        have HE := hide hel
        have HBG := hide hbig
        have HQ := hide hl20
        have hq20 : ((joinL c gs).length : Int) < 1048576 := by omega
        clear hjl hbz hez hel hbig hl20
        go_wp2_with fail
        refine (hen _).mono ?_
        rintro e w4 ⟨rfl, hB4⟩
        have HB4 := hide (below_next HB.out (Nat.le_refl _) hB4)
        have HBR4 := hide (HBR.out.below hB4)
        have HW4 := hide (own_below HW.out hB4)
        have e0 := (HB4.out.cell (p := ⟨g, o + k * 3, none⟩) hgl).trans c0
        have e1 := (HB4.out.cell (p := ⟨g, o + k * 3 + 1, none⟩) hgl).trans c1
        have e2 := (HB4.out.cell (p := ⟨g, o + k * 3 + 2, none⟩) hgl).trans c2
        clear hB4 hen HB HBR HW d0 d1 d2 hq20
        go_wp2_with fail
        refine (hcn _).mono ?_
        rintro e w5 ⟨rfl, hB5⟩
        have HB5 := hide (below_next HB4.out (Nat.le_refl _) hB5)
        have HBR5 := hide (HBR4.out.below hB5)
        have HW5 := hide (own_below HW4.out hB5)
        clear hB5 hcn HB4 HBR4 HW4 e0 e1 e2
        go_wp2_with (at_builtin; refine Lib.wpList_append_own_string _ rfl (.tmp 75) (.tmp 77) 32 9 rfl w.heap.size 5 j0 Try.underlying32 Try.underlying9 gi gz0 gz1 gz2 _ _ _ rfl HBR5.out ct rfl ?p1 ?p2 ?p3 ?_)
        case p1 => have h1 := HJL.out; have h2 := HBZ.out; have h3 := HCC.out; have h4 := HTT.out; have h5 := HQ.out; unfold maxLen; omega
        case p2 =>
          have h1 := HJL.out; have h2 := HBZ.out; have h3 := HCC.out; have h4 := HTT.out; have h5 := HQ.out
          rcases h1.2 with h6 | h6
          · have h7 : (joinL c gs).length = 0 := by rw [h6]; rfl
            omega
          · omega
        case p3 => exact HB5.out.size
        intro v5 w6 hown6 hgrow6 _
        have HBR6 : Hid (BRow w6 w.heap.size v5 (joinL c gs ++ c)) := by
          show World.ownsRow _ _ _ _ _ _ _
          rw [bytesV_str, HBL.out, HBZ.out] at hown6
          rw [List.length_append, bytesV_app]; exact hown6
        have HW6 := hide (pair_b HBR5.out HW5.out hgrow6)
        have HB6 : Hid (Below w.heap.size w w6) := HB5.out.grown hgrow6 HB5.out.size (fun j e => (World.ownsRow.lt HBR5.out j e).1)
        clear hown6 hgrow6 HB5 HBR5 HW5
        go_wp2_with (at_builtin; refine Lib.wpList_append_own_string _ rfl (.tmp 79) (.tmp 80) 32 9 rfl w.heap.size 5 j0 Try.underlying32 Try.underlying9 gi gz0 gz1 gz2 _ _ _ rfl HBR6.out et rfl ?s1 ?s2 ?s3 ?_)
        case s1 => have h1 := HJL.out; have h2 := HBZ.out; have h3 := HCC.out; have h4 := HTT.out; have h5 := HQ.out; have h6 := HEZ.out; have h7 := HE.out; have h8 := HRT.out.2.2.2.2; rw [List.length_append]; unfold maxLen; omega
        case s2 =>
          have h1 := HJL.out; have h2 := HBZ.out; have h3 := HCC.out; have h4 := HTT.out; have h5 := HQ.out; have h6 := HEZ.out; have h7 := HE.out; have h8 := HRT.out.2.2.2.2
          rw [List.length_append]
          rcases h1.2 with h9 | h9
          · have h10 : (joinL c gs).length = 0 := by rw [h9]; rfl
            omega
          · omega
        case s3 => exact HB6.out.size
        intro v6 w7 hown7 hgrow7 _
        have HBR7 : Hid (BRow w7 w.heap.size v6 (joinL c (gs ++ [f]))) := by
          show World.ownsRow _ _ _ _ _ _ _
          rw [bytesV_str, HEL.out, HEZ.out] at hown7
          rw [joinL_snoc, List.length_append, List.length_append, bytesV_app]; exact hown7
        have HW7 := hide (pair_b HBR6.out HW6.out hgrow7)
        have HB7 : Hid (Below w.heap.size w w7) := HB6.out.grown hgrow7 HB6.out.size (fun j e => (World.ownsRow.lt HBR6.out j e).1)
        have e0 := (HB7.out.cell (p := ⟨g, o + k * 3, none⟩) hgl).trans c0
        have e1 := (HB7.out.cell (p := ⟨g, o + k * 3 + 1, none⟩) hgl).trans c1
        have e2 := (HB7.out.cell (p := ⟨g, o + k * 3 + 2, none⟩) hgl).trans c2
        have HO7 : Hid ((w7.alloc (.cells #[.int .i64 f.1, .int .i64 f.2.1, .string f.2.2] 23)).ownsRow w.heap.size 23 3 u6 gs.length (cellsF gs)) := own_below HW7.out (below_alloc _ _)
        clear hown7 hgrow7 HB6 HBR6 HW6 HW7
        go_wp2_with (at_builtin; refine wpList_append_own _ rfl (.tmp 82) (.tmp 87) 33 rfl w.heap.size 23 i0 _ 3 32 Try.underlying33 hi hz0 hz1 hz2 rfl (by decide) _ _ _ rfl HO7.out ⟨w7.heap.size, 0, none⟩ 1 1 [.int .i64 f.1, .int .i64 f.2.1, .string f.2.2] rfl rfl ?c1 ?c2 ?c3 ?c4 ?c5 ?_)
        case c1 => exact new_cells _ _ rfl _ _ _ _
        case c2 => exact one_cells _ _ _
        case c3 => have h1 := HJL.out.1; have h5 := HQ.out; unfold maxLen; omega
        case c4 => have h1 := HJL.out.1; have h5 := HQ.out; omega
        case c5 => rw [size_alloc]; exact Nat.le_succ_of_le HB7.out.size
        intro v8 w8 hown8 hgrow8 _
        have HN : Hid (BackRel w c v6 v8 w8) := by
          refine ⟨gs ++ [f], ?_, ?_, ?_, ?_, ?_, ?_⟩
          · intro x hx
            rw [List.mem_append] at hx
            rcases hx with hx | hx
            · exact HG.out x hx
            · rw [List.mem_singleton] at hx; rw [hx]; exact HRT.out
          · exact pair_f (BRow.alloc HBR7.out _) HO7.out hgrow8
          · rw [cellsF_app, cellsF_one, List.length_append]; exact hown8
          · exact (HB7.out.alloc HB7.out.size _).grown hgrow8 (by rw [size_alloc]; exact Nat.le_succ_of_le HB7.out.size) (fun j e => (HO7.out.lt j e).1)
          · have h2 := HBZ.out; have h3 := HCC.out; have h4 := HTT.out; have h5 := HQ.out; have h7 := HE.out; have h8 := HRT.out.2.2.2.2
            rw [joinL_snoc, List.length_append, List.length_append]; omega
          · have h1 := HJL.out.1; have h5 := HQ.out; rw [List.length_append]; show _ + 1 ≤ _; omega
        clear hown8 hgrow8 HBR7 HO7 HB7 e0 e1 e2 hi hz0 hz1 hz2 gi gz0 gz1 gz2
        go_wp2_with fail
        go_roundw
        case rel => exact ⟨k + 1, by omega, by go_num, HN.out⟩
        case measure => simp [intOf]; omega
      · have hne := (encV_wrong hr).2
        generalize encV f = ev at hen hne
        obtain ⟨et, ec⟩ := ev
        simp only [] at hne hen
        have hne' : (ec == 0) = false := by simpa using hne
        have HBG := hide hbig
        have hq20 : ((joinL c gs).length : Int) < 1048576 := by omega
        have hw : f.1 < 0 ∨ (0 ≤ f.1 ∧ 255 < f.1) ∨ (0 ≤ f.1 ∧ f.1 ≤ 255 ∧ f.2.1 < 0) ∨ (0 ≤ f.1 ∧ f.1 ≤ 255 ∧ 0 ≤ f.2.1 ∧ 255 < f.2.1) ∨ (0 ≤ f.1 ∧ f.1 ≤ 255 ∧ 0 ≤ f.2.1 ∧ f.2.1 ≤ 255 ∧ (64 : Int) < (f.2.2.size : Int)) := by
          unfold Right at hr; omega
        clear hjl hbz hbig hl20 hr hne hcn hi hz0 hz1 hz2 gi gz0 gz1 gz2
        rcases hw with r1 | ⟨r1, r2⟩ | ⟨r1, r2, r3⟩ | ⟨r1, r2, r3, r4⟩ | ⟨r1, r2, r3, r4, r5⟩
        · go_wp2_with fail
          refine (hen _).mono ?_
          rintro e w4 ⟨rfl, hB4⟩
          have HB4 := hide (below_next HB.out (Nat.le_refl _) hB4)
          have HBR4 := hide (HBR.out.below hB4)
          have HW4 := hide (own_below HW.out hB4)
          have e0 := (HB4.out.cell (p := ⟨g, o + k * 3, none⟩) hgl).trans c0
          have e1 := (HB4.out.cell (p := ⟨g, o + k * 3 + 1, none⟩) hgl).trans c1
          have e2 := (HB4.out.cell (p := ⟨g, o + k * 3 + 2, none⟩) hgl).trans c2
          clear hB4 hen HB HBR HW d0 d1 d2 hq20
          go_wp2_with fail
          go_roundw
          case rel => exact ⟨k + 1, by omega, by go_num, gs, HG.out, HBR4.out, HW4.out, HB4.out, HBG.out, HCN.out⟩
          case measure => simp [intOf]; omega
        · go_wp2_with fail
          refine (hen _).mono ?_
          rintro e w4 ⟨rfl, hB4⟩
          have HB4 := hide (below_next HB.out (Nat.le_refl _) hB4)
          have HBR4 := hide (HBR.out.below hB4)
          have HW4 := hide (own_below HW.out hB4)
          have e0 := (HB4.out.cell (p := ⟨g, o + k * 3, none⟩) hgl).trans c0
          have e1 := (HB4.out.cell (p := ⟨g, o + k * 3 + 1, none⟩) hgl).trans c1
          have e2 := (HB4.out.cell (p := ⟨g, o + k * 3 + 2, none⟩) hgl).trans c2
          clear hB4 hen HB HBR HW d0 d1 d2 hq20
          go_wp2_with fail
          go_roundw
          case rel => exact ⟨k + 1, by omega, by go_num, gs, HG.out, HBR4.out, HW4.out, HB4.out, HBG.out, HCN.out⟩
          case measure => simp [intOf]; omega
        · go_wp2_with fail
          refine (hen _).mono ?_
          rintro e w4 ⟨rfl, hB4⟩
          have HB4 := hide (below_next HB.out (Nat.le_refl _) hB4)
          have HBR4 := hide (HBR.out.below hB4)
          have HW4 := hide (own_below HW.out hB4)
          have e0 := (HB4.out.cell (p := ⟨g, o + k * 3, none⟩) hgl).trans c0
          have e1 := (HB4.out.cell (p := ⟨g, o + k * 3 + 1, none⟩) hgl).trans c1
          have e2 := (HB4.out.cell (p := ⟨g, o + k * 3 + 2, none⟩) hgl).trans c2
          clear hB4 hen HB HBR HW d0 d1 d2 hq20
          go_wp2_with fail
          go_roundw
          case rel => exact ⟨k + 1, by omega, by go_num, gs, HG.out, HBR4.out, HW4.out, HB4.out, HBG.out, HCN.out⟩
          case measure => simp [intOf]; omega
        · go_wp2_with fail
          refine (hen _).mono ?_
          rintro e w4 ⟨rfl, hB4⟩
          have HB4 := hide (below_next HB.out (Nat.le_refl _) hB4)
          have HBR4 := hide (HBR.out.below hB4)
          have HW4 := hide (own_below HW.out hB4)
          have e0 := (HB4.out.cell (p := ⟨g, o + k * 3, none⟩) hgl).trans c0
          have e1 := (HB4.out.cell (p := ⟨g, o + k * 3 + 1, none⟩) hgl).trans c1
          have e2 := (HB4.out.cell (p := ⟨g, o + k * 3 + 2, none⟩) hgl).trans c2
          clear hB4 hen HB HBR HW d0 d1 d2 hq20
          go_wp2_with fail
          go_roundw
          case rel => exact ⟨k + 1, by omega, by go_num, gs, HG.out, HBR4.out, HW4.out, HB4.out, HBG.out, HCN.out⟩
          case measure => simp [intOf]; omega
        · go_wp2_with fail
          refine (hen _).mono ?_
          rintro e w4 ⟨rfl, hB4⟩
          have HB4 := hide (below_next HB.out (Nat.le_refl _) hB4)
          have HBR4 := hide (HBR.out.below hB4)
          have HW4 := hide (own_below HW.out hB4)
          have e0 := (HB4.out.cell (p := ⟨g, o + k * 3, none⟩) hgl).trans c0
          have e1 := (HB4.out.cell (p := ⟨g, o + k * 3 + 1, none⟩) hgl).trans c1
          have e2 := (HB4.out.cell (p := ⟨g, o + k * 3 + 2, none⟩) hgl).trans c2
          clear hB4 hen HB HBR HW d0 d1 d2 hq20
          go_wp2_with fail
          go_roundw
          case rel => exact ⟨k + 1, by omega, by go_num, gs, HG.out, HBR4.out, HW4.out, HB4.out, HBG.out, HCN.out⟩
          case measure => simp [intOf]; omega
    · have HRD := hide (rd_join c HCF.out gs hgr)
      have HB := hide hB
      have HBR := hide hBR
      have HW := hide hW
      have HBG := hide hbig
      have HWR := hide hB.size
      have HCT : Hid (gs.length * 32 ≤ 140737488355328) := by
        show _ ≤ _
        have := HCN.out
        omega
      have hex : fs.length ≤ k ∨ (k < fs.length ∧ (1048576 : Int) ≤ ((joinL c gs).length : Int)) := by omega
      clear hB hBR hW hbig hgr hjl hbz hlt hcn hi hz0 hz1 hz2 gi gz0 gz1 gz2 HCL
      rcases hex with hex | ⟨hex, hq20⟩
      · go_wp2_with fail
        refine (new_any _).mono ?_
        rintro e w4 ⟨rfl, hw4⟩
        have hB4 : Below wr.heap.size wr w4 := by rw [hw4]; exact below_alloc _ _
        have HR4 : Hid (Rdr w4 wr.heap.size (bs []) 0) := by show Rdr _ _ _ _; rw [hw4]; exact heap_alloc_new _ _
        have HB4 := hide (below_next HB.out (Nat.le_refl _) hB4)
        have HBR4 := hide (HBR.out.below hB4)
        have HW4 := hide (own_below HW.out hB4)
        clear hw4 hB4 HB HBR
        go_wp2_with fail
        refine (awake_any _).mono ?_
        rintro e w5 ⟨rfl, hB5⟩
        have hR5 := HR4.out.below hB5
        have HB5 := hide (below_next HB4.out (Nat.le_refl _) hB5)
        have htx := (HBR4.out.below hB5).text
        have HW5 := hide (own_below HW4.out hB5)
        have hfd := feed_any w5 wr.heap.size (bs []) (bs (joinL c gs)) 0 hR5 (by omega) (by omega) (by rw [bs_size, bs_size]; have := HBG.out; simp; omega) (by rw [bs_list, bs_list, List.nil_append, HRD.out]; exact HCT.out)
        rw [bs_list, bs_list, List.nil_append, HRD.out, Int.zero_add] at hfd
        generalize bs (joinL c gs) = bt at htx hfd
        clear hB5 HR4 HB4 HBR4 HW4
        go_wp2_with fail
        refine hfd.mono ?_
        rintro e w6 ⟨v1, rfl, hO6, hR6, hK6⟩
        have hW6 : w6.ownsRow w.heap.size 23 3 u6 gs.length (cellsF gs) := HW5.out.kept hK6 (.inr fun e => by have := (HW.out.lt _ e).2; omega)
        have hS := same_true w6 v1 u6 gs (frs_own hO6) (frs_own hW6) (by have := HCT.out; omega)
        have HR6 : Hid (Rdr w6 wr.heap.size (bs []) 0) := hR6
        have HB6 : Hid (Below w.heap.size w w6) := hK6.toBelow HB5.out HB5.out.size HWR.out
        clear hO6 hR6 hK6 hW6 hfd htx hR5 HB5 HW5
        go_wp2_with fail
        refine hS.mono ?_
        rintro e w7 ⟨rfl, q, hw7⟩
        have hR7 : Rdr w7 wr.heap.size (bs []) 0 := by rw [hw7]; exact HR6.out.drewN q
        have HB7 : Hid (Below w.heap.size w w7) := by show Below _ _ _; rw [hw7]; exact below_drewN HB6.out q
        have hz7 : (bs []).size = 0 := rfl
        clear hw7 hS
        go_wp2_with fail
        refine (bad_any _ _ _ _ hR7).mono ?_
        rintro e w8 ⟨rfl, hw8⟩
        obtain rfl : w7 = w8 := hw8.symm
        go_wp2_with fail
        refine (held_any _ _ _ _ hR7).mono ?_
        rintro e w8 ⟨rfl, hw8⟩
        obtain rfl : w7 = w8 := hw8.symm
        go_wp2_with fail
        go_ret
        exact ⟨rfl, HB7.out⟩
      · have hqd : decide (((joinL c gs).length : Int) < 1048576) = false := by simp only [decide_eq_false_iff_not]; omega
        clear hq20
        go_wp2_with fail
        clear hqd
        refine (new_any _).mono ?_
        rintro e w4 ⟨rfl, hw4⟩
        have hB4 : Below wr.heap.size wr w4 := by rw [hw4]; exact below_alloc _ _
        have HR4 : Hid (Rdr w4 wr.heap.size (bs []) 0) := by show Rdr _ _ _ _; rw [hw4]; exact heap_alloc_new _ _
        have HB4 := hide (below_next HB.out (Nat.le_refl _) hB4)
        have HBR4 := hide (HBR.out.below hB4)
        have HW4 := hide (own_below HW.out hB4)
        clear hw4 hB4 HB HBR
        go_wp2_with fail
        refine (awake_any _).mono ?_
        rintro e w5 ⟨rfl, hB5⟩
        have hR5 := HR4.out.below hB5
        have HB5 := hide (below_next HB4.out (Nat.le_refl _) hB5)
        have htx := (HBR4.out.below hB5).text
        have HW5 := hide (own_below HW4.out hB5)
        have hfd := feed_any w5 wr.heap.size (bs []) (bs (joinL c gs)) 0 hR5 (by omega) (by omega) (by rw [bs_size, bs_size]; have := HBG.out; simp; omega) (by rw [bs_list, bs_list, List.nil_append, HRD.out]; exact HCT.out)
        rw [bs_list, bs_list, List.nil_append, HRD.out, Int.zero_add] at hfd
        generalize bs (joinL c gs) = bt at htx hfd
        clear hB5 HR4 HB4 HBR4 HW4
        go_wp2_with fail
        refine hfd.mono ?_
        rintro e w6 ⟨v1, rfl, hO6, hR6, hK6⟩
        have hW6 : w6.ownsRow w.heap.size 23 3 u6 gs.length (cellsF gs) := HW5.out.kept hK6 (.inr fun e => by have := (HW.out.lt _ e).2; omega)
        have hS := same_true w6 v1 u6 gs (frs_own hO6) (frs_own hW6) (by have := HCT.out; omega)
        have HR6 : Hid (Rdr w6 wr.heap.size (bs []) 0) := hR6
        have HB6 : Hid (Below w.heap.size w w6) := hK6.toBelow HB5.out HB5.out.size HWR.out
        clear hO6 hR6 hK6 hW6 hfd htx hR5 HB5 HW5
        go_wp2_with fail
        refine hS.mono ?_
        rintro e w7 ⟨rfl, q, hw7⟩
        have hR7 : Rdr w7 wr.heap.size (bs []) 0 := by rw [hw7]; exact HR6.out.drewN q
        have HB7 : Hid (Below w.heap.size w w7) := by show Below _ _ _; rw [hw7]; exact below_drewN HB6.out q
        have hz7 : (bs []).size = 0 := rfl
        clear hw7 hS
        go_wp2_with fail
        refine (bad_any _ _ _ _ hR7).mono ?_
        rintro e w8 ⟨rfl, hw8⟩
        obtain rfl : w7 = w8 := hw8.symm
        go_wp2_with fail
        refine (held_any _ _ _ _ hR7).mono ?_
        rintro e w8 ⟨rfl, hw8⟩
        obtain rfl : w7 = w8 := hw8.symm
        go_wp2_with fail
        go_ret
        exact ⟨rfl, HB7.out⟩
theorem FrameBack_walk (v0 : Value) (t : ByteArray) (w : World) (hfs : ∃ fs, FrsIn w v0 fs) (ht : t.size ≤ 140737488351232) : Calls Try.prog 6 #[v0, .string t] w fun e w' => e = .returned (.bool true) ∧ Below w.heap.size w w' := by
  obtain ⟨fs, h⟩ := hfs
  exact back_walk fs v0 t ht w h
end Go.Proofs.Ytijdobhdjmmgmaa
