/- Feed, at every row of bytes. -/
import Derived.Test.YtgdjphiicgiegaaFr4
namespace Go.Proofs.Ytgdjphiicgiegaa
open Go.RowKit Go.Great

/-- how far Feed has read -/
def FeedRel (w : World) (R : Nat) (L : List UInt8) (n : Int) (v : Value) (wx : World) : Prop :=
  ∃ (l : List UInt8) (fs : List Fr) (b : Nat), Rdr wx R (bs l) (min (n + b) 65535) ∧ Sought l ∧ wx.ownsRow w.heap.size 28 3 v fs.length (cellsF fs) ∧ Kept R w wx ∧ fs ++ (rd l).1 = (rd L).1 ∧ b + (rd l).2.1 = (rd L).2.1 ∧ (rd l).2.2 = (rd L).2.2 ∧ l.length ≤ L.length
theorem seekS_bs (l : List UInt8) : seekS (bs l) = bs (l.dropWhile (fun x => x != 253)) := by rw [seekS, bs_list]
theorem own_kept {w wr w' : World} {R : Nat} {v : Value} {k : Nat} {xs : List Value} (HO : wr.ownsRow w.heap.size 28 3 v k xs) (hR : R < w.heap.size) (hk : Kept R wr w') : w'.ownsRow w.heap.size 28 3 v k xs := by
  refine HO.kept hk (.inr fun e => ?_)
  have := (HO.lt R e).1
  omega
theorem info_frame : (Try.prog.info? 28).map (fun i => (i.zero, i.size, i.bytes)) = some (some (.agg #[.int .i64 0, .int .i64 0, .string ⟨#[]⟩]), 3, 32) := by kernel_rfl
theorem new_cells (w : World) (g : Nat) (hg : g = w.heap.size) (a b c : Value) (t : TypeId) : ∀ j u, [a, b, c][j]? = some u → (w.alloc (.cells #[a, b, c] t)).cell? ((⟨g, 0, none⟩ : Addr).add j) = some u := by
  subst hg
  intro j u hu
  rw [show (Addr.add ⟨w.heap.size, 0, none⟩ j) = ⟨w.heap.size, j, none⟩ by simp [Addr.add]; exact fun h => h.symm, World.cell?_alloc_new]
  simpa using hu
theorem one_cells (x y : Int) (p : ByteArray) : ∀ u ∈ [Value.int .i64 x, .int .i64 y, .string p], u.oneCell' = true := by
  intro u hu
  simp at hu
  rcases hu with rfl | rfl | rfl <;> rfl
theorem size_alloc (w : World) (o : Obj) : (w.alloc o).heap.size = w.heap.size + 1 := by simp
/-- behind a seek: the round's relation -/
theorem rel_next {w wr w6 : World} {R : Nat} {L l k : List UInt8} {n m : Int} {fs : List Fr} {b : Nat} {v : Value} {n0 : Int} (hR : R < w.heap.size) (hR6 : Rdr w6 R (bs k) m) (hm : m = min (n + (b : Int)) 65535) (hl : l.length ≤ L.length) (hK : Kept R w w6) (hO : w6.ownsRow w.heap.size 28 3 v fs.length (cellsF fs))
    (hE : fs ++ (rd k).1 = (rd L).1 ∧ b + (rd k).2.1 = (rd L).2.1 ∧ (rd k).2.2 = (rd L).2.2) (hw : Rdr wr R (bs l) n0) (hlt : k.length < l.length) : FeedRel w R L n v (w6.setCell ⟨R, 0, none⟩ (.string (seekS (bs k)))) ∧ rlen (w6.setCell ⟨R, 0, none⟩ (.string (seekS (bs k)))) R < rlen wr R := by
  have h7 := hR6.set0 (seekS (bs k))
  have hle : (k.dropWhile (fun x => x != 253)).length ≤ k.length := (List.dropWhile_suffix _).length_le
  refine ⟨⟨k.dropWhile (fun x => x != 253), fs, b, ?_, sought_drop k, own_kept hO hR ((Kept.refl R w6).set 0 _), hK.set 0 _, ?_, ?_, ?_, by omega⟩, ?_⟩
  · rw [← hm, ← seekS_bs]; exact h7
  · rw [rd_drop]; exact hE.1
  · rw [rd_drop]; exact hE.2.1
  · rw [rd_drop]; exact hE.2.2
  · rw [rlen_of h7, rlen_of hw, seekS_bs, bs_size, bs_size]; omega
set_option maxHeartbeats 2000000 in
theorem feed_any (w : World) (R : Nat) (s d : ByteArray) (n : Int) (h : Rdr w R s n) (hn0 : 0 ≤ n) (hn1 : n ≤ 65535) (hsz : s.size + d.size ≤ 281474976710656) (hfr : (rd (s.data.toList ++ d.data.toList)).1.length * 32 ≤ 140737488355328) :
    Calls Try.prog 20 #[.pointer (some ⟨R, 0, none⟩), .string d] w fun e w' => ∃ v, e = .returned v ∧ w'.ownsRow w.heap.size 28 3 v (rd (s.data.toList ++ d.data.toList)).1.length (cellsF (rd (s.data.toList ++ d.data.toList)).1) ∧ Rdr w' R (bs (rd (s.data.toList ++ d.data.toList)).2.2) (min (n + (rd (s.data.toList ++ d.data.toList)).2.1) 65535) ∧ Kept R w w' := by
  obtain ⟨L, HL⟩ : ∃ L, Hid (L = s.data.toList ++ d.data.toList) := ⟨_, rfl⟩
  rw [← HL.out] at hfr ⊢
  have HS : Hid ((s ++ d).data.toList = L) := by
    show _ = _
    rw [HL.out, ByteArray.data_append, Array.toList_append]
  have HZ : Hid (L.length ≤ 281474976710656) := by
    show _ ≤ _
    rw [HL.out, List.length_append, list_size, list_size]; exact hsz
  have h0 := h.c0
  have f0 := h.f0 0
  go_enter Try.func20, Try.ntmps20
  go_wp2_with fail
  refine (add_row w R s d n h (by omega)).mono ?_
  rintro e w1 ⟨rfl, hw1⟩
  have hR1 : Rdr w1 R (s ++ d) n := by rw [hw1]; exact h.set0 _
  have HK1 : Hid (Kept R w w1) := by show Kept R w w1; rw [hw1]; exact (Kept.refl R w).set 0 _
  clear hw1 h0 f0
  go_wp2_with fail
  refine (seek_row w1 R _ n hR1).mono ?_
  rintro e w2 ⟨rfl, hw2⟩
  have HR2 : Hid (Rdr w2 R (bs (L.dropWhile (fun x => x != 253))) n) := by
    show Rdr _ _ _ _
    rw [hw2]
    have := hR1.set0 (seekS (s ++ d))
    rw [seekS, HS.out] at this
    rw [seekS, HS.out]; exact this
  have HK2 : Hid (Kept R w w2) := by show Kept R w w2; rw [hw2]; exact HK1.out.set 0 _
  clear hw2 hR1
  have HStart : Hid (FeedRel w R L n (.slice none 0 0) w2) := by
    refine ⟨L.dropWhile (fun x => x != 253), [], 0, ?_, sought_drop L, World.ownsRow_nil _ _ _ _, HK2.out, ?_, ?_, ?_, (List.dropWhile_suffix _).length_le⟩
    · have := HR2.out
      rw [show min (n + ((0 : Nat) : Int)) 65535 = n by omega]
      exact this
    · rw [rd_drop]; rfl
    · rw [rd_drop]; simp
    · rw [rd_drop]
  go_wp2_with fail
  go_loopw [5] (fun v wx => FeedRel w R L n v wx) (fun _ wx => rlen wx R)
  case atStart => exact HStart.out
  case round =>
    obtain ⟨l, fs, b, hR, hso, hown, hK, e1, e2, e3, hlen⟩ := hrel
    have hz := HZ.out
    have hls : (bs l).size ≤ 9223372036854775807 := by rw [bs_size]; omega
    have hrip := ripe_row wr R (bs l) _ hR hls
    rw [bs_list] at hrip
    cases hr : ripeB l with
    | false =>
      have hst := rd_stop (step_unripe hso hr)
      rw [hst] at e1 e2 e3
      have HF : Hid (fs = (rd L).1 ∧ b = (rd L).2.1 ∧ l = (rd L).2.2) := ⟨by rw [← e1]; simp, by rw [← e2]; simp, e3⟩
      have HO : Hid (wr.ownsRow w.heap.size 28 3 u5 fs.length (cellsF fs)) := hown
      have HK : Hid (Kept R w wr) := hK
      have hls2 : (bs l).size ≤ 281474976710656 := by rw [bs_size]; omega
      have hlt := h.lt
      clear hown hK e1 e2 e3 hst hso hfr HStart HR2 HK2 HK1 HS HL
      rw [hr] at hrip
      clear hr
      go_wp2_with fail
      refine hrip.mono ?_
      rintro e w3 ⟨rfl, hw3⟩
      obtain rfl : wr = w3 := hw3.symm
      clear hrip
      go_wp2_with fail
      refine (hold_row wr R (bs l) _ hR hls2).mono ?_
      rintro e w4 ⟨rfl, hR4, w5, hB5, hw4⟩
      have HR4 : Hid (Rdr w4 R (bs l) (min (n + b) 65535)) := hR4
      have HK4 : Hid (Kept R w w4) := by
        show Kept R w w4
        rw [hw4]; exact (HK.out.below hB5).set 0 _
      have HO4 : Hid (w4.ownsRow w.heap.size 28 3 u5 fs.length (cellsF fs)) := by
        show World.ownsRow _ _ _ _ _ _ _
        rw [hw4]
        exact ownsRow_setCell_below (HO.out.kept (grown_below hB5 none) (by cases u5.ownBlock <;> simp)) (a := ⟨R, 0, none⟩) hlt _
      clear hR4 hB5 hw4
      go_wp2_with fail
      go_ret
      obtain ⟨g1, g2, g3⟩ := HF.out
      refine ⟨_, rfl, ?_, ?_, HK4.out⟩
      · rw [← g1]; exact HO4.out
      · rw [← g2, ← g3]; exact HR4.out
    | true =>
      by_cases hb : 64 < lenB l ∨ goodB l = false
      · have hst := step_bad hso hr hb
        have hcall := fun wx hx => first_bad wx R l (min (n + b) 65535) hx hr hb
        have HRD := rd_step hst
        rw [HRD] at e1 e2 e3
        have H2 : 2 ≤ l.length := (ripe_facts hr).1
        obtain ⟨m, hm⟩ : ∃ m, m = min (n + (b : Int)) 65535 := ⟨_, rfl⟩
        rw [← hm] at hR hcall
        have hm0 : 0 ≤ m := by omega
        have hm1 : m ≤ 65535 := by omega
        have HM : Hid (m = min (n + (b : Int)) 65535) := hm
        have HO : Hid (wr.ownsRow w.heap.size 28 3 u5 fs.length (cellsF fs)) := hown
        have HK : Hid (Kept R w wr) := hK
        have HE : Hid (fs ++ (rd (l.drop 1)).1 = (rd L).1 ∧ (b + 1) + (rd (l.drop 1)).2.1 = (rd L).2.1 ∧ (rd (l.drop 1)).2.2 = (rd L).2.2) := ⟨by simpa using e1, by simp only [] at e2; omega, e3⟩
        have hlt := h.lt
        rw [hr] at hrip
        clear hm hown hK e1 e2 e3 HRD hst hso hfr HStart HR2 HK2 HK1 HS HL hb hr
        go_wp2_with fail
        refine hrip.mono ?_
        rintro e w3 ⟨rfl, hw3⟩
        obtain rfl : wr = w3 := hw3.symm
        clear hrip
        go_wp2_with fail
        refine (hcall _ hR).mono ?_
        rintro e w4 ⟨rfl, hB4⟩
        have hR4 := hR.below hB4
        have hc1 := hR4.c1
        have hf1 := hR4.f0 1
        have hlt4 := hR4.lt
        have HB4 := hide hB4
        clear hB4 hcall
        go_wp2_with fail
        have hR5 := (hR4.set1 (min (m + 1) 65535)).alloc (Obj.cells #[Value.int IntKind.i64 0, Value.int IntKind.i64 0, Value.string { data := #[] }] 28)
        have HK5 : Hid (Kept R wr ((w4.setCell ⟨R, 1, none⟩ (.int .i64 (min (m + 1) 65535))).alloc (Obj.cells #[Value.int IntKind.i64 0, Value.int IntKind.i64 0, Value.string { data := #[] }] 28))) := (((Kept.refl R wr).below HB4.out).set 1 _).alloc _
        refine (pass_row _ R (bs l) _ hR5 1 (by rw [bs_size]; omega)).mono ?_
        rintro e w6 ⟨rfl, hw6⟩
        have HK6 : Hid (Kept R wr w6) := by show Kept R wr w6; rw [hw6]; exact HK5.out.set 0 _
        have hR6 : Rdr w6 R (bs (l.drop 1)) (min (m + 1) 65535) := by
          rw [hw6]
          have := hR5.set0 ((bs l).extract 1 (bs l).size)
          rw [extract_from, bs_list] at this ⊢
          exact this
        clear hw6 HK5 hR5 HB4 hlt4 hf1 hc1 hR4
        go_wp2_with fail
        refine (seek_row w6 R _ _ hR6).mono ?_
        rintro e w7 ⟨rfl, hw7⟩
        have HN := rel_next (n := n) (b := b + 1) (L := L) (l := l) hlt hR6 (by have := HM.out; push_cast; omega) hlen (Kept.trans HK.out HK6.out) (own_kept HO.out hlt HK6.out) HE.out hR (by rw [List.length_drop]; omega)
        rw [← hw7] at HN
        have HN := hide HN
        clear hw7 hR6
        go_wp2_with fail
        go_roundw
        case rel => exact HN.out.1
        case measure => exact HN.out.2
      · have h64 : lenB l ≤ 64 := by omega
        have hg : goodB l = true := by
          cases hg : goodB l with
          | false => exact absurd (Or.inr hg) hb
          | true => rfl
        have hst := step_ok hso hr h64 hg
        have hcall := fun wx hx => first_ok wx R l (min (n + b) 65535) hx hr h64 hg
        have H6 : 6 + lenB l ≤ l.length := by have := (ripe_facts hr).2; omega
        have hps : (frB l).2.2.size = lenB l := by
          show (((l.drop 4).take (lenB l)).toArray).size = _
          rw [List.size_toArray, List.length_take, List.length_drop]; omega
        have HRD := rd_step hst
        rw [HRD] at e1 e2 e3
        have HFB : Hid ((fs.length + 1) * 32 ≤ 140737488355328) := by
          show _ ≤ _
          have := congrArg List.length e1
          simp at this
          omega
        have HE : Hid ((fs ++ [frB l]) ++ (rd (l.drop (6 + lenB l))).1 = (rd L).1 ∧ b + (rd (l.drop (6 + lenB l))).2.1 = (rd L).2.1 ∧ (rd (l.drop (6 + lenB l))).2.2 = (rd L).2.2) := ⟨by simpa using e1, by simp only [] at e2; omega, e3⟩
        have HO : Hid (wr.ownsRow w.heap.size 28 3 u5 fs.length (cellsF fs)) := hown
        have HK : Hid (Kept R w wr) := hK
        have hlt := h.lt
        rw [hr] at hrip
        obtain ⟨m, hm⟩ : ∃ m, m = min (n + (b : Int)) 65535 := ⟨_, rfl⟩
        rw [← hm] at hR hcall
        have HM : Hid (m = min (n + (b : Int)) 65535) := hm
        clear hm hown hK e1 e2 e3 HRD hst hso hfr HStart HR2 HK2 HK1 HS HL hb hr hg
        generalize frB l = f at hcall hps HE
        generalize lenB l = q at h64 H6 hps HE
        obtain ⟨t, ht⟩ : ∃ t, 6 + q = t := ⟨_, rfl⟩
        have hwr : IntKind.i64.wrap (6 + (q : Int)) = (t : Int) := by rw [IntKind.wrap_i64]; omega
        rw [ht] at HE H6
        have HT : Hid (6 + q = t) := ht
        clear ht
        obtain ⟨i0, hi, hz0, hz1, hz2⟩ := info_parts info_frame
        go_wp2_with fail
        refine hrip.mono ?_
        rintro e w3 ⟨rfl, hw3⟩
        obtain rfl : wr = w3 := hw3.symm
        clear hrip
        go_wp2_with fail
        refine (hcall _ hR).mono ?_
        rintro e w4 ⟨rfl, hB4⟩
        have HB4 := hide hB4
        have hR4 := hR.below hB4
        have hlt4 := hR4.lt
        have hc0 := hR4.c0
        clear hB4 hcall
        have HO4 : Hid (((w4.alloc (.cells #[.int .i64 f.1, .int .i64 f.2.1, .string f.2.2] 28)).alloc (.cells #[.int .i64 f.1, .int .i64 f.2.1, .string f.2.2] 28)).ownsRow w.heap.size 28 3 u5 fs.length (cellsF fs)) := own_kept HO.out hlt ((((Kept.refl R wr).below HB4.out).alloc _).alloc _)
        have hws : w.heap.size ≤ w4.heap.size := Nat.le_trans HK.out.size HB4.out.size
        go_wp2_with (at_builtin; refine wpList_append_own _ rfl (.tmp 35) (.tmp 37) 47 rfl w.heap.size 28 i0 _ 3 32 Try.underlying47 hi hz0 hz1 hz2 rfl (by decide) _ _ _ rfl HO4.out ⟨w4.heap.size + 1, 0, none⟩ 1 1 [.int .i64 f.1, .int .i64 f.2.1, .string f.2.2] rfl rfl ?c1 ?c2 ?c3 ?c4 ?c5 ?_)
        case c1 => exact new_cells _ _ (size_alloc _ _).symm _ _ _ _
        case c2 => exact one_cells _ _ _
        case c3 => have := HFB.out; unfold maxLen; omega
        case c4 => exact HFB.out
        case c5 => rw [size_alloc, size_alloc]; omega
        intro v' w5 hown5 hgrow5 _
        have hub : ∀ k, u5.ownBlock = some k → w.heap.size ≤ k ∧ k < w4.heap.size := fun k e => ⟨(HO.out.lt k e).1, Nat.lt_of_lt_of_le (HO.out.lt k e).2 HB4.out.size⟩
        have HK5 : Hid (Kept R w w5) := (((HK.out.below HB4.out).alloc _).alloc _).step hgrow5 (fun k e => .inl (hub k e).1)
        have hR5 : Rdr w5 R (bs l) m := ((hR4.alloc _).alloc _).grown hgrow5 (fun e => by have := (hub R e).1; omega)
        have hF5 : Frm w5 w4.heap.size (.int .i64 f.1) (.int .i64 f.2.1) (.string f.2.2) := by
          have h1 := (frm_new w4 (.int .i64 f.1) (.int .i64 f.2.1) (.string f.2.2)).below (below_alloc _ (.cells #[.int .i64 f.1, .int .i64 f.2.1, .string f.2.2] 28))
          exact (hgrow5.block w4.heap.size (by rw [size_alloc, size_alloc]; omega) (fun e => by have := (hub _ e.symm).2; omega)).trans h1
        have HO5 : Hid (w5.ownsRow w.heap.size 28 3 v' (fs ++ [f]).length (cellsF (fs ++ [f]))) := by
          show World.ownsRow _ _ _ _ _ _ _
          rw [cellsF_app, cellsF_one, List.length_append]; exact hown5
        have hc2 := hF5.c2
        have HR5 : Hid (Rdr w5 R (bs l) m) := hR5
        have hne5 : R ≠ w4.heap.size := by omega
        clear hown5 hgrow5 hub hR5 hF5 HO4 HO HK HB4 hR4 hlt4 hc0 hws hi hz0 hz1 hz2
        go_wp2_with fail
        go_region_held3 (fun wx => wx.cell? ⟨w4.heap.size, 2, none⟩ = some (.string f.2.2)) (go_keep) (first | (go_at_call 39; refine (pass_row _ R (bs l) m (show Rdr w5.drew R (bs l) m from HR5.out) t (by rw [bs_size]; exact H6)).mono ?_; rintro e w6 ⟨rfl, hw6⟩; have hc6 : w6.cell? ⟨w4.heap.size, 2, none⟩ = some (.string f.2.2) := (by rw [hw6]; exact (World.cell?_of_block (w := w5.drew) (a := ⟨w4.heap.size, 2, none⟩) (Below.heap_setCell _ _ _ _ hne5.symm)).trans hc2); have HW6 := hide hw6; clear hw6))
        have HK6 : Hid (Kept R w5 w6) := by
          show Kept R w5 w6
          rw [HW6.out]
          exact Kept.trans (show Kept R w5 w5.drew from ⟨rfl, rfl, rfl, Nat.le_refl _, fun _ _ _ => rfl⟩) ((Kept.refl R w5.drew).set 0 _)
        have hR6 : Rdr w6 R (bs (l.drop t)) m := by
          rw [HW6.out]
          have := Rdr.set0 (show Rdr w5.drew R (bs l) m from HR5.out) ((bs l).extract t (bs l).size)
          rw [extract_from, bs_list] at this ⊢
          exact this
        clear hc6 hc2
        go_wp2_with fail
        refine (seek_row w6 R _ _ hR6).mono ?_
        rintro e w7 ⟨rfl, hw7⟩
        have HN := rel_next (n := n) (b := b) (L := L) (l := l) hlt hR6 HM.out hlen (Kept.trans HK5.out HK6.out) (own_kept HO5.out hlt HK6.out) HE.out hR (by have := HT.out; rw [List.length_drop]; omega)
        rw [← hw7] at HN
        have HN := hide HN
        clear hw7 hR6
        go_wp2_with fail
        go_roundw
        case rel => exact HN.out.1
        case measure => exact HN.out.2
end Go.Proofs.Ytgdjphiicgiegaa
