/- FrameCuts. -/
import Derived.Test.YtijdobhdjmmgmaaFrSa
import Derived.Laws.AppendOwnNone
namespace Go.Proofs.Ytijdobhdjmmgmaa
open Go.RowKit Go.Great

theorem take_one (d : ByteArray) (k : Nat) (h : k < d.size) : d.extract k (k + 1) = bs [d[k]] := by
  apply bs_ext
  rw [extract_list, bs_list, show k + 1 - k = 1 by omega]
  have hk : k < d.data.toList.length := by simpa using h
  rw [List.drop_eq_getElem_cons hk]
  rfl
theorem rd_take (d : ByteArray) (k : Nat) (h : k < d.size) : rd (d.data.toList.take (k + 1)) = ((rd (d.data.toList.take k)).1 ++ (rd ((rd (d.data.toList.take k)).2.2 ++ [d[k]])).1, (rd (d.data.toList.take k)).2.1 + (rd ((rd (d.data.toList.take k)).2.2 ++ [d[k]])).2.1, (rd ((rd (d.data.toList.take k)).2.2 ++ [d[k]])).2.2) := by
  rw [take_snoc d k h, rd_more]
/-- how far the bytes have been fed one by one -/
def CutRel (w3 : World) (Q : Nat) (l : List UInt8) (v : Value) (wx : World) : Prop :=
  Rdr wx Q (bs (rd l).2.2) (min ((rd l).2.1 : Int) 65535) ∧ wx.ownsRow w3.heap.size 23 3 v (rd l).1.length (cellsF (rd l).1) ∧ Kept Q w3 wx
set_option maxHeartbeats 4000000 in
theorem FrameCuts_walk (d : ByteArray) (hd : d.size ≤ 1048576) (w : World) : Calls Try.prog 5 #[.string d] w fun e w' => e = .returned (.bool true) ∧ Below w.heap.size w w' := by
  have hdl := list_size d
  have hcount := rd_count d.data.toList
  go_enter Try.func5, Try.ntmps5
  go_wp2_with fail
  refine (new_any _).mono ?_
  rintro e w1 ⟨rfl, hw1⟩
  have hR1 : Rdr w1 w.heap.size (bs []) 0 := by rw [hw1]; exact heap_alloc_new _ _
  have HB1 : Hid (Below w.heap.size w w1) := by show Below _ _ _; rw [hw1]; exact below_alloc _ _
  clear hw1
  go_wp2_with fail
  refine (new_any _).mono ?_
  rintro e w2 ⟨rfl, hw2⟩
  have hR2 : Rdr w2 w.heap.size (bs []) 0 := by rw [hw2]; exact hR1.alloc _
  have hQ2 : Rdr w2 w1.heap.size (bs []) 0 := by rw [hw2]; exact heap_alloc_new _ _
  have HB2 : Hid (Below w.heap.size w w2) := by show Below _ _ _; rw [hw2]; exact below_next HB1.out (Nat.le_refl _) (below_alloc _ _)
  have hne : w.heap.size ≠ w1.heap.size := by have := hR1.lt; omega
  have hq2 : w1.heap.size < w2.heap.size := hQ2.lt
  have hf := feed_any w2 w.heap.size (bs []) d 0 hR2 (by omega) (by omega) (by rw [bs_size]; simp; omega) (by rw [bs_list, List.nil_append]; omega)
  rw [bs_list, List.nil_append, Int.zero_add] at hf
  clear hw2
  go_wp2_with fail
  refine hf.mono ?_
  rintro e w3 ⟨v1, rfl, hO3, hR3, hK3⟩
  have HO3 := hide hO3
  have HR3 := hide hR3
  have HQ3 : Hid (Rdr w3 w1.heap.size (bs []) 0) := (World.grownBy.block hK3 w1.heap.size hQ2.lt (fun e => hne (by injection e with e; exact e.symm))).trans hQ2
  have HB3 : Hid (Below w.heap.size w w3) := hK3.toBelow HB2.out HB2.out.size (Nat.le_refl _)
  have hQlt : w1.heap.size < w3.heap.size := HQ3.out.lt
  have hRlt : w.heap.size < w3.heap.size := HR3.out.lt
  clear hO3 hR3 hK3 hf hR2 hQ2 hR1 HB2
  go_wp2_with fail
  go_loopw [6, 7] (fun v i wx => ∃ k : Nat, k ≤ d.size ∧ i = .int .i64 k ∧ CutRel w3 w1.heap.size (d.data.toList.take k) v wx) (fun _ i _ => d.size - (intOf i).toNat)
  case atStart => exact ⟨0, Nat.zero_le _, rfl, HQ3.out, World.ownsRow_nil _ _ _ _, Kept.refl _ _⟩
  case round =>
    obtain ⟨k, hk, rfl, hR, hO, hK⟩ := hrel
    by_cases hlt : k < d.size
    · have HT := hide (rd_take d k hlt)
      have hct := rd_count (d.data.toList.take (k + 1))
      rw [List.length_take] at hct
      have hhl := rd_held (d.data.toList.take (k + 1))
      have hhk := rd_held (d.data.toList.take k)
      have hsl : ∀ wx, (Instr.slice 9 (.string d) (some (.int .i64 k)) (some (.int .i64 ((k : Int) + 1))) none).run Try.prog wx = .ok (.string (bs [d[k]])) wx := fun wx => by
        rw [← take_one d k hlt]; exact cut_run d k (k + 1) (by omega) (by omega) wx
      generalize hr : rd (d.data.toList.take k) = r at HT hR hO hhk
      have hfd := feed_any wr w1.heap.size (bs r.2.2) (bs [d[k]]) _ hR (by omega) (by omega) (by rw [bs_size, bs_size]; simp; omega) (by
        rw [bs_list, bs_list]
        have := rd_count (r.2.2 ++ [d[k]])
        simp at this
        omega)
      rw [bs_list, bs_list] at hfd
      generalize hq : rd (r.2.2 ++ [d[k]]) = q at hfd HT
      have HO := hide hO
      have HK := hide hK
      have HS : Hid (rd (d.data.toList.take (k + 1)) = (r.1 ++ q.1, r.2.1 + q.2.1, q.2.2)) := HT.out
      rw [HS.out] at hct hhl
      simp only [List.length_append] at hct
      simp only [] at hhl
      clear hR hO hK hr hq HT hhk
      generalize bs [d[k]] = x at hsl hfd
      go_wp2_with fail
      refine hfd.mono ?_
      rintro e w4 ⟨v2, rfl, hO4, hR4, hK4⟩
      obtain ⟨i0, hi, hz0, hz1, hz2⟩ := info_parts info_frame
      have HO4 : Hid (w4.ownsRow w3.heap.size 23 3 u6 r.1.length (cellsF r.1)) := own_kept HO.out hQlt hK4
      have HK4 : Hid (Kept w1.heap.size w3 w4) := Kept.trans HK.out hK4
      have hbase : w3.heap.size ≤ w4.heap.size := HK4.out.size
      have hle : (r.1.length + q.1.length) * 32 ≤ 140737488355328 := by omega
      have hle2 : r.1.length + q.1.length ≤ maxLen := by unfold maxLen; omega
      -- what the append leaves
      have fin : ∀ (v' : Value) (w5 : World), w5.ownsRow w3.heap.size 23 3 v' (r.1.length + q.1.length) (cellsF r.1 ++ cellsF q.1) → w4.grownBy w5 u6.ownBlock → CutRel w3 w1.heap.size (d.data.toList.take (k + 1)) v' w5 := by
        intro v' w5 h1 h2
        refine ⟨?_, ?_, ?_⟩
        · rw [HS.out]
          have h3 := hR4.grown h2 (fun e => by have := (HO4.out.lt _ e).1; omega)
          rw [show min (((r.2.1 + q.2.1 : Nat)) : Int) 65535 = min (min (r.2.1 : Int) 65535 + (q.2.1 : Int)) 65535 by omega]
          exact h3
        · rw [HS.out, cellsF_app, List.length_append]; exact h1
        · exact HK4.out.step h2 (fun j e => .inl (HO4.out.lt j e).1)
      have FIN := hide fin
      have hc4 := own_cases hO4
      clear fin hfd hO4 hK4 HO HK
      rcases hc4 with ⟨rfl, hq0⟩ | ⟨g, cap, rfl, hg, hcl⟩
      · have hrel5 : CutRel w3 w1.heap.size (d.data.toList.take (k + 1)) u6 w4 := by
          refine FIN.out u6 w4 ?_ (World.grownBy.refl _ _)
          have : q.1 = [] := List.eq_nil_of_length_eq_zero hq0
          rw [this]
          simpa [cellsF] using HO4.out
        clear hR4 hle hle2
        go_wp2_with (at_builtin; refine wpList_append_own_none rfl (.tmp 25) (.tmp 32) 33 rfl w3.heap.size 23 i0 3 Try.underlying33 hi _ _ _ rfl HO4.out rfl ?_)
        have HC5 := hide hrel5
        have hR5 : Rdr w4 w1.heap.size (bs q.2.2) (min ((r.2.1 + q.2.1 : Nat) : Int) 65535) := by
          have := hrel5.1
          rw [HS.out] at this
          exact this
        have hz5 : (bs q.2.2).size ≤ 69 := by rw [bs_size]; exact hhl
        clear hrel5 FIN
        go_wp2_with fail
        refine (held_any _ _ _ _ hR5).mono ?_
        rintro e w6 ⟨rfl, hw6⟩
        obtain rfl : w4 = w6 := hw6.symm
        go_wp2_with fail
        refine (held_any _ _ _ _ hR5).mono ?_
        rintro e w6 ⟨rfl, hw6⟩
        obtain rfl : w4 = w6 := hw6.symm
        go_wp2_with fail
        go_roundw
        case rel => exact ⟨k + 1, by omega, by go_num, HC5.out⟩
        case measure => simp [intOf]; omega
      · have hql : (cellsF q.1).length = q.1.length * 3 := cellsF_length _
        go_wp2_with (at_builtin; refine wpList_append_own _ rfl (.tmp 25) (.tmp 32) 33 rfl w3.heap.size 23 i0 _ 3 32 Try.underlying33 hi hz0 hz1 hz2 rfl (by decide) _ _ _ rfl HO4.out ⟨g, 0, none⟩ q.1.length cap (cellsF q.1) rfl hql hcl (cellsF_one' _) hle2 hle hbase ?_)
        intro v' w5 hown5 hgrow5 _
        have hrel5 := FIN.out v' w5 hown5 hgrow5
        clear hown5 hgrow5 hR4 hle hle2 hql hcl hi hz0 hz1 hz2
        have HC5 := hide hrel5
        have hR5 : Rdr w5 w1.heap.size (bs q.2.2) (min ((r.2.1 + q.2.1 : Nat) : Int) 65535) := by
          have := hrel5.1
          rw [HS.out] at this
          exact this
        have hz5 : (bs q.2.2).size ≤ 69 := by rw [bs_size]; exact hhl
        clear hrel5 FIN
        go_wp2_with fail
        refine (held_any _ _ _ _ hR5).mono ?_
        rintro e w6 ⟨rfl, hw6⟩
        obtain rfl : w5 = w6 := hw6.symm
        go_wp2_with fail
        refine (held_any _ _ _ _ hR5).mono ?_
        rintro e w6 ⟨rfl, hw6⟩
        obtain rfl : w5 = w6 := hw6.symm
        go_wp2_with fail
        go_roundw
        case rel => exact ⟨k + 1, by omega, by go_num, HC5.out⟩
        case measure => simp [intOf]; omega
    · have hkd : k = d.size := by omega
      subst hkd
      rw [List.take_of_length_le (by omega)] at hR hO
      have HO1 : Hid (wr.ownsRow w2.heap.size 23 3 v1 (rd d.data.toList).1.length (cellsF (rd d.data.toList).1)) := HO3.out.kept hK (.inr fun e => by have := (HO3.out.lt _ e).1; omega)
      have HRr : Hid (Rdr wr w.heap.size (bs (rd d.data.toList).2.2) (min ((rd d.data.toList).2.1 : Int) 65535)) := (World.grownBy.block hK w.heap.size hRlt (fun e => hne (by injection e))).trans HR3.out
      have HO2 := hide hO
      have HQr := hide hR
      have HBr : Hid (Below w.heap.size w wr) := hK.toBelow HB3.out HB3.out.size HB1.out.size
      clear hR hO hK HO3 HR3 HQ3 HB3
      generalize rd d.data.toList = r at HO1 HO2 HRr HQr hcount
      generalize min (r.2.1 : Int) 65535 = m at HRr HQr
      go_wp2_with fail
      refine (awake_any _).mono ?_
      rintro e w5 ⟨rfl, h5⟩
      have hS := same_true w5 v1 u6 r.1 (frs_own (own_below HO1.out h5)) (frs_own (own_below HO2.out h5)) (by omega)
      have HB5 : Hid (Below w.heap.size w w5) := below_next HBr.out (Nat.le_refl _) h5
      have HR5 := hide (HRr.out.below h5)
      have HQ5 := hide (HQr.out.below h5)
      clear h5 HO1 HO2 HRr HQr HBr
      go_wp2_with fail
      refine hS.mono ?_
      rintro e w6 ⟨rfl, q, hw6⟩
      have hR6 : Rdr w6 w.heap.size (bs r.2.2) m := by rw [hw6]; exact HR5.out.drewN q
      have hQ6 : Rdr w6 w1.heap.size (bs r.2.2) m := by rw [hw6]; exact HQ5.out.drewN q
      have HB6 : Hid (Below w.heap.size w w6) := by show Below _ _ _; rw [hw6]; exact below_drewN HB5.out q
      clear hw6 hS
      have hmm : (m == m) = true := by simp
      go_wp2_with fail
      refine (bad_any _ _ _ _ hR6).mono ?_
      rintro e w7 ⟨rfl, hw7⟩
      obtain rfl : w6 = w7 := hw7.symm
      go_wp2_with fail
      refine (bad_any _ _ _ _ hQ6).mono ?_
      rintro e w7 ⟨rfl, hw7⟩
      obtain rfl : w6 = w7 := hw7.symm
      go_wp2_with fail
      refine (held_any _ _ _ _ hR6).mono ?_
      rintro e w7 ⟨rfl, hw7⟩
      obtain rfl : w6 = w7 := hw7.symm
      go_wp2_with fail
      refine (held_any _ _ _ _ hQ6).mono ?_
      rintro e w7 ⟨rfl, hw7⟩
      obtain rfl : w6 = w7 := hw7.symm
      go_wp2_with fail
      go_ret
      exact ⟨rfl, HB6.out⟩
end Go.Proofs.Ytijdobhdjmmgmaa
