/- The document's Decode. -/
import Derived.Test.YtgdjphiicgiegaaMs9
namespace Go.Proofs.Ytgdjphiicgiegaa
open Go.RowKit Go.Great

theorem Msg.kept {w w' : World} {R g : Nat} {x y : Value} (h : Msg w g x y) (hk : Kept R w w') (hne : g ≠ R) : Msg w' g x y :=
  (World.grownBy.block hk g (lt_of_block h) (fun e => hne (by injection e))).trans h
theorem cell_kept {w w' : World} {R g i : Nat} (hk : Kept R w w') (hg : g < w.heap.size) (hne : g ≠ R) : w'.cell? ⟨g, i, none⟩ = w.cell? ⟨g, i, none⟩ :=
  World.cell?_of_block (a := ⟨g, i, none⟩) (World.grownBy.block hk g hg (fun e => hne (by injection e)))
/-- a row of ints is not the variable of a message -/
theorem int_ne_msg {w : World} {R g o : Nat} {k : Int} {v : Value} {x : Int} (h : Msg w R (.int .u8 k) v) (hv : ∀ y, v ≠ .int .i64 y) (hc : w.cell? ⟨g, o, none⟩ = some (.int .i64 x)) : g ≠ R := by
  rintro rfl
  unfold Msg at h
  unfold World.cell? at hc
  rw [h] at hc
  match o, hc with
  | 0, hc => simp at hc
  | 1, hc => simp at hc; exact hv _ hc
  | n + 2, hc => simp at hc
/-- how far the document's Decode has read -/
def DecRel (w1 : World) (R : Nat) (id : Int) (ws : List Int) (pl : List UInt8) (m : Nat) (a i : Value) (wx : World) : Prop :=
  ∃ (j : Nat) (v : Value), j ≤ m ∧ i = .int .i64 j ∧ a = .int .i64 (totK ws j : Nat) ∧ totK ws j ≤ pl.length ∧ Msg wx R (.int .u8 id) v ∧ IRow wx w1.heap.size v (fieK ws pl j) ∧ Kept R w1 wx
/-- which number the document's Decode takes -/
theorem nuW_cases {x : Int} (hx : Wid x) (l : List UInt8) : ∃ A h : Int, 256 ^ szW x = A ∧ A.tdiv 2 = h ∧ 2 * h = A ∧ A ≤ 4294967296 ∧ 0 < h ∧ ((x < 0 ∧ h ≤ nuK l (szW x) ∧ nuW x l = nuK l (szW x) - A) ∨ (x < 0 ∧ nuK l (szW x) < h ∧ nuW x l = nuK l (szW x)) ∨ (0 ≤ x ∧ nuW x l = nuK l (szW x))) := by
  have hb := nuK_bound l (szW x)
  unfold nuW
  rcases hx with rfl | rfl | rfl | rfl | rfl
  · refine ⟨256, 128, by decide, by decide, by decide, by decide, by decide, .inr (.inr ⟨by decide, ?_⟩)⟩
    rw [if_neg]
    simp only [show szW 1 = 1 from rfl, show (256 : Int) ^ 1 = 256 from rfl, show grW 1 = 255 from rfl] at hb ⊢; omega
  · refine ⟨65536, 32768, by decide, by decide, by decide, by decide, by decide, .inr (.inr ⟨by decide, ?_⟩)⟩
    rw [if_neg]
    simp only [show szW 2 = 2 from rfl, show (256 : Int) ^ 2 = 65536 from rfl, show grW 2 = 65535 from rfl] at hb ⊢; omega
  · refine ⟨4294967296, 2147483648, by decide, by decide, by decide, by decide, by decide, .inr (.inr ⟨by decide, ?_⟩)⟩
    rw [if_neg]
    simp only [show szW 4 = 4 from rfl, show (256 : Int) ^ 4 = 4294967296 from rfl, show grW 4 = 4294967295 from rfl] at hb ⊢; omega
  · refine ⟨65536, 32768, by decide, by decide, by decide, by decide, by decide, ?_⟩
    simp only [show szW (-2) = 2 from rfl, show (256 : Int) ^ 2 = 65536 from rfl, show grW (-2) = 32767 from rfl] at hb ⊢
    by_cases h : 32768 ≤ nuK l 2
    · exact .inl ⟨by decide, h, by rw [if_pos (by omega)]⟩
    · exact .inr (.inl ⟨by decide, by omega, by rw [if_neg (by omega)]⟩)
  · refine ⟨4294967296, 2147483648, by decide, by decide, by decide, by decide, by decide, ?_⟩
    simp only [show szW (-4) = 4 from rfl, show (256 : Int) ^ 4 = 4294967296 from rfl, show grW (-4) = 2147483647 from rfl] at hb ⊢
    by_cases h : 2147483648 ≤ nuK l 4
    · exact .inl ⟨by decide, h, by rw [if_pos (by omega)]⟩
    · exact .inr (.inl ⟨by decide, by omega, by rw [if_neg (by omega)]⟩)
theorem nuW_take (x : Int) (l : List UInt8) : nuW x (l.take (szW x)) = nuW x l := by
  have key : ∀ k, k ≤ szW x → nuK (l.take (szW x)) k = nuK l k := by
    intro k
    induction k with
    | zero => intro _; rfl
    | succ k ih =>
      intro hk
      rw [nuK, nuK, ih (by omega)]
      congr 3
      simp only [List.getD]
      rw [List.getElem?_take, if_pos (by omega)]
  unfold nuW
  rw [key _ (Nat.le_refl _)]
/-- behind the call of Widths -/
theorem dec_start3 {w w1 : World} {s id : Int} {p : ByteArray} (hB : Below (((w.alloc (.cells #[.int .i64 s, .int .i64 id, .string p] 28)).alloc (.cells #[.int .u8 0, .slice none 0 0] 25)).alloc (.cells #[.int .u8 id, .slice none 0 0] 25)).heap.size (((w.alloc (.cells #[.int .i64 s, .int .i64 id, .string p] 28)).alloc (.cells #[.int .u8 0, .slice none 0 0] 25)).alloc (.cells #[.int .u8 id, .slice none 0 0] 25)) w1) : Frm w1 w.heap.size (.int .i64 s) (.int .i64 id) (.string p) ∧ Msg w1 (w.heap.size + 1) (.int .u8 0) (.slice none 0 0) ∧ Msg w1 (w.heap.size + 2) (.int .u8 id) (.slice none 0 0) ∧ Below w.heap.size w w1 ∧ w.heap.size + 3 ≤ w1.heap.size := by
  obtain ⟨h1, h2, h3, h4⟩ := dec_start (below_over hB)
  refine ⟨h1, h2, ?_, h3, ?_⟩
  · have := (msg_new ((w.alloc (.cells #[.int .i64 s, .int .i64 id, .string p] 28)).alloc (.cells #[.int .u8 0, .slice none 0 0] 25)) (.int .u8 id) (.slice none 0 0)).below hB
    rw [size_alloc, size_alloc] at this
    exact this
  · have := hB.size
    rw [size_alloc, size_alloc, size_alloc] at this
    exact this
set_option maxHeartbeats 4000000 in
set_option maxRecDepth 100000 in
theorem rdecode_any (s id : Int) (p : ByteArray) (hp : p.size ≤ 9223372036854775807) (w : World) : Calls Try.prog 15 #[.agg #[.int .i64 s, .int .i64 id, .string p]] w fun e w' => ∃ u, e = .returned (.tuple #[.agg #[.int .u8 (decM id p).1.1, u], .int .i64 (decM id p).2]) ∧ IRow w' w.heap.size u (decM id p).1.2 ∧ Below w.heap.size w w' := by
  obtain ⟨i0, hi, hz0, hz1, hz2⟩ := info_parts info_int
  by_cases h1 : (wsK id).length = 0
  · rw [decM_kind id p h1]
    have hid := wsK_none h1
    have hid2 : id < 1 ∨ (1 ≤ id ∧ 11 < id) := by omega
    clear h1 hid hi hz0 hz1 hz2
    rcases hid2 with h2 | ⟨h2, h3⟩
    all_goals
      go_enter Try.func15, Try.ntmps15
      go_wp2_with fail
      refine bodyPost_ret (msg_back Try.results15 _ _ (w.heap.size + 1) _ _ _ _ rfl rfl (heap_alloc_at _ _ _ (by rw [size_alloc]))) rfl ?_
      exact ⟨_, rfl, IRow.nil _ _, below_over (below_alloc _ _)⟩
  · have hid := wsK_some h1
    have hWI := fun W => rwidths_any id (by omega) (by omega) W
    have hl7 := wsK_len id
    have HW := hide (wsK_wid id)
    have HOK := fun h => hide (decM_ok id p h1 h)
    have HNO := fun h => hide (decM_size id p h1 h)
    generalize decM id p = E at HOK HNO
    generalize wsK id = ws at hWI hl7 h1 HW HOK HNO
    obtain ⟨m, hm⟩ : ∃ m, ws.length = m := ⟨_, rfl⟩
    rw [hm] at h1 hl7 HOK HNO
    have HM := hide hm
    clear hm
    obtain ⟨pl, HPP⟩ : ∃ pl, Hid (p.data.toList = pl) := ⟨_, rfl⟩
    have HPL : Hid (pl.length = p.size) := by show _ = _; rw [← HPP.out, list_size]
    rw [HPP.out] at HOK
    have hwk : IntKind.u8.wrap id = id := by rw [IntKind.wrap_u8]; omega
    go_enter Try.func15, Try.ntmps15
    go_wp2_with fail
    refine (hWI _).mono ?_
    rintro e w1 ⟨v, rfl, hI, hB⟩
    clear hwk hWI
    obtain ⟨hF, hM1, hM2, hB1, hz⟩ := dec_start3 hB
    obtain ⟨av, cv, rfl, hcw⟩ := hI
    rw [HM.out] at hcw ⊢
    have HB1 := hide hB1
    have HF := hide hF
    have HM1 := hide hM1
    have HM2 := hide hM2
    have HCW : Hid (0 < m → ∃ g o, av = some ⟨g, o, none⟩ ∧ g < w1.heap.size ∧ g ≠ w.heap.size + 2 ∧ ∀ i, i < m → w1.cell? ⟨g, o + i, none⟩ = some (.int .i64 (ws.getD i 0))) := by
      intro h0
      obtain ⟨g, o, e, hg, hc⟩ := hcw h0
      exact ⟨g, o, e, hg, int_ne_msg hM2 (by intro y h; cases h) (hc 0 h0), hc⟩
    clear hF hM1 hM2 hB hB1 hcw
    go_wp2_with fail
    go_loopw [6, 7] (fun a i wx => DecRel w1 (w.heap.size + 2) id ws pl m a i wx) (fun _ i _ => m - (intOf i).toNat)
    case atStart => exact ⟨0, _, Nat.zero_le _, rfl, rfl, Nat.zero_le _, HM2.out, IRow.nil _ _, Kept.refl _ _⟩
    case round =>
      obtain ⟨j, v, hj, rfl, rfl, htp, hMr, hR, hK⟩ := hrel
      obtain ⟨wo, rfl⟩ : ∃ wo, wo = wr := ⟨_, rfl⟩
      have HK := hide hK
      have HRr := hide hR
      have HMr := hide hMr
      have HFr := hide (HF.out.kept hK (by omega))
      have HM1r := hide (HM1.out.kept hK (by omega))
      have HB := hide (hK.toBelow HB1.out HB1.out.size (by omega))
      have hws := hK.size
      rw [HPL.out] at htp
      clear hMr hR hK
      by_cases hlt : j < m
      · have hjw : j < ws.length := by rw [HM.out]; exact hlt
        obtain ⟨g, o, rfl, hg, hgne, hcc⟩ := HCW.out (by omega)
        have hwj := widD HW.out j hjw
        have d1 := (cell_kept HK.out hg hgne).trans (hcc j hlt)
        have hSZ := fun W => rsize_any (ws.getD j 0) hwj W
        have hz4 := (wid_sz hwj).2
        have hmo := totK_mono ws (j + 1) m (by omega)
        have HTS : Hid (totK ws (j + 1) = totK ws j + szW (ws.getD j 0)) := rfl
        rw [HTS.out] at hmo
        have HFS : Hid (fieK ws pl (j + 1) = fieK ws pl j ++ [nuW (ws.getD j 0) (pl.drop (totK ws j))]) := by
          show _ = _
          rw [fieK, nuW_take]
        have HL : Hid ((fieK ws pl j).length ≤ 7) := by show _ ≤ _; rw [fieK_len]; omega
        have HCS := hide (nuW_cases hwj (pl.drop (totK ws j)))
        have HDG : Hid (∀ t, t < szW (ws.getD j 0) → ∀ h : totK ws j + t < p.size, nuK (pl.drop (totK ws j)) (t + 1) = nuK (pl.drop (totK ws j)) t + (p[totK ws j + t].toNat : Int) * 256 ^ t) := by
          intro t _ h
          rw [nuK]
          congr 3
          rw [← getD_at p _ h, HPP.out]
          simp only [List.getD]
          rw [List.getElem?_drop]
        have HN0 : Hid (nuK (pl.drop (totK ws j)) 0 = 0) := rfl
        have HNB : Hid (∀ t, 0 ≤ nuK (pl.drop (totK ws j)) t ∧ nuK (pl.drop (totK ws j)) t < 256 ^ t) := nuK_bound _
        have HE3 : Hid (∀ t, t < szW (ws.getD j 0) → totK ws j + t = p.size → E = ((0, []), 3)) := fun t h1 h2 => (HNO (by omega)).out
        generalize szW (ws.getD j 0) = z at hSZ hz4 hmo HTS HCS HDG HE3
        generalize nuW (ws.getD j 0) (pl.drop (totK ws j)) = nn at HFS HCS
        generalize ws.getD j 0 = x at d1 hSZ HCS
        generalize nuK (pl.drop (totK ws j)) = nk at HCS HDG HNB HN0
        generalize fieK ws pl j = l at HFS HL HRr
        generalize totK ws j = T at htp hmo HTS HDG HE3 ⊢
        obtain ⟨va, vc, rfl⟩ := HRr.out.shape
        have f2 := HFr.out.c2
        clear hcc HCW hwj HNO HOK
        go_wp2_with fail
        go_loopw [6, 8, 9, 10] (fun a n un i wx => ∃ t : Nat, t ≤ z ∧ i = .int .i64 t ∧ a = .int .i64 ((T + t : Nat) : Int) ∧ n = .int .i64 (nk t) ∧ un = .int .i64 (256 ^ t) ∧ T + t ≤ p.size ∧ wx = wo) (fun _ _ _ i _ => z - (intOf i).toNat)
        case atStart => exact ⟨0, Nat.zero_le _, rfl, rfl, by rw [HN0.out], rfl, htp, rfl⟩
        case round =>
          obtain ⟨t, ht, rfl, rfl, rfl, rfl, htt, rfl⟩ := hrel
          by_cases hlt2 : t < z
          · by_cases hend : T + t < p.size
            · have HDt := hide (HDG.out t hlt2 hend)
              have hnb := HNB.out t
              have h4 : t = 0 ∨ t = 1 ∨ t = 2 ∨ t = 3 := by omega
              have hA : (256 : Int) ^ t ≤ 16777216 ∧ 0 < (256 : Int) ^ t := by rcases h4 with rfl | rfl | rfl | rfl <;> decide
              have HPS := hide (p256 t)
              have hby := p[T + t].toNat_lt
              have hmul : (p[T + t].toNat : Int) * 256 ^ t = 256 ^ t * (p[T + t].toNat : Int) := Int.mul_comm _ _
              have hm1 : 0 ≤ (256 : Int) ^ t * (p[T + t].toNat : Int) := Int.mul_nonneg (by omega) (by omega)
              have hm2 : (256 : Int) ^ t * (p[T + t].toNat : Int) ≤ 256 ^ t * 255 := Int.mul_le_mul_of_nonneg_left (by omega) (by omega)
              rw [hmul] at HDt
              clear hmul h4
              generalize (256 : Int) ^ t = A at hA HPS HDt hnb hm1 hm2 ⊢
              generalize nk t = y at HDt hnb ⊢
              generalize hq : T + t = q at hend HDt htt hm1 hm2 hby ⊢
              have HQ := hide hq
              clear hq
              obtain ⟨b, hb⟩ : ∃ b : Int, (p[q].toNat : Int) = b := ⟨_, rfl⟩
              obtain ⟨Ab, hAb⟩ : ∃ r : Int, A * b = r := ⟨_, rfl⟩
              rw [hb, hAb] at HDt hm1 hm2
              have hAw : IntKind.i64.wrap (A * b) = Ab := by rw [hAb, IntKind.wrap_i64]; omega
              have HAb := hide hAb
              have HBB := hide hb
              go_wp2_with fail
              refine (hSZ _).mono ?_
              rintro e w3 ⟨rfl, rfl⟩
              go_wp2_with fail
              go_roundw
              case rel => exact ⟨t + 1, by omega, by go_num, by rw [← Nat.add_assoc, HQ.out]; go_num, by rw [HDt.out], by rw [HPS.out], by have := HQ.out; omega, trivial⟩
              case measure => simp [intOf]; omega
            · have HE : Hid (E = ((0, []), 3)) := HE3.out t hlt2 (by omega)
              have hge : ((p.size : Nat) : Int) ≤ ((T + t : Nat) : Int) := by omega
              have k0 := HM1r.out.c0
              have k1 := HM1r.out.c1
              have kz := HM1r.out.fz
              generalize T + t = q at hge htt ⊢
              generalize nk t = y
              generalize (256 : Int) ^ t = A
              clear hi hz0 hz1 hz2 hend
              go_wp2_with fail
              refine (hSZ _).mono ?_
              rintro e w3 ⟨rfl, rfl⟩
              go_wp2_with fail
              refine bodyPost_ret (msg_back Try.results15 _ _ (w.heap.size + 1) _ _ _ _ rfl rfl (HM1r.out.set _ _)) rfl ?_
              rw [HE.out]
              exact ⟨_, rfl, IRow.nil _ _, below_set2 HB.out (by omega) _ _⟩
          · obtain rfl : t = z := by omega
            obtain ⟨A, hh, a1, a2, a3, a4, a5, hcs⟩ := HCS.out
            have hnb := HNB.out t
            rw [a1] at hnb ⊢
            have HTN : Hid (totK ws (j + 1) = T + t) := HTS.out
            generalize T + t = q at htt HTN ⊢
            generalize nk t = y at hnb hcs ⊢
            have HO : ∀ o, Hid ((wr.alloc o).ownsRow w1.heap.size 3 1 (.slice va l.length vc) l.length (l.map (Value.int .i64))) := fun o => HRr.out.alloc o
            have r1 := HMr.out.c1
            clear a1 HTS HCS HDG HNB HE3 HN0 HM1r HFr
            rcases hcs with ⟨b1, b2, b3⟩ | ⟨b1, b2, b3⟩ | ⟨b1, b3⟩
            · have HB3 := hide b3
              clear b3
              go_wp2_with fail
              refine (hSZ _).mono ?_
              rintro e w3 ⟨rfl, rfl⟩
              go_wp2_with (at_builtin; refine wpList_append_own _ rfl (.tmp 76) (.tmp 78) 23 rfl w1.heap.size 3 i0 _ 1 8 Try.underlying23 hi hz0 hz1 hz2 rfl (by decide) _ _ _ rfl (HO _).out ⟨w3.heap.size, 0, none⟩ 1 1 [.int .i64 (y - A)] rfl rfl ?c1 ?c2 ?c3 ?c4 ?c5 ?_)
              case c1 => exact new_cell1 _ _ rfl _ _
              case c2 => intro u hu; simp at hu; subst hu; rfl
              case c3 => have := HL.out; unfold maxLen; omega
              case c4 => have := HL.out; omega
              case c5 => rw [size_alloc]; omega
              intro v' w5 hown5 hgrow5 _
              have HR5 : Hid (IRow w5 w1.heap.size v' (fieK ws pl (j + 1))) := by
                show World.ownsRow _ _ _ _ _ _ _
                rw [HFS.out, HB3.out, List.length_append, List.map_append]; exact hown5
              have hub : ∀ q, (Value.slice va l.length vc).ownBlock = some q → w1.heap.size ≤ q := fun q e => ((HO (.cells #[] 3)).out.lt q e).1
              have HK5 : Hid (Kept (w.heap.size + 2) w1 w5) := (HK.out.alloc _).step hgrow5 (fun q e => .inl (hub q e))
              have hM5 : Msg w5 (w.heap.size + 2) (.int .u8 id) (.slice va l.length vc) := (hgrow5.block _ (by rw [size_alloc]; have := HMr.out.lt; omega) (fun e => by have := hub _ e.symm; omega)).trans (HMr.out.below (below_alloc _ _))
              have bb1 := hM5.c1
              have bz := hM5.fz
              have HM5 := hide hM5
              obtain ⟨va', vc', hva⟩ := HR5.out.shape
              subst hva
              clear hown5 hgrow5 HO hi hz0 hz1 hz2 hub hM5
              go_wp2_with fail
              go_roundw
              case rel => exact ⟨j + 1, _, by omega, by go_num, by rw [HTN.out], by rw [HTN.out, HPL.out]; exact htt, by have := heap_set HM5.out 1 (.slice va' (fieK ws pl (j + 1)).length vc'); simpa [Msg] using this, HR5.out.setCell (by show w.heap.size + 2 < _; omega) _, HK5.out.set 1 _⟩
              case measure => simp [intOf]; omega
            · have HB3 := hide b3
              clear b3
              go_wp2_with fail
              refine (hSZ _).mono ?_
              rintro e w3 ⟨rfl, rfl⟩
              go_wp2_with (at_builtin; refine wpList_append_own _ rfl (.tmp 76) (.tmp 78) 23 rfl w1.heap.size 3 i0 _ 1 8 Try.underlying23 hi hz0 hz1 hz2 rfl (by decide) _ _ _ rfl (HO _).out ⟨w3.heap.size, 0, none⟩ 1 1 [.int .i64 y] rfl rfl ?c1 ?c2 ?c3 ?c4 ?c5 ?_)
              case c1 => exact new_cell1 _ _ rfl _ _
              case c2 => intro u hu; simp at hu; subst hu; rfl
              case c3 => have := HL.out; unfold maxLen; omega
              case c4 => have := HL.out; omega
              case c5 => rw [size_alloc]; omega
              intro v' w5 hown5 hgrow5 _
              have HR5 : Hid (IRow w5 w1.heap.size v' (fieK ws pl (j + 1))) := by
                show World.ownsRow _ _ _ _ _ _ _
                rw [HFS.out, HB3.out, List.length_append, List.map_append]; exact hown5
              have hub : ∀ q, (Value.slice va l.length vc).ownBlock = some q → w1.heap.size ≤ q := fun q e => ((HO (.cells #[] 3)).out.lt q e).1
              have HK5 : Hid (Kept (w.heap.size + 2) w1 w5) := (HK.out.alloc _).step hgrow5 (fun q e => .inl (hub q e))
              have hM5 : Msg w5 (w.heap.size + 2) (.int .u8 id) (.slice va l.length vc) := (hgrow5.block _ (by rw [size_alloc]; have := HMr.out.lt; omega) (fun e => by have := hub _ e.symm; omega)).trans (HMr.out.below (below_alloc _ _))
              have bb1 := hM5.c1
              have bz := hM5.fz
              have HM5 := hide hM5
              obtain ⟨va', vc', hva⟩ := HR5.out.shape
              subst hva
              clear hown5 hgrow5 HO hi hz0 hz1 hz2 hub hM5
              go_wp2_with fail
              go_roundw
              case rel => exact ⟨j + 1, _, by omega, by go_num, by rw [HTN.out], by rw [HTN.out, HPL.out]; exact htt, by have := heap_set HM5.out 1 (.slice va' (fieK ws pl (j + 1)).length vc'); simpa [Msg] using this, HR5.out.setCell (by show w.heap.size + 2 < _; omega) _, HK5.out.set 1 _⟩
              case measure => simp [intOf]; omega
            · have HB3 := hide b3
              clear b3
              go_wp2_with fail
              refine (hSZ _).mono ?_
              rintro e w3 ⟨rfl, rfl⟩
              go_wp2_with (at_builtin; refine wpList_append_own _ rfl (.tmp 76) (.tmp 78) 23 rfl w1.heap.size 3 i0 _ 1 8 Try.underlying23 hi hz0 hz1 hz2 rfl (by decide) _ _ _ rfl (HO _).out ⟨w3.heap.size, 0, none⟩ 1 1 [.int .i64 y] rfl rfl ?c1 ?c2 ?c3 ?c4 ?c5 ?_)
              case c2 => rfl
              case c3 => have := HL.out; unfold maxLen; omega
              case c4 => have := HL.out; omega
              case c5 => omega
              intro v' w5 hown5 hgrow5 _
              have HR5 : Hid (IRow w5 w1.heap.size v' (fieK ws pl (j + 1))) := by
                show World.ownsRow _ _ _ _ _ _ _
                rw [HFS.out, HB3.out, List.length_append, List.map_append]; exact hown5
              have hub : ∀ q, (Value.slice va l.length vc).ownBlock = some q → w1.heap.size ≤ q := fun q e => ((HO (.cells #[] 3)).out.lt q e).1
              have HK5 : Hid (Kept (w.heap.size + 2) w1 w5) := (HK.out.alloc _).step hgrow5 (fun q e => .inl (hub q e))
              have hM5 : Msg w5 (w.heap.size + 2) (.int .u8 id) (.slice va l.length vc) := (hgrow5.block _ (by rw [size_alloc]; have := HMr.out.lt; omega) (fun e => by have := hub _ e.symm; omega)).trans (HMr.out.below (below_alloc _ _))
              have bb1 := hM5.c1
              have bz := hM5.fz
              have HM5 := hide hM5
              obtain ⟨va', vc', hva⟩ := HR5.out.shape
              subst hva
              clear hown5 hgrow5 HO hi hz0 hz1 hz2 hub hM5
              go_wp2_with fail
              go_roundw
              case rel => exact ⟨j + 1, _, by omega, by go_num, by rw [HTN.out], by rw [HTN.out, HPL.out]; exact htt, by have := heap_set HM5.out 1 (.slice va' (fieK ws pl (j + 1)).length vc'); simpa [Msg] using this, HR5.out.setCell (by show w.heap.size + 2 < _; omega) _, HK5.out.set 1 _⟩
              case measure => simp [intOf]; omega
      · obtain rfl : j = m := by omega
        have hl : (decide ((j : Int) < (j : Int))) = false := by simp
        obtain ⟨va, vc, rfl⟩ := HRr.out.shape
        have f2 := HFr.out.c2
        have k0 := HM1r.out.c0
        have k1 := HM1r.out.c1
        have kz := HM1r.out.fz
        have r0 := HMr.out.c0
        have r1 := HMr.out.c1
        by_cases hq : p.size = totK ws j
        · have HE := hide (HOK hq).out
          have hne : (((totK ws j : Nat) : Int) != ((p.size : Nat) : Int)) = false := by rw [hq]; simp
          generalize totK ws j = T at hne hq ⊢
          clear hi hz0 hz1 hz2 hq HOK HNO
          go_wp2_with fail
          refine bodyPost_ret (msg_back Try.results15 _ _ (w.heap.size + 1) _ _ _ _ rfl rfl (HM1r.out.set _ _)) rfl ?_
          rw [HE.out]
          exact ⟨_, rfl, ((HRr.out.setCell (a := ⟨w.heap.size + 1, 0, none⟩) (by show w.heap.size + 1 < _; omega) _).setCell (a := ⟨w.heap.size + 1, 1, none⟩) (by show w.heap.size + 1 < _; omega) _).lower (by omega), below_set2 HB.out (by omega) _ _⟩
        · have HE := hide (HNO hq).out
          have hne : (((totK ws j : Nat) : Int) != ((p.size : Nat) : Int)) = true := by simp; omega
          generalize totK ws j = T at hne hq ⊢
          clear hi hz0 hz1 hz2 hq HOK HNO
          go_wp2_with fail
          refine bodyPost_ret (msg_back Try.results15 _ _ (w.heap.size + 1) _ _ _ _ rfl rfl (HM1r.out.set _ _)) rfl ?_
          rw [HE.out]
          exact ⟨_, rfl, IRow.nil _ _, below_set2 HB.out (by omega) _ _⟩
end Go.Proofs.Ytgdjphiicgiegaa
