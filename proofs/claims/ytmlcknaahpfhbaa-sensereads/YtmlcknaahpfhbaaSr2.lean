/- The document's Write. -/
import Derived.Test.YtmlcknaahpfhbaaSr1
namespace Go.Proofs.Ytmlcknaahpfhbaa
open Go.RowKit Go.Great

/-- the number that is written in the place of one below 0 -/
theorem up_num {w n : Int} (hw : Wid w) (h : fitB w n = true) : (0 ≤ n → n < 256 ^ szW w) ∧ (n < 0 → 0 ≤ n + 256 ^ szW w ∧ n + 256 ^ szW w < 256 ^ szW w) ∧ (256 : Int) ^ szW w ≤ 4294967296 ∧ -2147483648 ≤ n := by
  rw [fitB_iff] at h
  rcases wid_cases hw with h1 | h1 | h1 | h1 | h1
  all_goals
    rw [h1.2.1, h1.2.2] at h
    rw [h1.1]
    simp only [show (256 : Int) ^ 1 = 256 from rfl, show (256 : Int) ^ 2 = 65536 from rfl, show (256 : Int) ^ 4 = 4294967296 from rfl]
    omega
theorem div_next (N : Int) (j : Nat) : N / 256 ^ j / 256 = N / 256 ^ (j + 1) := by
  rw [p256, Int.ediv_ediv_of_nonneg (Int.le_of_lt (p256_pos j))]
/-- the inner loop of the document's Encode: what is written so far -/
def WrRel (w1 : World) (p : List UInt8) (N : Int) (z : Nat) (v n i : Value) (wx : World) : Prop :=
  ∃ j : Nat, j ≤ z ∧ i = .int .i64 j ∧ n = .int .i64 (N / 256 ^ j) ∧ BRow wx w1.heap.size v (p ++ byK N j) ∧ Below w1.heap.size w1 wx
theorem low_neg {x : Int} (hx : Wid x) (h : x < 0) : ∃ p : Int, 256 ^ szW x = 2 * p ∧ 0 < p ∧ p ≤ 2147483648 ∧ leW x = -p ∧ grW x = p - 1 := by
  rcases hx with rfl | rfl | rfl | rfl | rfl
  · omega
  · omega
  · omega
  · exact ⟨32768, by decide⟩
  · exact ⟨2147483648, by decide⟩
theorem low_pos {x : Int} (hx : Wid x) (h : 0 ≤ x) : ∃ p : Int, 256 ^ szW x = p ∧ 0 < p ∧ p ≤ 4294967296 ∧ leW x = 0 ∧ grW x = p - 1 := by
  rcases hx with rfl | rfl | rfl | rfl | rfl
  · exact ⟨256, by decide⟩
  · exact ⟨65536, by decide⟩
  · exact ⟨4294967296, by decide⟩
  · omega
  · omega
set_option maxRecDepth 100000 in
set_option maxHeartbeats 8000000 in
theorem rwrite_any (s : Nat) (hs : s < 256) (ns : List Int) (u : Value) (w : World) (hu : Ints w u ns) (hns : ns.length ≤ 4611686018427387904) : Calls Try.prog 16 #[.int .u8 (s : Int), u] w fun e w' => e = .returned (.tuple #[.string (bs (wrB s ns)), .int .i64 (wrE s ns)]) ∧ Below w.heap.size w w' := by
  have HU := hide hu
  obtain ⟨au, cu, rfl, _⟩ := hu
  have hWI := fun W => rwidths_any s hs W
  have hl5 := wsS_len s
  obtain ⟨i0, hi, hz0, hz1, hz2⟩ := info_parts info_byte
  by_cases h1 : (wsS s).length = 0
  · obtain ⟨e1, e2⟩ := wrE_kind ns h1
    rw [e1, e2]
    have HL := hide h1
    clear h1 hl5 e1 e2 hi hz0 hz1 hz2
    generalize ns.length = m at *
    go_enter Try.func16, Try.ntmps16
    go_wp2_with fail
    refine (hWI _).mono ?_
    rintro e w1 ⟨v, rfl, hI, hB⟩
    obtain ⟨av, cv, rfl, _⟩ := hI
    rw [HL.out]
    have HB := hide hB
    clear hB hWI
    go_wp2_with fail
    go_ret2
    exact ⟨rfl, HB.out⟩
  · by_cases h2 : ns.length = (wsS s).length
    · have HW := hide (wsS_wid s)
      have HOK := fun a => hide (wrE_ok h1 h2 a)
      have HNO := fun a => hide (wrE_range h1 h2 a)
      obtain ⟨E, hE⟩ : ∃ E, wrE s ns = E := ⟨_, rfl⟩
      obtain ⟨B, hBB⟩ : ∃ B, wrB s ns = B := ⟨_, rfl⟩
      rw [hE, hBB] at HOK HNO
      rw [hE, hBB]
      clear hE hBB
      generalize wsS s = ws at hWI hl5 h1 h2 HW HOK HNO
      obtain ⟨m, hm⟩ : ∃ m, ws.length = m := ⟨_, rfl⟩
      rw [hm] at h1 h2 hl5 HOK HNO
      have HM := hide hm
      have HN2 := hide h2
      rw [h2] at HU ⊢
      have hl0 : ((m : Int) == 0) = false := by rw [beq_eq_false_iff_ne]; omega
      have HT := hide (tot_le4 ws HW.out)
      have hs8 : (s : Int) % 256 = s := by omega
      clear h2 hm hns
      go_enter Try.func16, Try.ntmps16
      go_wp2_with fail
      refine (hWI _).mono ?_
      rintro e w1 ⟨v, rfl, hI, hB⟩
      have HI := hide hI
      have HI2 := hide (HU.out.below hB)
      have HB := hide hB
      obtain ⟨av, cv, rfl, _⟩ := hI
      rw [HM.out] at HI ⊢
      clear hB hWI
      go_wp2_with (at_builtin; refine wpList_append_own _ rfl (.tmp 23) (.tmp 25) 40 rfl w1.heap.size 5 i0 _ 1 1 Try.underlying40 hi hz0 hz1 hz2 rfl (by decide) (.slice none 0 0) 0 [] rfl (World.ownsRow_nil _ _ _ _) ⟨w1.heap.size, 0, none⟩ 1 1 [.int .u8 (s : Int)] rfl rfl ?c1 ?c2 ?c3 ?c4 ?c5 ?_)
      case c1 => exact new_cell1 _ _ rfl _ _
      case c2 => intro u hu; simp at hu; subst hu; rfl
      case c3 => decide
      case c4 => decide
      case c5 => rw [size_alloc]; omega
      intro vb w2 hown2 hgrow2 _
      have HR2 : Hid (BRow w2 w1.heap.size vb (UInt8.ofNat s :: payK ws ns 0)) := by
        show World.ownsRow _ _ _ _ _ _ _
        have e : bytesV (UInt8.ofNat s :: payK ws ns 0) = [.int .u8 (s : Int)] := by
          show [Value.int .u8 ((UInt8.ofNat s).toNat : Int)] = _
          rw [UInt8.toNat_ofNat']
          congr 2
        rw [e]; exact hown2
      have HB2 : Hid (Below w1.heap.size w1 w2) := hide ((below_alloc w1 _).grown hgrow2 (by rw [size_alloc]; omega) (fun j e => by cases e))
      clear hown2 hgrow2
      go_wp2_with fail
      go_loopw [7, 8] (fun v i wx => ∃ j : Nat, j ≤ m ∧ i = .int .i64 j ∧ Hid (fitsK ws ns j = true) ∧ Hid (BRow wx w1.heap.size v (UInt8.ofNat s :: payK ws ns j)) ∧ Hid (Below w1.heap.size w1 wx)) (fun _ i _ => m - (intOf i).toNat)
      case atStart => exact ⟨0, Nat.zero_le _, rfl, rfl, HR2, HB2⟩
      case round =>
        obtain ⟨j, hj, rfl, HFT, HRw, HBw⟩ := hrel
        by_cases hlt : j < m
        · have hjw : j < ws.length := by rw [HM.out]; exact hlt
          have hjn : j < ns.length := by rw [HN2.out]; exact hlt
          obtain ⟨g, o, rfl, hg, e1⟩ := HI.out.at j hjw
          obtain ⟨g2, o2, rfl, hg2, e2⟩ := HI2.out.at j hjn
          have hwj := widD HW.out j hjw
          have hAL := fun W => rall_any (ws.getD j 0) hwj W
          have hSZ := fun W => rbytes_any (ws.getD j 0) hwj W
          have HFN : Hid (fitB (ws.getD j 0) (ns.getD j 0) = false → fitsK ws ns m = false) := fun h => fitsK_not hlt h
          have HFS : Hid (fitsK ws ns (j + 1) = (fitsK ws ns j && fitB (ws.getD j 0) (ns.getD j 0))) := rfl
          have HUP : Hid (fitB (ws.getD j 0) (ns.getD j 0) = true → _) := fun h => up_num hwj h
          have HP : Hid (UInt8.ofNat s :: payK ws ns (j + 1) = (UInt8.ofNat s :: payK ws ns j) ++ byK (ns.getD j 0) (szW (ws.getD j 0))) := rfl
          have HPL : Hid ((UInt8.ofNat s :: payK ws ns j).length ≤ 29) := hide (by
            rw [List.length_cons, payK_len]
            have := HT.out j (by omega)
            omega)
          have hz4 := (wid_sz hwj).2
          have HFB : Hid (fitB (ws.getD j 0) (ns.getD j 0) = (decide (leW (ws.getD j 0) ≤ ns.getD j 0) && decide (ns.getD j 0 ≤ grW (ws.getD j 0)))) := rfl
          have HLN := hide (fun h => low_neg hwj h)
          have HLP := hide (fun h => low_pos hwj h)
          generalize fitB (ws.getD j 0) (ns.getD j 0) = f at HFN HFS HUP HFB
          generalize leW (ws.getD j 0) = le at HFB HLN HLP
          generalize grW (ws.getD j 0) = gr at HFB HLN HLP
          generalize szW (ws.getD j 0) = z at hAL hSZ HUP HP hz4 HLN HLP
          generalize ws.getD j 0 = x at e1 hAL hSZ HLN HLP
          generalize ns.getD j 0 = n at e2 HUP HP HFB
          generalize UInt8.ofNat s :: payK ws ns j = p at HP HPL HRw
          have d1 := (HBw.out.cell (p := ⟨g, o + j, none⟩) hg).trans e1
          have d2 := (HBw.out.cell (p := ⟨g2, o2 + j, none⟩) hg2).trans e2
          have E1 := hide e1
          clear e1 e2 hwj
          by_cases hx : x < 0
          · obtain ⟨A, a1, a2, a3, a4, a5⟩ := HLN.out hx
            have q1 : (-(2 * A)).tdiv 2 = -A := by rw [Int.neg_tdiv, Int.mul_tdiv_cancel_left _ (by decide)]
            subst a4 a5
            rw [a1] at hAL
            clear HLN HLP
            by_cases hn1 : n < -A
            · obtain ⟨y1, y2⟩ := (HNO (HFN.out (by rw [HFB.out]; simp; omega))).out
              go_wp2_with fail
              refine (hAL _).mono ?_
              rintro e w4 ⟨rfl, hw4⟩
              obtain rfl := hw4.symm
              go_wp2_with fail
              go_ret2
              exact ⟨by first | (rw [y1, y2]; rfl) | (rw [y2]; rfl) | rfl, below_next HB.out (Nat.le_refl _) HBw.out⟩
            · by_cases hn2 : A - 1 < n
              · obtain ⟨y1, y2⟩ := (HNO (HFN.out (by rw [HFB.out]; simp; omega))).out
                go_wp2_with fail
                refine (hAL _).mono ?_
                rintro e w4 ⟨rfl, hw4⟩
                obtain rfl := hw4.symm
                go_wp2_with fail
                refine (hAL _).mono ?_
                rintro e w4 ⟨rfl, hw4⟩
                obtain rfl := hw4.symm
                go_wp2_with fail
                go_ret2
                exact ⟨by first | (rw [y1, y2]; rfl) | (rw [y2]; rfl) | rfl, below_next HB.out (Nat.le_refl _) HBw.out⟩
              · have hf : f = true := by rw [HFB.out]; simp; omega
                subst hf
                obtain ⟨hu1, hu2, hu3, hu4⟩ := HUP.out rfl
                clear HUP HFN
                by_cases hn : n < 0
                · obtain ⟨hN0, hN1⟩ := hu2 hn
                  have HNB : Hid (byK (n + 256 ^ z) z = byK n z) := byK_mod _ _ _ (by rw [Int.add_emod_right])
                  rw [a1] at hN0 hN1 hu3 HNB
                  obtain ⟨N, hNN⟩ : ∃ N, n + 2 * A = N := ⟨_, rfl⟩
                  have HNN := hide hNN
                  have hwr : IntKind.i64.wrap (n + 2 * A) = N := by rw [IntKind.wrap_i64]; omega
                  rw [hNN] at hN0 hN1 HNB
                  clear hNN hu1 hu2
                  go_wp2_with fail
                  refine (hAL _).mono ?_
                  rintro e w4 ⟨rfl, hw4⟩
                  obtain rfl := hw4.symm
                  go_wp2_with fail
                  refine (hAL _).mono ?_
                  rintro e w4 ⟨rfl, hw4⟩
                  obtain rfl := hw4.symm
                  go_wp2_with fail
                  refine (hAL _).mono ?_
                  rintro e w4 ⟨rfl, hw4⟩
                  obtain rfl := hw4.symm
                  go_wp2_with fail
                  try rw [HNN.out]
                  clear d1 d2 hAL hwr
                  go_loopw [7, 9, 11] (fun v n i wx => WrRel w1 p N z v n i wx) (fun _ _ i _ => z - (intOf i).toNat)
                  case atStart => exact ⟨0, Nat.zero_le _, rfl, by rw [Int.pow_zero, Int.ediv_one], by rw [byK, List.append_nil]; exact HRw.out, HBw.out⟩
                  case round =>
                    obtain ⟨t, ht, rfl, rfl, hR2, hB2⟩ := hrel
                    have HB2 := hide hB2
                    have d1 := (hB2.cell (p := ⟨g, o + j, none⟩) hg).trans E1.out
                    by_cases hlt2 : t < z
                    · have HL : Hid ((p ++ byK N t).length ≤ 33) := hide (by
                        rw [List.length_append, byK_len]
                        have := HPL.out
                        omega)
                      have HS : Hid (p ++ byK N (t + 1) = (p ++ byK N t) ++ [UInt8.ofNat (N / 256 ^ t % 256).toNat]) := hide (by
                        rw [byK, List.append_assoc])
                      have HDN := hide (div_next N t)
                      have hq0 : 0 ≤ N / 256 ^ t := Int.ediv_nonneg hN0 (Int.le_of_lt (p256_pos t))
                      have hq1 : N / 256 ^ t ≤ 4294967296 := Int.le_trans (Int.ediv_le_self _ hN0) (by omega)
                      generalize p ++ byK N t = l at HL HS hR2
                      generalize N / 256 ^ t = q at HS HDN hq0 hq1 ⊢
                      have HO : ∀ o, Hid ((wr.alloc o).ownsRow w1.heap.size 5 1 u7 l.length (bytesV l)) := fun o => hR2.alloc o
                      have hws := hB2.size
                      clear hR2 hB2
                      go_wp2_with fail
                      refine (hSZ _).mono ?_
                      rintro e w3 ⟨rfl, rfl⟩
                      go_wp2_with (at_builtin; refine wpList_append_own _ rfl (.tmp 82) (.tmp 86) 40 rfl w1.heap.size 5 i0 _ 1 1 Try.underlying40 hi hz0 hz1 hz2 rfl (by decide) _ _ _ rfl (HO _).out ⟨w3.heap.size, 0, none⟩ 1 1 [.int .u8 (q % 256)] rfl rfl ?c1 ?c2 ?c3 ?c4 ?c5 ?_)
                      case c1 => exact new_cell1 _ _ rfl _ _
                      case c2 => intro u hu; simp at hu; subst hu; rfl
                      case c3 => have := HL.out; unfold maxLen; omega
                      case c4 => have := HL.out; omega
                      case c5 => rw [size_alloc]; omega
                      intro v' w5 hown5 hgrow5 _
                      have HR5 : Hid (BRow w5 w1.heap.size v' (p ++ byK N (t + 1))) := by
                        show World.ownsRow _ _ _ _ _ _ _
                        rw [HS.out, List.length_append, bytesV_app, show bytesV [UInt8.ofNat (q % 256).toNat] = [Value.int .u8 (q % 256)] from congrArg (fun z => [Value.int .u8 z]) (byte_back _)]; exact hown5
                      have HB5 : Hid (Below w1.heap.size w1 w5) := ((HB2.out.alloc hws _).grown hgrow5 (by rw [size_alloc]; omega) (fun j e => ((HO (.cells #[] 5)).out.lt j e).1))
                      clear hown5 hgrow5 HO hi hz0 hz1 hz2 d1
                      go_wp2_with fail
                      go_roundw
                      case rel => exact ⟨t + 1, by omega, by go_num, by rw [← HDN.out], HR5.out, HB5.out⟩
                      case measure => simp [intOf]; omega
                    · obtain rfl : t = z := by omega
                      have HR3 : Hid (BRow wr w1.heap.size u7 (UInt8.ofNat s :: payK ws ns (j + 1))) := by show BRow _ _ _ _; rw [HP.out, ← HNB.out]; exact hR2
                      generalize N / 256 ^ t = q
                      clear hR2 hB2 hi hz0 hz1 hz2
                      go_wp2_with fail
                      refine (hSZ _).mono ?_
                      rintro e w3 ⟨rfl, rfl⟩
                      go_wp2_with fail
                      go_roundw
                      case rel => exact ⟨j + 1, by omega, by go_num, by show _ = _; rw [HFS.out, HFT.out]; rfl, HR3, HB2⟩
                      case measure => simp [intOf]; omega
                · have hN0 : 0 ≤ n := by omega
                  have hN1 := hu1 hN0
                  rw [a1] at hN1 hu3
                  obtain ⟨N, HNN⟩ : ∃ N, Hid (n = N) := ⟨_, rfl⟩
                  have HNB : Hid (byK N z = byK n z) := by show _ = _; rw [HNN.out]
                  rw [HNN.out] at d2 hN0 hN1 hn hn1 hn2
                  clear hu1 hu2
                  go_wp2_with fail
                  refine (hAL _).mono ?_
                  rintro e w4 ⟨rfl, hw4⟩
                  obtain rfl := hw4.symm
                  go_wp2_with fail
                  refine (hAL _).mono ?_
                  rintro e w4 ⟨rfl, hw4⟩
                  obtain rfl := hw4.symm
                  go_wp2_with fail
                  clear d1 d2 hAL
                  go_loopw [7, 9, 11] (fun v n i wx => WrRel w1 p N z v n i wx) (fun _ _ i _ => z - (intOf i).toNat)
                  case atStart => exact ⟨0, Nat.zero_le _, rfl, by rw [Int.pow_zero, Int.ediv_one], by rw [byK, List.append_nil]; exact HRw.out, HBw.out⟩
                  case round =>
                    obtain ⟨t, ht, rfl, rfl, hR2, hB2⟩ := hrel
                    have HB2 := hide hB2
                    have d1 := (hB2.cell (p := ⟨g, o + j, none⟩) hg).trans E1.out
                    by_cases hlt2 : t < z
                    · have HL : Hid ((p ++ byK N t).length ≤ 33) := hide (by
                        rw [List.length_append, byK_len]
                        have := HPL.out
                        omega)
                      have HS : Hid (p ++ byK N (t + 1) = (p ++ byK N t) ++ [UInt8.ofNat (N / 256 ^ t % 256).toNat]) := hide (by
                        rw [byK, List.append_assoc])
                      have HDN := hide (div_next N t)
                      have hq0 : 0 ≤ N / 256 ^ t := Int.ediv_nonneg hN0 (Int.le_of_lt (p256_pos t))
                      have hq1 : N / 256 ^ t ≤ 4294967296 := Int.le_trans (Int.ediv_le_self _ hN0) (by omega)
                      generalize p ++ byK N t = l at HL HS hR2
                      generalize N / 256 ^ t = q at HS HDN hq0 hq1 ⊢
                      have HO : ∀ o, Hid ((wr.alloc o).ownsRow w1.heap.size 5 1 u7 l.length (bytesV l)) := fun o => hR2.alloc o
                      have hws := hB2.size
                      clear hR2 hB2
                      go_wp2_with fail
                      refine (hSZ _).mono ?_
                      rintro e w3 ⟨rfl, rfl⟩
                      go_wp2_with (at_builtin; refine wpList_append_own _ rfl (.tmp 82) (.tmp 86) 40 rfl w1.heap.size 5 i0 _ 1 1 Try.underlying40 hi hz0 hz1 hz2 rfl (by decide) _ _ _ rfl (HO _).out ⟨w3.heap.size, 0, none⟩ 1 1 [.int .u8 (q % 256)] rfl rfl ?c1 ?c2 ?c3 ?c4 ?c5 ?_)
                      case c1 => exact new_cell1 _ _ rfl _ _
                      case c2 => intro u hu; simp at hu; subst hu; rfl
                      case c3 => have := HL.out; unfold maxLen; omega
                      case c4 => have := HL.out; omega
                      case c5 => rw [size_alloc]; omega
                      intro v' w5 hown5 hgrow5 _
                      have HR5 : Hid (BRow w5 w1.heap.size v' (p ++ byK N (t + 1))) := by
                        show World.ownsRow _ _ _ _ _ _ _
                        rw [HS.out, List.length_append, bytesV_app, show bytesV [UInt8.ofNat (q % 256).toNat] = [Value.int .u8 (q % 256)] from congrArg (fun z => [Value.int .u8 z]) (byte_back _)]; exact hown5
                      have HB5 : Hid (Below w1.heap.size w1 w5) := ((HB2.out.alloc hws _).grown hgrow5 (by rw [size_alloc]; omega) (fun j e => ((HO (.cells #[] 5)).out.lt j e).1))
                      clear hown5 hgrow5 HO hi hz0 hz1 hz2 d1
                      go_wp2_with fail
                      go_roundw
                      case rel => exact ⟨t + 1, by omega, by go_num, by rw [← HDN.out], HR5.out, HB5.out⟩
                      case measure => simp [intOf]; omega
                    · obtain rfl : t = z := by omega
                      have HR3 : Hid (BRow wr w1.heap.size u7 (UInt8.ofNat s :: payK ws ns (j + 1))) := by show BRow _ _ _ _; rw [HP.out, ← HNB.out]; exact hR2
                      generalize N / 256 ^ t = q
                      clear hR2 hB2 hi hz0 hz1 hz2
                      go_wp2_with fail
                      refine (hSZ _).mono ?_
                      rintro e w3 ⟨rfl, rfl⟩
                      go_wp2_with fail
                      go_roundw
                      case rel => exact ⟨j + 1, by omega, by go_num, by show _ = _; rw [HFS.out, HFT.out]; rfl, HR3, HB2⟩
                      case measure => simp [intOf]; omega
          · obtain ⟨A, a1, a2, a3, a4, a5⟩ := HLP.out (by omega)
            subst a4 a5
            rw [a1] at hAL
            clear HLN HLP
            by_cases hn1 : n < 0
            · obtain ⟨y1, y2⟩ := (HNO (HFN.out (by rw [HFB.out]; simp; omega))).out
              go_wp2_with fail
              go_ret2
              exact ⟨by first | (rw [y1, y2]; rfl) | (rw [y2]; rfl) | rfl, below_next HB.out (Nat.le_refl _) HBw.out⟩
            · by_cases hn2 : A - 1 < n
              · obtain ⟨y1, y2⟩ := (HNO (HFN.out (by rw [HFB.out]; simp; omega))).out
                go_wp2_with fail
                refine (hAL _).mono ?_
                rintro e w4 ⟨rfl, hw4⟩
                obtain rfl := hw4.symm
                go_wp2_with fail
                go_ret2
                exact ⟨by first | (rw [y1, y2]; rfl) | (rw [y2]; rfl) | rfl, below_next HB.out (Nat.le_refl _) HBw.out⟩
              · have hf : f = true := by rw [HFB.out]; simp; omega
                subst hf
                obtain ⟨hu1, hu2, hu3, hu4⟩ := HUP.out rfl
                clear HUP HFN
                have hN0 : 0 ≤ n := by omega
                have hN1 := hu1 hN0
                rw [a1] at hN1 hu3
                obtain ⟨N, HNN⟩ : ∃ N, Hid (n = N) := ⟨_, rfl⟩
                have HNB : Hid (byK N z = byK n z) := by show _ = _; rw [HNN.out]
                rw [HNN.out] at d2 hN0 hN1 hn1 hn2
                clear hu1 hu2
                go_wp2_with fail
                refine (hAL _).mono ?_
                rintro e w4 ⟨rfl, hw4⟩
                obtain rfl := hw4.symm
                go_wp2_with fail
                clear d1 d2 hAL
                go_loopw [7, 9, 11] (fun v n i wx => WrRel w1 p N z v n i wx) (fun _ _ i _ => z - (intOf i).toNat)
                case atStart => exact ⟨0, Nat.zero_le _, rfl, by rw [Int.pow_zero, Int.ediv_one], by rw [byK, List.append_nil]; exact HRw.out, HBw.out⟩
                case round =>
                  obtain ⟨t, ht, rfl, rfl, hR2, hB2⟩ := hrel
                  have HB2 := hide hB2
                  have d1 := (hB2.cell (p := ⟨g, o + j, none⟩) hg).trans E1.out
                  by_cases hlt2 : t < z
                  · have HL : Hid ((p ++ byK N t).length ≤ 33) := hide (by
                      rw [List.length_append, byK_len]
                      have := HPL.out
                      omega)
                    have HS : Hid (p ++ byK N (t + 1) = (p ++ byK N t) ++ [UInt8.ofNat (N / 256 ^ t % 256).toNat]) := hide (by
                      rw [byK, List.append_assoc])
                    have HDN := hide (div_next N t)
                    have hq0 : 0 ≤ N / 256 ^ t := Int.ediv_nonneg hN0 (Int.le_of_lt (p256_pos t))
                    have hq1 : N / 256 ^ t ≤ 4294967296 := Int.le_trans (Int.ediv_le_self _ hN0) (by omega)
                    generalize p ++ byK N t = l at HL HS hR2
                    generalize N / 256 ^ t = q at HS HDN hq0 hq1 ⊢
                    have HO : ∀ o, Hid ((wr.alloc o).ownsRow w1.heap.size 5 1 u7 l.length (bytesV l)) := fun o => hR2.alloc o
                    have hws := hB2.size
                    clear hR2 hB2
                    go_wp2_with fail
                    refine (hSZ _).mono ?_
                    rintro e w3 ⟨rfl, rfl⟩
                    go_wp2_with (at_builtin; refine wpList_append_own _ rfl (.tmp 82) (.tmp 86) 40 rfl w1.heap.size 5 i0 _ 1 1 Try.underlying40 hi hz0 hz1 hz2 rfl (by decide) _ _ _ rfl (HO _).out ⟨w3.heap.size, 0, none⟩ 1 1 [.int .u8 (q % 256)] rfl rfl ?c1 ?c2 ?c3 ?c4 ?c5 ?_)
                    case c1 => exact new_cell1 _ _ rfl _ _
                    case c2 => intro u hu; simp at hu; subst hu; rfl
                    case c3 => have := HL.out; unfold maxLen; omega
                    case c4 => have := HL.out; omega
                    case c5 => rw [size_alloc]; omega
                    intro v' w5 hown5 hgrow5 _
                    have HR5 : Hid (BRow w5 w1.heap.size v' (p ++ byK N (t + 1))) := by
                      show World.ownsRow _ _ _ _ _ _ _
                      rw [HS.out, List.length_append, bytesV_app, show bytesV [UInt8.ofNat (q % 256).toNat] = [Value.int .u8 (q % 256)] from congrArg (fun z => [Value.int .u8 z]) (byte_back _)]; exact hown5
                    have HB5 : Hid (Below w1.heap.size w1 w5) := ((HB2.out.alloc hws _).grown hgrow5 (by rw [size_alloc]; omega) (fun j e => ((HO (.cells #[] 5)).out.lt j e).1))
                    clear hown5 hgrow5 HO hi hz0 hz1 hz2 d1
                    go_wp2_with fail
                    go_roundw
                    case rel => exact ⟨t + 1, by omega, by go_num, by rw [← HDN.out], HR5.out, HB5.out⟩
                    case measure => simp [intOf]; omega
                  · obtain rfl : t = z := by omega
                    have HR3 : Hid (BRow wr w1.heap.size u7 (UInt8.ofNat s :: payK ws ns (j + 1))) := by show BRow _ _ _ _; rw [HP.out, ← HNB.out]; exact hR2
                    generalize N / 256 ^ t = q
                    clear hR2 hB2 hi hz0 hz1 hz2
                    go_wp2_with fail
                    refine (hSZ _).mono ?_
                    rintro e w3 ⟨rfl, rfl⟩
                    go_wp2_with fail
                    go_roundw
                    case rel => exact ⟨j + 1, by omega, by go_num, by show _ = _; rw [HFS.out, HFT.out]; rfl, HR3, HB2⟩
                    case measure => simp [intOf]; omega
        · have e : j = m := by omega
          obtain ⟨y1, y2⟩ := (HOK (by rw [← e]; exact HFT.out)).out
          have htx := HRw.out.text
          have HSL : Hid (UInt8.ofNat s :: payK ws ns j = UInt8.ofNat s :: payK ws ns m) := hide (by rw [e])
          have hln : (bs (UInt8.ofNat s :: payK ws ns j)).size ≤ 29 := by
            rw [bs_size, List.length_cons, payK_len]; have := HT.out j (by rw [HM.out]; omega); omega
          have RS := fun W => ref_sum (bs (UInt8.ofNat s :: payK ws ns j)) W (by omega)
          have hcv := fun W => conv_two W (csum (bs (UInt8.ofNat s :: payK ws ns j)))
          have HBB : Hid (bs B = ⟨#[165]⟩ ++ bs (UInt8.ofNat s :: payK ws ns j) ++ twoB (csum (bs (UInt8.ofNat s :: payK ws ns j)))) := hide (by
            rw [y2, HSL.out]
            have e3 : twoB (csum (bs (UInt8.ofNat s :: payK ws ns m))) = bs [loS (UInt8.ofNat s :: payK ws ns m), hiS (UInt8.ofNat s :: payK ws ns m)] := by
              unfold twoB lowB highB loS hiS ckS csum
              rw [bs_list]
              rfl
            rw [e3, show (⟨#[165]⟩ : ByteArray) = bs [165] from rfl, bs_app, bs_app]
            simp [frS])
          have hc16 := (csum (bs (UInt8.ofNat s :: payK ws ns j))).isLt
          have ht2 : (twoB (csum (bs (UInt8.ofNat s :: payK ws ns j)))).size = 2 := rfl
          generalize twoB (csum (bs (UInt8.ofNat s :: payK ws ns j))) = t2 at *
          generalize (csum (bs (UInt8.ofNat s :: payK ws ns j))).toNat = cc at *
          generalize bs (UInt8.ofNat s :: payK ws ns j) = tx at *
          clear hi hz0 hz1 hz2 e y2
          go_wp2_with fail
          refine (RS _).mono ?_
          rintro e w3 ⟨rfl, hw3⟩
          obtain rfl := hw3.symm
          go_wp2_with fail
          go_ret2
          refine ⟨by rw [y1, HBB.out]; rfl, ?_⟩
          exact below_next (below_next HB.out (Nat.le_refl _) HBw.out) (Nat.le_refl _) (below_alloc _ _)
    · obtain ⟨e1, e2⟩ := wrE_count h1 h2
      have hne : ((ns.length : Int) != ((wsS s).length : Int)) = true := by simp; omega
      have hl0 : (((wsS s).length : Int) == 0) = false := by rw [beq_eq_false_iff_ne]; omega
      rw [e1, e2]
      clear h2 h1 e1 e2 hi hz0 hz1 hz2
      generalize wsS s = ws at hWI hl5 hne hl0
      generalize ns.length = q at *
      go_enter Try.func16, Try.ntmps16
      go_wp2_with fail
      refine (hWI _).mono ?_
      rintro e w1 ⟨v, rfl, hI, hB⟩
      obtain ⟨av, cv, rfl, _⟩ := hI
      generalize ws.length = m at hne hl0 hl5
      have HB := hide hB
      clear hB hWI
      go_wp2_with fail
      go_ret2
      exact ⟨rfl, HB.out⟩
end Go.Proofs.Ytmlcknaahpfhbaa
