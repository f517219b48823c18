/- The document's Encode (layer 5's text over In0). -/
import Derived.Test.YtimkfipiebppiaaMtA
namespace Go.Proofs.Ytimkfipiebppiaa
open Go.RowKit Go.Great

theorem encM_kind (seq k : Int) (ns : List Int) (h1 : (wsK k).length = 0) : encM seq k ns = ((0, 0, ⟨#[]⟩), 6) := by unfold encM; rw [if_pos h1]
theorem encM_count (seq k : Int) (ns : List Int) (h1 : (wsK k).length ≠ 0) (h2 : ns.length ≠ (wsK k).length) : encM seq k ns = ((0, 0, ⟨#[]⟩), 50) := by unfold encM; rw [if_neg h1, if_pos h2]
theorem encM_range (seq k : Int) (ns : List Int) (h1 : (wsK k).length ≠ 0) (h2 : ns.length = (wsK k).length) (h3 : ¬ (0 ≤ seq ∧ seq ≤ 255) ∨ fitsK (wsK k) ns (wsK k).length = false) : encM seq k ns = ((0, 0, ⟨#[]⟩), 5) := by
  unfold encM; rw [if_neg h1, if_neg (by omega), if_neg]
  rintro ⟨a, b, c⟩
  rcases h3 with h3 | h3
  · exact h3 ⟨a, b⟩
  · rw [c] at h3; cases h3
theorem encM_ok (seq k : Int) (ns : List Int) (h1 : (wsK k).length ≠ 0) (h2 : ns.length = (wsK k).length) (h3 : 0 ≤ seq ∧ seq ≤ 255) (h4 : fitsK (wsK k) ns (wsK k).length = true) : encM seq k ns = ((seq, k, bs (payK (wsK k) ns (wsK k).length)), 0) := by
  unfold encM; rw [if_neg h1, if_neg (by omega), if_pos ⟨h3.1, h3.2, h4⟩]; rfl
/-- the number that is written in the place of one below 0 -/
theorem up_num {w n : Int} (hw : Wid w) (h : fitB w n = true) : (0 ≤ n → n < 256 ^ szW w) ∧ (n < 0 → 0 ≤ n + 256 ^ szW w ∧ n + 256 ^ szW w < 256 ^ szW w) ∧ (256 : Int) ^ szW w ≤ 4294967296 ∧ -2147483648 ≤ n := by
  rw [fitB_iff] at h
  rcases wid_cases hw with h1 | h1 | h1 | h1 | h1
  all_goals
    rw [h1.2.1, h1.2.2] at h
    rw [h1.1]
    simp only [show (256 : Int) ^ 1 = 256 from rfl, show (256 : Int) ^ 2 = 65536 from rfl, show (256 : Int) ^ 4 = 4294967296 from rfl]
    omega
theorem div_next (N : Int) (j : Nat) : N / 256 ^ j / 256 = N / 256 ^ (j + 1) := by
  rw [p256, Int.ediv_ediv_of_nonneg (Int.le_of_lt (p256_pos j))]
/-- the inner loop of the document's Encode: what is written so far -/
def WrRel (w1 : World) (p : List UInt8) (N : Int) (z : Nat) (v n i : Value) (wx : World) : Prop :=
  ∃ j : Nat, j ≤ z ∧ i = .int .i64 j ∧ n = .int .i64 (N / 256 ^ j) ∧ BRow wx w1.heap.size v (p ++ byK N j) ∧ Below w1.heap.size w1 wx
set_option maxRecDepth 100000 in
set_option maxHeartbeats 4000000 in
theorem rencode_any (seq k : Int) (hk0 : 0 ≤ k) (hk1 : k ≤ 255) (ns : List Int) (u : Value) (w : World) (hu : Ints w u ns) (hns : ns.length ≤ 9223372036854775807) : Calls Try.prog 48 #[.int .i64 seq, .agg #[.int .u8 k, u]] w fun e w' => e = .returned (.tuple #[.agg #[.int .i64 (encM seq k ns).1.1, .int .i64 (encM seq k ns).1.2.1, .string (encM seq k ns).1.2.2], .int .i64 (encM seq k ns).2]) ∧ Below w.heap.size w w' := by
  have HU := hide hu
  obtain ⟨au, cu, rfl, _⟩ := hu
  have hWI := fun W => rwidths_any k hk0 hk1 W
  have hl7 := wsK_len k
  obtain ⟨i0, hi, hz0, hz1, hz2⟩ := info_parts info_byte
  by_cases h1 : (wsK k).length = 0
  · have HE : Hid (encM seq k ns = ((0, 0, ⟨#[]⟩), 6)) := encM_kind _ _ _ h1
    have HL := hide h1
    rw [HE.out]
    clear h1 hl7
    go_enter Try.func48, Try.ntmps48
    go_wp2_with fail
    refine (hWI _).mono ?_
    rintro e w1 ⟨v, rfl, hI, hB⟩
    obtain ⟨hM, hF, hI2, hB1⟩ := enc_start HU.out hB
    obtain ⟨av, cv, rfl, _⟩ := hI
    rw [HL.out]
    have HB1 := hide hB1
    have c0 := hF.c0
    have c1 := hF.c1
    have c2 := hF.c2
    have fz := hF.fz
    have HF := hide hF
    clear hM hF hI2 hB hB1 hWI
    go_wp2_with fail
    refine bodyPost_ret (frame_back Try.results48 _ _ (w.heap.size + 1) _ _ _ _ _ rfl rfl (HF.out.set _ _ _)) rfl ?_
    exact ⟨rfl, below_set3 HB1.out (by omega) _ _ _⟩
  · by_cases h2 : ns.length = (wsK k).length
    · have HW := hide (wsK_wid k)
      have HOK := fun a b => hide (encM_ok seq k ns h1 h2 a b)
      have HNO := fun a => hide (encM_range seq k ns h1 h2 a)
      generalize encM seq k ns = E at HOK HNO
      have HU2 := HU
      clear HU
      generalize wsK k = ws at hWI hl7 h1 h2 HW HOK HNO
      obtain ⟨m, hm⟩ : ∃ m, ws.length = m := ⟨_, rfl⟩
      rw [hm] at h1 h2 hl7 HOK HNO
      have HM := hide hm
      have HN2 := hide h2
      rw [h2]
      have hl0 : ((m : Int) == 0) = false := by rw [beq_eq_false_iff_ne]; omega
      clear h2 hm
      go_enter Try.func48, Try.ntmps48
      go_wp2_with fail
      refine (hWI _).mono ?_
      rintro e w1 ⟨v, rfl, hI, hB⟩
      obtain ⟨hM, hF, hI2, hB1⟩ := enc_start HU2.out (by rw [HN2.out]; exact hB)
      rw [HN2.out] at hM
      obtain ⟨av, cv, rfl, hcw⟩ := hI
      obtain ⟨au', cu', eu, hcn⟩ := hI2
      rw [HN2.out] at eu hcn
      obtain ⟨rfl, rfl⟩ : au = au' ∧ cu = cu' := by injection eu with x _ y; exact ⟨x, y⟩
      rw [HM.out] at hcw
      rw [HM.out]
      have HB1 := hide hB1
      have m0 := hM.c0
      have m1 := hM.c1
      have HMs := hide hM
      have HF := hide hF
      have HCW := hide hcw
      have HCN := hide hcn
      clear hM hF hB hB1 hWI hcw hcn eu
      go_wp2_with fail
      clear m0 m1
      go_loopw [7, 8] (fun v i wx => ∃ j : Nat, j ≤ m ∧ i = .int .i64 j ∧ Hid (fitsK ws ns j = true) ∧ BRow wx w1.heap.size v (payK ws ns j) ∧ Below w1.heap.size w1 wx) (fun _ i _ => m - (intOf i).toNat)
      case atStart => exact ⟨0, Nat.zero_le _, rfl, rfl, BRow.nil _ _, Below.refl _ _⟩
      case round =>
        obtain ⟨j, hj, rfl, HFT, hR, hB⟩ := hrel
        have HBw := hide hB
        have HRw := hide hR
        have HMr := hide (HMs.out.below hB)
        have HFr := hide (HF.out.below hB)
        clear hR hB
        by_cases hlt : j < m
        · have hjw : j < ws.length := by rw [HM.out]; exact hlt
          have hm0 : 0 < m := by omega
          obtain ⟨g, o, rfl, hg, hcc⟩ := HCW.out hm0
          obtain ⟨g2, o2, rfl, hg2, hcd⟩ := HCN.out hm0
          have hwj := widD HW.out j hjw
          have e1 : w1.cell? ⟨g, o + j, none⟩ = some (.int .i64 (ws.getD j 0)) := hcc j hlt
          have e2 : w1.cell? ⟨g2, o2 + j, none⟩ = some (.int .i64 (ns.getD j 0)) := hcd j hlt
          have hFI := fun W => fits_any (ws.getD j 0) (ns.getD j 0) hwj W
          have hAL := fun W => all_any (ws.getD j 0) hwj W
          have hSZ := fun W => rsize_any (ws.getD j 0) hwj W
          have HFN : Hid (fitB (ws.getD j 0) (ns.getD j 0) = false → fitsK ws ns m = false) := fun h => fitsK_not hlt h
          have HFS : Hid (fitsK ws ns (j + 1) = (fitsK ws ns j && fitB (ws.getD j 0) (ns.getD j 0))) := rfl
          have HUP : Hid (fitB (ws.getD j 0) (ns.getD j 0) = true → _) := fun h => up_num hwj h
          have HP : Hid (payK ws ns (j + 1) = payK ws ns j ++ byK (ns.getD j 0) (szW (ws.getD j 0))) := rfl
          have HPL : Hid ((payK ws ns j).length ≤ 28) := by
            show _ ≤ _
            rw [payK_len]
            have := tot_le4 ws HW.out j (by omega)
            omega
          have hz4 := (wid_sz hwj).2
          generalize fitB (ws.getD j 0) (ns.getD j 0) = f at hFI HFN HFS HUP
          generalize szW (ws.getD j 0) = z at hAL hSZ HUP HP hz4
          generalize ws.getD j 0 = x at e1 hFI hAL hSZ
          generalize ns.getD j 0 = n at e2 hFI HUP HP
          generalize payK ws ns j = p at HP HPL HRw
          have d1 := (HBw.out.cell (p := ⟨g, o + j, none⟩) hg).trans e1
          have d2 := (HBw.out.cell (p := ⟨g2, o2 + j, none⟩) hg2).trans e2
          have m1 := HMr.out.c1
          have E1 := hide e1
          clear e1 e2 hcc hcd HCW HCN hwj
          cases f with
          | false =>
            have HE : Hid (E = ((0, 0, ⟨#[]⟩), 5)) := (HNO (.inr (HFN.out rfl))).out
            have c0 := HFr.out.c0
            have c1 := HFr.out.c1
            have c2 := HFr.out.c2
            have fz := HFr.out.fz
            clear hAL hSZ
            go_wp2_with fail
            refine (hFI _).mono ?_
            rintro e w2 ⟨rfl, rfl⟩
            go_wp2_with fail
            refine bodyPost_ret (frame_back Try.results48 _ _ (w.heap.size + 1) _ _ _ _ _ rfl rfl (HFr.out.set _ _ _)) rfl ?_
            rw [HE.out]
            exact ⟨rfl, below_set3 (below_next HB1.out (Nat.le_refl _) HBw.out) (by omega) _ _ _⟩
          | true =>
            obtain ⟨hu1, hu2, hu3, hu4⟩ := HUP.out rfl
            clear HUP HFN
            by_cases hn : n < 0
            · obtain ⟨hN0, hN1⟩ := hu2 hn
              clear hu1 hu2
              obtain ⟨A, HA⟩ : ∃ A : Int, Hid ((256 : Int) ^ z = A) := ⟨_, rfl⟩
              rw [HA.out] at hAL hN0 hN1 hu3
              have HNB : Hid (byK (n + A) z = byK n z) := byK_mod _ _ _ (by rw [HA.out, Int.add_emod_right])
              obtain ⟨N, hNN⟩ : ∃ N, n + A = N := ⟨_, rfl⟩
              have HNN := hide hNN
              have hwr : IntKind.i64.wrap (n + A) = N := by rw [IntKind.wrap_i64]; omega
              rw [hNN] at hN0 hN1 HNB
              clear hNN
              go_wp2_with fail
              refine (hFI _).mono ?_
              rintro e w2 ⟨rfl, rfl⟩
              go_wp2_with fail
              refine (hAL _).mono ?_
              rintro e w4 ⟨rfl, rfl⟩
              go_wp2_with fail
              try rw [HNN.out]
              clear d1 d2 m1 hFI hAL hwr
              go_loopw [7, 9, 10] (fun v n i wx => WrRel w1 p N z v n i wx) (fun _ _ i _ => z - (intOf i).toNat)
              case atStart => exact ⟨0, Nat.zero_le _, rfl, by rw [Int.pow_zero, Int.ediv_one], by rw [byK, List.append_nil]; exact HRw.out, HBw.out⟩
              case round =>
                obtain ⟨t, ht, rfl, rfl, hR2, hB2⟩ := hrel
                have HB2 := hide hB2
                have d1 := (hB2.cell (p := ⟨g, o + j, none⟩) hg).trans E1.out
                by_cases hlt2 : t < z
                · have HL : Hid ((p ++ byK N t).length ≤ 32) := by
                    show _ ≤ _
                    rw [List.length_append, byK_len]
                    have := HPL.out
                    omega
                  have HS : Hid (p ++ byK N (t + 1) = (p ++ byK N t) ++ [UInt8.ofNat (N / 256 ^ t % 256).toNat]) := by
                    show _ = _
                    rw [byK, List.append_assoc]
                  have HDN := hide (div_next N t)
                  have hq0 : 0 ≤ N / 256 ^ t := Int.ediv_nonneg hN0 (Int.le_of_lt (p256_pos t))
                  have hq1 : N / 256 ^ t ≤ 4294967296 := Int.le_trans (Int.ediv_le_self _ hN0) (by omega)
                  generalize p ++ byK N t = l at HL HS hR2
                  generalize N / 256 ^ t = q at HS HDN hq0 hq1 ⊢
                  have HO : ∀ o, Hid ((wr.alloc o).ownsRow w1.heap.size 5 1 u7 l.length (bytesV l)) := fun o => hR2.alloc o
                  have hws := hB2.size
                  clear hR2 hB2
                  go_wp2_with fail
                  refine (hSZ _).mono ?_
                  rintro e w3 ⟨rfl, rfl⟩
                  go_wp2_with (at_builtin; refine wpList_append_own _ rfl (.tmp 62) (.tmp 66) 94 rfl w1.heap.size 5 i0 _ 1 1 Try.underlying94 hi hz0 hz1 hz2 rfl (by decide) _ _ _ rfl (HO _).out ⟨w3.heap.size, 0, none⟩ 1 1 [.int .u8 (q % 256)] rfl rfl ?c1 ?c2 ?c3 ?c4 ?c5 ?_)
                  case c1 => exact new_cell1 _ _ rfl _ _
                  case c2 => intro u hu; simp at hu; subst hu; rfl
                  case c3 => have := HL.out; unfold maxLen; omega
                  case c4 => have := HL.out; omega
                  case c5 => rw [size_alloc]; omega
                  intro v' w5 hown5 hgrow5 _
                  have HR5 : Hid (BRow w5 w1.heap.size v' (p ++ byK N (t + 1))) := by
                    show World.ownsRow _ _ _ _ _ _ _
                    rw [HS.out, List.length_append, bytesV_app, show bytesV [UInt8.ofNat (q % 256).toNat] = [Value.int .u8 (q % 256)] from congrArg (fun z => [Value.int .u8 z]) (byte_back _)]; exact hown5
                  have HB5 : Hid (Below w1.heap.size w1 w5) := ((HB2.out.alloc hws _).grown hgrow5 (by rw [size_alloc]; omega) (fun j e => ((HO (.cells #[] 5)).out.lt j e).1))
                  clear hown5 hgrow5 HO hi hz0 hz1 hz2 d1
                  go_wp2_with fail
                  go_roundw
                  case rel => exact ⟨t + 1, by omega, by go_num, by rw [← HDN.out], HR5.out, HB5.out⟩
                  case measure => simp [intOf]; omega
                · obtain rfl : t = z := by omega
                  have HR3 : Hid (BRow wr w1.heap.size u7 (payK ws ns (j + 1))) := by show BRow _ _ _ _; rw [HP.out, ← HNB.out]; exact hR2
                  generalize N / 256 ^ t = q
                  clear hR2 hB2 hi hz0 hz1 hz2
                  go_wp2_with fail
                  refine (hSZ _).mono ?_
                  rintro e w3 ⟨rfl, rfl⟩
                  go_wp2_with fail
                  go_roundw
                  case rel => exact ⟨j + 1, by omega, by go_num, by show _ = _; rw [HFS.out, HFT.out]; rfl, HR3.out, HB2.out⟩
                  case measure => simp [intOf]; omega
            · have hN0 : 0 ≤ n := by omega
              have hN1 := hu1 hN0
              clear hu1 hu2
              obtain ⟨A, HA⟩ : ∃ A : Int, Hid ((256 : Int) ^ z = A) := ⟨_, rfl⟩
              rw [HA.out] at hN1 hu3
              obtain ⟨N, HNN⟩ : ∃ N, Hid (n = N) := ⟨_, rfl⟩
              have HNB : Hid (byK N z = byK n z) := by show _ = _; rw [HNN.out]
              rw [HNN.out] at d2 hFI hN0 hN1 hn
              clear hAL
              go_wp2_with fail
              refine (hFI _).mono ?_
              rintro e w2 ⟨rfl, rfl⟩
              go_wp2_with fail
              clear d1 d2 m1 hFI
              go_loopw [7, 9, 10] (fun v n i wx => WrRel w1 p N z v n i wx) (fun _ _ i _ => z - (intOf i).toNat)
              case atStart => exact ⟨0, Nat.zero_le _, rfl, by rw [Int.pow_zero, Int.ediv_one], by rw [byK, List.append_nil]; exact HRw.out, HBw.out⟩
              case round =>
                obtain ⟨t, ht, rfl, rfl, hR2, hB2⟩ := hrel
                have HB2 := hide hB2
                have d1 := (hB2.cell (p := ⟨g, o + j, none⟩) hg).trans E1.out
                by_cases hlt2 : t < z
                · have HL : Hid ((p ++ byK N t).length ≤ 32) := by
                    show _ ≤ _
                    rw [List.length_append, byK_len]
                    have := HPL.out
                    omega
                  have HS : Hid (p ++ byK N (t + 1) = (p ++ byK N t) ++ [UInt8.ofNat (N / 256 ^ t % 256).toNat]) := by
                    show _ = _
                    rw [byK, List.append_assoc]
                  have HDN := hide (div_next N t)
                  have hq0 : 0 ≤ N / 256 ^ t := Int.ediv_nonneg hN0 (Int.le_of_lt (p256_pos t))
                  have hq1 : N / 256 ^ t ≤ 4294967296 := Int.le_trans (Int.ediv_le_self _ hN0) (by omega)
                  generalize p ++ byK N t = l at HL HS hR2
                  generalize N / 256 ^ t = q at HS HDN hq0 hq1 ⊢
                  have HO : ∀ o, Hid ((wr.alloc o).ownsRow w1.heap.size 5 1 u7 l.length (bytesV l)) := fun o => hR2.alloc o
                  have hws := hB2.size
                  clear hR2 hB2
                  go_wp2_with fail
                  refine (hSZ _).mono ?_
                  rintro e w3 ⟨rfl, rfl⟩
                  go_wp2_with (at_builtin; refine wpList_append_own _ rfl (.tmp 62) (.tmp 66) 94 rfl w1.heap.size 5 i0 _ 1 1 Try.underlying94 hi hz0 hz1 hz2 rfl (by decide) _ _ _ rfl (HO _).out ⟨w3.heap.size, 0, none⟩ 1 1 [.int .u8 (q % 256)] rfl rfl ?c1 ?c2 ?c3 ?c4 ?c5 ?_)
                  case c1 => exact new_cell1 _ _ rfl _ _
                  case c2 => intro u hu; simp at hu; subst hu; rfl
                  case c3 => have := HL.out; unfold maxLen; omega
                  case c4 => have := HL.out; omega
                  case c5 => rw [size_alloc]; omega
                  intro v' w5 hown5 hgrow5 _
                  have HR5 : Hid (BRow w5 w1.heap.size v' (p ++ byK N (t + 1))) := by
                    show World.ownsRow _ _ _ _ _ _ _
                    rw [HS.out, List.length_append, bytesV_app, show bytesV [UInt8.ofNat (q % 256).toNat] = [Value.int .u8 (q % 256)] from congrArg (fun z => [Value.int .u8 z]) (byte_back _)]; exact hown5
                  have HB5 : Hid (Below w1.heap.size w1 w5) := ((HB2.out.alloc hws _).grown hgrow5 (by rw [size_alloc]; omega) (fun j e => ((HO (.cells #[] 5)).out.lt j e).1))
                  clear hown5 hgrow5 HO hi hz0 hz1 hz2 d1
                  go_wp2_with fail
                  go_roundw
                  case rel => exact ⟨t + 1, by omega, by go_num, by rw [← HDN.out], HR5.out, HB5.out⟩
                  case measure => simp [intOf]; omega
                · obtain rfl : t = z := by omega
                  have HR3 : Hid (BRow wr w1.heap.size u7 (payK ws ns (j + 1))) := by show BRow _ _ _ _; rw [HP.out, ← HNB.out]; exact hR2
                  generalize N / 256 ^ t = q
                  clear hR2 hB2 hi hz0 hz1 hz2
                  go_wp2_with fail
                  refine (hSZ _).mono ?_
                  rintro e w3 ⟨rfl, rfl⟩
                  go_wp2_with fail
                  go_roundw
                  case rel => exact ⟨j + 1, by omega, by go_num, by show _ = _; rw [HFS.out, HFT.out]; rfl, HR3.out, HB2.out⟩
                  case measure => simp [intOf]; omega
        · obtain rfl : j = m := by omega
          have htx := HRw.out.text
          have c0 := HFr.out.c0
          have c1 := HFr.out.c1
          have c2 := HFr.out.c2
          have fz := HFr.out.fz
          have m0 := HMr.out.c0
          clear hi hz0 hz1 hz2 hj hlt
          have hs : seq < 0 ∨ (0 ≤ seq ∧ 255 < seq) ∨ (0 ≤ seq ∧ seq ≤ 255) := by omega
          rcases hs with hs | ⟨hs, hs2⟩ | ⟨hs, hs2⟩
          · have HE : Hid (E = ((0, 0, ⟨#[]⟩), 5)) := (HNO (.inl (by omega))).out
            clear htx
            go_wp2_with fail
            refine bodyPost_ret (frame_back Try.results48 _ _ (w.heap.size + 1) _ _ _ _ _ rfl rfl (HFr.out.set _ _ _)) rfl ?_
            rw [HE.out]
            exact ⟨rfl, below_set3 (below_next HB1.out (Nat.le_refl _) HBw.out) (by omega) _ _ _⟩
          · have HE : Hid (E = ((0, 0, ⟨#[]⟩), 5)) := (HNO (.inl (by omega))).out
            clear htx
            go_wp2_with fail
            refine bodyPost_ret (frame_back Try.results48 _ _ (w.heap.size + 1) _ _ _ _ _ rfl rfl (HFr.out.set _ _ _)) rfl ?_
            rw [HE.out]
            exact ⟨rfl, below_set3 (below_next HB1.out (Nat.le_refl _) HBw.out) (by omega) _ _ _⟩
          · have HE : Hid (E = ((seq, k, bs (payK ws ns j)), 0)) := (HOK ⟨hs, hs2⟩ HFT.out).out
            generalize bs (payK ws ns j) = tx at htx HE
            go_wp2_with fail
            refine bodyPost_ret (frame_back Try.results48 _ _ (w.heap.size + 1) _ _ _ _ _ rfl rfl (HFr.out.set _ _ _)) rfl ?_
            rw [HE.out]
            exact ⟨rfl, below_set3 (below_next HB1.out (Nat.le_refl _) HBw.out) (by omega) _ _ _⟩
    · have HE : Hid (encM seq k ns = ((0, 0, ⟨#[]⟩), 50)) := encM_count _ _ _ h1 h2
      have hne : ((ns.length : Int) != ((wsK k).length : Int)) = true := by simp; omega
      have hl0 : (((wsK k).length : Int) == 0) = false := by rw [beq_eq_false_iff_ne]; omega
      rw [HE.out]
      clear h2 HE h1
      generalize wsK k = ws at hWI hl7 hne hl0
      generalize hq : ns.length = q at hne hns
      have HQ := hide hq
      clear hq
      go_enter Try.func48, Try.ntmps48
      go_wp2_with fail
      refine (hWI _).mono ?_
      rintro e w1 ⟨v, rfl, hI, hB⟩
      obtain ⟨hM, hF, _, hB1⟩ := enc_start HU.out (by rw [HQ.out]; exact hB)
      rw [HQ.out] at hM
      obtain ⟨av, cv, rfl, _⟩ := hI
      generalize ws.length = m at hne hl0 hl7
      have HB1 := hide hB1
      have m0 := hM.c0
      have m1 := hM.c1
      have c0 := hF.c0
      have c1 := hF.c1
      have c2 := hF.c2
      have fz := hF.fz
      have HF := hide hF
      clear hM hF hB hB1 hWI
      go_wp2_with fail
      refine bodyPost_ret (frame_back Try.results48 _ _ (w.heap.size + 1) _ _ _ _ _ rfl rfl (HF.out.set _ _ _)) rfl ?_
      exact ⟨rfl, below_set3 HB1.out (by omega) _ _ _⟩
end Go.Proofs.Ytimkfipiebppiaa
