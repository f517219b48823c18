/- What package msgs does with a list of widths and one of numbers: payload. -/
import Derived.Test.YtgdjphiicgiegaaMs4
namespace Go.Proofs.Ytgdjphiicgiegaa
open Go.RowKit Go.Great

theorem byte_back (c : Int) : ((UInt8.ofNat (c % 256).toNat).toNat : Int) = c % 256 := by rw [UInt8.toNat_ofNat']; omega
set_option maxHeartbeats 2000000 in
theorem payload_any (ws ns : List Int) (hw : ∀ w ∈ ws, Wid w) (hl : ws.length ≤ 7) (hn : ns.length = ws.length) (v u : Value) (w : World) (hv : Ints w v (ws.map fun x => 8 * x)) (hu : Ints w u ns) : Calls Try.prog 26 #[v, u] w fun e w' => e = .returned (.string (bs (payK ws ns ws.length))) ∧ Below w.heap.size w w' := by
  obtain ⟨i0, hi, hz0, hz1, hz2⟩ := info_parts info_byte
  obtain ⟨a, cap, rfl, hc⟩ := hv
  obtain ⟨b, cbp, rfl, hd⟩ := hu
  rw [List.length_map] at hc ⊢
  rw [hn] at hd ⊢
  have HC := hide hc
  have HD := hide hd
  have HW := hide hw
  have HT := hide (tot_le4 ws hw)
  obtain ⟨m, hm⟩ : ∃ m, ws.length = m := ⟨_, rfl⟩
  rw [hm] at hl ⊢
  have HM := hide hm
  clear hc hd hw hm hn
  obtain ⟨t, HTX⟩ : ∃ t, Hid (bs (payK ws ns m) = t) := ⟨_, rfl⟩
  rw [HTX.out]
  go_enter Try.func26, Try.ntmps26
  go_wp2_with fail
  go_loopw [5, 11] (fun v i wx => ∃ k : Nat, k ≤ m ∧ i = .int .i64 k ∧ BRow wx w.heap.size v (payK ws ns k) ∧ Below w.heap.size w wx) (fun _ i _ => m - (intOf i).toNat)
  case atStart => exact ⟨0, Nat.zero_le _, rfl, BRow.nil _ _, Below.refl _ _⟩
  case round =>
    obtain ⟨k, hk, rfl, hR, hB⟩ := hrel
    have HB := hide hB
    have HR := hide hR
    clear hR hB
    by_cases hlt : k < m
    · have hkw : k < ws.length := by rw [HM.out]; exact hlt
      have hm0 : 0 < ws.length := by omega
      obtain ⟨g, o, rfl, hg, hcc⟩ := HC.out hm0
      obtain ⟨g2, o2, rfl, hg2, hcd⟩ := HD.out hm0
      have e1 : w.cell? ⟨g, o + k, none⟩ = some (.int .i64 (8 * ws.getD k 0)) := by rw [hcc k hkw, map8_at _ _ hkw]
      have e2 : w.cell? ⟨g2, o2 + k, none⟩ = some (.int .i64 (ns.getD k 0)) := hcd k hkw
      have hY := fun W => wbytes_any (ws.getD k 0) (widD HW.out k hkw) _ rfl W
      have hz := (wid_sz (widD HW.out k hkw)).2
      have HP : Hid (payK ws ns (k + 1) = payK ws ns k ++ byK (ns.getD k 0) (szW (ws.getD k 0))) := rfl
      have HPL : Hid ((payK ws ns k).length ≤ 28) := by
        show _ ≤ _
        rw [payK_len]
        have := HT.out k (by omega)
        omega
      generalize 8 * ws.getD k 0 = x at e1 hY
      generalize szW (ws.getD k 0) = z at hY hz HP
      generalize payK ws ns k = p at HP HPL HR
      generalize ns.getD k 0 = n at e2 HP
      have d1 := (HB.out.cell (p := ⟨g, o + k, none⟩) hg).trans e1
      have E2 := hide e2
      clear hcc hcd HC HD e1 e2
      go_wp2_with fail
      refine (hY _).mono ?_
      rintro e w1 ⟨rfl, rfl⟩
      clear d1 hY
      go_wp2_with fail
      go_loopw [5, 18] (fun v i wx => ∃ j : Nat, j ≤ z ∧ i = .int .i64 j ∧ BRow wx w.heap.size v (p ++ byK n j) ∧ Below w.heap.size w wx) (fun _ i _ => z - (intOf i).toNat)
      case atStart => exact ⟨0, Nat.zero_le _, rfl, by rw [byK, List.append_nil]; exact HR.out, HB.out⟩
      case round =>
        obtain ⟨j, hj, rfl, hR2, hB2⟩ := hrel
        have HB2 := hide hB2
        by_cases hlt2 : j < z
        · have d2 := (hB2.cell (p := ⟨g2, o2 + k, none⟩) hg2).trans E2.out
          have h4 : j = 0 ∨ j = 1 ∨ j = 2 ∨ j = 3 := by omega
          have HL : Hid ((p ++ byK n j).length ≤ 32) := by
            show _ ≤ _
            rw [List.length_append, byK_len]
            have := HPL.out
            omega
          have HS : Hid (p ++ byK n (j + 1) = (p ++ byK n j) ++ [UInt8.ofNat (n / 256 ^ j % 256).toNat]) := by
            show _ = _
            rw [byK, List.append_assoc]
          generalize p ++ byK n j = l at HL HS hR2
          have HO : ∀ o, Hid ((wr.alloc o).ownsRow w.heap.size 5 1 u5 l.length (bytesV l)) := fun o => hR2.alloc o
          have hws := hB2.size
          clear hR2 hB2
          rcases h4 with rfl | rfl | rfl | rfl
          · have HS' : Hid (p ++ byK n 1 = l ++ [UInt8.ofNat (n % 256).toNat]) := by
              show _ = _
              have := HS.out
              simpa using this
            clear HS
            go_wp2_with (at_builtin; refine wpList_append_own _ rfl (.tmp 21) (.tmp 30) 42 rfl w.heap.size 5 i0 _ 1 1 Try.underlying42 hi hz0 hz1 hz2 rfl (by decide) _ _ _ rfl (HO _).out ⟨wr.heap.size, 0, none⟩ 1 1 [.int .u8 (n % 256)] rfl rfl ?c1 ?c2 ?c3 ?c4 ?c5 ?_)
            case c1 => exact new_cell1 _ _ rfl _ _
            case c2 => intro u hu; simp at hu; subst hu; rfl
            case c3 => have := HL.out; unfold maxLen; omega
            case c4 => have := HL.out; omega
            case c5 => rw [size_alloc]; omega
            intro v' w5 hown5 hgrow5 _
            have HR5 : Hid (BRow w5 w.heap.size v' (p ++ byK n 1)) := by
              show World.ownsRow _ _ _ _ _ _ _
              rw [HS'.out, List.length_append, bytesV_app, show bytesV [UInt8.ofNat (n % 256).toNat] = [Value.int .u8 (n % 256)] from congrArg (fun z => [Value.int .u8 z]) (byte_back _)]; exact hown5
            have HB5 : Hid (Below w.heap.size w w5) := ((HB2.out.alloc hws _).grown hgrow5 (by rw [size_alloc]; omega) (fun j e => ((HO (.cells #[] 5)).out.lt j e).1))
            clear hown5 hgrow5 HO hi hz0 hz1 hz2
            go_wp2_with fail
            go_roundw
            case rel => exact ⟨1, by omega, by go_num, HR5.out, HB5.out⟩
            case measure => simp [intOf]; omega
          · have HS' : Hid (p ++ byK n 2 = l ++ [UInt8.ofNat (n / 256 % 256).toNat]) := by
              show _ = _
              have := HS.out
              simpa using this
            clear HS
            go_wp2_with (at_builtin; refine wpList_append_own _ rfl (.tmp 21) (.tmp 30) 42 rfl w.heap.size 5 i0 _ 1 1 Try.underlying42 hi hz0 hz1 hz2 rfl (by decide) _ _ _ rfl (HO _).out ⟨wr.heap.size, 0, none⟩ 1 1 [.int .u8 (n / 256 % 256)] rfl rfl ?c1 ?c2 ?c3 ?c4 ?c5 ?_)
            case c1 => exact new_cell1 _ _ rfl _ _
            case c2 => intro u hu; simp at hu; subst hu; rfl
            case c3 => have := HL.out; unfold maxLen; omega
            case c4 => have := HL.out; omega
            case c5 => rw [size_alloc]; omega
            intro v' w5 hown5 hgrow5 _
            have HR5 : Hid (BRow w5 w.heap.size v' (p ++ byK n 2)) := by
              show World.ownsRow _ _ _ _ _ _ _
              rw [HS'.out, List.length_append, bytesV_app, show bytesV [UInt8.ofNat (n / 256 % 256).toNat] = [Value.int .u8 (n / 256 % 256)] from congrArg (fun z => [Value.int .u8 z]) (byte_back _)]; exact hown5
            have HB5 : Hid (Below w.heap.size w w5) := ((HB2.out.alloc hws _).grown hgrow5 (by rw [size_alloc]; omega) (fun j e => ((HO (.cells #[] 5)).out.lt j e).1))
            clear hown5 hgrow5 HO hi hz0 hz1 hz2
            go_wp2_with fail
            go_roundw
            case rel => exact ⟨2, by omega, by go_num, HR5.out, HB5.out⟩
            case measure => simp [intOf]; omega
          · have HS' : Hid (p ++ byK n 3 = l ++ [UInt8.ofNat (n / 65536 % 256).toNat]) := by
              show _ = _
              have := HS.out
              simpa using this
            clear HS
            go_wp2_with (at_builtin; refine wpList_append_own _ rfl (.tmp 21) (.tmp 30) 42 rfl w.heap.size 5 i0 _ 1 1 Try.underlying42 hi hz0 hz1 hz2 rfl (by decide) _ _ _ rfl (HO _).out ⟨wr.heap.size, 0, none⟩ 1 1 [.int .u8 (n / 65536 % 256)] rfl rfl ?c1 ?c2 ?c3 ?c4 ?c5 ?_)
            case c1 => exact new_cell1 _ _ rfl _ _
            case c2 => intro u hu; simp at hu; subst hu; rfl
            case c3 => have := HL.out; unfold maxLen; omega
            case c4 => have := HL.out; omega
            case c5 => rw [size_alloc]; omega
            intro v' w5 hown5 hgrow5 _
            have HR5 : Hid (BRow w5 w.heap.size v' (p ++ byK n 3)) := by
              show World.ownsRow _ _ _ _ _ _ _
              rw [HS'.out, List.length_append, bytesV_app, show bytesV [UInt8.ofNat (n / 65536 % 256).toNat] = [Value.int .u8 (n / 65536 % 256)] from congrArg (fun z => [Value.int .u8 z]) (byte_back _)]; exact hown5
            have HB5 : Hid (Below w.heap.size w w5) := ((HB2.out.alloc hws _).grown hgrow5 (by rw [size_alloc]; omega) (fun j e => ((HO (.cells #[] 5)).out.lt j e).1))
            clear hown5 hgrow5 HO hi hz0 hz1 hz2
            go_wp2_with fail
            go_roundw
            case rel => exact ⟨3, by omega, by go_num, HR5.out, HB5.out⟩
            case measure => simp [intOf]; omega
          · have HS' : Hid (p ++ byK n 4 = l ++ [UInt8.ofNat (n / 16777216 % 256).toNat]) := by
              show _ = _
              have := HS.out
              simpa using this
            clear HS
            go_wp2_with (at_builtin; refine wpList_append_own _ rfl (.tmp 21) (.tmp 30) 42 rfl w.heap.size 5 i0 _ 1 1 Try.underlying42 hi hz0 hz1 hz2 rfl (by decide) _ _ _ rfl (HO _).out ⟨wr.heap.size, 0, none⟩ 1 1 [.int .u8 (n / 16777216 % 256)] rfl rfl ?c1 ?c2 ?c3 ?c4 ?c5 ?_)
            case c1 => exact new_cell1 _ _ rfl _ _
            case c2 => intro u hu; simp at hu; subst hu; rfl
            case c3 => have := HL.out; unfold maxLen; omega
            case c4 => have := HL.out; omega
            case c5 => rw [size_alloc]; omega
            intro v' w5 hown5 hgrow5 _
            have HR5 : Hid (BRow w5 w.heap.size v' (p ++ byK n 4)) := by
              show World.ownsRow _ _ _ _ _ _ _
              rw [HS'.out, List.length_append, bytesV_app, show bytesV [UInt8.ofNat (n / 16777216 % 256).toNat] = [Value.int .u8 (n / 16777216 % 256)] from congrArg (fun z => [Value.int .u8 z]) (byte_back _)]; exact hown5
            have HB5 : Hid (Below w.heap.size w w5) := ((HB2.out.alloc hws _).grown hgrow5 (by rw [size_alloc]; omega) (fun j e => ((HO (.cells #[] 5)).out.lt j e).1))
            clear hown5 hgrow5 HO hi hz0 hz1 hz2
            go_wp2_with fail
            go_roundw
            case rel => exact ⟨4, by omega, by go_num, HR5.out, HB5.out⟩
            case measure => simp [intOf]; omega
        · obtain rfl : j = z := by omega
          have HR3 : Hid (BRow wr w.heap.size u5 (payK ws ns (k + 1))) := by show BRow _ _ _ _; rw [HP.out]; exact hR2
          clear hR2 hB2 hi hz0 hz1 hz2
          go_wp2_with fail
          go_roundw
          case rel => exact ⟨k + 1, by omega, by go_num, HR3.out, HB2.out⟩
          case measure => simp [intOf]; omega
    · obtain rfl : k = m := by omega
      have htx := HR.out.text
      rw [HTX.out] at htx
      clear hi hz0 hz1 hz2
      go_wp2_with fail
      go_ret
      exact ⟨rfl, HB.out⟩
end Go.Proofs.Ytgdjphiicgiegaa
