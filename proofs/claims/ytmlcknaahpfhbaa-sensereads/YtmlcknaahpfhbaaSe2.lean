/- Package sense: spell, check, the table of widths. -/
import Derived.Test.YtmlcknaahpfhbaaSe1
namespace Go.Proofs.Ytmlcknaahpfhbaa
open Go.RowKit Go.Great

theorem byte_back (c : Int) : ((UInt8.ofNat (c % 256).toNat).toNat : Int) = c % 256 := by rw [UInt8.toNat_ofNat']; omega
set_option maxHeartbeats 2000000 in
theorem spell_any (n : Int) (z : Nat) (hz : z ≤ 4) (w : World) : Calls Try.prog 28 #[.int .i64 n, .int .i64 z] w fun e w' => e = .returned (.string (bs (byK n z))) ∧ Below w.heap.size w w' := by
  obtain ⟨i0, hi, hz0, hz1, hz2⟩ := info_parts info_byte
  obtain ⟨t, HTX⟩ : ∃ t, Hid (bs (byK n z) = t) := ⟨_, rfl⟩
  rw [HTX.out]
  go_enter Try.func28, Try.ntmps28
  go_wp2_with fail
  go_loopw [5, 8] (fun v i wx => ∃ j : Nat, j ≤ z ∧ i = .int .i64 j ∧ BRow wx w.heap.size v (byK n j) ∧ Below w.heap.size w wx) (fun _ i _ => z - (intOf i).toNat)
  case atStart => exact ⟨0, Nat.zero_le _, rfl, BRow.nil _ _, Below.refl _ _⟩
  case round =>
    obtain ⟨j, hj, rfl, hR2, hB2⟩ := hrel
    have HB2 := hide hB2
    by_cases hlt2 : j < z
    · have h4 : j = 0 ∨ j = 1 ∨ j = 2 ∨ j = 3 := by omega
      have HL : Hid ((byK n j).length ≤ 32) := by
        show _ ≤ _
        rw [byK_len]
        omega
      have HS : Hid (byK n (j + 1) = byK n j ++ [UInt8.ofNat (n / 256 ^ j % 256).toNat]) := rfl
      generalize byK n j = l at HL HS hR2
      have HO : ∀ o, Hid ((wr.alloc o).ownsRow w.heap.size 5 1 u5 l.length (bytesV l)) := fun o => hR2.alloc o
      have hws := hB2.size
      clear hR2 hB2
      rcases h4 with rfl | rfl | rfl | rfl
      · have HS' : Hid (byK n 1 = l ++ [UInt8.ofNat (n % 256).toNat]) := by
          show _ = _
          have := HS.out
          simpa using this
        clear HS
        go_wp2_with (at_builtin; refine wpList_append_own _ rfl (.tmp 11) (.tmp 17) 40 rfl w.heap.size 5 i0 _ 1 1 Try.underlying40 hi hz0 hz1 hz2 rfl (by decide) _ _ _ rfl (HO _).out ⟨wr.heap.size, 0, none⟩ 1 1 [.int .u8 (n % 256)] rfl rfl ?c1 ?c2 ?c3 ?c4 ?c5 ?_)
        case c1 => exact new_cell1 _ _ rfl _ _
        case c2 => intro u hu; simp at hu; subst hu; rfl
        case c3 => have := HL.out; unfold maxLen; omega
        case c4 => have := HL.out; omega
        case c5 => rw [size_alloc]; omega
        intro v' w5 hown5 hgrow5 _
        have HR5 : Hid (BRow w5 w.heap.size v' (byK n 1)) := by
          show World.ownsRow _ _ _ _ _ _ _
          rw [HS'.out, List.length_append, bytesV_app, show bytesV [UInt8.ofNat (n % 256).toNat] = [Value.int .u8 (n % 256)] from congrArg (fun z => [Value.int .u8 z]) (byte_back _)]; exact hown5
        have HB5 : Hid (Below w.heap.size w w5) := ((HB2.out.alloc hws _).grown hgrow5 (by rw [size_alloc]; omega) (fun j e => ((HO (.cells #[] 5)).out.lt j e).1))
        clear hown5 hgrow5 HO hi hz0 hz1 hz2
        go_wp2_with fail
        go_roundw
        case rel => exact ⟨1, by omega, by go_num, HR5.out, HB5.out⟩
        case measure => simp [intOf]; omega
      · have HS' : Hid (byK n 2 = l ++ [UInt8.ofNat (n / 256 % 256).toNat]) := by
          show _ = _
          have := HS.out
          simpa using this
        clear HS
        go_wp2_with (at_builtin; refine wpList_append_own _ rfl (.tmp 11) (.tmp 17) 40 rfl w.heap.size 5 i0 _ 1 1 Try.underlying40 hi hz0 hz1 hz2 rfl (by decide) _ _ _ rfl (HO _).out ⟨wr.heap.size, 0, none⟩ 1 1 [.int .u8 (n / 256 % 256)] rfl rfl ?c1 ?c2 ?c3 ?c4 ?c5 ?_)
        case c1 => exact new_cell1 _ _ rfl _ _
        case c2 => intro u hu; simp at hu; subst hu; rfl
        case c3 => have := HL.out; unfold maxLen; omega
        case c4 => have := HL.out; omega
        case c5 => rw [size_alloc]; omega
        intro v' w5 hown5 hgrow5 _
        have HR5 : Hid (BRow w5 w.heap.size v' (byK n 2)) := by
          show World.ownsRow _ _ _ _ _ _ _
          rw [HS'.out, List.length_append, bytesV_app, show bytesV [UInt8.ofNat (n / 256 % 256).toNat] = [Value.int .u8 (n / 256 % 256)] from congrArg (fun z => [Value.int .u8 z]) (byte_back _)]; exact hown5
        have HB5 : Hid (Below w.heap.size w w5) := ((HB2.out.alloc hws _).grown hgrow5 (by rw [size_alloc]; omega) (fun j e => ((HO (.cells #[] 5)).out.lt j e).1))
        clear hown5 hgrow5 HO hi hz0 hz1 hz2
        go_wp2_with fail
        go_roundw
        case rel => exact ⟨2, by omega, by go_num, HR5.out, HB5.out⟩
        case measure => simp [intOf]; omega
      · have HS' : Hid (byK n 3 = l ++ [UInt8.ofNat (n / 65536 % 256).toNat]) := by
          show _ = _
          have := HS.out
          simpa using this
        clear HS
        go_wp2_with (at_builtin; refine wpList_append_own _ rfl (.tmp 11) (.tmp 17) 40 rfl w.heap.size 5 i0 _ 1 1 Try.underlying40 hi hz0 hz1 hz2 rfl (by decide) _ _ _ rfl (HO _).out ⟨wr.heap.size, 0, none⟩ 1 1 [.int .u8 (n / 65536 % 256)] rfl rfl ?c1 ?c2 ?c3 ?c4 ?c5 ?_)
        case c1 => exact new_cell1 _ _ rfl _ _
        case c2 => intro u hu; simp at hu; subst hu; rfl
        case c3 => have := HL.out; unfold maxLen; omega
        case c4 => have := HL.out; omega
        case c5 => rw [size_alloc]; omega
        intro v' w5 hown5 hgrow5 _
        have HR5 : Hid (BRow w5 w.heap.size v' (byK n 3)) := by
          show World.ownsRow _ _ _ _ _ _ _
          rw [HS'.out, List.length_append, bytesV_app, show bytesV [UInt8.ofNat (n / 65536 % 256).toNat] = [Value.int .u8 (n / 65536 % 256)] from congrArg (fun z => [Value.int .u8 z]) (byte_back _)]; exact hown5
        have HB5 : Hid (Below w.heap.size w w5) := ((HB2.out.alloc hws _).grown hgrow5 (by rw [size_alloc]; omega) (fun j e => ((HO (.cells #[] 5)).out.lt j e).1))
        clear hown5 hgrow5 HO hi hz0 hz1 hz2
        go_wp2_with fail
        go_roundw
        case rel => exact ⟨3, by omega, by go_num, HR5.out, HB5.out⟩
        case measure => simp [intOf]; omega
      · have HS' : Hid (byK n 4 = l ++ [UInt8.ofNat (n / 16777216 % 256).toNat]) := by
          show _ = _
          have := HS.out
          simpa using this
        clear HS
        go_wp2_with (at_builtin; refine wpList_append_own _ rfl (.tmp 11) (.tmp 17) 40 rfl w.heap.size 5 i0 _ 1 1 Try.underlying40 hi hz0 hz1 hz2 rfl (by decide) _ _ _ rfl (HO _).out ⟨wr.heap.size, 0, none⟩ 1 1 [.int .u8 (n / 16777216 % 256)] rfl rfl ?c1 ?c2 ?c3 ?c4 ?c5 ?_)
        case c1 => exact new_cell1 _ _ rfl _ _
        case c2 => intro u hu; simp at hu; subst hu; rfl
        case c3 => have := HL.out; unfold maxLen; omega
        case c4 => have := HL.out; omega
        case c5 => rw [size_alloc]; omega
        intro v' w5 hown5 hgrow5 _
        have HR5 : Hid (BRow w5 w.heap.size v' (byK n 4)) := by
          show World.ownsRow _ _ _ _ _ _ _
          rw [HS'.out, List.length_append, bytesV_app, show bytesV [UInt8.ofNat (n / 16777216 % 256).toNat] = [Value.int .u8 (n / 16777216 % 256)] from congrArg (fun z => [Value.int .u8 z]) (byte_back _)]; exact hown5
        have HB5 : Hid (Below w.heap.size w w5) := ((HB2.out.alloc hws _).grown hgrow5 (by rw [size_alloc]; omega) (fun j e => ((HO (.cells #[] 5)).out.lt j e).1))
        clear hown5 hgrow5 HO hi hz0 hz1 hz2
        go_wp2_with fail
        go_roundw
        case rel => exact ⟨4, by omega, by go_num, HR5.out, HB5.out⟩
        case measure => simp [intOf]; omega
    · obtain rfl : j = z := by omega
      have htx := hR2.text
      rw [HTX.out] at htx
      clear hi hz0 hz1 hz2 hR2 hB2
      go_wp2_with fail
      go_ret
      exact ⟨rfl, HB2.out⟩
theorem two_bytes (c : BitVec 16) : byK (c.toNat : Int) 2 = [UInt8.ofNat (c.toNat % 256), UInt8.ofNat (c.toNat / 256)] := by
  have h := c.isLt
  show [] ++ [_] ++ [_] = _
  rw [show (256 : Int) ^ 0 = 1 from rfl, show (256 : Int) ^ 1 = 256 from rfl]
  have e1 : ((c.toNat : Int) / 1 % 256).toNat = c.toNat % 256 := by omega
  have e2 : ((c.toNat : Int) / 256 % 256).toNat = c.toNat / 256 := by omega
  rw [e1, e2]
  rfl
theorem check_any (l : List UInt8) (hl : l.length ≤ 4611686018427387904) (w : World) : Calls Try.prog 30 #[.string (bs l)] w fun e w' => e = .returned (.string (bs [loS l, hiS l])) ∧ Below w.heap.size w w' := by
  have hS := fun W => sum_any (bs l) W (by rw [bs_size]; omega)
  have HE : Hid (bs (byK ((csum (bs l)).toNat : Int) 2) = bs [loS l, hiS l]) := by
    show _ = _
    rw [two_bytes]
    unfold csum loS hiS ckS
    rw [bs_list]
  have hP := fun W => spell_any ((csum (bs l)).toNat : Int) 2 (by decide) W
  have hc := (csum (bs l)).isLt
  rw [HE.out] at hP
  generalize (csum (bs l)).toNat = c at hS hP hc
  generalize bs [loS l, hiS l] = t at hP
  generalize bs l = s at hS
  clear HE
  go_enter Try.func30, Try.ntmps30
  go_wp2_with fail
  refine (hS _).mono ?_
  rintro e w1 ⟨rfl, h1⟩
  have H1 := hide h1
  clear h1
  go_wp2_with fail
  refine (hP _).mono ?_
  rintro e w2 ⟨rfl, h2⟩
  have H2 := hide h2
  clear h2
  go_wp2_with fail
  go_ret
  exact ⟨rfl, below_next H1.out (Nat.le_refl _) H2.out⟩
/-- the program's widths: bits -/
def wpS (s : Nat) : List Int := (wsS s).map fun w => 8 * w
theorem wpS_len (s : Nat) : (wpS s).length = (wsS s).length := List.length_map ..
set_option maxHeartbeats 4000000 in
theorem widths_any (s : Nat) (hs : s < 256) (w : World) : Calls Try.prog 20 #[.int .u8 (s : Int)] w fun e w' => ∃ v, e = .returned v ∧ Ints w' v (wpS s) ∧ Below w.heap.size w w' := by
  rcases wsS_cases s with (h | h | h | h | h) | ⟨hk, h⟩
  · subst h
    go_enter Try.func20, Try.ntmps20
    go_wp2
    go_ret
    refine ⟨_, rfl, ?_, ?_⟩
    · iterate 5 refine Ints.below ?_ (below_alloc _ _)
      exact ints_row (l := wpS 1) (heap_alloc_at _ _ _ (by first | rfl | simp only [size_alloc])) _ _ rfl
    · repeat (first | exact below_alloc _ _ | refine Below.alloc ?_ (by simp only [size_alloc]; omega) _)
  · subst h
    go_enter Try.func20, Try.ntmps20
    go_wp2
    go_ret
    refine ⟨_, rfl, ?_, ?_⟩
    · iterate 4 refine Ints.below ?_ (below_alloc _ _)
      exact ints_row (l := wpS 2) (heap_alloc_at _ _ _ (by first | rfl | simp only [size_alloc])) _ _ rfl
    · repeat (first | exact below_alloc _ _ | refine Below.alloc ?_ (by simp only [size_alloc]; omega) _)
  · subst h
    go_enter Try.func20, Try.ntmps20
    go_wp2
    go_ret
    refine ⟨_, rfl, ?_, ?_⟩
    · iterate 3 refine Ints.below ?_ (below_alloc _ _)
      exact ints_row (l := wpS 3) (heap_alloc_at _ _ _ (by first | rfl | simp only [size_alloc])) _ _ rfl
    · repeat (first | exact below_alloc _ _ | refine Below.alloc ?_ (by simp only [size_alloc]; omega) _)
  · subst h
    go_enter Try.func20, Try.ntmps20
    go_wp2
    go_ret
    refine ⟨_, rfl, ?_, ?_⟩
    · iterate 2 refine Ints.below ?_ (below_alloc _ _)
      exact ints_row (l := wpS 4) (heap_alloc_at _ _ _ (by first | rfl | simp only [size_alloc])) _ _ rfl
    · repeat (first | exact below_alloc _ _ | refine Below.alloc ?_ (by simp only [size_alloc]; omega) _)
  · subst h
    go_enter Try.func20, Try.ntmps20
    go_wp2
    go_ret
    refine ⟨_, rfl, ?_, ?_⟩
    · iterate 1 refine Ints.below ?_ (below_alloc _ _)
      exact ints_row (l := wpS 5) (heap_alloc_at _ _ _ (by first | rfl | simp only [size_alloc])) _ _ rfl
    · repeat (first | exact below_alloc _ _ | refine Below.alloc ?_ (by simp only [size_alloc]; omega) _)
  · have hn : wpS s = [] := by unfold wpS; rw [h]; rfl
    rw [hn]
    clear hn h
    have h3 : s = 0 ∨ 6 ≤ s := by omega
    clear hk
    rcases h3 with h3 | h3
    · subst h3
      go_enter Try.func20, Try.ntmps20
      go_wp2
      go_ret
      refine ⟨_, rfl, Ints.nil _, ?_⟩
      repeat (first | exact below_alloc _ _ | refine Below.alloc ?_ (by simp only [size_alloc]; omega) _)
    · go_enter Try.func20, Try.ntmps20
      go_wp2
      go_ret
      refine ⟨_, rfl, Ints.nil _, ?_⟩
      repeat (first | exact below_alloc _ _ | refine Below.alloc ?_ (by simp only [size_alloc]; omega) _)
end Go.Proofs.Ytmlcknaahpfhbaa
