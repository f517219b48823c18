/- Package fence: appendNumbers, appendPoints, Encode. -/
import Derived.Test.YtnenbbkkhnlgbaaFeB
import Derived.Test.YtnenbbkkhnlgbaaApT
namespace Go.Proofs.Ytnenbbkkhnlgbaa
open Go.RowKit Go.Great

def two (a b : Int) (k : Nat) : Int := if k = 0 then a else b
def preN (l : List UInt8) (a b : Int) : Nat → List UInt8
  | 0 => l
  | k + 1 => preN l a b k ++ n4 (two a b k)
theorem preN_len (l : List UInt8) (a b : Int) (k : Nat) : (preN l a b k).length = l.length + 4 * k := by
  induction k with
  | zero => rfl
  | succ k ih => rw [preN, List.length_append, ih, n4_len]; omega
theorem preN_two (l : List UInt8) (a b : Int) : preN l a b 2 = l ++ (n4 a ++ n4 b) := by simp [preN, two, List.append_assoc]
theorem two_cell {w : World} {g : Nat} {a b : Int} (h : Blk w g #[.int .i64 a, .int .i64 b] 3) (k : Nat) (hk : k < 2) : w.cell? ⟨g, k, none⟩ = some (.int .i64 (two a b k)) := by
  have : k = 0 ∨ k = 1 := by omega
  rcases this with rfl | rfl
  · exact h.cell 0 rfl
  · exact h.cell 1 rfl
set_option maxRecDepth 100000 in
set_option maxHeartbeats 4000000 in
theorem appN_any (l : List UInt8) (hl : l.length ≤ 8192) (v : Value) (base : Nat) (a b : Int) (g : Nat) (w : World) (hR : BRow w base v l) (hbase : base ≤ w.heap.size) (hG : Blk w g #[.int .i64 a, .int .i64 b] 3) : Calls Try.prog 59 #[v, .slice (some ⟨g, 0, none⟩) 2 2] w fun e w' => ∃ v', e = .returned v' ∧ BRow w' base v' (l ++ (n4 a ++ n4 b)) ∧ Below base w w' := by
  obtain ⟨i0, hi, hz0, hz1, hz2⟩ := info_parts info_byte
  rw [← preN_two]
  obtain ⟨m, hm⟩ : ∃ m : Nat, m = 2 := ⟨_, rfl⟩
  obtain ⟨ao, cap, rfl⟩ := hR.shape
  have HR := hide hR
  have HG := hide hG
  clear hR hG
  rw [← hm]
  have HM := hide hm
  have hm2 : m ≤ 2 := by omega
  clear hm
  have HL0 := hide hl
  go_enter Try.func59, Try.ntmps59
  go_wp2_with fail
  go_loopw [0, 10] (fun v i wx => ∃ k : Nat, k ≤ m ∧ i = .int .i64 k ∧ Hid (BRow wx base v (preN l a b k)) ∧ Hid (Below base w wx) ∧ Hid (Blk wx g #[.int .i64 a, .int .i64 b] 3)) (fun _ i _ => m - (intOf i).toNat)
  case atStart => exact ⟨0, Nat.zero_le _, rfl, HR.out, hide (Below.refl _ _), HG⟩
  case round =>
    obtain ⟨k, hk, rfl, hR, hB, hG⟩ := hrel
    clear HR HG
    by_cases hlt : k < m
    · have d0 := two_cell hG.out k (by omega)
      have HP : Hid (preN l a b (k + 1) = preN l a b k ++ byN (two a b k) 4) := rfl
      have HPL : Hid ((preN l a b k).length ≤ 8200) := hide (by rw [preN_len]; have := HL0.out; omega)
      generalize two a b k = n at d0 HP
      generalize preN l a b k = p at HP HPL hR
      go_wp2_with fail
      go_loopw [0, 14] (fun v i wx => ∃ j : Nat, j ≤ 4 ∧ i = .int .i64 j ∧ Hid (BRow wx base v (p ++ byN n j)) ∧ Hid (Below base w wx) ∧ Hid (Blk wx g #[.int .i64 a, .int .i64 b] 3)) (fun _ i _ => 4 - (intOf i).toNat)
      case atStart => exact ⟨0, Nat.zero_le _, rfl, hide (by rw [byN, List.append_nil]; exact hR.out), hB, hG⟩
      case round =>
        clear d0 hR hB hG
        obtain ⟨j, hj, rfl, hR, hB, hG⟩ := hrel
        have hws := hB.out.size
        by_cases hlt2 : j < 4
        · have h4 : j = 0 ∨ j = 1 ∨ j = 2 ∨ j = 3 := by omega
          have HL : Hid ((p ++ byN n j).length ≤ 8204) := hide (by
            rw [List.length_append, byN_len]
            have := HPL.out
            omega)
          have HS : Hid (p ++ byN n (j + 1) = (p ++ byN n j) ++ [u8 (n / 256 ^ j)]) := hide (by rw [byN, List.append_assoc])
          generalize p ++ byN n j = q at HL HS hR
          have HO : ∀ o, Hid ((wr.alloc o).ownsRow base 5 1 u0 q.length (bytesV q)) := fun o => hR.out.alloc o
          have HGA : ∀ o, Hid (Blk (wr.alloc o) g #[.int .i64 a, .int .i64 b] 3) := fun o => hide (hG.out.alloc o)
          clear hR hG hlt2 hj
          rcases h4 with rfl | rfl | rfl | rfl
          · have HS' : Hid (p ++ byN n 1 = q ++ [u8 (n)]) := hide (by
              have := HS.out
              simpa using this)
            clear HS
            go_wp2_with (at_builtin; refine wpList_append_own _ rfl (.tmp 17) (.tmp 23) 80 rfl base 5 i0 _ 1 1 Try.underlying80 hi hz0 hz1 hz2 rfl (by decide) _ _ _ rfl (HO _).out ⟨wr.heap.size, 0, none⟩ 1 1 [.int .u8 (n % 256)] rfl rfl ?c1 ?c2 ?c3 ?c4 ?c5 ?_)
            case c1 => exact new_cell1 _ _ rfl _ _
            case c2 => intro u hu; simp at hu; subst hu; rfl
            case c3 => have := HL.out; unfold maxLen; omega
            case c4 => have := HL.out; omega
            case c5 => rw [size_alloc]; omega
            intro v' w5 hown5 hgrow5 _
            have HR5 : Hid (BRow w5 base v' (p ++ byN n 1)) := by
              show World.ownsRow _ _ _ _ _ _ _
              rw [HS'.out, List.length_append, bytesV_app, show bytesV [u8 (n)] = [Value.int .u8 (n % 256)] from congrArg (fun z => [Value.int .u8 z]) (u8_back _)]; exact hown5
            have HB5 : Hid (Below base w w5) := hide (((hB.out.alloc (by omega) _).grown hgrow5 (by rw [size_alloc]; omega) (fun j e => ((HO (.cells #[] 5)).out.lt j e).1)))
            have HG5 : Hid (Blk w5 g #[.int .i64 a, .int .i64 b] 3) := hide (blk_grown (HO _).out (HGA _).out (by decide) hgrow5)
            obtain ⟨ao5, cap5, rfl⟩ := HR5.out.shape
            clear hown5 hgrow5 HO HGA hi hz0 hz1 hz2
            go_wp2_with fail
            go_roundw
            case rel => exact ⟨1, by omega, by go_num, HR5, HB5, HG5⟩
            case measure => simp [intOf]
          · have HS' : Hid (p ++ byN n 2 = q ++ [u8 (n / 256)]) := hide (by
              have := HS.out
              simpa using this)
            clear HS
            go_wp2_with (at_builtin; refine wpList_append_own _ rfl (.tmp 17) (.tmp 23) 80 rfl base 5 i0 _ 1 1 Try.underlying80 hi hz0 hz1 hz2 rfl (by decide) _ _ _ rfl (HO _).out ⟨wr.heap.size, 0, none⟩ 1 1 [.int .u8 (n / 256 % 256)] rfl rfl ?c1 ?c2 ?c3 ?c4 ?c5 ?_)
            case c1 => exact new_cell1 _ _ rfl _ _
            case c2 => intro u hu; simp at hu; subst hu; rfl
            case c3 => have := HL.out; unfold maxLen; omega
            case c4 => have := HL.out; omega
            case c5 => rw [size_alloc]; omega
            intro v' w5 hown5 hgrow5 _
            have HR5 : Hid (BRow w5 base v' (p ++ byN n 2)) := by
              show World.ownsRow _ _ _ _ _ _ _
              rw [HS'.out, List.length_append, bytesV_app, show bytesV [u8 (n / 256)] = [Value.int .u8 (n / 256 % 256)] from congrArg (fun z => [Value.int .u8 z]) (u8_back _)]; exact hown5
            have HB5 : Hid (Below base w w5) := hide (((hB.out.alloc (by omega) _).grown hgrow5 (by rw [size_alloc]; omega) (fun j e => ((HO (.cells #[] 5)).out.lt j e).1)))
            have HG5 : Hid (Blk w5 g #[.int .i64 a, .int .i64 b] 3) := hide (blk_grown (HO _).out (HGA _).out (by decide) hgrow5)
            obtain ⟨ao5, cap5, rfl⟩ := HR5.out.shape
            clear hown5 hgrow5 HO HGA hi hz0 hz1 hz2
            go_wp2_with fail
            go_roundw
            case rel => exact ⟨2, by omega, by go_num, HR5, HB5, HG5⟩
            case measure => simp [intOf]
          · have HS' : Hid (p ++ byN n 3 = q ++ [u8 (n / 65536)]) := hide (by
              have := HS.out
              simpa using this)
            clear HS
            go_wp2_with (at_builtin; refine wpList_append_own _ rfl (.tmp 17) (.tmp 23) 80 rfl base 5 i0 _ 1 1 Try.underlying80 hi hz0 hz1 hz2 rfl (by decide) _ _ _ rfl (HO _).out ⟨wr.heap.size, 0, none⟩ 1 1 [.int .u8 (n / 65536 % 256)] rfl rfl ?c1 ?c2 ?c3 ?c4 ?c5 ?_)
            case c1 => exact new_cell1 _ _ rfl _ _
            case c2 => intro u hu; simp at hu; subst hu; rfl
            case c3 => have := HL.out; unfold maxLen; omega
            case c4 => have := HL.out; omega
            case c5 => rw [size_alloc]; omega
            intro v' w5 hown5 hgrow5 _
            have HR5 : Hid (BRow w5 base v' (p ++ byN n 3)) := by
              show World.ownsRow _ _ _ _ _ _ _
              rw [HS'.out, List.length_append, bytesV_app, show bytesV [u8 (n / 65536)] = [Value.int .u8 (n / 65536 % 256)] from congrArg (fun z => [Value.int .u8 z]) (u8_back _)]; exact hown5
            have HB5 : Hid (Below base w w5) := hide (((hB.out.alloc (by omega) _).grown hgrow5 (by rw [size_alloc]; omega) (fun j e => ((HO (.cells #[] 5)).out.lt j e).1)))
            have HG5 : Hid (Blk w5 g #[.int .i64 a, .int .i64 b] 3) := hide (blk_grown (HO _).out (HGA _).out (by decide) hgrow5)
            obtain ⟨ao5, cap5, rfl⟩ := HR5.out.shape
            clear hown5 hgrow5 HO HGA hi hz0 hz1 hz2
            go_wp2_with fail
            go_roundw
            case rel => exact ⟨3, by omega, by go_num, HR5, HB5, HG5⟩
            case measure => simp [intOf]
          · have HS' : Hid (p ++ byN n 4 = q ++ [u8 (n / 16777216)]) := hide (by
              have := HS.out
              simpa using this)
            clear HS
            go_wp2_with (at_builtin; refine wpList_append_own _ rfl (.tmp 17) (.tmp 23) 80 rfl base 5 i0 _ 1 1 Try.underlying80 hi hz0 hz1 hz2 rfl (by decide) _ _ _ rfl (HO _).out ⟨wr.heap.size, 0, none⟩ 1 1 [.int .u8 (n / 16777216 % 256)] rfl rfl ?c1 ?c2 ?c3 ?c4 ?c5 ?_)
            case c1 => exact new_cell1 _ _ rfl _ _
            case c2 => intro u hu; simp at hu; subst hu; rfl
            case c3 => have := HL.out; unfold maxLen; omega
            case c4 => have := HL.out; omega
            case c5 => rw [size_alloc]; omega
            intro v' w5 hown5 hgrow5 _
            have HR5 : Hid (BRow w5 base v' (p ++ byN n 4)) := by
              show World.ownsRow _ _ _ _ _ _ _
              rw [HS'.out, List.length_append, bytesV_app, show bytesV [u8 (n / 16777216)] = [Value.int .u8 (n / 16777216 % 256)] from congrArg (fun z => [Value.int .u8 z]) (u8_back _)]; exact hown5
            have HB5 : Hid (Below base w w5) := hide (((hB.out.alloc (by omega) _).grown hgrow5 (by rw [size_alloc]; omega) (fun j e => ((HO (.cells #[] 5)).out.lt j e).1)))
            have HG5 : Hid (Blk w5 g #[.int .i64 a, .int .i64 b] 3) := hide (blk_grown (HO _).out (HGA _).out (by decide) hgrow5)
            obtain ⟨ao5, cap5, rfl⟩ := HR5.out.shape
            clear hown5 hgrow5 HO HGA hi hz0 hz1 hz2
            go_wp2_with fail
            go_roundw
            case rel => exact ⟨4, by omega, by go_num, HR5, HB5, HG5⟩
            case measure => simp [intOf]
        · have e4 : j = 4 := by omega
          have HR6 : Hid (BRow wr base u0 (preN l a b (k + 1))) := hide (by rw [HP.out, ← e4]; exact hR.out)
          have hd4 : decide ((j : Int) < 4) = false := by simp; omega
          clear hR HP hlt2 e4
          go_wp2_with fail
          go_roundw
          case rel => exact ⟨k + 1, by omega, by go_num, HR6, hB, hG⟩
          case measure => simp [intOf]; omega
    · have e2 : k = 2 := by have := HM.out; omega
      go_wp2_with fail
      go_ret
      refine ⟨_, rfl, ?_, hB.out⟩
      have := hR.out
      rw [e2] at this
      rw [HM.out]
      exact this
end Go.Proofs.Ytnenbbkkhnlgbaa
