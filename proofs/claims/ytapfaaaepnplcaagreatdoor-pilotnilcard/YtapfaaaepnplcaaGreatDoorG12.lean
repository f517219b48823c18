/- Fr2. -/
import Derived.Test.YtapfaaaepnplcaaGreatDoorG03
import Derived.Test.YtapfaaaepnplcaaGreatDoorG11
import Derived.Lib.IndexLaws
import Derived.Laws.ResultCell
set_option maxRecDepth 100000
namespace Go.Proofs.YtapfaaaepnplcaaGreatDoor
open Go.RowKit Go.Great
theorem getD_at_Fr2 (s : ByteArray) (i : Nat) (h : i < s.size) : s.data.toList.getD i 0 = s[i] := by
  have h' : i < s.data.toList.length := by simpa using h
  rw [List.getD, List.getElem?_eq_getElem h']; rfl
theorem seven (i : UInt8) : (7 * (i.toNat : Int) % 256 + 31) % 256 = (((7 * i + 31 : UInt8)).toNat : Int) := by
  have h := i.toNat_lt
  rw [UInt8.toNat_add, UInt8.toNat_mul]
  simp
theorem check_any_Fr2 (b : ByteArray) (h3 : 2 < b.size) (hs : b.size ≤ 9223372036854775807) (w : World) : Calls Tryz.prog 280 #[.string b] w fun e w' => e = .returned (.int .u16 ((chk_FrM b.data.toList b[2]).toNat : Int)) ∧ Below w.heap.size w w' := by
  have h7 := seven b[2]
  have HC : Hid (cadd (csum b) ((7 : UInt8) * b[2] + 31) = chk_FrM b.data.toList b[2]) := rfl
  generalize (7 : UInt8) * b[2] + 31 = q at h7 HC
  generalize chk_FrM b.data.toList b[2] = r at HC ⊢
  have hq := q.toNat_lt
  have hb := b[2].toNat_lt
  go_enter Tryz.func280, Tryz.ntmps280
  go_wp2_with fail
  refine (sum_any _ _ hs).mono ?_
  rintro e w1 ⟨rfl, h1⟩
  go_wp2_with fail
  refine (add_any_CrcB _ _ _).mono ?_
  rintro e w2 ⟨rfl, h2⟩
  go_wp2_with fail
  go_ret
  exact ⟨ret_int (by rw [HC.out]), below_next h1 (Nat.le_refl _) h2⟩
theorem isByte_any (n : Int) (w : World) : Calls Tryz.prog 279 #[.int .i64 n] w fun e w' => e = .returned (.bool (decide (0 ≤ n ∧ n ≤ 255))) ∧ w' = w := by
  by_cases h0 : 0 ≤ n
  · by_cases h1 : n ≤ 255
    · have hd : decide (0 ≤ n ∧ n ≤ 255) = true := by simp; omega
      go_enter Tryz.func279, Tryz.ntmps279
      go_wp2
      go_ret
      exact ⟨ret_bool (by simp; omega), rfl⟩
    · have hd : decide (0 ≤ n ∧ n ≤ 255) = false := by simp; omega
      go_enter Tryz.func279, Tryz.ntmps279
      go_wp2
      go_ret
      exact ⟨ret_bool (by simp; omega), rfl⟩
  · have hd : decide (0 ≤ n ∧ n ≤ 255) = false := by simp; omega
    go_enter Tryz.func279, Tryz.ntmps279
    go_wp2
    go_ret
    exact ⟨ret_bool (by simp), rfl⟩
theorem hold_row (w : World) (R : Nat) (s : ByteArray) (n : Int) (h : Rdr w R s n) (hs : s.size ≤ 281474976710656) : Calls Tryz.prog 266 #[.pointer (some ⟨R, 0, none⟩)] w fun e w' => e = .returned (.tuple #[]) ∧ Rdr w' R s n ∧ ∃ w1, Below w.heap.size w w1 ∧ w' = w1.setCell ⟨R, 0, none⟩ (.string s) := by
  have h0 := h.c0
  go_enter Tryz.func266, Tryz.ntmps266
  go_wp2_with fail
  refine (clone_any s _ hs).mono ?_
  rintro e w1 ⟨rfl, h1⟩
  have hr := h.below h1
  have h10 := hr.c0
  have f10 := hr.f0 0
  go_wp2_with fail
  go_end0
  exact ⟨rfl, hr.set0 s, w1, h1, rfl⟩
theorem seek_at : ∀ (l : List UInt8), (Lib.indexByte l 253 = -1 ∧ l.dropWhile (fun x => x != 253) = []) ∨ ∃ k : Nat, Lib.indexByte l 253 = k ∧ k ≤ l.length ∧ l.dropWhile (fun x => x != 253) = l.drop k
  | [] => .inl ⟨rfl, rfl⟩
  | x :: t => by
    by_cases hx : x = 253
    · subst hx
      exact .inr ⟨0, rfl, by omega, rfl⟩
    · have hd : (x :: t).dropWhile (fun x => x != 253) = t.dropWhile (fun x => x != 253) := List.dropWhile_cons_of_pos (by simpa using hx)
      have hi : Lib.indexByte (x :: t) 253 = if Lib.indexByte t 253 == -1 then -1 else Lib.indexByte t 253 + 1 := by
        rw [Lib.indexByte, if_neg (by simpa using hx)]
      rw [hd, hi]
      rcases seek_at t with ⟨h1, h2⟩ | ⟨k, h1, h2, h3⟩
      · exact .inl ⟨by rw [h1]; rfl, h2⟩
      · refine .inr ⟨k + 1, ?_, by simp; omega, h3⟩
        rw [h1, if_neg (by simp)]; omega
def seekS (s : ByteArray) : ByteArray := bs (s.data.toList.dropWhile (fun x => x != 253))
theorem seek_row (w : World) (R : Nat) (s : ByteArray) (n : Int) (h : Rdr w R s n) : Calls Tryz.prog 262 #[.pointer (some ⟨R, 0, none⟩)] w fun e w' => e = .returned (.tuple #[]) ∧ w' = w.setCell ⟨R, 0, none⟩ (.string (seekS s)) := by
  have h0 := h.c0
  rcases seek_at s.data.toList with ⟨h1, h2⟩ | ⟨k, h1, h2, h3⟩
  · have HE : Hid (ByteArray.empty = seekS s) := by
      show _ = _
      rw [seekS, h2]; rfl
    go_enter Tryz.func262, Tryz.ntmps262
    go_wp2_with fail
    refine (index_any_Fr1 s _).mono ?_
    rintro e w1 ⟨rfl, hw⟩
    subst hw
    go_wp2_with fail
    refine (pass_row _ R s n h s.size (Nat.le_refl _)).mono ?_
    rintro e w1 ⟨rfl, rfl⟩
    go_wp2_with fail
    go_end0
    exact ⟨rfl, by rw [HE.out]⟩
  · have HE : Hid (s.extract k s.size = seekS s) := by
      show _ = _
      rw [extract_from, seekS, h3]
    have hk : k ≤ s.size := by simpa using h2
    clear h3
    go_enter Tryz.func262, Tryz.ntmps262
    go_wp2_with fail
    refine (index_any_Fr1 s _).mono ?_
    rintro e w1 ⟨rfl, hw⟩
    subst hw
    go_wp2_with fail
    refine (pass_row _ R s n h k hk).mono ?_
    rintro e w1 ⟨rfl, rfl⟩
    go_wp2_with fail
    go_end0
    exact ⟨rfl, by rw [HE.out]⟩
def ripeB (l : List UInt8) : Bool := decide (2 ≤ l.length ∧ (64 < lenB l ∨ 6 + lenB l ≤ l.length))
theorem ripe_row (w : World) (R : Nat) (s : ByteArray) (n : Int) (h : Rdr w R s n) (hs : s.size ≤ 9223372036854775807) : Calls Tryz.prog 263 #[.pointer (some ⟨R, 0, none⟩)] w fun e w' => e = .returned (.bool (ripeB s.data.toList)) ∧ w' = w := by
  have h0 := h.c0
  have hl := list_size s
  by_cases h2 : s.size < 2
  · have HR : Hid (ripeB s.data.toList = false) := by
      show _ = _
      unfold ripeB; simp only [decide_eq_false_iff_not]; omega
    go_enter Tryz.func263, Tryz.ntmps263
    go_wp2
    go_ret
    exact ⟨ret_bool HR.out.symm, rfl⟩
  · have h1 : 1 < s.size := by omega
    have HL : Hid (lenB s.data.toList = s[1].toNat) := by
      show _ = _
      unfold lenB; rw [getD_at_Fr2 s 1 h1]
    have hb := s[1].toNat_lt
    by_cases h64 : 64 < s[1].toNat
    · have HR : Hid (ripeB s.data.toList = true) := by
        show _ = _
        have := HL.out
        unfold ripeB; simp only [decide_eq_true_eq]; omega
      go_enter Tryz.func263, Tryz.ntmps263
      go_wp2
      go_ret
      exact ⟨ret_bool (by rw [HR.out]), rfl⟩
    · by_cases h6 : 6 + s[1].toNat ≤ s.size
      · have HR : Hid (ripeB s.data.toList = true) := by
          show _ = _
          have := HL.out
          unfold ripeB; simp only [decide_eq_true_eq]; omega
        go_enter Tryz.func263, Tryz.ntmps263
        go_wp2
        go_ret
        exact ⟨ret_bool (by rw [HR.out]; simp; omega), rfl⟩
      · have HR : Hid (ripeB s.data.toList = false) := by
          show _ = _
          have := HL.out
          unfold ripeB; simp only [decide_eq_false_iff_not]; omega
        go_enter Tryz.func263, Tryz.ntmps263
        go_wp2
        go_ret
        exact ⟨ret_bool (by rw [HR.out]; simp; omega), rfl⟩
end Go.Proofs.YtapfaaaepnplcaaGreatDoor
