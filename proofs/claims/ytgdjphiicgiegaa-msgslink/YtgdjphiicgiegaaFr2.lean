/- The reader's row: seek, ripe, first, hold; a frame's check. -/
import Derived.Test.YtgdjphiicgiegaaFr1
import Derived.Lib.IndexLaws
import Derived.Laws.ResultCell
namespace Go.Proofs.Ytgdjphiicgiegaa
open Go.RowKit Go.Great

/-- a string of these bytes -/
def bs (l : List UInt8) : ByteArray := ⟨l.toArray⟩
theorem bs_list (l : List UInt8) : (bs l).data.toList = l := by simp [bs]
theorem bs_size (l : List UInt8) : (bs l).size = l.length := by simp [bs, ByteArray.size]
theorem bs_of (s : ByteArray) : bs s.data.toList = s := by simp [bs]
theorem list_size (s : ByteArray) : s.data.toList.length = s.size := by simp
theorem bs_ext {s t : ByteArray} (h : s.data.toList = t.data.toList) : s = t := by
  rw [← bs_of s, h, bs_of]
theorem extract_list (s : ByteArray) (a b : Nat) : (s.extract a b).data.toList = (s.data.toList.drop a).take (b - a) := by
  rw [ByteArray.data_extract, Array.toList_extract]
theorem extract_from (s : ByteArray) (a : Nat) : s.extract a s.size = bs (s.data.toList.drop a) := by
  apply bs_ext
  rw [extract_list, bs_list, List.take_of_length_le (by simp)]
theorem getD_at (s : ByteArray) (i : Nat) (h : i < s.size) : s.data.toList.getD i 0 = s[i] := by
  have h' : i < s.data.toList.length := by simpa using h
  rw [List.getD, List.getElem?_eq_getElem h']; rfl
theorem seven (i : UInt8) : (7 * (i.toNat : Int) % 256 + 31) % 256 = (((7 * i + 31 : UInt8)).toNat : Int) := by
  have h := i.toNat_lt
  rw [UInt8.toNat_add, UInt8.toNat_mul]
  simp
theorem check_any (b : ByteArray) (h3 : 2 < b.size) (hs : b.size ≤ 9223372036854775807) (w : World) : Calls Try.prog 34 #[.string b] w fun e w' => e = .returned (.int .u16 ((chk b.data.toList b[2]).toNat : Int)) ∧ Below w.heap.size w w' := by
  have h7 := seven b[2]
  have HC : Hid (cadd (csum b) ((7 : UInt8) * b[2] + 31) = chk b.data.toList b[2]) := rfl
  generalize (7 : UInt8) * b[2] + 31 = q at h7 HC
  generalize chk b.data.toList b[2] = r at HC ⊢
  have hq := q.toNat_lt
  have hb := b[2].toNat_lt
  go_enter Try.func34, Try.ntmps34
  go_wp2_with fail
  refine (sum_any _ _ hs).mono ?_
  rintro e w1 ⟨rfl, h1⟩
  go_wp2_with fail
  refine (add_any _ _ _).mono ?_
  rintro e w2 ⟨rfl, h2⟩
  go_wp2_with fail
  go_ret
  exact ⟨ret_int (by rw [HC.out]), below_next h1 (Nat.le_refl _) h2⟩
theorem isByte_any (n : Int) (w : World) : Calls Try.prog 33 #[.int .i64 n] w fun e w' => e = .returned (.bool (decide (0 ≤ n ∧ n ≤ 255))) ∧ w' = w := by
  by_cases h0 : 0 ≤ n
  · by_cases h1 : n ≤ 255
    · have hd : decide (0 ≤ n ∧ n ≤ 255) = true := by simp; omega
      go_enter Try.func33, Try.ntmps33
      go_wp2
      go_ret
      exact ⟨ret_bool (by simp; omega), rfl⟩
    · have hd : decide (0 ≤ n ∧ n ≤ 255) = false := by simp; omega
      go_enter Try.func33, Try.ntmps33
      go_wp2
      go_ret
      exact ⟨ret_bool (by simp; omega), rfl⟩
  · have hd : decide (0 ≤ n ∧ n ≤ 255) = false := by simp; omega
    go_enter Try.func33, Try.ntmps33
    go_wp2
    go_ret
    exact ⟨ret_bool (by simp), rfl⟩
theorem hold_row (w : World) (R : Nat) (s : ByteArray) (n : Int) (h : Rdr w R s n) (hs : s.size ≤ 281474976710656) : Calls Try.prog 40 #[.pointer (some ⟨R, 0, none⟩)] w fun e w' => e = .returned (.tuple #[]) ∧ Rdr w' R s n ∧ ∃ w1, Below w.heap.size w w1 ∧ w' = w1.setCell ⟨R, 0, none⟩ (.string s) := by
  have h0 := h.c0
  go_enter Try.func40, Try.ntmps40
  go_wp2_with fail
  refine (clone_any s _ hs).mono ?_
  rintro e w1 ⟨rfl, h1⟩
  have hr := h.below h1
  have h10 := hr.c0
  have f10 := hr.f0 0
  go_wp2_with fail
  go_end0
  exact ⟨rfl, hr.set0 s, w1, h1, rfl⟩
theorem seek_at : ∀ (l : List UInt8), (Lib.indexByte l 253 = -1 ∧ l.dropWhile (fun x => x != 253) = []) ∨ ∃ k : Nat, Lib.indexByte l 253 = k ∧ k ≤ l.length ∧ l.dropWhile (fun x => x != 253) = l.drop k
  | [] => .inl ⟨rfl, rfl⟩
  | x :: t => by
    by_cases hx : x = 253
    · subst hx
      exact .inr ⟨0, rfl, by omega, rfl⟩
    · have hd : (x :: t).dropWhile (fun x => x != 253) = t.dropWhile (fun x => x != 253) := List.dropWhile_cons_of_pos (by simpa using hx)
      have hi : Lib.indexByte (x :: t) 253 = if Lib.indexByte t 253 == -1 then -1 else Lib.indexByte t 253 + 1 := by
        rw [Lib.indexByte, if_neg (by simpa using hx)]
      rw [hd, hi]
      rcases seek_at t with ⟨h1, h2⟩ | ⟨k, h1, h2, h3⟩
      · exact .inl ⟨by rw [h1]; rfl, h2⟩
      · refine .inr ⟨k + 1, ?_, by simp; omega, h3⟩
        rw [h1, if_neg (by simp)]; omega
def seekS (s : ByteArray) : ByteArray := bs (s.data.toList.dropWhile (fun x => x != 253))
theorem seek_row (w : World) (R : Nat) (s : ByteArray) (n : Int) (h : Rdr w R s n) : Calls Try.prog 36 #[.pointer (some ⟨R, 0, none⟩)] w fun e w' => e = .returned (.tuple #[]) ∧ w' = w.setCell ⟨R, 0, none⟩ (.string (seekS s)) := by
  have h0 := h.c0
  rcases seek_at s.data.toList with ⟨h1, h2⟩ | ⟨k, h1, h2, h3⟩
  · have HE : Hid (ByteArray.empty = seekS s) := by
      show _ = _
      rw [seekS, h2]; rfl
    go_enter Try.func36, Try.ntmps36
    go_wp2_with fail
    refine (index_any s _).mono ?_
    rintro e w1 ⟨rfl, hw⟩
    subst hw
    go_wp2_with fail
    refine (pass_row _ R s n h s.size (Nat.le_refl _)).mono ?_
    rintro e w1 ⟨rfl, rfl⟩
    go_wp2_with fail
    go_end0
    exact ⟨rfl, by rw [HE.out]⟩
  · have HE : Hid (s.extract k s.size = seekS s) := by
      show _ = _
      rw [extract_from, seekS, h3]
    have hk : k ≤ s.size := by simpa using h2
    clear h3
    go_enter Try.func36, Try.ntmps36
    go_wp2_with fail
    refine (index_any s _).mono ?_
    rintro e w1 ⟨rfl, hw⟩
    subst hw
    go_wp2_with fail
    refine (pass_row _ R s n h k hk).mono ?_
    rintro e w1 ⟨rfl, rfl⟩
    go_wp2_with fail
    go_end0
    exact ⟨rfl, by rw [HE.out]⟩
def ripeB (l : List UInt8) : Bool := decide (2 ≤ l.length ∧ (64 < lenB l ∨ 6 + lenB l ≤ l.length))
theorem ripe_row (w : World) (R : Nat) (s : ByteArray) (n : Int) (h : Rdr w R s n) (hs : s.size ≤ 9223372036854775807) : Calls Try.prog 37 #[.pointer (some ⟨R, 0, none⟩)] w fun e w' => e = .returned (.bool (ripeB s.data.toList)) ∧ w' = w := by
  have h0 := h.c0
  have hl := list_size s
  by_cases h2 : s.size < 2
  · have HR : Hid (ripeB s.data.toList = false) := by
      show _ = _
      unfold ripeB; simp only [decide_eq_false_iff_not]; omega
    go_enter Try.func37, Try.ntmps37
    go_wp2
    go_ret
    exact ⟨ret_bool HR.out.symm, rfl⟩
  · have h1 : 1 < s.size := by omega
    have HL : Hid (lenB s.data.toList = s[1].toNat) := by
      show _ = _
      unfold lenB; rw [getD_at s 1 h1]
    have hb := s[1].toNat_lt
    by_cases h64 : 64 < s[1].toNat
    · have HR : Hid (ripeB s.data.toList = true) := by
        show _ = _
        have := HL.out
        unfold ripeB; simp only [decide_eq_true_eq]; omega
      go_enter Try.func37, Try.ntmps37
      go_wp2
      go_ret
      exact ⟨ret_bool (by rw [HR.out]), rfl⟩
    · by_cases h6 : 6 + s[1].toNat ≤ s.size
      · have HR : Hid (ripeB s.data.toList = true) := by
          show _ = _
          have := HL.out
          unfold ripeB; simp only [decide_eq_true_eq]; omega
        go_enter Try.func37, Try.ntmps37
        go_wp2
        go_ret
        exact ⟨ret_bool (by rw [HR.out]; simp; omega), rfl⟩
      · have HR : Hid (ripeB s.data.toList = false) := by
          show _ = _
          have := HL.out
          unfold ripeB; simp only [decide_eq_false_iff_not]; omega
        go_enter Try.func37, Try.ntmps37
        go_wp2
        go_ret
        exact ⟨ret_bool (by rw [HR.out]; simp; omega), rfl⟩
end Go.Proofs.Ytgdjphiicgiegaa
