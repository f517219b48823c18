/- Bad, Held, a reader that is none; Encode. -/
import Derived.Test.YtgdjphiicgiegaaFr5
namespace Go.Proofs.Ytgdjphiicgiegaa
open Go.RowKit Go.Great

theorem bad_any (w : World) (R : Nat) (s : ByteArray) (n : Int) (h : Rdr w R s n) : Calls Try.prog 22 #[.pointer (some ⟨R, 0, none⟩)] w fun e w' => e = .returned (.int .i64 n) ∧ w' = w := by
  have h1 := h.c1
  go_enter Try.func22, Try.ntmps22
  go_wp2
  go_ret
  exact ⟨rfl, rfl⟩
theorem feed_nil (w : World) (d : ByteArray) : Calls Try.prog 20 #[.pointer none, .string d] w fun e w' => e = .returned (.slice none 0 0) ∧ w' = w := by
  go_enter Try.func20, Try.ntmps20
  go_wp2
  go_ret
  exact ⟨rfl, rfl⟩
theorem bad_nil (w : World) : Calls Try.prog 22 #[.pointer none] w fun e w' => e = .returned (.int .i64 0) ∧ w' = w := by
  go_enter Try.func22, Try.ntmps22
  go_wp2
  go_ret
  exact ⟨rfl, rfl⟩
theorem conv_row (l : List UInt8) (w : World) (cs : Array Value) (hc : cs.toList = l.map fun x => Value.int .u8 (x.toNat : Int)) (n : Nat) (hn : n = l.length) (c : Nat) (g : Nat) (hg : g = w.heap.size) : (convert 42 9 (.slice (some ⟨g, 0, none⟩) n c)).run Try.prog (w.alloc (.cells cs 5)) = .ok (.string (bs l)) (w.alloc (.cells cs 5)) := by
  subst hn hg
  refine run_convert_bytes_back _ 42 9 5 ⟨w.heap.size, 0, none⟩ c l (by kernel_rfl) (by kernel_rfl) (by kernel_rfl) ?_
  intro j hj
  rw [show (Addr.add ⟨w.heap.size, 0, none⟩ j) = ⟨w.heap.size, j, none⟩ by simp [Addr.add]; exact fun h => h.symm, World.cell?_alloc_mark, ← Array.getElem?_toList, hc]
  simp [hj]
theorem enc_shape (n s i : UInt8) (p : ByteArray) : bs [253] ++ (bs [n, s, i] ++ p) ++ twoB (chk (n :: s :: i :: p.data.toList) i) = bs (encL n s i p.data.toList) := by
  apply bs_ext
  simp [ByteArray.data_append, bs, twoB, encL]
set_option maxHeartbeats 1000000 in
theorem encode_bytes (n s i : UInt8) (p : ByteArray) (hn : (p.size : Int) = (n.toNat : Int)) (h64 : n.toNat ≤ 64) (w : World) : Calls Try.prog 18 #[.agg #[.int .i64 (s.toNat : Int), .int .i64 (i.toNat : Int), .string p]] w fun e w' => e = .returned (.tuple #[.string (bs (encL n s i p.data.toList)), .int .i64 0]) ∧ Below w.heap.size w w' := by
  have hs := s.toNat_lt
  have hi := i.toNat_lt
  have hI1 := fun w => isByte_any (s.toNat : Int) w
  have hI2 := fun w => isByte_any (i.toNat : Int) w
  rw [show decide (0 ≤ (s.toNat : Int) ∧ (s.toNat : Int) ≤ 255) = true by simp; omega] at hI1
  rw [show decide (0 ≤ (i.toNat : Int) ∧ (i.toNat : Int) ≤ 255) = true by simp; omega] at hI2
  have hc3 : ∀ (wx : World) (g : Nat), g = wx.heap.size → (convert 42 9 (.slice (some ⟨g, 0, none⟩) 3 3)).run Try.prog (wx.alloc (.cells #[.int .u8 (n.toNat : Int), .int .u8 (s.toNat : Int), .int .u8 (i.toNat : Int)] 5)) = .ok (.string (bs [n, s, i])) (wx.alloc (.cells #[.int .u8 (n.toNat : Int), .int .u8 (s.toNat : Int), .int .u8 (i.toNat : Int)] 5)) := fun wx g hg => conv_row [n, s, i] wx _ rfl 3 rfl 3 g hg
  have hc1 : ∀ (wx : World) (g : Nat), g = wx.heap.size → (convert 42 9 (.slice (some ⟨g, 0, none⟩) 1 1)).run Try.prog (wx.alloc (.cells #[.int .u8 253] 5)) = .ok (.string (bs [253])) (wx.alloc (.cells #[.int .u8 253] 5)) := fun wx g hg => conv_row [253] wx _ rfl 1 rfl 1 g hg
  have hs3 := bs_size [n, s, i]
  have hs1 := bs_size [253]
  simp only [List.length_cons, List.length_nil] at hs3 hs1
  have ha1 : ∀ wx, (Op.stringOp .add (bs [n, s, i]) p).run Try.prog wx = .ok (.string (bs [n, s, i] ++ p)) wx := fun wx => run_string_add_sum wx _ _ (by omega)
  have hbz : (bs [n, s, i] ++ p).size = 3 + p.size := by rw [ByteArray.size_append]; omega
  have hb2 : 2 < (bs [n, s, i] ++ p).size := by omega
  have hck := fun w => check_any (bs [n, s, i] ++ p) hb2 (by omega) w
  have hel : (bs [n, s, i] ++ p).data.toList = n :: s :: i :: p.data.toList := by simp [ByteArray.data_append, bs]
  rw [← getD_at _ 2 hb2, hel] at hck
  have ha2 : ∀ wx, (Op.stringOp .add (bs [253]) (bs [n, s, i] ++ p)).run Try.prog wx = .ok (.string (bs [253] ++ (bs [n, s, i] ++ p))) wx := fun wx => run_string_add_sum wx _ _ (by omega)
  have HZ := enc_shape n s i p
  have hcg : (n :: s :: i :: p.data.toList).getD 2 0 = i := rfl
  rw [hcg] at hck
  generalize chk (n :: s :: i :: p.data.toList) i = c at hck HZ
  have hct : ∀ (wx : World) (g : Nat), g = wx.heap.size → (convert 42 9 (.slice (some ⟨g, 0, none⟩) 2 2)).run Try.prog (wx.alloc (.cells #[.int .u8 ((c.toNat : Int) % 256), .int .u8 ((c.toNat : Int) / 256)] 5)) = .ok (.string (twoB c)) (wx.alloc (.cells #[.int .u8 ((c.toNat : Int) % 256), .int .u8 ((c.toNat : Int) / 256)] 5)) := fun wx g hg => by subst hg; exact conv_two wx c
  have htz : (twoB c).size = 2 := rfl
  have ha3 : ∀ wx, (Op.stringOp .add (bs [253] ++ (bs [n, s, i] ++ p)) (twoB c)).run Try.prog wx = .ok (.string (bs [253] ++ (bs [n, s, i] ++ p) ++ twoB c)) wx := fun wx => run_string_add_sum wx _ _ (by rw [ByteArray.size_append]; omega)
  generalize bs [n, s, i] ++ p = b at ha1 ha2 ha3 HZ hck
  generalize bs [n, s, i] = b3 at hc3 ha1
  generalize bs [253] = b1 at hc1 ha2 ha3 HZ
  generalize b1 ++ b = b4 at ha2 ha3 HZ
  generalize twoB c = b5 at hct ha3 HZ
  generalize b4 ++ b5 = b6 at ha3 HZ
  have hcl := c.isLt
  have HZ' := hide HZ
  clear HZ hs3 hs1 hbz hb2 hel hcg htz
  go_enter Try.func18, Try.ntmps18
  go_wp2_with fail
  refine (hI1 _).mono ?_
  rintro e w1 ⟨rfl, hw1⟩
  subst hw1
  go_wp2_with fail
  refine (hI2 _).mono ?_
  rintro e w2 ⟨rfl, hw2⟩
  subst hw2
  go_wp2_with fail
  refine (hck _).mono ?_
  rintro e w3 ⟨rfl, hB3⟩
  have HB3 := hide hB3
  clear hB3
  go_wp2_with fail
  go_ret2
  rw [HZ'.out]
  exact ⟨rfl, below_next (below_next (below_over (below_over HB3.out)) (Nat.le_refl _) (below_alloc _ _)) (Nat.le_refl _) (below_alloc _ _)⟩
theorem encode_range (a b : Int) (p : ByteArray) (h : ¬ (0 ≤ a ∧ a ≤ 255) ∨ ¬ (0 ≤ b ∧ b ≤ 255)) (w : World) : Calls Try.prog 18 #[.agg #[.int .i64 a, .int .i64 b, .string p]] w fun e w' => e = .returned (.tuple #[.string ⟨#[]⟩, .int .i64 5]) ∧ Below w.heap.size w w' := by
  have hI1 := fun w => isByte_any a w
  have hI2 := fun w => isByte_any b w
  by_cases ha : 0 ≤ a ∧ a ≤ 255
  · have hb : ¬ (0 ≤ b ∧ b ≤ 255) := by omega
    rw [show decide (0 ≤ a ∧ a ≤ 255) = true by simpa using ha] at hI1
    rw [show decide (0 ≤ b ∧ b ≤ 255) = false by simpa using hb] at hI2
    clear h ha hb
    go_enter Try.func18, Try.ntmps18
    go_wp2_with fail
    refine (hI1 _).mono ?_
    rintro e w1 ⟨rfl, hw1⟩
    subst hw1
    go_wp2_with fail
    refine (hI2 _).mono ?_
    rintro e w2 ⟨rfl, hw2⟩
    subst hw2
    go_wp2_with fail
    go_ret2
    exact ⟨rfl, below_alloc _ _⟩
  · rw [show decide (0 ≤ a ∧ a ≤ 255) = false by simpa using ha] at hI1
    clear h ha hI2
    go_enter Try.func18, Try.ntmps18
    go_wp2_with fail
    refine (hI1 _).mono ?_
    rintro e w1 ⟨rfl, hw1⟩
    subst hw1
    go_wp2_with fail
    go_ret2
    exact ⟨rfl, below_alloc _ _⟩
theorem encode_size (a b : Int) (p : ByteArray) (ha : 0 ≤ a ∧ a ≤ 255) (hb : 0 ≤ b ∧ b ≤ 255) (h64 : 64 < p.size) (w : World) : Calls Try.prog 18 #[.agg #[.int .i64 a, .int .i64 b, .string p]] w fun e w' => e = .returned (.tuple #[.string ⟨#[]⟩, .int .i64 3]) ∧ Below w.heap.size w w' := by
  have hI1 := fun w => isByte_any a w
  have hI2 := fun w => isByte_any b w
  rw [show decide (0 ≤ a ∧ a ≤ 255) = true by simpa using ha] at hI1
  rw [show decide (0 ≤ b ∧ b ≤ 255) = true by simpa using hb] at hI2
  clear ha hb
  go_enter Try.func18, Try.ntmps18
  go_wp2_with fail
  refine (hI1 _).mono ?_
  rintro e w1 ⟨rfl, hw1⟩
  subst hw1
  go_wp2_with fail
  refine (hI2 _).mono ?_
  rintro e w2 ⟨rfl, hw2⟩
  subst hw2
  go_wp2_with fail
  go_ret2
  exact ⟨rfl, below_alloc _ _⟩
/-- what Encode answers -/
def encV (f : Fr) : ByteArray × Int :=
  if (0 ≤ f.1 ∧ f.1 ≤ 255) ∧ (0 ≤ f.2.1 ∧ f.2.1 ≤ 255) then if f.2.2.size ≤ 64 then (bs (encF f), 0) else (⟨#[]⟩, 3) else (⟨#[]⟩, 5)
theorem encV_right {f : Fr} (h : Right f) : encV f = (bs (encF f), 0) := by
  obtain ⟨h1, h2, h3, h4, h5⟩ := h
  unfold encV
  rw [if_pos ⟨⟨h1, h2⟩, h3, h4⟩, if_pos h5]
theorem encV_wrong {f : Fr} (h : ¬ Right f) : (encV f).1 = ⟨#[]⟩ ∧ (encV f).2 ≠ 0 := by
  unfold encV
  by_cases h1 : (0 ≤ f.1 ∧ f.1 ≤ 255) ∧ (0 ≤ f.2.1 ∧ f.2.1 ≤ 255)
  · by_cases h2 : f.2.2.size ≤ 64
    · exact absurd ⟨h1.1.1, h1.1.2, h1.2.1, h1.2.2, h2⟩ h
    · rw [if_pos h1, if_neg h2]; simp
  · rw [if_neg h1]; simp
theorem encode_any (f : Fr) (w : World) : Calls Try.prog 18 #[.agg #[.int .i64 f.1, .int .i64 f.2.1, .string f.2.2]] w fun e w' => e = .returned (.tuple #[.string (encV f).1, .int .i64 (encV f).2]) ∧ Below w.heap.size w w' := by
  obtain ⟨a, b, p⟩ := f
  unfold encV
  by_cases h1 : (0 ≤ a ∧ a ≤ 255) ∧ (0 ≤ b ∧ b ≤ 255)
  · rw [if_pos h1]
    by_cases h2 : p.size ≤ 64
    · rw [if_pos h2]
      obtain ⟨⟨h3, h4⟩, h5, h6⟩ := h1
      have ea : ((UInt8.ofNat a.toNat).toNat : Int) = a := by rw [UInt8.toNat_ofNat']; omega
      have eb : ((UInt8.ofNat b.toNat).toNat : Int) = b := by rw [UInt8.toNat_ofNat']; omega
      have en : ((UInt8.ofNat p.size).toNat : Int) = p.size := by rw [UInt8.toNat_ofNat']; omega
      have := encode_bytes (UInt8.ofNat p.size) (UInt8.ofNat a.toNat) (UInt8.ofNat b.toNat) p en.symm (by omega) w
      rw [ea, eb] at this
      exact this
    · rw [if_neg h2]
      exact encode_size a b p h1.1 h1.2 (by omega) w
  · rw [if_neg h1]
    refine encode_range a b p ?_ w
    rcases Decidable.not_and_iff_or_not.1 h1 with h | h
    · exact .inl h
    · exact .inr h
end Go.Proofs.Ytgdjphiicgiegaa
