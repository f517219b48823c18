/- The document's Encode; FrameEncodes. -/
import Derived.Test.YtijdobhdjmmgmaaFr7
namespace Go.Proofs.Ytijdobhdjmmgmaa
open Go.RowKit Go.Great

theorem chk_sum (n s i : UInt8) (p : ByteArray) : csum (bs [n, s, i] ++ p ++ bs [7 * i + 31]) = chk (n :: s :: i :: p.data.toList) i := by
  unfold csum chk
  rw [ByteArray.data_append, ByteArray.data_append, Array.toList_append, Array.toList_append, bs_list, bs_list, cadds_snoc]
  rfl
set_option maxHeartbeats 1000000 in
theorem ref_check (n s i : UInt8) (p : ByteArray) (hp : p.size ≤ 140737488351232) (w : World) : Calls Try.prog 24 #[.int .u8 (n.toNat : Int), .int .u8 (s.toNat : Int), .int .u8 (i.toNat : Int), .string p] w fun e w' => e = .returned (.int .u16 ((chk (n :: s :: i :: p.data.toList) i).toNat : Int)) ∧ Below w.heap.size w w' := by
  have h7 := seven i
  have HC := chk_sum n s i p
  have hc3 : ∀ (wx : World) (g : Nat), g = wx.heap.size → (convert 32 9 (.slice (some ⟨g, 0, none⟩) 3 3)).run Try.prog (wx.alloc (.cells #[.int .u8 (n.toNat : Int), .int .u8 (s.toNat : Int), .int .u8 (i.toNat : Int)] 5)) = .ok (.string (bs [n, s, i])) (wx.alloc (.cells #[.int .u8 (n.toNat : Int), .int .u8 (s.toNat : Int), .int .u8 (i.toNat : Int)] 5)) := fun wx g hg => conv_row [n, s, i] wx _ rfl 3 rfl 3 g hg
  have hc1 : ∀ (wx : World) (g : Nat), g = wx.heap.size → (convert 32 9 (.slice (some ⟨g, 0, none⟩) 1 1)).run Try.prog (wx.alloc (.cells #[.int .u8 ((7 * i + 31 : UInt8).toNat : Int)] 5)) = .ok (.string (bs [7 * i + 31])) (wx.alloc (.cells #[.int .u8 ((7 * i + 31 : UInt8).toNat : Int)] 5)) := fun wx g hg => conv_row [7 * i + 31] wx _ rfl 1 rfl 1 g hg
  have hs3 := bs_size [n, s, i]
  have hs1 := bs_size [7 * i + 31]
  simp only [List.length_cons, List.length_nil] at hs3 hs1
  have ha1 : ∀ wx, (Op.stringOp .add (bs [n, s, i]) p).run Try.prog wx = .ok (.string (bs [n, s, i] ++ p)) wx := fun wx => run_string_add_sum wx _ _ (by omega)
  have hbz : (bs [n, s, i] ++ p).size = 3 + p.size := by rw [ByteArray.size_append]; omega
  have ha2 : ∀ wx, (Op.stringOp .add (bs [n, s, i] ++ p) (bs [7 * i + 31])).run Try.prog wx = .ok (.string (bs [n, s, i] ++ p ++ bs [7 * i + 31])) wx := fun wx => run_string_add_sum wx _ _ (by omega)
  have hsm := fun w => ref_sum (bs [n, s, i] ++ p ++ bs [7 * i + 31]) w (by rw [ByteArray.size_append]; omega)
  rw [HC] at hsm
  have hi := i.toNat_lt
  generalize chk (n :: s :: i :: p.data.toList) i = c at hsm ⊢
  generalize bs [n, s, i] = b3 at hc3 ha1 ha2 hsm
  generalize (7 * i + 31 : UInt8) = q at h7 hc1 ha2 hsm
  generalize bs [q] = b1 at hc1 ha2 hsm
  generalize b3 ++ p = b4 at ha1 ha2 hsm
  generalize b4 ++ b1 = b5 at ha2 hsm
  clear HC hs3 hs1 hbz
  have hq := q.toNat_lt
  go_enter Try.func24, Try.ntmps24
  go_wp2_with fail
  refine (hsm _).mono ?_
  rintro e w1 ⟨rfl, hw1⟩
  go_wp2_with fail
  go_ret
  refine ⟨rfl, ?_⟩
  subst hw1
  exact below_next (below_alloc _ _) (Nat.le_refl _) (below_alloc _ _)
theorem enc_shape4 (n s i : UInt8) (p : ByteArray) : bs [253, n, s, i] ++ p ++ twoB (chk (n :: s :: i :: p.data.toList) i) = bs (encL n s i p.data.toList) := by
  apply bs_ext
  simp [ByteArray.data_append, bs, twoB, encL]
set_option maxHeartbeats 1000000 in
theorem ref_bytes (n s i : UInt8) (p : ByteArray) (hn : (p.size : Int) = (n.toNat : Int)) (h64 : n.toNat ≤ 64) (w : World) : Calls Try.prog 12 #[.agg #[.int .i64 (s.toNat : Int), .int .i64 (i.toNat : Int), .string p]] w fun e w' => e = .returned (.tuple #[.string (bs (encL n s i p.data.toList)), .int .i64 0]) ∧ Below w.heap.size w w' := by
  have hs := s.toNat_lt
  have hi := i.toNat_lt
  have hck := fun w => ref_check n s i p (by omega) w
  have hc4 : ∀ (wx : World) (g : Nat), g = wx.heap.size → (convert 32 9 (.slice (some ⟨g, 0, none⟩) 4 4)).run Try.prog (wx.alloc (.cells #[.int .u8 253, .int .u8 (n.toNat : Int), .int .u8 (s.toNat : Int), .int .u8 (i.toNat : Int)] 5)) = .ok (.string (bs [253, n, s, i])) (wx.alloc (.cells #[.int .u8 253, .int .u8 (n.toNat : Int), .int .u8 (s.toNat : Int), .int .u8 (i.toNat : Int)] 5)) := fun wx g hg => conv_row [253, n, s, i] wx _ rfl 4 rfl 4 g hg
  have hs4 := bs_size [253, n, s, i]
  simp only [List.length_cons, List.length_nil] at hs4
  have ha1 : ∀ wx, (Op.stringOp .add (bs [253, n, s, i]) p).run Try.prog wx = .ok (.string (bs [253, n, s, i] ++ p)) wx := fun wx => run_string_add_sum wx _ _ (by omega)
  have hbz : (bs [253, n, s, i] ++ p).size = 4 + p.size := by rw [ByteArray.size_append]; omega
  have HZ := enc_shape4 n s i p
  generalize chk (n :: s :: i :: p.data.toList) i = c at hck HZ
  have hct : ∀ (wx : World) (g : Nat), g = wx.heap.size → (convert 32 9 (.slice (some ⟨g, 0, none⟩) 2 2)).run Try.prog (wx.alloc (.cells #[.int .u8 ((c.toNat : Int) % 256), .int .u8 ((c.toNat : Int) / 256)] 5)) = .ok (.string (twoB c)) (wx.alloc (.cells #[.int .u8 ((c.toNat : Int) % 256), .int .u8 ((c.toNat : Int) / 256)] 5)) := fun wx g hg => by subst hg; exact conv_two wx c
  have htz : (twoB c).size = 2 := rfl
  have ha3 : ∀ wx, (Op.stringOp .add (bs [253, n, s, i] ++ p) (twoB c)).run Try.prog wx = .ok (.string (bs [253, n, s, i] ++ p ++ twoB c)) wx := fun wx => run_string_add_sum wx _ _ (by omega)
  generalize bs [253, n, s, i] ++ p = b at ha1 ha3 HZ
  generalize bs [253, n, s, i] = b4 at hc4 ha1
  generalize twoB c = b5 at hct ha3 HZ
  generalize b ++ b5 = b6 at ha3 HZ
  have hcl := c.isLt
  have HZ' := hide HZ
  clear HZ hs4 hbz htz
  go_enter Try.func12, Try.ntmps12
  go_wp2_with fail
  refine (hck _).mono ?_
  rintro e w3 ⟨rfl, hB3⟩
  have hF := (frm_new w (.int .i64 (s.toNat : Int)) (.int .i64 (i.toNat : Int)) (.string p)).below hB3
  have k0 := hF.c0
  have k1 := hF.c1
  have k2 := hF.c2
  have kl := hF.lt
  have HB3 := hide hB3
  clear hB3 hF
  go_wp2_with fail
  go_ret2
  rw [HZ'.out]
  exact ⟨rfl, below_next (below_next (below_over HB3.out) (Nat.le_refl _) (below_alloc _ _)) (Nat.le_refl _) (below_alloc _ _)⟩
theorem ref_range (a b : Int) (p : ByteArray) (h : ¬ (0 ≤ a ∧ a ≤ 255) ∨ ¬ (0 ≤ b ∧ b ≤ 255)) (w : World) : Calls Try.prog 12 #[.agg #[.int .i64 a, .int .i64 b, .string p]] w fun e w' => e = .returned (.tuple #[.string ⟨#[]⟩, .int .i64 5]) ∧ Below w.heap.size w w' := by
  by_cases h1 : a < 0
  · go_enter Try.func12, Try.ntmps12
    go_wp2_with fail
    go_ret2
    exact ⟨rfl, below_alloc _ _⟩
  · by_cases h2 : 255 < a
    · go_enter Try.func12, Try.ntmps12
      go_wp2_with fail
      go_ret2
      exact ⟨rfl, below_alloc _ _⟩
    · by_cases h3 : b < 0
      · clear h
        go_enter Try.func12, Try.ntmps12
        go_wp2_with fail
        go_ret2
        exact ⟨rfl, below_alloc _ _⟩
      · have h4 : 255 < b := by omega
        clear h
        go_enter Try.func12, Try.ntmps12
        go_wp2_with fail
        go_ret2
        exact ⟨rfl, below_alloc _ _⟩
theorem ref_size (a b : Int) (p : ByteArray) (ha : 0 ≤ a ∧ a ≤ 255) (hb : 0 ≤ b ∧ b ≤ 255) (h64 : 64 < p.size) (w : World) : Calls Try.prog 12 #[.agg #[.int .i64 a, .int .i64 b, .string p]] w fun e w' => e = .returned (.tuple #[.string ⟨#[]⟩, .int .i64 3]) ∧ Below w.heap.size w w' := by
  obtain ⟨a1, a2⟩ := ha
  obtain ⟨b1, b2⟩ := hb
  go_enter Try.func12, Try.ntmps12
  go_wp2_with fail
  go_ret2
  exact ⟨rfl, below_alloc _ _⟩
theorem ref_any (f : Fr) (w : World) : Calls Try.prog 12 #[.agg #[.int .i64 f.1, .int .i64 f.2.1, .string f.2.2]] w fun e w' => e = .returned (.tuple #[.string (encV f).1, .int .i64 (encV f).2]) ∧ Below w.heap.size w w' := by
  obtain ⟨a, b, p⟩ := f
  unfold encV
  by_cases h1 : (0 ≤ a ∧ a ≤ 255) ∧ (0 ≤ b ∧ b ≤ 255)
  · rw [if_pos h1]
    by_cases h2 : p.size ≤ 64
    · rw [if_pos h2]
      obtain ⟨⟨h3, h4⟩, h5, h6⟩ := h1
      have ea : ((UInt8.ofNat a.toNat).toNat : Int) = a := by rw [UInt8.toNat_ofNat']; omega
      have eb : ((UInt8.ofNat b.toNat).toNat : Int) = b := by rw [UInt8.toNat_ofNat']; omega
      have en : ((UInt8.ofNat p.size).toNat : Int) = p.size := by rw [UInt8.toNat_ofNat']; omega
      have := ref_bytes (UInt8.ofNat p.size) (UInt8.ofNat a.toNat) (UInt8.ofNat b.toNat) p en.symm (by omega) w
      rw [ea, eb] at this
      exact this
    · rw [if_neg h2]
      exact ref_size a b p h1.1 h1.2 (by omega) w
  · rw [if_neg h1]
    refine ref_range a b p ?_ w
    rcases Decidable.not_and_iff_or_not.1 h1 with h | h
    · exact .inl h
    · exact .inr h
set_option maxHeartbeats 1000000 in
theorem FrameEncodes_walk (a b : Int) (p : ByteArray) (w : World) : Calls Try.prog 3 #[.agg #[.int .i64 a, .int .i64 b, .string p]] w fun e w' => e = .returned (.bool true) ∧ Below w.heap.size w w' := by
  have he := fun w => encode_any (a, b, p) w
  have hr := fun w => ref_any (a, b, p) w
  generalize encV (a, b, p) = q at he hr
  obtain ⟨t, c⟩ := q
  go_enter Try.func3, Try.ntmps3
  go_wp2_with fail
  refine (he _).mono ?_
  rintro e w1 ⟨rfl, h1⟩
  have hF := (frm_new w (.int .i64 a) (.int .i64 b) (.string p)).below h1
  have k0 := hF.c0
  have k1 := hF.c1
  have k2 := hF.c2
  have HB1 := hide (below_over h1)
  clear h1 hF
  go_wp2_with fail
  refine (hr _).mono ?_
  rintro e w2 ⟨rfl, h2⟩
  go_wp2_with fail
  refine (awake_any _).mono ?_
  rintro e w3 ⟨rfl, h3⟩
  go_wp2_with fail
  go_ret
  exact ⟨rfl, below_next (below_next HB1.out (Nat.le_refl _) h2) (Nat.le_refl _) h3⟩
end Go.Proofs.Ytijdobhdjmmgmaa
