/- CrcTells: a turned byte, or two turned neighbours, are told. -/
import Derived.Test.YtplcmdibcjamlaaCrcL
import Derived.Deep.RegionWith
namespace Go.Proofs.Ytplcmdibcjamlaa
open Go.RowKit Go.Great

theorem str_eq (l : List UInt8) (s : ByteArray) (h : l = s.data.toList) : (⟨l.toArray⟩ : ByteArray) = s := by
  subst h; cases s; simp
theorem tells_eq (l : List UInt8) (s : ByteArray) (h : cadds 65535#16 l = cadds 65535#16 s.data.toList → l = s.data.toList) :
    (((csum ⟨l.toArray⟩).toNat : Int) == ((csum s).toNat : Int)) = ((⟨l.toArray⟩ : ByteArray).toList == s.toList) := by
  rw [ByteArray.toList_eq, ByteArray.toList_eq]
  by_cases g : l = s.data.toList
  · rw [str_eq l s g]; simp
  · have : (csum ⟨l.toArray⟩).toNat ≠ (csum s).toNat := fun e => g (h (by have := BitVec.eq_of_toNat_eq e; unfold csum at this; simpa using this))
    rw [beq_no this]; simp; exact g
set_option maxHeartbeats 1000000 in
theorem tells_out (s : ByteArray) (a : Int) (t : BitVec 16) (h : a < 0 ∨ (s.size : Int) ≤ a) (w : World) : Calls Try.prog 7 #[.string s, .int .i64 a, .int .u16 (t.toNat : Int)] w fun e w' => e = .returned (.bool true) ∧ Below w.heap.size w w' := by
  rcases h with h | h
  · go_enter Try.func7, Try.ntmps7
    go_wp2_with fail
    refine (awake_any _).mono ?_
    rintro e w1 ⟨rfl, h1⟩
    go_wp2_with fail
    go_ret
    exact ⟨rfl, h1⟩
  · have h0 : 0 ≤ a := by omega
    go_enter Try.func7, Try.ntmps7
    go_wp2_with fail
    refine (awake_any _).mono ?_
    rintro e w1 ⟨rfl, h1⟩
    go_wp2_with fail
    go_ret
    exact ⟨rfl, h1⟩
set_option maxHeartbeats 8000000 in
theorem tells_two (s : ByteArray) (p : Nat) (t : BitVec 16) (hp : p + 1 < s.size) (hs : s.size ≤ 140737488351232) (w : World) : Calls Try.prog 7 #[.string s, .int .i64 (p : Int), .int .u16 (t.toNat : Int)] w fun e w' => e = .returned (.bool true) ∧ Below w.heap.size w w' := by
  obtain ⟨wx, cap, hconv, hrow, hB, hlt⟩ := bytes_new s w
  have hl : s.data.toList.length = s.size := by simp
  obtain ⟨b0, e0⟩ : ∃ b, s.data.toList[p] = b := ⟨_, rfl⟩
  obtain ⟨b1, e1⟩ : ∃ b, s.data.toList[p + 1] = b := ⟨_, rfl⟩
  obtain ⟨y0, f0⟩ : ∃ b, b0 ^^^ lowB t = b := ⟨_, rfl⟩
  obtain ⟨y1, f1⟩ : ∃ b, b1 ^^^ highB t = b := ⟨_, rfl⟩
  have hT := two_tells 65535#16 s.data.toList p (by omega) y0 y1
  obtain ⟨k0, z0⟩ := hrow p (by omega)
  rw [e0] at k0
  have x0 := xor_low b0 t
  rw [f0] at x0
  have hrow1 := row_set _ _ _ hrow p y0
  obtain ⟨k1, z1⟩ := hrow1 (p + 1) (by simp; omega)
  rw [List.getElem_set_ne (by omega), e1] at k1
  have x1 := xor_high b1 t
  rw [f1] at x1
  have hrow2 := row_set _ _ _ hrow1 (p + 1) y1
  have hB2 : Below w.heap.size w ((wx.setCell ⟨w.heap.size, p, none⟩ (.int .u8 (y0.toNat : Int))).setCell ⟨w.heap.size, p + 1, none⟩ (.int .u8 (y1.toNat : Int))) :=
    (hB.setCell (p := ⟨w.heap.size, p, none⟩) (Nat.le_refl _) _).setCell (p := ⟨w.heap.size, p + 1, none⟩) (Nat.le_refl _) _
  clear e0 e1 f0 f1
  have HL : Hid (((s.data.toList.set p y0).set (p + 1) y1).length = s.size) := by show _ = _; simp
  have hq' := tells_eq _ s hT
  generalize (s.data.toList.set p y0).set (p + 1) y1 = l at HL hq' hrow2
  have HR := hide hrow2
  have HB := hide hB2
  clear hrow hrow1 hrow2 hB hB2 hT hl
  go_enter Try.func7, Try.ntmps7
  go_wp2_with fail
  clear k0 k1 x0 x1 z0 z1 hconv
  have hlt2 : w.heap.size < ((wx.setCell ⟨w.heap.size, p, none⟩ (.int .u8 (y0.toNat : Int))).setCell ⟨w.heap.size, p + 1, none⟩ (.int .u8 (y1.toNat : Int))).heap.size := by
    simp [World.setCell]; exact hlt
  generalize (wx.setCell ⟨w.heap.size, p, none⟩ (.int .u8 (y0.toNat : Int))).setCell ⟨w.heap.size, p + 1, none⟩ (.int .u8 (y1.toNat : Int)) = wz at hlt2 HR HB ⊢
  have hcv : ∀ wy, Below wz.heap.size wz wy → (convert 28 9 (.slice (some ⟨w.heap.size, 0, none⟩) s.size cap)).run Try.prog wy = .ok (.string ⟨l.toArray⟩) wy := fun wy hb => row_back wy _ cap l (row_below HR.out hb hlt2) _ HL.out.symm
  have HZ : Hid ((⟨l.toArray⟩ : ByteArray).size ≤ 140737488351232) := by
    show _ ≤ _
    have := HL.out
    show l.toArray.size ≤ _
    simp; omega
  generalize (⟨l.toArray⟩ : ByteArray) = T at hq' hcv HZ
  clear HL HR hlt2 hlt
  have hd : ∀ wy, Below wz.heap.size wz wy → Below wz.heap.size wz wy.drew := fun _ h => h.drew
  have hd2 : ∀ wy n, Below wz.heap.size wz wy → Below wz.heap.size wz (wy.drewN n) := fun _ _ h => h.trans ⟨rfl, rfl, rfl, Nat.le_refl _, fun _ _ => rfl⟩
  have hT : Below wz.heap.size wz wz := Below.refl _ _
  go_region_with (first
    | (go_at_call 8; refine (awake_any _).mono ?_; rintro e wa ⟨rfl, ht⟩; have hT := below_next (by first | exact hT | exact hd _ hT) (Nat.le_refl _) ht; clear ht)
    | (go_at_call 11; refine (sum_any _ _ (by first | (have := HZ.out; omega) | omega)).mono ?_; rintro e wb ⟨rfl, ht⟩; have hT := below_next (by first | exact hT | exact hd _ hT) (Nat.le_refl _) ht; clear ht))
  all_goals
    go_wp2_with fail
    go_ret
    refine ⟨?_, below_next HB.out (Nat.le_refl _) (by first | exact hT | exact hd _ hT)⟩
    first | rfl | exact ret_bool (by simp)
set_option maxHeartbeats 8000000 in
theorem tells_one (s : ByteArray) (p : Nat) (t : BitVec 16) (hp : p + 1 = s.size) (hs : s.size ≤ 140737488351232) (w : World) : Calls Try.prog 7 #[.string s, .int .i64 (p : Int), .int .u16 (t.toNat : Int)] w fun e w' => e = .returned (.bool true) ∧ Below w.heap.size w w' := by
  obtain ⟨wx, cap, hconv, hrow, hB, hlt⟩ := bytes_new s w
  have hl : s.data.toList.length = s.size := by simp
  obtain ⟨b0, e0⟩ : ∃ b, s.data.toList[p] = b := ⟨_, rfl⟩
  obtain ⟨y0, f0⟩ : ∃ b, b0 ^^^ lowB t = b := ⟨_, rfl⟩
  have hT := one_tells 65535#16 s.data.toList p (by omega) y0
  obtain ⟨k0, z0⟩ := hrow p (by omega)
  rw [e0] at k0
  have x0 := xor_low b0 t
  rw [f0] at x0
  have hrow1 := row_set _ _ _ hrow p y0
  have hB2 : Below w.heap.size w (wx.setCell ⟨w.heap.size, p, none⟩ (.int .u8 (y0.toNat : Int))) :=
    hB.setCell (p := ⟨w.heap.size, p, none⟩) (Nat.le_refl _) _
  clear e0 f0
  have HL : Hid ((s.data.toList.set p y0).length = s.size) := by show _ = _; simp
  have hq' := tells_eq _ s hT
  generalize s.data.toList.set p y0 = l at HL hq' hrow1
  have HR := hide hrow1
  have HB := hide hB2
  clear hrow hrow1 hB hB2 hT hl
  go_enter Try.func7, Try.ntmps7
  go_wp2_with fail
  clear k0 x0 z0 hconv
  have hlt2 : w.heap.size < (wx.setCell ⟨w.heap.size, p, none⟩ (.int .u8 (y0.toNat : Int))).heap.size := by
    simp [World.setCell]; exact hlt
  generalize wx.setCell ⟨w.heap.size, p, none⟩ (.int .u8 (y0.toNat : Int)) = wz at hlt2 HR HB ⊢
  have hcv : ∀ wy, Below wz.heap.size wz wy → (convert 28 9 (.slice (some ⟨w.heap.size, 0, none⟩) s.size cap)).run Try.prog wy = .ok (.string ⟨l.toArray⟩) wy := fun wy hb => row_back wy _ cap l (row_below HR.out hb hlt2) _ HL.out.symm
  have HZ : Hid ((⟨l.toArray⟩ : ByteArray).size ≤ 140737488351232) := by
    show _ ≤ _
    have := HL.out
    show l.toArray.size ≤ _
    simp; omega
  generalize (⟨l.toArray⟩ : ByteArray) = T at hq' hcv HZ
  clear HL HR hlt2 hlt
  have hd : ∀ wy, Below wz.heap.size wz wy → Below wz.heap.size wz wy.drew := fun _ h => h.drew
  have hd2 : ∀ wy n, Below wz.heap.size wz wy → Below wz.heap.size wz (wy.drewN n) := fun _ _ h => h.trans ⟨rfl, rfl, rfl, Nat.le_refl _, fun _ _ => rfl⟩
  have hT : Below wz.heap.size wz wz := Below.refl _ _
  go_region_with (first
    | (go_at_call 8; refine (awake_any _).mono ?_; rintro e wa ⟨rfl, ht⟩; have hT := below_next (by first | exact hT | exact hd _ hT) (Nat.le_refl _) ht; clear ht)
    | (go_at_call 11; refine (sum_any _ _ (by first | (have := HZ.out; omega) | omega)).mono ?_; rintro e wb ⟨rfl, ht⟩; have hT := below_next (by first | exact hT | exact hd _ hT) (Nat.le_refl _) ht; clear ht))
  all_goals
    go_wp2_with fail
    go_ret
    refine ⟨?_, below_next HB.out (Nat.le_refl _) (by first | exact hT | exact hd _ hT)⟩
    first | rfl | exact ret_bool (by simp)
theorem CrcTells_walk (s : ByteArray) (a : Int) (n : Int) (hs : s.size ≤ 140737488351232) (hn : (Lit.int .u16 n).wf = true) (w : World) : Calls Try.prog 7 #[.string s, .int .i64 a, .int .u16 n] w fun e w' => e = .returned (.bool true) ∧ Below w.heap.size w w' := by
  obtain ⟨t, rfl⟩ := wf_u16 hn
  by_cases h : a < 0 ∨ (s.size : Int) ≤ a
  · exact tells_out s a t h w
  · obtain ⟨p, rfl⟩ : ∃ p : Nat, a = p := ⟨a.toNat, by omega⟩
    by_cases g : p + 1 = s.size
    · exact tells_one s p t g hs w
    · exact tells_two s p t (by omega) hs w
end Go.Proofs.Ytplcmdibcjamlaa
