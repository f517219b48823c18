/- Decode by the reference; ParamsBytes. -/
import Derived.Test.YtfhcfngogfefjaaPaH
namespace Go.Proofs.Ytfhcfngogfefjaa
open Go.RowKit Go.Great

/-- the first j bytes as a number -/
def natJ (s : List UInt8) (p : Nat) : Nat → Int
  | 0 => 0
  | j + 1 => natJ s p j * 256 + (at8 s (p + j)).toNat
theorem natJ_in (s : List UInt8) (p j : Nat) (h : j ≤ 4) : 0 ≤ natJ s p j ∧ natJ s p j < 256 ^ j := by
  match j, h with
  | 0, _ => simp [natJ]
  | 1, _ =>
    have := (at8 s p).toNat_lt
    simp only [natJ, Nat.add_zero, Int.reducePow]; omega
  | 2, _ =>
    have := (at8 s p).toNat_lt
    have := (at8 s (p + 1)).toNat_lt
    simp only [natJ, Nat.add_zero, Int.reducePow]; omega
  | 3, _ =>
    have := (at8 s p).toNat_lt
    have := (at8 s (p + 1)).toNat_lt
    have := (at8 s (p + 2)).toNat_lt
    simp only [natJ, Nat.add_zero, Int.reducePow]; omega
  | 4, _ =>
    have := (at8 s p).toNat_lt
    have := (at8 s (p + 1)).toNat_lt
    have := (at8 s (p + 2)).toNat_lt
    have := (at8 s (p + 3)).toNat_lt
    simp only [natJ, Nat.add_zero, Int.reducePow]; omega
theorem natJ_four (s : List UInt8) (k : Nat) : sgn (natJ s (4 * k) 4) = numAt s k := by
  have e : natJ s (4 * k) 4 = natB (at8 s (4 * k)) (at8 s (4 * k + 1)) (at8 s (4 * k + 2)) (at8 s (4 * k + 3)) := by
    unfold natB
    simp only [natJ, Nat.add_zero]
    omega
  unfold numAt numB
  rw [e]
set_option maxHeartbeats 1000000 in
theorem rnumber_any (s : ByteArray) (hs : s.size = 96) (k : Nat) (hk : k < 24) (w : World) : Calls Try.prog 58 #[.string s, .int .i64 ((4 * k : Nat) : Int)] w fun e w' => e = .returned (.int .i64 (numAt s.data.toList k)) ∧ w' = w := by
  rw [← natJ_four]
  obtain ⟨p, HP⟩ : ∃ p, Hid (4 * k = p) := ⟨_, rfl⟩
  rw [HP.out]
  have hp : p ≤ 92 := by have := HP.out; omega
  have HG := hide (at8_get s)
  have HS := hide hs
  have HJ := hide (natJ_in s.data.toList p)
  obtain ⟨R, HR⟩ : ∃ R, Hid (natJ s.data.toList p 4 = R) := ⟨_, rfl⟩
  rw [HR.out]
  clear hs
  go_enter Try.func58, Try.ntmps58
  go_wp2_with fail
  go_loopw [5, 6] (fun n i wx => ∃ j : Nat, j ≤ 4 ∧ i = .int .i64 j ∧ n = .int .i64 (natJ s.data.toList p j) ∧ wx = w) (fun _ i _ => 4 - (intOf i).toNat)
  case atStart => exact ⟨0, by omega, rfl, rfl, rfl⟩
  case round =>
    obtain ⟨j, hj, rfl, rfl, rfl⟩ := hrel
    have hb := HJ.out j hj
    by_cases hlt : j < 4
    · obtain ⟨c, hcj⟩ : ∃ c, p + j = c := ⟨_, rfl⟩
      have hpj : ((p : Int) + (j : Int)) = (c : Int) := by omega
      have hin : c < s.size := by have := HS.out; omega
      have hnb : natJ s.data.toList p j < 16777216 := by
        have : (256 : Int) ^ j ≤ 256 ^ 3 := by
          match j, hlt with
          | 0, _ => decide
          | 1, _ => decide
          | 2, _ => decide
          | 3, _ => decide
        have e : (256 : Int) ^ 3 = 16777216 := by decide
        omega
      have HX : Hid (natJ s.data.toList p (j + 1) = natJ s.data.toList p j * 256 + ((s[c]).toNat : Int)) := by
        show _ = _
        rw [natJ, HG.out c hin, hcj]
      have hn0 := hb.1
      have hlt8 := (s[c]).toNat_lt
      generalize natJ s.data.toList p j = n at hnb hn0 HX ⊢
      clear hb hcj
      go_wp2_with fail
      exact ⟨⟨j + 1, by omega, by go_num, by rw [HX.out], trivial⟩, by simp [intOf]; omega⟩
    · obtain rfl : j = 4 := by omega
      have hb4 : 0 ≤ natJ s.data.toList p 4 ∧ natJ s.data.toList p 4 < 4294967296 := hb
      rw [HR.out] at hb4 ⊢
      clear hb
      by_cases hg : 2147483648 ≤ R
      · have d := decide_eq_true hg
        have HSG : Hid (R - 4294967296 = sgn R) := by show _ = _; unfold sgn; rw [if_pos hg]
        clear hg
        go_wp2_with fail
        go_ret
        exact ⟨ret_int HSG.out, rfl⟩
      · have d := decide_eq_false hg
        have HSG : Hid (R = sgn R) := by show _ = _; unfold sgn; rw [if_neg hg]
        clear hg
        go_wp2_with fail
        go_ret
        exact ⟨ret_int HSG.out, rfl⟩
set_option maxHeartbeats 300000 in
theorem rdecode_any (s : ByteArray) (w : World) : Calls Try.prog 34 #[.string s] w fun e w' => ∃ v, e = .returned (.tuple #[v, .int .i64 (decE s).2]) ∧ IRow w' w.heap.size v (decE s).1 ∧ Below w.heap.size w w' := by
  unfold decE
  by_cases hs : s.size = 96
  · rw [if_pos hs]
    simp only
    obtain ⟨i0, hi, hz0, hz1, hz2⟩ := info_parts info_int
    have HNM := hide (fun k hk W => rnumber_any s hs k hk W)
    have hsi : (s.size : Int) = 96 := by omega
    have HCK := hide (rcheck_any (decK s.data.toList 24))
    obtain ⟨D, HD⟩ : ∃ D, Hid (decK s.data.toList 24 = D) := ⟨_, rfl⟩
    rw [HD.out] at HCK ⊢
    have HSU : Hid ((chk D = 0 → souE D = D) ∧ (chk D ≠ 0 → souE D = [])) := ⟨fun h => by unfold souE; rw [if_pos h], fun h => by unfold souE; rw [if_neg h]⟩
    generalize souE D = DL at HSU ⊢
    generalize chk D = dc at HCK HSU ⊢
    clear hs
    go_enter Try.func34, Try.ntmps34
    go_wp2_with fail
    go_loopw [4, 5] (fun v i wx => ∃ k : Nat, k ≤ 24 ∧ i = .int .i64 k ∧ IRow wx w.heap.size v (decK s.data.toList k) ∧ Below w.heap.size w wx) (fun _ i _ => 24 - (intOf i).toNat)
    case atStart => exact ⟨0, by omega, rfl, IRow.nil _ _, Below.refl _ _⟩
    case round =>
      obtain ⟨k, hk, rfl, hR, hB⟩ := hrel
      have HB := hide hB
      have HRr := hide hR
      clear hR hB
      by_cases hlt : k < 24
      · have HNk := hide (fun W => HNM.out k hlt W)
        have HDK : Hid (decK s.data.toList (k + 1) = decK s.data.toList k ++ [numAt s.data.toList k]) := rfl
        have HLE := hide (decK_len s.data.toList k)
        generalize numAt s.data.toList k = z at HNk HDK
        generalize decK s.data.toList k = L at HDK HLE HRr
        have hws := HB.out.size
        rw [show ((4 * k : Nat) : Int) = 4 * (k : Int) by omega] at HNk
        have HZ := hide (And.intro hi (And.intro hz0 (And.intro hz1 hz2)))
        clear HNM HCK HSU HD hsi hi hz0 hz1 hz2
        go_wp2_with fail
        refine (HNk.out _).mono ?_
        rintro e w2 ⟨rfl, hw2⟩
        obtain rfl := hw2.symm
        have HO3 : Hid ((wr.alloc (.cells #[.int .i64 z] 3)).ownsRow w.heap.size 3 1 u4 k (L.map (Value.int .i64))) := by
          have := HRr.out.alloc (.cells #[.int .i64 z] 3)
          unfold IRow at this
          rw [HLE.out] at this
          exact this
        clear hw2
        obtain ⟨hi, hz0, hz1, hz2⟩ := HZ.out
        go_wp2_with (at_builtin; refine wpList_append_own _ rfl (.tmp 14) (.tmp 19) 22 rfl w.heap.size 3 i0 _ 1 8 Try.underlying22 hi hz0 hz1 hz2 rfl (by decide) _ _ _ rfl HO3.out ⟨wr.heap.size, 0, none⟩ 1 1 [.int .i64 z] rfl rfl ?c1 ?c2 ?c3 ?c4 ?c5 ?_)
        case c1 => exact new_cell1 _ _ rfl _ _
        case c2 => intro u hu; simp at hu; subst hu; rfl
        case c3 => unfold maxLen; omega
        case c4 => omega
        case c5 => rw [size_alloc]; omega
        intro v' w5 hown5 hgrow5 _
        have HR5 : Hid (IRow w5 w.heap.size v' (decK s.data.toList (k + 1))) := by
          show World.ownsRow _ _ _ _ _ _ _
          rw [HDK.out, List.length_append, HLE.out, List.map_append]; exact hown5
        have HB5 : Hid (Below w.heap.size w w5) := (HB.out.alloc hws _).grown hgrow5 (by rw [size_alloc]; omega) (fun j e => (World.ownsRow.lt HO3.out j e).1)
        clear hown5 hgrow5 HO3 hi hz0 hz1 hz2
        go_wp2_with fail
        go_roundw
        case rel => exact ⟨k + 1, by omega, by go_num, HR5.out, HB5.out⟩
        case measure => simp [intOf]; omega
      · obtain rfl : k = 24 := by omega
        rw [HD.out] at HRr
        have HCk := hide (HCK.out _ _ HRr.out.ints)
        obtain ⟨a4, c4, hu4⟩ := HRr.out.shape
        obtain ⟨n4, HN4⟩ : ∃ n, Hid (D.length = n) := ⟨_, rfl⟩
        rw [HN4.out] at hu4
        subst hu4
        clear hi hz0 hz1 hz2
        go_wp2_with fail
        refine HCk.out.mono ?_
        rintro e w2 ⟨rfl, hB2⟩
        have HB2 : Hid (Below w.heap.size w w2) := below_next HB.out (Nat.le_refl _) hB2
        have HR2 := hide (HRr.out.below hB2)
        clear hB2
        by_cases hd : dc = 0
        · have hne : (dc != 0) = false := by simp [hd]
          have HDL := hide (HSU.out.1 hd)
          have HD0 := hide hd
          clear hd
          go_wp2_with fail
          go_ret2
          rw [HD0.out]
          exact ⟨_, rfl, by rw [HDL.out]; exact HR2.out, HB2.out⟩
        · have hne : (dc != 0) = true := by simp [hd]
          have HDL := hide (HSU.out.2 hd)
          clear hd
          go_wp2_with fail
          go_ret2
          exact ⟨_, rfl, by rw [HDL.out]; exact IRow.nil _ _, HB2.out⟩
  · rw [if_neg hs]
    simp only
    have hne : ((s.size : Int) != 96) = true := by simp; omega
    clear hs
    go_enter Try.func34, Try.ntmps34
    go_wp2_with fail
    go_ret2
    exact ⟨_, rfl, IRow.nil _ _, Below.refl _ _⟩
theorem decE_ok (s : ByteArray) (h : (decE s).2 = 0) : chk (decE s).1 = 0 ∧ encE (decE s).1 = s := by
  unfold decE at h ⊢
  by_cases hs : s.size = 96
  · rw [if_pos hs] at h ⊢
    simp only at h ⊢
    have e : souE (decK s.data.toList 24) = decK s.data.toList 24 := by unfold souE; rw [if_pos h]
    rw [e]
    refine ⟨h, ?_⟩
    unfold encE
    rw [if_pos h]
    apply bs_ext
    rw [bs_list, enc_dec _ (by rw [list_size]; exact hs) 24 (by omega), List.take_of_length_le (by rw [list_size]; omega)]
  · rw [if_neg hs] at h
    exact absurd h (by decide)
theorem decE_no (s : ByteArray) (h : (decE s).2 ≠ 0) : (decE s).1 = [] := by
  unfold decE at h ⊢
  by_cases hs : s.size = 96
  · rw [if_pos hs] at h ⊢
    simp only at h ⊢
    unfold souE; rw [if_neg h]
  · rw [if_neg hs]
theorem decE_len (s : ByteArray) : (decE s).1.length ≤ 24 := by
  unfold decE souE
  split
  · simp only
    split
    · rw [decK_len]; omega
    · simp
  · simp
set_option maxHeartbeats 2000000 in
theorem bytes_walk (s : ByteArray) (w : World) : Calls Try.prog 10 #[.string s] w fun e w' => e = .returned (.bool true) ∧ Below w.heap.size w w' := by
  have H1 := hide (decode_any s)
  have H2 := hide (rdecode_any s)
  have HA := hide awake_any
  have h0 := decE_ok s
  have h1 := decE_no s
  have hl := decE_len s
  have HEn := hide (encode_any (decE s).1)
  generalize decE s = d at H1 H2 h0 h1 hl HEn
  obtain ⟨l, c⟩ := d
  simp only at H1 H2 h0 h1 hl HEn
  have HSm := hide (fun u v W hu hv => sameInts_true l u v W hu hv (by omega))
  have hcc : (c != c) = false := by simp
  by_cases hc : c = 0
  · obtain ⟨hk, hE⟩ := h0 hc
    rw [hk, hE] at HEn
    subst hc
    clear h0 h1 hk hE
    have hss : (s.toList == s.toList) = true := by simp
    obtain ⟨n, HN⟩ : ∃ n, Hid (l.length = n) := ⟨_, rfl⟩
    go_enter Try.func10, Try.ntmps10
    go_wp2_with fail
    refine (H1.out _).mono ?_
    rintro e w1 ⟨u1, rfl, hR1, hB1⟩
    have HB1 := hide hB1
    have HR1 := hide hR1
    obtain ⟨a1, c1, hu1⟩ := hR1.shape
    rw [HN.out] at hu1
    subst hu1
    clear hB1 hR1
    go_wp2_with fail
    refine (H2.out _).mono ?_
    rintro e w2 ⟨u2, rfl, hR2, hB2⟩
    have HB2 : Hid (Below w.heap.size w w2) := below_next HB1.out (Nat.le_refl _) hB2
    have HR12 := hide (HR1.out.below hB2)
    have HI2 := hide hR2.ints
    obtain ⟨a2, c2, hu2⟩ := hR2.shape
    rw [HN.out] at hu2
    subst hu2
    clear hB2 hR2
    go_wp2_with fail
    refine (HSm.out _ _ _ HR12.out.ints HI2.out).mono ?_
    rintro e w3 ⟨rfl, q, hw3⟩
    have HB3 : Hid (Below w.heap.size w w3) := by rw [hw3]; exact below_drewN HB2.out q
    have HI3 : Hid (Ints w3 (.slice a1 n c1) l) := by rw [hw3]; exact HR12.out.ints.drewN q
    clear hw3
    go_wp2_with fail
    refine (HEn.out _ _ HI3.out).mono ?_
    rintro e w4 ⟨rfl, hB4⟩
    have HB4 : Hid (Below w.heap.size w w4) := below_next HB3.out (Nat.le_refl _) hB4
    clear hB4
    go_wp2_with fail
    refine (HA.out _).mono ?_
    rintro e w5 ⟨rfl, hB5⟩
    have HB5 : Hid (Below w.heap.size w w5) := below_next HB4.out (Nat.le_refl _) hB5
    clear hB5
    go_wp2_with fail
    go_ret
    exact ⟨rfl, HB5.out⟩
  · obtain rfl := h1 hc
    have hne : (c != 0) = true := by simp [hc]
    clear h0 h1 hc HEn
    go_enter Try.func10, Try.ntmps10
    go_wp2_with fail
    refine (H1.out _).mono ?_
    rintro e w1 ⟨u1, rfl, hR1, hB1⟩
    have HB1 := hide hB1
    have HR1 := hide hR1
    obtain ⟨a1, c1, hu1⟩ := hR1.shape
    rw [show ([] : List Int).length = 0 from rfl] at hu1
    subst hu1
    clear hB1 hR1
    go_wp2_with fail
    refine (H2.out _).mono ?_
    rintro e w2 ⟨u2, rfl, hR2, hB2⟩
    have HB2 : Hid (Below w.heap.size w w2) := below_next HB1.out (Nat.le_refl _) hB2
    have HR12 := hide (HR1.out.below hB2)
    have HI2 := hide hR2.ints
    obtain ⟨a2, c2, hu2⟩ := hR2.shape
    rw [show ([] : List Int).length = 0 from rfl] at hu2
    subst hu2
    clear hB2 hR2
    go_wp2_with fail
    refine (HSm.out _ _ _ HR12.out.ints HI2.out).mono ?_
    rintro e w3 ⟨rfl, q, hw3⟩
    have HB3 : Hid (Below w.heap.size w w3) := by rw [hw3]; exact below_drewN HB2.out q
    clear hw3
    go_wp2_with fail
    refine (HA.out _).mono ?_
    rintro e w5 ⟨rfl, hB5⟩
    have HB5 : Hid (Below w.heap.size w w5) := below_next HB3.out (Nat.le_refl _) hB5
    clear hB5
    go_wp2_with fail
    go_ret
    exact ⟨rfl, HB5.out⟩
theorem ParamsBytes_walk (s : ByteArray) (_h : s.size ≤ 140737488351232) (w : World) : Calls Try.prog 10 #[.string s] w fun e w' => e = .returned (.bool true) ∧ Below w.heap.size w w' := bytes_walk s w
end Go.Proofs.Ytfhcfngogfefjaa
