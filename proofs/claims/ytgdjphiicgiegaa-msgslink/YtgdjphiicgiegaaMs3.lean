/- What package msgs does with a list of widths: size, fit, number. -/
import Derived.Test.YtgdjphiicgiegaaMs2
namespace Go.Proofs.Ytgdjphiicgiegaa
open Go.RowKit Go.Great

theorem tot_le4 (ws : List Int) (hw : ∀ w ∈ ws, Wid w) (k : Nat) (hk : k ≤ ws.length) : totK ws k ≤ 4 * k := by
  induction k with
  | zero => simp [totK]
  | succ k ih =>
    have := ih (by omega)
    have := (wid_sz (widD hw k (by omega))).2
    rw [totK]; omega
theorem map8_at (ws : List Int) (k : Nat) (h : k < ws.length) : (ws.map fun w => 8 * w).getD k 0 = 8 * ws.getD k 0 := by
  simp [List.getD, List.getElem?_eq_getElem h]
set_option maxHeartbeats 1000000 in
theorem msize_any (ws : List Int) (hw : ∀ w ∈ ws, Wid w) (hl : ws.length ≤ 7) (v : Value) (w : World) (hv : Ints w v (ws.map fun x => 8 * x)) : Calls Try.prog 31 #[v] w fun e w' => e = .returned (.int .i64 (totK ws ws.length : Nat)) ∧ w' = w := by
  obtain ⟨a, cap, rfl, hc⟩ := hv
  rw [List.length_map] at hc ⊢
  have HC := hide hc
  have HW := hide hw
  have HT := hide (tot_le4 ws hw)
  obtain ⟨m, hm⟩ : ∃ m, ws.length = m := ⟨_, rfl⟩
  rw [hm] at hl ⊢
  have HM := hide hm
  clear hc hw hm
  go_enter Try.func31, Try.ntmps31
  go_wp2_with fail
  go_loopw [3, 8] (fun n i wx => ∃ k : Nat, k ≤ m ∧ n = .int .i64 (totK ws k : Nat) ∧ i = .int .i64 k ∧ wx = w) (fun _ i _ => m - (intOf i).toNat)
  case atStart => exact ⟨0, by omega, rfl, rfl, rfl⟩
  case round =>
    obtain ⟨k, hk, rfl, rfl, rfl⟩ := hrel
    by_cases hlt : k < m
    · have hkw : k < ws.length := by rw [HM.out]; exact hlt
      obtain ⟨g, o, rfl, hg, hcc⟩ := HC.out (by omega)
      have hd := hcc k hkw
      rw [map8_at _ _ hkw] at hd
      have hb := fun W => wbytes_any (ws.getD k 0) (widD HW.out k hkw) _ rfl W
      have hz := (wid_sz (widD HW.out k hkw)).2
      have ht := HT.out k (by omega)
      have HN : Hid (totK ws (k + 1) = totK ws k + szW (ws.getD k 0)) := rfl
      generalize 8 * ws.getD k 0 = x at hd hb
      generalize szW (ws.getD k 0) = z at hb hz HN
      generalize totK ws k = t at ht HN ⊢
      clear hcc HC
      go_wp2_with fail
      refine (hb _).mono ?_
      rintro e w1 ⟨rfl, rfl⟩
      go_wp2_with fail
      go_roundw
      case rel => exact ⟨k + 1, by omega, by rw [HN.out]; go_num, by go_num, trivial⟩
      case measure => simp [intOf]; omega
    · obtain rfl : k = m := by omega
      obtain ⟨t, ht⟩ : ∃ t, Hid (totK ws k = t) := ⟨_, rfl⟩
      rw [ht.out]
      go_wp2_with fail
      go_ret
      exact ⟨ret_int (by rw [ht.out]), rfl⟩
set_option maxHeartbeats 1000000 in
theorem number_any (x : Int) (hx : Wid x) (b : ByteArray) (hb : b.size = szW x) (W : World) : Calls Try.prog 44 #[.int .i64 (8 * x), .string b] W fun e w' => e = .returned (.int .i64 (nuW x b.data.toList)) ∧ w' = W := by
  have hG := fun W => greatest_any x hx _ rfl W
  have hB := fun W => bits_any x hx _ rfl W
  have hz := wid_sz hx
  obtain ⟨m, hm⟩ : ∃ m, szW x = m := ⟨_, rfl⟩
  rw [hm] at hb hz hB
  obtain ⟨y, hy⟩ : ∃ y, 8 * x = y := ⟨_, rfl⟩
  rw [hy] at hG hB ⊢
  clear hy
  have HR : Hid (nuW x b.data.toList = if grW x < nuK b.data.toList m then nuK b.data.toList m - 256 ^ m else nuK b.data.toList m) := by
    show _ = _
    unfold nuW; rw [hm]
  obtain ⟨r, hr⟩ : ∃ r, nuW x b.data.toList = r := ⟨_, rfl⟩
  rw [hr] at HR ⊢
  clear hr
  have HU : Hid (∀ k, k < m → ∃ h : k < b.size, nuK b.data.toList (k + 1) = nuK b.data.toList k + (b[k].toNat : Int) * 256 ^ k) := by
    intro k hk
    refine ⟨by omega, ?_⟩
    rw [nuK, getD_at b k (by omega)]
  go_enter Try.func44, Try.ntmps44
  go_wp2_with fail
  go_loopw [5, 9] (fun n i wx => ∃ k : Nat, k ≤ m ∧ n = .int .i64 (nuK b.data.toList k) ∧ i = .int .i64 k ∧ wx = W) (fun _ i _ => m - (intOf i).toNat)
  case atStart => exact ⟨0, by omega, rfl, rfl, rfl⟩
  case round =>
    obtain ⟨k, hk, rfl, rfl, rfl⟩ := hrel
    by_cases hlt : k < m
    · obtain ⟨hkb, HN⟩ := HU.out k hlt
      have hbd := nuK_bound b.data.toList k
      have hbk := b[k].toNat_lt
      have HN := hide HN
      have h4 : k = 0 ∨ k = 1 ∨ k = 2 ∨ k = 3 := by omega
      generalize nuK b.data.toList k = t at hbd HN ⊢
      rcases h4 with rfl | rfl | rfl | rfl
      · simp only [show (256 : Int) ^ 0 = 1 from rfl] at hbd
        go_wp2_with fail
        go_roundw
        case rel => exact ⟨1, by omega, by rw [HN.out]; exact congrArg (Value.int .i64) (by rw [show (256 : Int) ^ 0 = 1 from rfl] <;> omega), by go_num, trivial⟩
        case measure => simp [intOf]; omega
      · simp only [show (256 : Int) ^ 1 = 256 from rfl] at hbd
        go_wp2_with fail
        go_roundw
        case rel => exact ⟨2, by omega, by rw [HN.out]; exact congrArg (Value.int .i64) (by rw [show (256 : Int) ^ 1 = 256 from rfl] <;> omega), by go_num, trivial⟩
        case measure => simp [intOf]; omega
      · simp only [show (256 : Int) ^ 2 = 65536 from rfl] at hbd
        go_wp2_with fail
        go_roundw
        case rel => exact ⟨3, by omega, by rw [HN.out]; exact congrArg (Value.int .i64) (by rw [show (256 : Int) ^ 2 = 65536 from rfl] <;> omega), by go_num, trivial⟩
        case measure => simp [intOf]; omega
      · simp only [show (256 : Int) ^ 3 = 16777216 from rfl] at hbd
        go_wp2_with fail
        go_roundw
        case rel => exact ⟨4, by omega, by rw [HN.out]; exact congrArg (Value.int .i64) (by rw [show (256 : Int) ^ 3 = 16777216 from rfl] <;> omega), by go_num, trivial⟩
        case measure => simp [intOf]; omega
    · obtain rfl : k = m := by omega
      have hbd := nuK_bound b.data.toList k
      generalize nuK b.data.toList k = t at hbd HR ⊢
      have hc := wid_cases hx
      rw [hm] at hc
      have hgt : grW x < t ∨ t ≤ grW x := by omega
      clear HU hb hlt hk hx hm
      rcases hc with ⟨rfl, h1, h2⟩ | ⟨rfl, h1, h2⟩ | ⟨rfl, h1, h2⟩ | ⟨rfl, h1, h2⟩ | ⟨rfl, h1, h2⟩ <;> rw [h2] at hG HR hgt <;> clear h1 h2 <;> rcases hgt with hgt | hgt
      all_goals
        simp only [show (256 : Int) ^ 1 = 256 from rfl, show (256 : Int) ^ 2 = 65536 from rfl, show (256 : Int) ^ 4 = 4294967296 from rfl] at hbd HR
        simp only [show (8 * ((1 : Nat) : Int)) = 8 from rfl, show (8 * ((2 : Nat) : Int)) = 16 from rfl, show (8 * ((4 : Nat) : Int)) = 32 from rfl] at hB
        go_wp2_with fail
        refine (hG _).mono ?_
        rintro e w1 ⟨rfl, rfl⟩
        go_wp2_with fail
        try (refine (hB _).mono ?_; rintro e w2 ⟨rfl, rfl⟩; go_wp2_with fail)
        go_ret
        exact ⟨ret_int (by rw [HR.out]; split <;> omega), rfl⟩
end Go.Proofs.Ytgdjphiicgiegaa
