/- MtA, MtC, MtB, MtD. -/
import Derived.Test.YtapfaaaepnplcaaGreatDoorG10
import Derived.Test.YtapfaaaepnplcaaGreatDoorG13
import Derived.Test.YtapfaaaepnplcaaGreatDoorG07
import Derived.Test.YtapfaaaepnplcaaGreatDoorG02
set_option maxRecDepth 100000
set_option maxHeartbeats 2000000
namespace Go.Proofs.YtapfaaaepnplcaaGreatDoor
open Go.RowKit Go.Great
theorem getD_at_MtA (s : ByteArray) (i : Nat) (h : i < s.size) : s.data.toList.getD i 0 = s[i] := by
  have h' : i < s.data.toList.length := by simpa using h
  rw [List.getD, List.getElem?_eq_getElem h']; rfl
theorem signed_any (w : Int) (h : Wid w) (x : Int) (hx : x = 8 * w) (W : World) : Calls Tryz.prog 384 #[.int .i64 x] W fun e w' => e = .returned (.bool (decide (w < 0))) ∧ w' = W := by
  rcases h with rfl | rfl | rfl | rfl | rfl <;> subst hx
  all_goals
    go_enter Tryz.func384, Tryz.ntmps384
    go_wp2
    go_ret
    exact ⟨rfl, rfl⟩
theorem bits_any (w : Int) (h : Wid w) (x : Int) (hx : x = 8 * w) (W : World) : Calls Tryz.prog 379 #[.int .i64 x] W fun e w' => e = .returned (.int .i64 (8 * (szW w : Int))) ∧ w' = W := by
  rcases h with rfl | rfl | rfl | rfl | rfl <;> subst hx
  all_goals
    go_enter Tryz.func379, Tryz.ntmps379
    go_wp2
    go_ret
    exact ⟨rfl, rfl⟩
theorem wbytes_any (w : Int) (h : Wid w) (x : Int) (hx : x = 8 * w) (W : World) : Calls Tryz.prog 332 #[.int .i64 x] W fun e w' => e = .returned (.int .i64 (szW w : Int)) ∧ w' = W := by
  have hb := fun W => bits_any w h x hx W
  rcases h with rfl | rfl | rfl | rfl | rfl <;> subst hx
  all_goals
    simp only [show (8 * (szW 1 : Int)) = 8 from rfl, show (8 * (szW 2 : Int)) = 16 from rfl, show (8 * (szW 4 : Int)) = 32 from rfl, show (8 * (szW (-2) : Int)) = 16 from rfl, show (8 * (szW (-4) : Int)) = 32 from rfl] at hb
    go_enter Tryz.func332, Tryz.ntmps332
    go_wp2_with fail
    refine (hb _).mono ?_
    rintro e w1 ⟨rfl, rfl⟩
    go_wp2_with fail
    go_ret
    exact ⟨rfl, rfl⟩
theorem least_any (w : Int) (h : Wid w) (x : Int) (hx : x = 8 * w) (W : World) : Calls Tryz.prog 340 #[.int .i64 x] W fun e w' => e = .returned (.int .i64 (leW w)) ∧ w' = W := by
  have hs := fun W => signed_any w h x hx W
  have hb := fun W => bits_any w h x hx W
  rcases h with rfl | rfl | rfl | rfl | rfl <;> subst hx
  all_goals
    simp only [show (8 * (szW 1 : Int)) = 8 from rfl, show (8 * (szW 2 : Int)) = 16 from rfl, show (8 * (szW 4 : Int)) = 32 from rfl, show (8 * (szW (-2) : Int)) = 16 from rfl, show (8 * (szW (-4) : Int)) = 32 from rfl] at hb
    simp only [show decide ((1 : Int) < 0) = false from rfl, show decide ((2 : Int) < 0) = false from rfl, show decide ((4 : Int) < 0) = false from rfl, show decide ((-2 : Int) < 0) = true from rfl, show decide ((-4 : Int) < 0) = true from rfl] at hs
    go_enter Tryz.func340, Tryz.ntmps340
    go_wp2_with fail
    refine (hs _).mono ?_
    rintro e w1 ⟨rfl, rfl⟩
    go_wp2_with fail
    try (refine (hb _).mono ?_; rintro e w2 ⟨rfl, rfl⟩; go_wp2_with fail)
    go_ret
    exact ⟨rfl, rfl⟩
theorem greatest_any (w : Int) (h : Wid w) (x : Int) (hx : x = 8 * w) (W : World) : Calls Tryz.prog 341 #[.int .i64 x] W fun e w' => e = .returned (.int .i64 (grW w)) ∧ w' = W := by
  have hs := fun W => least_any w h x hx W
  have hb := fun W => bits_any w h x hx W
  rcases h with rfl | rfl | rfl | rfl | rfl <;> subst hx
  all_goals
    simp only [show (8 * (szW 1 : Int)) = 8 from rfl, show (8 * (szW 2 : Int)) = 16 from rfl, show (8 * (szW 4 : Int)) = 32 from rfl, show (8 * (szW (-2) : Int)) = 16 from rfl, show (8 * (szW (-4) : Int)) = 32 from rfl] at hb
    simp only [show leW 1 = 0 from rfl, show leW 2 = 0 from rfl, show leW 4 = 0 from rfl, show leW (-2) = -32768 from rfl, show leW (-4) = -2147483648 from rfl] at hs
    go_enter Tryz.func341, Tryz.ntmps341
    go_wp2_with fail
    refine (hs _).mono ?_
    rintro e w1 ⟨rfl, rfl⟩
    go_wp2_with fail
    refine (hb _).mono ?_
    rintro e w2 ⟨rfl, rfl⟩
    go_wp2_with fail
    go_ret
    exact ⟨rfl, rfl⟩
/-- the program's widths: bits -/
def wpK (k : Int) : List Int := (wsK k).map fun w => 8 * w
theorem tot_le4 (ws : List Int) (hw : ∀ w ∈ ws, Wid w) (k : Nat) (hk : k ≤ ws.length) : totK ws k ≤ 4 * k := by
  induction k with
  | zero => simp [totK]
  | succ k ih =>
    have := ih (by omega)
    have := (wid_sz (widD hw k (by omega))).2
    rw [totK]; omega
theorem map8_at (ws : List Int) (k : Nat) (h : k < ws.length) : (ws.map fun w => 8 * w).getD k 0 = 8 * ws.getD k 0 := by
  simp [List.getD, List.getElem?_eq_getElem h]
theorem msize_any (ws : List Int) (hw : ∀ w ∈ ws, Wid w) (hl : ws.length ≤ 7) (v : Value) (w : World) (hv : Ints w v (ws.map fun x => 8 * x)) : Calls Tryz.prog 268 #[v] w fun e w' => e = .returned (.int .i64 (totK ws ws.length : Nat)) ∧ w' = w := by
  obtain ⟨a, cap, rfl, hc⟩ := hv
  rw [List.length_map] at hc ⊢
  have HC := hide hc
  have HW := hide hw
  have HT := hide (tot_le4 ws hw)
  obtain ⟨m, hm⟩ : ∃ m, ws.length = m := ⟨_, rfl⟩
  rw [hm] at hl ⊢
  have HM := hide hm
  clear hc hw hm
  go_enter Tryz.func268, Tryz.ntmps268
  go_wp2_with fail
  go_loopw [3, 8] (fun n i wx => ∃ k : Nat, k ≤ m ∧ n = .int .i64 (totK ws k : Nat) ∧ i = .int .i64 k ∧ wx = w) (fun _ i _ => m - (intOf i).toNat)
  case atStart => exact ⟨0, by omega, rfl, rfl, rfl⟩
  case round =>
    obtain ⟨k, hk, rfl, rfl, rfl⟩ := hrel
    by_cases hlt : k < m
    · have hkw : k < ws.length := by rw [HM.out]; exact hlt
      obtain ⟨g, o, rfl, hg, hcc⟩ := HC.out (by omega)
      have hd := hcc k hkw
      rw [map8_at _ _ hkw] at hd
      have hb := fun W => wbytes_any (ws.getD k 0) (widD HW.out k hkw) _ rfl W
      have hz := (wid_sz (widD HW.out k hkw)).2
      have ht := HT.out k (by omega)
      have HN : Hid (totK ws (k + 1) = totK ws k + szW (ws.getD k 0)) := rfl
      generalize 8 * ws.getD k 0 = x at hd hb
      generalize szW (ws.getD k 0) = z at hb hz HN
      generalize totK ws k = t at ht HN ⊢
      clear hcc HC
      go_wp2_with fail
      refine (hb _).mono ?_
      rintro e w1 ⟨rfl, rfl⟩
      go_wp2_with fail
      go_roundw
      case rel => exact ⟨k + 1, by omega, by rw [HN.out]; go_num, by go_num, trivial⟩
      case measure => simp [intOf]; omega
    · obtain rfl : k = m := by omega
      obtain ⟨t, ht⟩ : ∃ t, Hid (totK ws k = t) := ⟨_, rfl⟩
      rw [ht.out]
      go_wp2_with fail
      go_ret
      exact ⟨ret_int (by rw [ht.out]), rfl⟩
theorem number_any (x : Int) (hx : Wid x) (b : ByteArray) (hb : b.size = szW x) (W : World) : Calls Tryz.prog 333 #[.int .i64 (8 * x), .string b] W fun e w' => e = .returned (.int .i64 (nuW x b.data.toList)) ∧ w' = W := by
  have hG := fun W => greatest_any x hx _ rfl W
  have hB := fun W => bits_any x hx _ rfl W
  have hz := wid_sz hx
  obtain ⟨m, hm⟩ : ∃ m, szW x = m := ⟨_, rfl⟩
  rw [hm] at hb hz hB
  obtain ⟨y, hy⟩ : ∃ y, 8 * x = y := ⟨_, rfl⟩
  rw [hy] at hG hB ⊢
  clear hy
  have HR : Hid (nuW x b.data.toList = if grW x < nuK b.data.toList m then nuK b.data.toList m - 256 ^ m else nuK b.data.toList m) := by
    show _ = _
    unfold nuW; rw [hm]
  obtain ⟨r, hr⟩ : ∃ r, nuW x b.data.toList = r := ⟨_, rfl⟩
  rw [hr] at HR ⊢
  clear hr
  have HU : Hid (∀ k, k < m → ∃ h : k < b.size, nuK b.data.toList (k + 1) = nuK b.data.toList k + (b[k].toNat : Int) * 256 ^ k) := by
    intro k hk
    refine ⟨by omega, ?_⟩
    rw [nuK, getD_at_MtA b k (by omega)]
  go_enter Tryz.func333, Tryz.ntmps333
  go_wp2_with fail
  go_loopw [5, 9] (fun n i wx => ∃ k : Nat, k ≤ m ∧ n = .int .i64 (nuK b.data.toList k) ∧ i = .int .i64 k ∧ wx = W) (fun _ i _ => m - (intOf i).toNat)
  case atStart => exact ⟨0, by omega, rfl, rfl, rfl⟩
  case round =>
    obtain ⟨k, hk, rfl, rfl, rfl⟩ := hrel
    by_cases hlt : k < m
    · obtain ⟨hkb, HN⟩ := HU.out k hlt
      have hbd := nuK_bound b.data.toList k
      have hbk := b[k].toNat_lt
      have HN := hide HN
      have h4 : k = 0 ∨ k = 1 ∨ k = 2 ∨ k = 3 := by omega
      generalize nuK b.data.toList k = t at hbd HN ⊢
      rcases h4 with rfl | rfl | rfl | rfl
      · simp only [show (256 : Int) ^ 0 = 1 from rfl] at hbd
        go_wp2_with fail
        go_roundw
        case rel => exact ⟨1, by omega, by rw [HN.out]; exact congrArg (Value.int .i64) (by rw [show (256 : Int) ^ 0 = 1 from rfl] <;> omega), by go_num, trivial⟩
        case measure => simp [intOf]; omega
      · simp only [show (256 : Int) ^ 1 = 256 from rfl] at hbd
        go_wp2_with fail
        go_roundw
        case rel => exact ⟨2, by omega, by rw [HN.out]; exact congrArg (Value.int .i64) (by rw [show (256 : Int) ^ 1 = 256 from rfl] <;> omega), by go_num, trivial⟩
        case measure => simp [intOf]; omega
      · simp only [show (256 : Int) ^ 2 = 65536 from rfl] at hbd
        go_wp2_with fail
        go_roundw
        case rel => exact ⟨3, by omega, by rw [HN.out]; exact congrArg (Value.int .i64) (by rw [show (256 : Int) ^ 2 = 65536 from rfl] <;> omega), by go_num, trivial⟩
        case measure => simp [intOf]; omega
      · simp only [show (256 : Int) ^ 3 = 16777216 from rfl] at hbd
        go_wp2_with fail
        go_roundw
        case rel => exact ⟨4, by omega, by rw [HN.out]; exact congrArg (Value.int .i64) (by rw [show (256 : Int) ^ 3 = 16777216 from rfl] <;> omega), by go_num, trivial⟩
        case measure => simp [intOf]; omega
    · obtain rfl : k = m := by omega
      have hbd := nuK_bound b.data.toList k
      generalize nuK b.data.toList k = t at hbd HR ⊢
      have hc := wid_cases hx
      rw [hm] at hc
      have hgt : grW x < t ∨ t ≤ grW x := by omega
      clear HU hb hlt hk hx hm
      rcases hc with ⟨rfl, h1, h2⟩ | ⟨rfl, h1, h2⟩ | ⟨rfl, h1, h2⟩ | ⟨rfl, h1, h2⟩ | ⟨rfl, h1, h2⟩ <;> rw [h2] at hG HR hgt <;> clear h1 h2 <;> rcases hgt with hgt | hgt
      all_goals
        simp only [show (256 : Int) ^ 1 = 256 from rfl, show (256 : Int) ^ 2 = 65536 from rfl, show (256 : Int) ^ 4 = 4294967296 from rfl] at hbd HR
        simp only [show (8 * ((1 : Nat) : Int)) = 8 from rfl, show (8 * ((2 : Nat) : Int)) = 16 from rfl, show (8 * ((4 : Nat) : Int)) = 32 from rfl] at hB
        go_wp2_with fail
        refine (hG _).mono ?_
        rintro e w1 ⟨rfl, rfl⟩
        go_wp2_with fail
        try (refine (hB _).mono ?_; rintro e w2 ⟨rfl, rfl⟩; go_wp2_with fail)
        go_ret
        exact ⟨ret_int (by rw [HR.out]; split <;> omega), rfl⟩
theorem fit_any (ws ns : List Int) (hw : ∀ w ∈ ws, Wid w) (hl : ws.length ≤ 7) (hn : ns.length = ws.length) (v u : Value) (w : World) (hv : Ints w v (ws.map fun x => 8 * x)) (hu : Ints w u ns) : Calls Tryz.prog 277 #[v, u] w fun e w' => e = .returned (.bool (fitsK ws ns ws.length)) ∧ ∃ q, w' = w.drewN q := by
  obtain ⟨a, cap, rfl, hc⟩ := hv
  obtain ⟨b, cbp, rfl, hd⟩ := hu
  rw [List.length_map] at hc ⊢
  rw [hn] at hd ⊢
  have HC := hide hc
  have HD := hide hd
  have HW := hide hw
  obtain ⟨m, hm⟩ : ∃ m, ws.length = m := ⟨_, rfl⟩
  rw [hm] at hl ⊢
  have HM := hide hm
  clear hc hd hw hm hn
  obtain ⟨r, HR⟩ : ∃ r, Hid (fitsK ws ns m = r) := ⟨_, rfl⟩
  rw [HR.out]
  go_enter Tryz.func277, Tryz.ntmps277
  go_wp2_with fail
  go_loopw [9] (fun i wx => ∃ k q : Nat, k ≤ m ∧ Hid (fitsK ws ns k = true) ∧ i = .int .i64 k ∧ wx = w.drewN q) (fun i _ => m - (intOf i).toNat)
  case atStart => exact ⟨0, 0, by omega, rfl, rfl, rfl⟩
  case round =>
    obtain ⟨k, q, hk, HK, rfl, hwr⟩ := hrel
    have HWR := hide hwr
    clear hwr
    by_cases hlt : k < m
    · have hkw : k < ws.length := by rw [HM.out]; exact hlt
      have hm0 : 0 < ws.length := by omega
      obtain ⟨g, o, rfl, hg, hcc⟩ := HC.out hm0
      obtain ⟨g2, o2, rfl, hg2, hcd⟩ := HD.out hm0
      have d1 : wr.cell? ⟨g, o + k, none⟩ = some (.int .i64 (8 * ws.getD k 0)) := by rw [HWR.out, drewN_cell, hcc k hkw, map8_at _ _ hkw]
      have d2 : wr.cell? ⟨g2, o2 + k, none⟩ = some (.int .i64 (ns.getD k 0)) := by rw [HWR.out, drewN_cell, hcd k hkw]
      have hL := fun W => least_any (ws.getD k 0) (widD HW.out k hkw) _ rfl W
      have hG := fun W => greatest_any (ws.getD k 0) (widD HW.out k hkw) _ rfl W
      have HB : Hid (fitB (ws.getD k 0) (ns.getD k 0) = (decide (leW (ws.getD k 0) ≤ ns.getD k 0) && decide (ns.getD k 0 ≤ grW (ws.getD k 0)))) := rfl
      have HS : Hid (fitsK ws ns (k + 1) = (fitsK ws ns k && fitB (ws.getD k 0) (ns.getD k 0))) := rfl
      have HNo : Hid (fitB (ws.getD k 0) (ns.getD k 0) = false → fitsK ws ns m = false) := fun h => fitsK_not hlt h
      generalize fitB (ws.getD k 0) (ns.getD k 0) = f at HB HS HNo
      generalize 8 * ws.getD k 0 = x at d1 hL hG
      generalize leW (ws.getD k 0) = le at hL HB
      generalize grW (ws.getD k 0) = gr at hG HB
      generalize ns.getD k 0 = n at d2 HB
      clear hcc hcd HC HD
      have hcs : n < le ∨ (le ≤ n ∧ gr < n) ∨ (le ≤ n ∧ n ≤ gr) := by omega
      rcases hcs with h1 | ⟨h1, h2⟩ | ⟨h1, h2⟩
      · go_wp2_with fail
        go_quiet (first | (go_at_call 340; exact Calls.quiet_of_same (hL _)) | (go_at_call 341; exact Calls.quiet_of_same (hG _)))
        go_wp2_with fail
        go_ret
        exact ⟨ret_bool (by rw [← HR.out, HNo.out (by rw [HB.out]; simp; omega)]), q + nq, by rw [HWR.out, drewN_drewN]⟩
      · go_wp2_with fail
        go_quiet (first | (go_at_call 340; exact Calls.quiet_of_same (hL _)) | (go_at_call 341; exact Calls.quiet_of_same (hG _)))
        go_wp2_with fail
        go_ret
        exact ⟨ret_bool (by rw [← HR.out, HNo.out (by rw [HB.out]; simp; omega)]), q + nq, by rw [HWR.out, drewN_drewN]⟩
      · go_wp2_with fail
        go_quiet (first | (go_at_call 340; exact Calls.quiet_of_same (hL _)) | (go_at_call 341; exact Calls.quiet_of_same (hG _)))
        go_wp2_with fail
        go_roundw
        case rel => exact ⟨k + 1, q + nq, by omega, by show _ = _; rw [HS.out, HK.out, HB.out]; simp; omega, by go_num, by rw [HWR.out, drewN_drewN]⟩
        case measure => simp [intOf]; omega
    · obtain rfl : k = m := by omega
      go_wp2_with fail
      go_ret
      exact ⟨ret_bool (by rw [← HR.out, HK.out]), q, HWR.out⟩
theorem byte_back (c : Int) : ((UInt8.ofNat (c % 256).toNat).toNat : Int) = c % 256 := by rw [UInt8.toNat_ofNat']; omega
theorem payload_any (ws ns : List Int) (hw : ∀ w ∈ ws, Wid w) (hl : ws.length ≤ 7) (hn : ns.length = ws.length) (v u : Value) (w : World) (hv : Ints w v (ws.map fun x => 8 * x)) (hu : Ints w u ns) : Calls Tryz.prog 278 #[v, u] w fun e w' => e = .returned (.string (bs (payK ws ns ws.length))) ∧ Below w.heap.size w w' := by
  obtain ⟨i0, hi, hz0, hz1, hz2⟩ := info_parts info_byte
  obtain ⟨a, cap, rfl, hc⟩ := hv
  obtain ⟨b, cbp, rfl, hd⟩ := hu
  rw [List.length_map] at hc ⊢
  rw [hn] at hd ⊢
  have HC := hide hc
  have HD := hide hd
  have HW := hide hw
  have HT := hide (tot_le4 ws hw)
  obtain ⟨m, hm⟩ : ∃ m, ws.length = m := ⟨_, rfl⟩
  rw [hm] at hl ⊢
  have HM := hide hm
  clear hc hd hw hm hn
  obtain ⟨t, HTX⟩ : ∃ t, Hid (bs (payK ws ns m) = t) := ⟨_, rfl⟩
  rw [HTX.out]
  go_enter Tryz.func278, Tryz.ntmps278
  go_wp2_with fail
  go_loopw [5, 11] (fun v i wx => ∃ k : Nat, k ≤ m ∧ i = .int .i64 k ∧ BRow wx w.heap.size v (payK ws ns k) ∧ Below w.heap.size w wx) (fun _ i _ => m - (intOf i).toNat)
  case atStart => exact ⟨0, Nat.zero_le _, rfl, BRow.nil _ _, Below.refl _ _⟩
  case round =>
    obtain ⟨k, hk, rfl, hR, hB⟩ := hrel
    have HB := hide hB
    have HR := hide hR
    clear hR hB
    by_cases hlt : k < m
    · have hkw : k < ws.length := by rw [HM.out]; exact hlt
      have hm0 : 0 < ws.length := by omega
      obtain ⟨g, o, rfl, hg, hcc⟩ := HC.out hm0
      obtain ⟨g2, o2, rfl, hg2, hcd⟩ := HD.out hm0
      have e1 : w.cell? ⟨g, o + k, none⟩ = some (.int .i64 (8 * ws.getD k 0)) := by rw [hcc k hkw, map8_at _ _ hkw]
      have e2 : w.cell? ⟨g2, o2 + k, none⟩ = some (.int .i64 (ns.getD k 0)) := hcd k hkw
      have hY := fun W => wbytes_any (ws.getD k 0) (widD HW.out k hkw) _ rfl W
      have hz := (wid_sz (widD HW.out k hkw)).2
      have HP : Hid (payK ws ns (k + 1) = payK ws ns k ++ byK (ns.getD k 0) (szW (ws.getD k 0))) := rfl
      have HPL : Hid ((payK ws ns k).length ≤ 28) := by
        show _ ≤ _
        rw [payK_len]
        have := HT.out k (by omega)
        omega
      generalize 8 * ws.getD k 0 = x at e1 hY
      generalize szW (ws.getD k 0) = z at hY hz HP
      generalize payK ws ns k = p at HP HPL HR
      generalize ns.getD k 0 = n at e2 HP
      have d1 := (HB.out.cell (p := ⟨g, o + k, none⟩) hg).trans e1
      have E2 := hide e2
      clear hcc hcd HC HD e1 e2
      go_wp2_with fail
      refine (hY _).mono ?_
      rintro e w1 ⟨rfl, rfl⟩
      clear d1 hY
      go_wp2_with fail
      go_loopw [5, 18] (fun v i wx => ∃ j : Nat, j ≤ z ∧ i = .int .i64 j ∧ BRow wx w.heap.size v (p ++ byK n j) ∧ Below w.heap.size w wx) (fun _ i _ => z - (intOf i).toNat)
      case atStart => exact ⟨0, Nat.zero_le _, rfl, by rw [byK, List.append_nil]; exact HR.out, HB.out⟩
      case round =>
        obtain ⟨j, hj, rfl, hR2, hB2⟩ := hrel
        have HB2 := hide hB2
        by_cases hlt2 : j < z
        · have d2 := (hB2.cell (p := ⟨g2, o2 + k, none⟩) hg2).trans E2.out
          have h4 : j = 0 ∨ j = 1 ∨ j = 2 ∨ j = 3 := by omega
          have HL : Hid ((p ++ byK n j).length ≤ 32) := by
            show _ ≤ _
            rw [List.length_append, byK_len]
            have := HPL.out
            omega
          have HS : Hid (p ++ byK n (j + 1) = (p ++ byK n j) ++ [UInt8.ofNat (n / 256 ^ j % 256).toNat]) := by
            show _ = _
            rw [byK, List.append_assoc]
          generalize p ++ byK n j = l at HL HS hR2
          have HO : ∀ o, Hid ((wr.alloc o).ownsRow w.heap.size 5 1 u5 l.length (bytesV l)) := fun o => hR2.alloc o
          have hws := hB2.size
          clear hR2 hB2
          rcases h4 with rfl | rfl | rfl | rfl
          · have HS' : Hid (p ++ byK n 1 = l ++ [UInt8.ofNat (n % 256).toNat]) := by
              show _ = _
              have := HS.out
              simpa using this
            clear HS
            go_wp2_with (at_builtin; refine wpList_append_own _ rfl (.tmp 21) (.tmp 30) 77 rfl w.heap.size 5 i0 _ 1 1 Tryz.underlying77 hi hz0 hz1 hz2 rfl (by decide) _ _ _ rfl (HO _).out ⟨wr.heap.size, 0, none⟩ 1 1 [.int .u8 (n % 256)] rfl rfl ?c1 ?c2 ?c3 ?c4 ?c5 ?_)
            case c1 => exact new_cell1 _ _ rfl _ _
            case c2 => intro u hu; simp at hu; subst hu; rfl
            case c3 => have := HL.out; unfold maxLen; omega
            case c4 => have := HL.out; omega
            case c5 => rw [size_alloc]; omega
            intro v' w5 hown5 hgrow5 _
            have HR5 : Hid (BRow w5 w.heap.size v' (p ++ byK n 1)) := by
              show World.ownsRow _ _ _ _ _ _ _
              rw [HS'.out, List.length_append, bytesV_app, show bytesV [UInt8.ofNat (n % 256).toNat] = [Value.int .u8 (n % 256)] from congrArg (fun z => [Value.int .u8 z]) (byte_back _)]; exact hown5
            have HB5 : Hid (Below w.heap.size w w5) := ((HB2.out.alloc hws _).grown hgrow5 (by rw [size_alloc]; omega) (fun j e => ((HO (.cells #[] 5)).out.lt j e).1))
            clear hown5 hgrow5 HO hi hz0 hz1 hz2
            go_wp2_with fail
            go_roundw
            case rel => exact ⟨1, by omega, by go_num, HR5.out, HB5.out⟩
            case measure => simp [intOf]; omega
          · have HS' : Hid (p ++ byK n 2 = l ++ [UInt8.ofNat (n / 256 % 256).toNat]) := by
              show _ = _
              have := HS.out
              simpa using this
            clear HS
            go_wp2_with (at_builtin; refine wpList_append_own _ rfl (.tmp 21) (.tmp 30) 77 rfl w.heap.size 5 i0 _ 1 1 Tryz.underlying77 hi hz0 hz1 hz2 rfl (by decide) _ _ _ rfl (HO _).out ⟨wr.heap.size, 0, none⟩ 1 1 [.int .u8 (n / 256 % 256)] rfl rfl ?c1 ?c2 ?c3 ?c4 ?c5 ?_)
            case c1 => exact new_cell1 _ _ rfl _ _
            case c2 => intro u hu; simp at hu; subst hu; rfl
            case c3 => have := HL.out; unfold maxLen; omega
            case c4 => have := HL.out; omega
            case c5 => rw [size_alloc]; omega
            intro v' w5 hown5 hgrow5 _
            have HR5 : Hid (BRow w5 w.heap.size v' (p ++ byK n 2)) := by
              show World.ownsRow _ _ _ _ _ _ _
              rw [HS'.out, List.length_append, bytesV_app, show bytesV [UInt8.ofNat (n / 256 % 256).toNat] = [Value.int .u8 (n / 256 % 256)] from congrArg (fun z => [Value.int .u8 z]) (byte_back _)]; exact hown5
            have HB5 : Hid (Below w.heap.size w w5) := ((HB2.out.alloc hws _).grown hgrow5 (by rw [size_alloc]; omega) (fun j e => ((HO (.cells #[] 5)).out.lt j e).1))
            clear hown5 hgrow5 HO hi hz0 hz1 hz2
            go_wp2_with fail
            go_roundw
            case rel => exact ⟨2, by omega, by go_num, HR5.out, HB5.out⟩
            case measure => simp [intOf]; omega
          · have HS' : Hid (p ++ byK n 3 = l ++ [UInt8.ofNat (n / 65536 % 256).toNat]) := by
              show _ = _
              have := HS.out
              simpa using this
            clear HS
            go_wp2_with (at_builtin; refine wpList_append_own _ rfl (.tmp 21) (.tmp 30) 77 rfl w.heap.size 5 i0 _ 1 1 Tryz.underlying77 hi hz0 hz1 hz2 rfl (by decide) _ _ _ rfl (HO _).out ⟨wr.heap.size, 0, none⟩ 1 1 [.int .u8 (n / 65536 % 256)] rfl rfl ?c1 ?c2 ?c3 ?c4 ?c5 ?_)
            case c1 => exact new_cell1 _ _ rfl _ _
            case c2 => intro u hu; simp at hu; subst hu; rfl
            case c3 => have := HL.out; unfold maxLen; omega
            case c4 => have := HL.out; omega
            case c5 => rw [size_alloc]; omega
            intro v' w5 hown5 hgrow5 _
            have HR5 : Hid (BRow w5 w.heap.size v' (p ++ byK n 3)) := by
              show World.ownsRow _ _ _ _ _ _ _
              rw [HS'.out, List.length_append, bytesV_app, show bytesV [UInt8.ofNat (n / 65536 % 256).toNat] = [Value.int .u8 (n / 65536 % 256)] from congrArg (fun z => [Value.int .u8 z]) (byte_back _)]; exact hown5
            have HB5 : Hid (Below w.heap.size w w5) := ((HB2.out.alloc hws _).grown hgrow5 (by rw [size_alloc]; omega) (fun j e => ((HO (.cells #[] 5)).out.lt j e).1))
            clear hown5 hgrow5 HO hi hz0 hz1 hz2
            go_wp2_with fail
            go_roundw
            case rel => exact ⟨3, by omega, by go_num, HR5.out, HB5.out⟩
            case measure => simp [intOf]; omega
          · have HS' : Hid (p ++ byK n 4 = l ++ [UInt8.ofNat (n / 16777216 % 256).toNat]) := by
              show _ = _
              have := HS.out
              simpa using this
            clear HS
            go_wp2_with (at_builtin; refine wpList_append_own _ rfl (.tmp 21) (.tmp 30) 77 rfl w.heap.size 5 i0 _ 1 1 Tryz.underlying77 hi hz0 hz1 hz2 rfl (by decide) _ _ _ rfl (HO _).out ⟨wr.heap.size, 0, none⟩ 1 1 [.int .u8 (n / 16777216 % 256)] rfl rfl ?c1 ?c2 ?c3 ?c4 ?c5 ?_)
            case c1 => exact new_cell1 _ _ rfl _ _
            case c2 => intro u hu; simp at hu; subst hu; rfl
            case c3 => have := HL.out; unfold maxLen; omega
            case c4 => have := HL.out; omega
            case c5 => rw [size_alloc]; omega
            intro v' w5 hown5 hgrow5 _
            have HR5 : Hid (BRow w5 w.heap.size v' (p ++ byK n 4)) := by
              show World.ownsRow _ _ _ _ _ _ _
              rw [HS'.out, List.length_append, bytesV_app, show bytesV [UInt8.ofNat (n / 16777216 % 256).toNat] = [Value.int .u8 (n / 16777216 % 256)] from congrArg (fun z => [Value.int .u8 z]) (byte_back _)]; exact hown5
            have HB5 : Hid (Below w.heap.size w w5) := ((HB2.out.alloc hws _).grown hgrow5 (by rw [size_alloc]; omega) (fun j e => ((HO (.cells #[] 5)).out.lt j e).1))
            clear hown5 hgrow5 HO hi hz0 hz1 hz2
            go_wp2_with fail
            go_roundw
            case rel => exact ⟨4, by omega, by go_num, HR5.out, HB5.out⟩
            case measure => simp [intOf]; omega
        · obtain rfl : j = z := by omega
          have HR3 : Hid (BRow wr w.heap.size u5 (payK ws ns (k + 1))) := by show BRow _ _ _ _; rw [HP.out]; exact hR2
          clear hR2 hB2 hi hz0 hz1 hz2
          go_wp2_with fail
          go_roundw
          case rel => exact ⟨k + 1, by omega, by go_num, HR3.out, HB2.out⟩
          case measure => simp [intOf]; omega
    · obtain rfl : k = m := by omega
      have htx := HR.out.text
      rw [HTX.out] at htx
      clear hi hz0 hz1 hz2
      go_wp2_with fail
      go_ret
      exact ⟨rfl, HB.out⟩
/-- a variable that holds a message -/
def Msg (w : World) (g : Nat) (x y : Value) : Prop := w.heap[g]? = some (.cells #[x, y] 250 (0, 0))
theorem Msg.c0 {w : World} {g : Nat} {x y : Value} (h : Msg w g x y) : w.cell? ⟨g, 0, none⟩ = some x := by
  unfold Msg at h; simp [World.cell?, h]
theorem Msg.c1 {w : World} {g : Nat} {x y : Value} (h : Msg w g x y) : w.cell? ⟨g, 1, none⟩ = some y := by
  unfold Msg at h; simp [World.cell?, h]
theorem Msg.fz {w : World} {g : Nat} {x y : Value} (h : Msg w g x y) (i : Nat) : w.frozen? ⟨g, i, none⟩ = false := by
  unfold Msg at h; simp [World.frozen?, h]
theorem Msg.lt {w : World} {g : Nat} {x y : Value} (h : Msg w g x y) : g < w.heap.size := lt_of_block h
theorem Msg.below {w w' : World} {g : Nat} {x y : Value} (h : Msg w g x y) (hb : Below w.heap.size w w') : Msg w' g x y := by
  unfold Msg at h ⊢; rw [hb.block g (lt_of_block h), h]
theorem Msg.set {w : World} {g : Nat} {x y : Value} (h : Msg w g x y) (a b : Value) : Msg ((w.setCell ⟨g, 0, none⟩ a).setCell ⟨g, 1, none⟩ b) g a b := by
  have := heap_set (heap_set h 0 a) 1 b
  simpa [Msg] using this
theorem msg_new (w : World) (x y : Value) : Msg (w.alloc (.cells #[x, y] 250)) w.heap.size x y := heap_alloc_new _ _
theorem Msg.drewN {w : World} {g : Nat} {x y : Value} (h : Msg w g x y) (n : Nat) : Msg (w.drewN n) g x y := by
  induction n with
  | zero => exact h
  | succ n ih => exact ih
theorem below_set2 {B : Nat} {w w1 : World} {g : Nat} (h : Below B w w1) (hg : B ≤ g) (a b : Value) : Below B w ((w1.setCell ⟨g, 0, none⟩ a).setCell ⟨g, 1, none⟩ b) :=
  (h.setCell (p := ⟨g, 0, none⟩) hg a).setCell (p := ⟨g, 1, none⟩) hg b
theorem frame_back {fn : Func} (h : fn.results = #[.cell 4 324, .tmp 5]) (tmps : Array Value) (w : World) (g : Nat) (x y z : Value) (fr : Nat × Nat) (b : Value) (hp : tmps.getD 4 undef = .pointer (some ⟨g, 0, none⟩)) (hq : tmps.getD 5 undef = b) (hg : w.heap[g]? = some (.cells #[x, y, z] 324 fr)) : (results fn tmps).run Tryz.prog w = .ok (.tuple #[.agg #[x, y, z], b]) w := by
  rw [results_cell_tmp h]
  have := run_loadVar_row (P := Tryz.prog) w g 324 324 #[x, y, z] fr _ hg Tryz.underlying324 rfl (by kernel_rfl)
  rw [hp, hq]
  simp [asAddr, this, Result.andThen]
theorem msg_back {fn : Func} (h : fn.results = #[.cell 2 250, .tmp 3]) (tmps : Array Value) (w : World) (g : Nat) (x y : Value) (fr : Nat × Nat) (b : Value) (hp : tmps.getD 2 undef = .pointer (some ⟨g, 0, none⟩)) (hq : tmps.getD 3 undef = b) (hg : w.heap[g]? = some (.cells #[x, y] 250 fr)) : (results fn tmps).run Tryz.prog w = .ok (.tuple #[.agg #[x, y], b]) w := by
  rw [results_cell_tmp h]
  have := run_loadVar_row (P := Tryz.prog) w g 250 250 #[x, y] fr _ hg Tryz.underlying250 rfl (by kernel_rfl)
  rw [hp, hq]
  simp [asAddr, this, Result.andThen]
theorem wpK_len (k : Int) : (wpK k).length = (wsK k).length := by unfold wpK; rw [List.length_map]
/-- behind the call of widths -/
theorem enc_start {w w1 : World} {k : Int} {u : Value} {ns : List Int} (hu : Ints w u ns) (hB : Below ((w.alloc (.cells #[.int .u8 k, u] 250)).alloc (.cells #[.int .i64 0, .int .i64 0, .string ⟨#[]⟩] 324)).heap.size ((w.alloc (.cells #[.int .u8 k, u] 250)).alloc (.cells #[.int .i64 0, .int .i64 0, .string ⟨#[]⟩] 324)) w1) : Msg w1 w.heap.size (.int .u8 k) u ∧ Frm w1 (w.heap.size + 1) (.int .i64 0) (.int .i64 0) (.string ⟨#[]⟩) ∧ Ints w1 u ns ∧ Below w.heap.size w w1 := by
  refine ⟨((msg_new w _ _).below (below_alloc _ _)).below hB, ?_, ((hu.below (below_alloc _ _)).below (below_alloc _ _)).below hB, below_over (below_over hB)⟩
  have := (frm_new (w.alloc (.cells #[.int .u8 k, u] 250)) (.int .i64 0) (.int .i64 0) (.string ⟨#[]⟩)).below hB
  rw [size_alloc] at this
  exact this
end Go.Proofs.YtapfaaaepnplcaaGreatDoor
set_option maxRecDepth 100000
set_option maxHeartbeats 4000000
namespace Go.Proofs.YtapfaaaepnplcaaGreatDoor
open Go.RowKit Go.Great
theorem encM_kind (seq k : Int) (ns : List Int) (h1 : (wsK k).length = 0) : encM seq k ns = ((0, 0, ⟨#[]⟩), 6) := by unfold encM; rw [if_pos h1]
theorem encM_count (seq k : Int) (ns : List Int) (h1 : (wsK k).length ≠ 0) (h2 : ns.length ≠ (wsK k).length) : encM seq k ns = ((0, 0, ⟨#[]⟩), 50) := by unfold encM; rw [if_neg h1, if_pos h2]
theorem encM_range (seq k : Int) (ns : List Int) (h1 : (wsK k).length ≠ 0) (h2 : ns.length = (wsK k).length) (h3 : ¬ (0 ≤ seq ∧ seq ≤ 255) ∨ fitsK (wsK k) ns (wsK k).length = false) : encM seq k ns = ((0, 0, ⟨#[]⟩), 5) := by
  unfold encM; rw [if_neg h1, if_neg (by omega), if_neg]
  rintro ⟨a, b, c⟩
  rcases h3 with h3 | h3
  · exact h3 ⟨a, b⟩
  · rw [c] at h3; cases h3
theorem encM_ok (seq k : Int) (ns : List Int) (h1 : (wsK k).length ≠ 0) (h2 : ns.length = (wsK k).length) (h3 : 0 ≤ seq ∧ seq ≤ 255) (h4 : fitsK (wsK k) ns (wsK k).length = true) : encM seq k ns = ((seq, k, bs (payK (wsK k) ns (wsK k).length)), 0) := by
  unfold encM; rw [if_neg h1, if_neg (by omega), if_pos ⟨h3.1, h3.2, h4⟩]; rfl
/-- the number that is written in the place of one below 0 -/
theorem up_num {w n : Int} (hw : Wid w) (h : fitB w n = true) : (0 ≤ n → n < 256 ^ szW w) ∧ (n < 0 → 0 ≤ n + 256 ^ szW w ∧ n + 256 ^ szW w < 256 ^ szW w) ∧ (256 : Int) ^ szW w ≤ 4294967296 ∧ -2147483648 ≤ n := by
  rw [fitB_iff] at h
  rcases wid_cases hw with h1 | h1 | h1 | h1 | h1
  all_goals
    rw [h1.2.1, h1.2.2] at h
    rw [h1.1]
    simp only [show (256 : Int) ^ 1 = 256 from rfl, show (256 : Int) ^ 2 = 65536 from rfl, show (256 : Int) ^ 4 = 4294967296 from rfl]
    omega
theorem div_next (N : Int) (j : Nat) : N / 256 ^ j / 256 = N / 256 ^ (j + 1) := by
  rw [p256, Int.ediv_ediv_of_nonneg (Int.le_of_lt (p256_pos j))]
/-- the inner loop of the document's Encode: what is written so far -/
def WrRel (w1 : World) (p : List UInt8) (N : Int) (z : Nat) (v n i : Value) (wx : World) : Prop :=
  ∃ j : Nat, j ≤ z ∧ i = .int .i64 j ∧ n = .int .i64 (N / 256 ^ j) ∧ BRow wx w1.heap.size v (p ++ byK N j) ∧ Below w1.heap.size w1 wx
end Go.Proofs.YtapfaaaepnplcaaGreatDoor
set_option maxRecDepth 100000
set_option maxHeartbeats 4000000
namespace Go.Proofs.YtapfaaaepnplcaaGreatDoor
open Go.RowKit Go.Great
theorem widths_any (k : Int) (w : World) : Calls Tryz.prog 267 #[.int .i64 k] w fun e w' => ∃ v, e = .returned v ∧ Ints w' v (wpK k) ∧ Below w.heap.size w w' := by
  rcases wsK_cases k with (h | h | h | h | h | h | h | h | h | h | h) | ⟨hk, h⟩
  · subst h
    go_enter Tryz.func267, Tryz.ntmps267
    go_wp2
    go_ret
    refine ⟨_, rfl, ?_, ?_⟩
    · iterate 11 refine Ints.below ?_ (below_alloc _ _)
      exact ints_row (l := wpK 1) (heap_alloc_at _ _ _ (by first | rfl | simp only [size_alloc])) _ _ rfl
    · repeat (first | exact below_alloc _ _ | refine Below.alloc ?_ (by simp only [size_alloc]; omega) _)
  · subst h
    go_enter Tryz.func267, Tryz.ntmps267
    go_wp2
    go_ret
    refine ⟨_, rfl, ?_, ?_⟩
    · iterate 10 refine Ints.below ?_ (below_alloc _ _)
      exact ints_row (l := wpK 2) (heap_alloc_at _ _ _ (by first | rfl | simp only [size_alloc])) _ _ rfl
    · repeat (first | exact below_alloc _ _ | refine Below.alloc ?_ (by simp only [size_alloc]; omega) _)
  · subst h
    go_enter Tryz.func267, Tryz.ntmps267
    go_wp2
    go_ret
    refine ⟨_, rfl, ?_, ?_⟩
    · iterate 9 refine Ints.below ?_ (below_alloc _ _)
      exact ints_row (l := wpK 3) (heap_alloc_at _ _ _ (by first | rfl | simp only [size_alloc])) _ _ rfl
    · repeat (first | exact below_alloc _ _ | refine Below.alloc ?_ (by simp only [size_alloc]; omega) _)
  · subst h
    go_enter Tryz.func267, Tryz.ntmps267
    go_wp2
    go_ret
    refine ⟨_, rfl, ?_, ?_⟩
    · iterate 8 refine Ints.below ?_ (below_alloc _ _)
      exact ints_row (l := wpK 4) (heap_alloc_at _ _ _ (by first | rfl | simp only [size_alloc])) _ _ rfl
    · repeat (first | exact below_alloc _ _ | refine Below.alloc ?_ (by simp only [size_alloc]; omega) _)
  · subst h
    go_enter Tryz.func267, Tryz.ntmps267
    go_wp2
    go_ret
    refine ⟨_, rfl, ?_, ?_⟩
    · iterate 7 refine Ints.below ?_ (below_alloc _ _)
      exact ints_row (l := wpK 5) (heap_alloc_at _ _ _ (by first | rfl | simp only [size_alloc])) _ _ rfl
    · repeat (first | exact below_alloc _ _ | refine Below.alloc ?_ (by simp only [size_alloc]; omega) _)
  · subst h
    go_enter Tryz.func267, Tryz.ntmps267
    go_wp2
    go_ret
    refine ⟨_, rfl, ?_, ?_⟩
    · iterate 6 refine Ints.below ?_ (below_alloc _ _)
      exact ints_row (l := wpK 6) (heap_alloc_at _ _ _ (by first | rfl | simp only [size_alloc])) _ _ rfl
    · repeat (first | exact below_alloc _ _ | refine Below.alloc ?_ (by simp only [size_alloc]; omega) _)
  · subst h
    go_enter Tryz.func267, Tryz.ntmps267
    go_wp2
    go_ret
    refine ⟨_, rfl, ?_, ?_⟩
    · iterate 5 refine Ints.below ?_ (below_alloc _ _)
      exact ints_row (l := wpK 7) (heap_alloc_at _ _ _ (by first | rfl | simp only [size_alloc])) _ _ rfl
    · repeat (first | exact below_alloc _ _ | refine Below.alloc ?_ (by simp only [size_alloc]; omega) _)
  · subst h
    go_enter Tryz.func267, Tryz.ntmps267
    go_wp2
    go_ret
    refine ⟨_, rfl, ?_, ?_⟩
    · iterate 4 refine Ints.below ?_ (below_alloc _ _)
      exact ints_row (l := wpK 8) (heap_alloc_at _ _ _ (by first | rfl | simp only [size_alloc])) _ _ rfl
    · repeat (first | exact below_alloc _ _ | refine Below.alloc ?_ (by simp only [size_alloc]; omega) _)
  · subst h
    go_enter Tryz.func267, Tryz.ntmps267
    go_wp2
    go_ret
    refine ⟨_, rfl, ?_, ?_⟩
    · iterate 3 refine Ints.below ?_ (below_alloc _ _)
      exact ints_row (l := wpK 9) (heap_alloc_at _ _ _ (by first | rfl | simp only [size_alloc])) _ _ rfl
    · repeat (first | exact below_alloc _ _ | refine Below.alloc ?_ (by simp only [size_alloc]; omega) _)
  · subst h
    go_enter Tryz.func267, Tryz.ntmps267
    go_wp2
    go_ret
    refine ⟨_, rfl, ?_, ?_⟩
    · iterate 2 refine Ints.below ?_ (below_alloc _ _)
      exact ints_row (l := wpK 10) (heap_alloc_at _ _ _ (by first | rfl | simp only [size_alloc])) _ _ rfl
    · repeat (first | exact below_alloc _ _ | refine Below.alloc ?_ (by simp only [size_alloc]; omega) _)
  · subst h
    go_enter Tryz.func267, Tryz.ntmps267
    go_wp2
    go_ret
    refine ⟨_, rfl, ?_, ?_⟩
    · iterate 1 refine Ints.below ?_ (below_alloc _ _)
      exact ints_row (l := wpK 11) (heap_alloc_at _ _ _ (by first | rfl | simp only [size_alloc])) _ _ rfl
    · repeat (first | exact below_alloc _ _ | refine Below.alloc ?_ (by simp only [size_alloc]; omega) _)
  · have hn : wpK k = [] := by unfold wpK; rw [h]; rfl
    rw [hn]
    clear hn h
    have h3 : k < 0 ∨ k = 0 ∨ (0 ≤ k ∧ 12 ≤ k) := by omega
    clear hk
    rcases h3 with h3 | h3 | ⟨h4, h3⟩
    · go_enter Tryz.func267, Tryz.ntmps267
      go_wp2
      go_ret
      refine ⟨_, rfl, Ints.nil _, ?_⟩
      repeat (first | exact below_alloc _ _ | refine Below.alloc ?_ (by simp only [size_alloc]; omega) _)
    · subst h3
      go_enter Tryz.func267, Tryz.ntmps267
      go_wp2
      go_ret
      refine ⟨_, rfl, Ints.nil _, ?_⟩
      repeat (first | exact below_alloc _ _ | refine Below.alloc ?_ (by simp only [size_alloc]; omega) _)
    · go_enter Tryz.func267, Tryz.ntmps267
      go_wp2
      go_ret
      refine ⟨_, rfl, Ints.nil _, ?_⟩
      repeat (first | exact below_alloc _ _ | refine Below.alloc ?_ (by simp only [size_alloc]; omega) _)
end Go.Proofs.YtapfaaaepnplcaaGreatDoor
set_option maxRecDepth 100000
set_option maxHeartbeats 2000000
namespace Go.Proofs.YtapfaaaepnplcaaGreatDoor
open Go.RowKit Go.Great
theorem mencode_any (seq k : Int) (hk0 : 0 ≤ k) (hk1 : k ≤ 255) (ns : List Int) (u : Value) (w : World) (hu : Ints w u ns) (hns : ns.length ≤ 9223372036854775807) : Calls Tryz.prog 189 #[.int .i64 seq, .agg #[.int .u8 k, u]] w fun e w' => e = .returned (.tuple #[.agg #[.int .i64 (encM seq k ns).1.1, .int .i64 (encM seq k ns).1.2.1, .string (encM seq k ns).1.2.2], .int .i64 (encM seq k ns).2]) ∧ Below w.heap.size w w' := by
  have HU := hide hu
  obtain ⟨au, cu, rfl, _⟩ := hu
  have hWI := fun W => widths_any k W
  have hl7 := wsK_len k
  by_cases h1 : (wsK k).length = 0
  · have HE : Hid (encM seq k ns = ((0, 0, ⟨#[]⟩), 6)) := encM_kind _ _ _ h1
    have HL := hide h1
    rw [HE.out]
    clear h1 hl7
    go_enter Tryz.func189, Tryz.ntmps189
    go_wp2_with fail
    refine (hWI _).mono ?_
    rintro e w1 ⟨v, rfl, hI, hB⟩
    obtain ⟨hM, hF, hI2, hB1⟩ := enc_start HU.out hB
    obtain ⟨av, cv, rfl, _⟩ := hI
    rw [wpK_len, HL.out]
    have HB1 := hide hB1
    have c0 := hF.c0
    have c1 := hF.c1
    have c2 := hF.c2
    have fz := hF.fz
    have HF := hide hF
    clear hM hF hI2 hB hB1 hWI
    go_wp2_with fail
    refine bodyPost_ret (frame_back Tryz.results189 _ _ (w.heap.size + 1) _ _ _ _ _ rfl rfl (HF.out.set _ _ _)) rfl ?_
    exact ⟨rfl, below_set3 HB1.out (by omega) _ _ _⟩
  · by_cases h2 : ns.length = (wsK k).length
    · have HW := hide (wsK_wid k)
      have HOK := fun a b => hide (encM_ok seq k ns h1 h2 a b)
      have HNO := fun a => hide (encM_range seq k ns h1 h2 a)
      generalize encM seq k ns = E at HOK HNO
      unfold wpK at hWI
      generalize wsK k = ws at hWI hl7 h1 h2 HW HOK HNO
      have hfi := fun v w hv hu => fit_any ws ns HW.out hl7 h2 v (.slice au ns.length cu) w hv hu
      have hpa := fun v w hv hu => payload_any ws ns HW.out hl7 h2 v (.slice au ns.length cu) w hv hu
      obtain ⟨m, hm⟩ : ∃ m, ws.length = m := ⟨_, rfl⟩
      rw [hm] at h1 h2 hl7 HOK HNO hfi hpa
      have HM := hide hm
      have HN2 := hide h2
      rw [h2] at hfi hpa
      rw [h2]
      have hl0 : ((m : Int) == 0) = false := by rw [beq_eq_false_iff_ne]; omega
      clear h2 hm
      have hs : seq < 0 ∨ (0 ≤ seq ∧ 255 < seq) ∨ (0 ≤ seq ∧ seq ≤ 255) := by omega
      rcases hs with hs | ⟨hs, hs2⟩ | ⟨hs, hs2⟩
      · have HE : Hid (E = ((0, 0, ⟨#[]⟩), 5)) := (HNO (.inl (by omega))).out
        rw [HE.out]
        clear HE HNO HOK hfi hpa
        go_enter Tryz.func189, Tryz.ntmps189
        go_wp2_with fail
        refine (hWI _).mono ?_
        rintro e w1 ⟨v, rfl, hI, hB⟩
        obtain ⟨hM, hF, hI2, hB1⟩ := enc_start HU.out (by rw [HN2.out]; exact hB)
        rw [HN2.out] at hM
        have HI := hide hI
        have HI2 : Hid (Ints w1 (.slice au m cu) ns) := by show Ints _ _ _; rw [← HN2.out]; exact hI2
        obtain ⟨av, cv, rfl, _⟩ := hI
        rw [List.length_map, HM.out] at HI ⊢
        have HB1 := hide hB1
        have m0 := hM.c0
        have m1 := hM.c1
        have c0 := hF.c0
        have c1 := hF.c1
        have c2 := hF.c2
        have fz := hF.fz
        have HF := hide hF
        have HMs := hide hM
        clear hM hF hB hB1 hWI hI2
        go_wp2_with fail
        refine bodyPost_ret (frame_back Tryz.results189 _ _ (w.heap.size + 1) _ _ _ _ _ rfl rfl (HF.out.set _ _ _)) rfl ?_
        exact ⟨rfl, below_set3 HB1.out (by omega) _ _ _⟩
      · have HE : Hid (E = ((0, 0, ⟨#[]⟩), 5)) := (HNO (.inl (by omega))).out
        rw [HE.out]
        clear HE HNO HOK hfi hpa
        go_enter Tryz.func189, Tryz.ntmps189
        go_wp2_with fail
        refine (hWI _).mono ?_
        rintro e w1 ⟨v, rfl, hI, hB⟩
        obtain ⟨hM, hF, hI2, hB1⟩ := enc_start HU.out (by rw [HN2.out]; exact hB)
        rw [HN2.out] at hM
        have HI := hide hI
        have HI2 : Hid (Ints w1 (.slice au m cu) ns) := by show Ints _ _ _; rw [← HN2.out]; exact hI2
        obtain ⟨av, cv, rfl, _⟩ := hI
        rw [List.length_map, HM.out] at HI ⊢
        have HB1 := hide hB1
        have m0 := hM.c0
        have m1 := hM.c1
        have c0 := hF.c0
        have c1 := hF.c1
        have c2 := hF.c2
        have fz := hF.fz
        have HF := hide hF
        have HMs := hide hM
        clear hM hF hB hB1 hWI hI2
        go_wp2_with fail
        refine bodyPost_ret (frame_back Tryz.results189 _ _ (w.heap.size + 1) _ _ _ _ _ rfl rfl (HF.out.set _ _ _)) rfl ?_
        exact ⟨rfl, below_set3 HB1.out (by omega) _ _ _⟩
      · cases hft : fitsK ws ns m with
        | false =>
          have HE : Hid (E = ((0, 0, ⟨#[]⟩), 5)) := (HNO (.inr hft)).out
          rw [HE.out]
          rw [hft] at hfi
          clear HE HNO HOK hpa hft
          go_enter Tryz.func189, Tryz.ntmps189
          go_wp2_with fail
          refine (hWI _).mono ?_
          rintro e w1 ⟨v, rfl, hI, hB⟩
          obtain ⟨hM, hF, hI2, hB1⟩ := enc_start HU.out (by rw [HN2.out]; exact hB)
          rw [HN2.out] at hM
          have HI := hide hI
          have HI2 : Hid (Ints w1 (.slice au m cu) ns) := by show Ints _ _ _; rw [← HN2.out]; exact hI2
          obtain ⟨av, cv, rfl, _⟩ := hI
          rw [List.length_map, HM.out] at HI ⊢
          have HB1 := hide hB1
          have m0 := hM.c0
          have m1 := hM.c1
          have c0 := hF.c0
          have c1 := hF.c1
          have c2 := hF.c2
          have fz := hF.fz
          have HF := hide hF
          have HMs := hide hM
          clear hM hF hB hB1 hWI hI2
          go_wp2_with fail
          clear c0 c1 c2 fz m0 m1
          refine (hfi _ _ HI.out HI2.out).mono ?_
          rintro e w2 ⟨rfl, q, rfl⟩
          have c0 := (HF.out.drewN q).c0
          have c1 := (HF.out.drewN q).c1
          have c2 := (HF.out.drewN q).c2
          have fz := (HF.out.drewN q).fz
          go_wp2_with fail
          refine bodyPost_ret (frame_back Tryz.results189 _ _ (w.heap.size + 1) _ _ _ _ _ rfl rfl ((HF.out.drewN q).set _ _ _)) rfl ?_
          exact ⟨rfl, below_set3 (below_drewN HB1.out q) (by omega) _ _ _⟩
        | true =>
          have HE : Hid (E = ((seq, k, bs (payK ws ns m)), 0)) := (HOK ⟨hs, hs2⟩ hft).out
          rw [HE.out]
          rw [hft] at hfi
          generalize bs (payK ws ns m) = tx at hpa
          clear HE HNO HOK hft
          go_enter Tryz.func189, Tryz.ntmps189
          go_wp2_with fail
          refine (hWI _).mono ?_
          rintro e w1 ⟨v, rfl, hI, hB⟩
          obtain ⟨hM, hF, hI2, hB1⟩ := enc_start HU.out (by rw [HN2.out]; exact hB)
          rw [HN2.out] at hM
          have HI := hide hI
          have HI2 : Hid (Ints w1 (.slice au m cu) ns) := by show Ints _ _ _; rw [← HN2.out]; exact hI2
          obtain ⟨av, cv, rfl, _⟩ := hI
          rw [List.length_map, HM.out] at HI ⊢
          have HB1 := hide hB1
          have m0 := hM.c0
          have m1 := hM.c1
          have c0 := hF.c0
          have c1 := hF.c1
          have c2 := hF.c2
          have fz := hF.fz
          have HF := hide hF
          have HMs := hide hM
          clear hM hF hB hB1 hWI hI2
          go_wp2_with fail
          clear c0 c1 c2 fz m0 m1
          refine (hfi _ _ HI.out HI2.out).mono ?_
          rintro e w2 ⟨rfl, q, hw2⟩
          have HF2 : Hid (Frm w2 (w.heap.size + 1) (.int .i64 0) (.int .i64 0) (.string ⟨#[]⟩)) := by show Frm _ _ _ _ _; rw [hw2]; exact HF.out.drewN q
          have HM2 : Hid (Msg w2 w.heap.size (.int .u8 k) (.slice au m cu)) := by show Msg _ _ _ _; rw [hw2]; exact HMs.out.drewN q
          have HI' := hide (show Ints w2 _ _ by rw [hw2]; exact HI.out.drewN q)
          have HI2' := hide (show Ints w2 _ _ by rw [hw2]; exact HI2.out.drewN q)
          have HB2 : Hid (Below w.heap.size w w2) := by show Below _ _ _; rw [hw2]; exact below_drewN HB1.out q
          have m0 := HM2.out.c0
          have m1 := HM2.out.c1
          have c0 := HF2.out.c0
          have c1 := HF2.out.c1
          have c2 := HF2.out.c2
          have fz := HF2.out.fz
          clear hw2 HF HMs HI HI2 HB1 hfi
          go_wp2_with fail
          clear hs hs2 hl0
          have hwk : IntKind.i64.wrap k = k := by rw [IntKind.wrap_i64]; omega
          go_region_held3 (fun wx => wx.cell? ⟨w.heap.size, 0, none⟩ = some (.int .u8 k) ∧ wx.cell? ⟨w.heap.size, 1, none⟩ = some (.slice au m cu)) (go_keep) (first | (go_at_call 278; refine (hpa _ _ (by exact HI'.out) (by exact HI2'.out)).mono ?_; rintro e w3 ⟨rfl, hB3⟩; replace hB3 := below_undrew hB3; have m03 := (HM2.out.below hB3).c0; have m13 := (HM2.out.below hB3).c1; have c03 := (HF2.out.below hB3).c0; have c13 := (HF2.out.below hB3).c1; have c23 := (HF2.out.below hB3).c2; have fz3 := (HF2.out.below hB3).fz; have HB3 := hide hB3; clear hB3))
          all_goals go_wp2_with fail
          all_goals refine bodyPost_ret (frame_back Tryz.results189 _ _ (w.heap.size + 1) _ _ _ _ _ rfl rfl ((HF2.out.below HB3.out).set _ _ _)) rfl ?_
          all_goals exact ⟨rfl, below_set3 (below_next HB2.out (Nat.le_refl _) HB3.out) (by omega) _ _ _⟩
    · have HE : Hid (encM seq k ns = ((0, 0, ⟨#[]⟩), 50)) := encM_count _ _ _ h1 h2
      have hne : ((ns.length : Int) != ((wsK k).length : Int)) = true := by simp; omega
      have hl0 : (((wsK k).length : Int) == 0) = false := by rw [beq_eq_false_iff_ne]; omega
      rw [HE.out]
      clear h2 HE h1
      unfold wpK at hWI
      generalize wsK k = ws at hWI hl7 hne hl0
      generalize hq : ns.length = q at hne hns
      have HQ := hide hq
      clear hq
      go_enter Tryz.func189, Tryz.ntmps189
      go_wp2_with fail
      refine (hWI _).mono ?_
      rintro e w1 ⟨v, rfl, hI, hB⟩
      obtain ⟨hM, hF, _, hB1⟩ := enc_start HU.out (by rw [HQ.out]; exact hB)
      rw [HQ.out] at hM
      obtain ⟨av, cv, rfl, _⟩ := hI
      rw [List.length_map]
      generalize ws.length = m at hne hl0 hl7
      have HB1 := hide hB1
      have m0 := hM.c0
      have m1 := hM.c1
      have c0 := hF.c0
      have c1 := hF.c1
      have c2 := hF.c2
      have fz := hF.fz
      have HF := hide hF
      clear hM hF hB hB1 hWI
      go_wp2_with fail
      refine bodyPost_ret (frame_back Tryz.results189 _ _ (w.heap.size + 1) _ _ _ _ _ rfl rfl (HF.out.set _ _ _)) rfl ?_
      exact ⟨rfl, below_set3 HB1.out (by omega) _ _ _⟩
end Go.Proofs.YtapfaaaepnplcaaGreatDoor
