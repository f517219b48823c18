/- What the small functions of package sense answer of one width, of a list of widths (layer 5's texts over package sense). -/
import Derived.Test.YtmlcknaahpfhbaaSeM
import Derived.Test.YtmlcknaahpfhbaaCrI
namespace Go.Proofs.Ytmlcknaahpfhbaa
open Go.RowKit Go.Great

theorem getD_at (s : ByteArray) (i : Nat) (h : i < s.size) : s.data.toList.getD i 0 = s[i] := by
  have h' : i < s.data.toList.length := by simpa using h
  rw [List.getD, List.getElem?_eq_getElem h']; rfl
theorem to_run (s : ByteArray) (b : Nat) (h2 : b ≤ s.size) (wx : World) : (Instr.slice 9 (.string s) none (some (.int .i64 b)) none).run Try.prog wx = .ok (.string (s.extract 0 b)) wx := by
  rw [run_slice_string_to_if wx 9 s .i64 b Try.underlying9]
  rw [if_pos (by omega)]
  simp
theorem from_run (s : ByteArray) (a : Nat) (h2 : a ≤ s.size) (wx : World) : (Instr.slice 9 (.string s) (some (.int .i64 a)) none none).run Try.prog wx = .ok (.string (s.extract a s.size)) wx := by
  rw [run_slice_string_from_if wx 9 s .i64 a Try.underlying9]
  rw [if_pos (by omega)]
  simp
theorem signed_any (w : Int) (h : Wid w) (x : Int) (hx : x = 8 * w) (W : World) : Calls Try.prog 43 #[.int .i64 x] W fun e w' => e = .returned (.bool (decide (w < 0))) ∧ w' = W := by
  rcases h with rfl | rfl | rfl | rfl | rfl <;> subst hx
  all_goals
    go_enter Try.func43, Try.ntmps43
    go_wp2
    go_ret
    exact ⟨rfl, rfl⟩
theorem bits_any (w : Int) (h : Wid w) (x : Int) (hx : x = 8 * w) (W : World) : Calls Try.prog 40 #[.int .i64 x] W fun e w' => e = .returned (.int .i64 (8 * (szW w : Int))) ∧ w' = W := by
  rcases h with rfl | rfl | rfl | rfl | rfl <;> subst hx
  all_goals
    go_enter Try.func40, Try.ntmps40
    go_wp2
    go_ret
    exact ⟨rfl, rfl⟩
theorem wbytes_any (w : Int) (h : Wid w) (x : Int) (hx : x = 8 * w) (W : World) : Calls Try.prog 29 #[.int .i64 x] W fun e w' => e = .returned (.int .i64 (szW w : Int)) ∧ w' = W := by
  have hb := fun W => bits_any w h x hx W
  rcases h with rfl | rfl | rfl | rfl | rfl <;> subst hx
  all_goals
    simp only [show (8 * (szW 1 : Int)) = 8 from rfl, show (8 * (szW 2 : Int)) = 16 from rfl, show (8 * (szW 4 : Int)) = 32 from rfl, show (8 * (szW (-2) : Int)) = 16 from rfl, show (8 * (szW (-4) : Int)) = 32 from rfl] at hb
    go_enter Try.func29, Try.ntmps29
    go_wp2_with fail
    refine (hb _).mono ?_
    rintro e w1 ⟨rfl, rfl⟩
    go_wp2_with fail
    go_ret
    exact ⟨rfl, rfl⟩
theorem least_any (w : Int) (h : Wid w) (x : Int) (hx : x = 8 * w) (W : World) : Calls Try.prog 38 #[.int .i64 x] W fun e w' => e = .returned (.int .i64 (leW w)) ∧ w' = W := by
  have hs := fun W => signed_any w h x hx W
  have hb := fun W => bits_any w h x hx W
  rcases h with rfl | rfl | rfl | rfl | rfl <;> subst hx
  all_goals
    simp only [show (8 * (szW 1 : Int)) = 8 from rfl, show (8 * (szW 2 : Int)) = 16 from rfl, show (8 * (szW 4 : Int)) = 32 from rfl, show (8 * (szW (-2) : Int)) = 16 from rfl, show (8 * (szW (-4) : Int)) = 32 from rfl] at hb
    simp only [show decide ((1 : Int) < 0) = false from rfl, show decide ((2 : Int) < 0) = false from rfl, show decide ((4 : Int) < 0) = false from rfl, show decide ((-2 : Int) < 0) = true from rfl, show decide ((-4 : Int) < 0) = true from rfl] at hs
    go_enter Try.func38, Try.ntmps38
    go_wp2_with fail
    refine (hs _).mono ?_
    rintro e w1 ⟨rfl, rfl⟩
    go_wp2_with fail
    try (refine (hb _).mono ?_; rintro e w2 ⟨rfl, rfl⟩; go_wp2_with fail)
    go_ret
    exact ⟨rfl, rfl⟩
theorem greatest_any (w : Int) (h : Wid w) (x : Int) (hx : x = 8 * w) (W : World) : Calls Try.prog 39 #[.int .i64 x] W fun e w' => e = .returned (.int .i64 (grW w)) ∧ w' = W := by
  have hs := fun W => least_any w h x hx W
  have hb := fun W => bits_any w h x hx W
  rcases h with rfl | rfl | rfl | rfl | rfl <;> subst hx
  all_goals
    simp only [show (8 * (szW 1 : Int)) = 8 from rfl, show (8 * (szW 2 : Int)) = 16 from rfl, show (8 * (szW 4 : Int)) = 32 from rfl, show (8 * (szW (-2) : Int)) = 16 from rfl, show (8 * (szW (-4) : Int)) = 32 from rfl] at hb
    simp only [show leW 1 = 0 from rfl, show leW 2 = 0 from rfl, show leW 4 = 0 from rfl, show leW (-2) = -32768 from rfl, show leW (-4) = -2147483648 from rfl] at hs
    go_enter Try.func39, Try.ntmps39
    go_wp2_with fail
    refine (hs _).mono ?_
    rintro e w1 ⟨rfl, rfl⟩
    go_wp2_with fail
    refine (hb _).mono ?_
    rintro e w2 ⟨rfl, rfl⟩
    go_wp2_with fail
    go_ret
    exact ⟨rfl, rfl⟩
theorem tot_le4 (ws : List Int) (hw : ∀ w ∈ ws, Wid w) (k : Nat) (hk : k ≤ ws.length) : totK ws k ≤ 4 * k := by
  induction k with
  | zero => simp [totK]
  | succ k ih =>
    have := ih (by omega)
    have := (wid_sz (widD hw k (by omega))).2
    rw [totK]; omega
theorem map8_at (ws : List Int) (k : Nat) (h : k < ws.length) : (ws.map fun w => 8 * w).getD k 0 = 8 * ws.getD k 0 := by
  simp [List.getD, List.getElem?_eq_getElem h]
set_option maxHeartbeats 1000000 in
theorem msize_any (ws : List Int) (hw : ∀ w ∈ ws, Wid w) (hl : ws.length ≤ 7) (v : Value) (w : World) (hv : Ints w v (ws.map fun x => 8 * x)) : Calls Try.prog 35 #[v] w fun e w' => e = .returned (.int .i64 (totK ws ws.length : Nat)) ∧ w' = w := by
  obtain ⟨a, cap, rfl, hc⟩ := hv
  rw [List.length_map] at hc ⊢
  have HC := hide hc
  have HW := hide hw
  have HT := hide (tot_le4 ws hw)
  obtain ⟨m, hm⟩ : ∃ m, ws.length = m := ⟨_, rfl⟩
  rw [hm] at hl ⊢
  have HM := hide hm
  clear hc hw hm
  go_enter Try.func35, Try.ntmps35
  go_wp2_with fail
  go_loopw [3, 8] (fun n i wx => ∃ k : Nat, k ≤ m ∧ n = .int .i64 (totK ws k : Nat) ∧ i = .int .i64 k ∧ wx = w) (fun _ i _ => m - (intOf i).toNat)
  case atStart => exact ⟨0, by omega, rfl, rfl, rfl⟩
  case round =>
    obtain ⟨k, hk, rfl, rfl, rfl⟩ := hrel
    by_cases hlt : k < m
    · have hkw : k < ws.length := by rw [HM.out]; exact hlt
      obtain ⟨g, o, rfl, hg, hcc⟩ := HC.out (by omega)
      have hd := hcc k hkw
      rw [map8_at _ _ hkw] at hd
      have hb := fun W => wbytes_any (ws.getD k 0) (widD HW.out k hkw) _ rfl W
      have hz := (wid_sz (widD HW.out k hkw)).2
      have ht := HT.out k (by omega)
      have HN : Hid (totK ws (k + 1) = totK ws k + szW (ws.getD k 0)) := rfl
      generalize 8 * ws.getD k 0 = x at hd hb
      generalize szW (ws.getD k 0) = z at hb hz HN
      generalize totK ws k = t at ht HN ⊢
      clear hcc HC
      go_wp2_with fail
      refine (hb _).mono ?_
      rintro e w1 ⟨rfl, rfl⟩
      go_wp2_with fail
      go_roundw
      case rel => exact ⟨k + 1, by omega, by rw [HN.out]; go_num, by go_num, trivial⟩
      case measure => simp [intOf]; omega
    · obtain rfl : k = m := by omega
      obtain ⟨t, ht⟩ : ∃ t, Hid (totK ws k = t) := ⟨_, rfl⟩
      rw [ht.out]
      go_wp2_with fail
      go_ret
      exact ⟨ret_int (by rw [ht.out]), rfl⟩
set_option maxHeartbeats 1000000 in
theorem number_any (x : Int) (hx : Wid x) (b : ByteArray) (hb : b.size = szW x) (W : World) : Calls Try.prog 36 #[.int .i64 (8 * x), .string b] W fun e w' => e = .returned (.int .i64 (nuW x b.data.toList)) ∧ w' = W := by
  have hG := fun W => greatest_any x hx _ rfl W
  have hB := fun W => bits_any x hx _ rfl W
  have hz := wid_sz hx
  obtain ⟨m, hm⟩ : ∃ m, szW x = m := ⟨_, rfl⟩
  rw [hm] at hb hz hB
  obtain ⟨y, hy⟩ : ∃ y, 8 * x = y := ⟨_, rfl⟩
  rw [hy] at hG hB ⊢
  clear hy
  have HR : Hid (nuW x b.data.toList = if grW x < nuK b.data.toList m then nuK b.data.toList m - 256 ^ m else nuK b.data.toList m) := by
    show _ = _
    unfold nuW; rw [hm]
  obtain ⟨r, hr⟩ : ∃ r, nuW x b.data.toList = r := ⟨_, rfl⟩
  rw [hr] at HR ⊢
  clear hr
  have HU : Hid (∀ k, k < m → ∃ h : k < b.size, nuK b.data.toList (k + 1) = nuK b.data.toList k + (b[k].toNat : Int) * 256 ^ k) := by
    intro k hk
    refine ⟨by omega, ?_⟩
    rw [nuK, getD_at b k (by omega)]
  go_enter Try.func36, Try.ntmps36
  go_wp2_with fail
  go_loopw [5, 9] (fun n i wx => ∃ k : Nat, k ≤ m ∧ n = .int .i64 (nuK b.data.toList k) ∧ i = .int .i64 k ∧ wx = W) (fun _ i _ => m - (intOf i).toNat)
  case atStart => exact ⟨0, by omega, rfl, rfl, rfl⟩
  case round =>
    obtain ⟨k, hk, rfl, rfl, rfl⟩ := hrel
    by_cases hlt : k < m
    · obtain ⟨hkb, HN⟩ := HU.out k hlt
      have hbd := nuK_bound b.data.toList k
      have hbk := b[k].toNat_lt
      have HN := hide HN
      have h4 : k = 0 ∨ k = 1 ∨ k = 2 ∨ k = 3 := by omega
      generalize nuK b.data.toList k = t at hbd HN ⊢
      rcases h4 with rfl | rfl | rfl | rfl
      · simp only [show (256 : Int) ^ 0 = 1 from rfl] at hbd
        go_wp2_with fail
        go_roundw
        case rel => exact ⟨1, by omega, by rw [HN.out]; exact congrArg (Value.int .i64) (by rw [show (256 : Int) ^ 0 = 1 from rfl] <;> omega), by go_num, trivial⟩
        case measure => simp [intOf]; omega
      · simp only [show (256 : Int) ^ 1 = 256 from rfl] at hbd
        go_wp2_with fail
        go_roundw
        case rel => exact ⟨2, by omega, by rw [HN.out]; exact congrArg (Value.int .i64) (by rw [show (256 : Int) ^ 1 = 256 from rfl] <;> omega), by go_num, trivial⟩
        case measure => simp [intOf]; omega
      · simp only [show (256 : Int) ^ 2 = 65536 from rfl] at hbd
        go_wp2_with fail
        go_roundw
        case rel => exact ⟨3, by omega, by rw [HN.out]; exact congrArg (Value.int .i64) (by rw [show (256 : Int) ^ 2 = 65536 from rfl] <;> omega), by go_num, trivial⟩
        case measure => simp [intOf]; omega
      · simp only [show (256 : Int) ^ 3 = 16777216 from rfl] at hbd
        go_wp2_with fail
        go_roundw
        case rel => exact ⟨4, by omega, by rw [HN.out]; exact congrArg (Value.int .i64) (by rw [show (256 : Int) ^ 3 = 16777216 from rfl] <;> omega), by go_num, trivial⟩
        case measure => simp [intOf]; omega
    · obtain rfl : k = m := by omega
      have hbd := nuK_bound b.data.toList k
      generalize nuK b.data.toList k = t at hbd HR ⊢
      have hc := wid_cases hx
      rw [hm] at hc
      have hgt : grW x < t ∨ t ≤ grW x := by omega
      clear HU hb hlt hk hx hm
      rcases hc with ⟨rfl, h1, h2⟩ | ⟨rfl, h1, h2⟩ | ⟨rfl, h1, h2⟩ | ⟨rfl, h1, h2⟩ | ⟨rfl, h1, h2⟩ <;> rw [h2] at hG HR hgt <;> clear h1 h2 <;> rcases hgt with hgt | hgt
      all_goals
        simp only [show (256 : Int) ^ 1 = 256 from rfl, show (256 : Int) ^ 2 = 65536 from rfl, show (256 : Int) ^ 4 = 4294967296 from rfl] at hbd HR
        simp only [show (8 * ((1 : Nat) : Int)) = 8 from rfl, show (8 * ((2 : Nat) : Int)) = 16 from rfl, show (8 * ((4 : Nat) : Int)) = 32 from rfl] at hB
        go_wp2_with fail
        refine (hG _).mono ?_
        rintro e w1 ⟨rfl, rfl⟩
        go_wp2_with fail
        try (refine (hB _).mono ?_; rintro e w2 ⟨rfl, rfl⟩; go_wp2_with fail)
        go_ret
        exact ⟨ret_int (by rw [HR.out]; split <;> omega), rfl⟩
set_option maxHeartbeats 1000000 in
theorem fit_any (ws ns : List Int) (hw : ∀ w ∈ ws, Wid w) (hl : ws.length ≤ 7) (hn : ns.length = ws.length) (v u : Value) (w : World) (hv : Ints w v (ws.map fun x => 8 * x)) (hu : Ints w u ns) : Calls Try.prog 27 #[v, u] w fun e w' => e = .returned (.bool (fitsK ws ns ws.length)) ∧ ∃ q, w' = w.drewN q := by
  obtain ⟨a, cap, rfl, hc⟩ := hv
  obtain ⟨b, cbp, rfl, hd⟩ := hu
  rw [List.length_map] at hc ⊢
  rw [hn] at hd ⊢
  have HC := hide hc
  have HD := hide hd
  have HW := hide hw
  obtain ⟨m, hm⟩ : ∃ m, ws.length = m := ⟨_, rfl⟩
  rw [hm] at hl ⊢
  have HM := hide hm
  clear hc hd hw hm hn
  obtain ⟨r, HR⟩ : ∃ r, Hid (fitsK ws ns m = r) := ⟨_, rfl⟩
  rw [HR.out]
  go_enter Try.func27, Try.ntmps27
  go_wp2_with fail
  go_loopw [9] (fun i wx => ∃ k q : Nat, k ≤ m ∧ Hid (fitsK ws ns k = true) ∧ i = .int .i64 k ∧ wx = w.drewN q) (fun i _ => m - (intOf i).toNat)
  case atStart => exact ⟨0, 0, by omega, rfl, rfl, rfl⟩
  case round =>
    obtain ⟨k, q, hk, HK, rfl, hwr⟩ := hrel
    have HWR := hide hwr
    clear hwr
    by_cases hlt : k < m
    · have hkw : k < ws.length := by rw [HM.out]; exact hlt
      have hm0 : 0 < ws.length := by omega
      obtain ⟨g, o, rfl, hg, hcc⟩ := HC.out hm0
      obtain ⟨g2, o2, rfl, hg2, hcd⟩ := HD.out hm0
      have d1 : wr.cell? ⟨g, o + k, none⟩ = some (.int .i64 (8 * ws.getD k 0)) := by rw [HWR.out, drewN_cell, hcc k hkw, map8_at _ _ hkw]
      have d2 : wr.cell? ⟨g2, o2 + k, none⟩ = some (.int .i64 (ns.getD k 0)) := by rw [HWR.out, drewN_cell, hcd k hkw]
      have hL := fun W => least_any (ws.getD k 0) (widD HW.out k hkw) _ rfl W
      have hG := fun W => greatest_any (ws.getD k 0) (widD HW.out k hkw) _ rfl W
      have HB : Hid (fitB (ws.getD k 0) (ns.getD k 0) = (decide (leW (ws.getD k 0) ≤ ns.getD k 0) && decide (ns.getD k 0 ≤ grW (ws.getD k 0)))) := rfl
      have HS : Hid (fitsK ws ns (k + 1) = (fitsK ws ns k && fitB (ws.getD k 0) (ns.getD k 0))) := rfl
      have HNo : Hid (fitB (ws.getD k 0) (ns.getD k 0) = false → fitsK ws ns m = false) := fun h => fitsK_not hlt h
      generalize fitB (ws.getD k 0) (ns.getD k 0) = f at HB HS HNo
      generalize 8 * ws.getD k 0 = x at d1 hL hG
      generalize leW (ws.getD k 0) = le at hL HB
      generalize grW (ws.getD k 0) = gr at hG HB
      generalize ns.getD k 0 = n at d2 HB
      clear hcc hcd HC HD
      have hcs : n < le ∨ (le ≤ n ∧ gr < n) ∨ (le ≤ n ∧ n ≤ gr) := by omega
      rcases hcs with h1 | ⟨h1, h2⟩ | ⟨h1, h2⟩
      · go_wp2_with fail
        go_quiet (first | (go_at_call 38; exact Calls.quiet_of_same (hL _)) | (go_at_call 39; exact Calls.quiet_of_same (hG _)))
        go_wp2_with fail
        go_ret
        exact ⟨ret_bool (by rw [← HR.out, HNo.out (by rw [HB.out]; simp; omega)]), q + nq, by rw [HWR.out, drewN_drewN]⟩
      · go_wp2_with fail
        go_quiet (first | (go_at_call 38; exact Calls.quiet_of_same (hL _)) | (go_at_call 39; exact Calls.quiet_of_same (hG _)))
        go_wp2_with fail
        go_ret
        exact ⟨ret_bool (by rw [← HR.out, HNo.out (by rw [HB.out]; simp; omega)]), q + nq, by rw [HWR.out, drewN_drewN]⟩
      · go_wp2_with fail
        go_quiet (first | (go_at_call 38; exact Calls.quiet_of_same (hL _)) | (go_at_call 39; exact Calls.quiet_of_same (hG _)))
        go_wp2_with fail
        go_roundw
        case rel => exact ⟨k + 1, q + nq, by omega, by show _ = _; rw [HS.out, HK.out, HB.out]; simp; omega, by go_num, by rw [HWR.out, drewN_drewN]⟩
        case measure => simp [intOf]; omega
    · obtain rfl : k = m := by omega
      go_wp2_with fail
      go_ret
      exact ⟨ret_bool (by rw [← HR.out, HK.out]), q, HWR.out⟩
end Go.Proofs.Ytmlcknaahpfhbaa
