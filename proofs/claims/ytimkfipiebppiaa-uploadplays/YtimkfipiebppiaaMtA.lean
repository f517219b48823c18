/- What package msgs does with widths, and a variable that holds a frame or a message (layer 5's texts over In0). -/
import Derived.Test.YtimkfipiebppiaaGnO
import Derived.Test.YtimkfipiebppiaaMsM
namespace Go.Proofs.Ytimkfipiebppiaa
open Go.RowKit Go.Great

theorem getD_at (s : ByteArray) (i : Nat) (h : i < s.size) : s.data.toList.getD i 0 = s[i] := by
  have h' : i < s.data.toList.length := by simpa using h
  rw [List.getD, List.getElem?_eq_getElem h']; rfl
/-- a variable that holds a frame -/
def Frm (w : World) (g : Nat) (x y z : Value) : Prop := w.heap[g]? = some (.cells #[x, y, z] 45 (0, 0))
theorem Frm.c0 {w : World} {g : Nat} {x y z : Value} (h : Frm w g x y z) : w.cell? ⟨g, 0, none⟩ = some x := by
  unfold Frm at h; simp [World.cell?, h]
theorem Frm.c1 {w : World} {g : Nat} {x y z : Value} (h : Frm w g x y z) : w.cell? ⟨g, 1, none⟩ = some y := by
  unfold Frm at h; simp [World.cell?, h]
theorem Frm.c2 {w : World} {g : Nat} {x y z : Value} (h : Frm w g x y z) : w.cell? ⟨g, 2, none⟩ = some z := by
  unfold Frm at h; simp [World.cell?, h]
theorem Frm.fz {w : World} {g : Nat} {x y z : Value} (h : Frm w g x y z) (i : Nat) : w.frozen? ⟨g, i, none⟩ = false := by
  unfold Frm at h; simp [World.frozen?, h]
theorem Frm.lt {w : World} {g : Nat} {x y z : Value} (h : Frm w g x y z) : g < w.heap.size := lt_of_block h
theorem Frm.below {w w' : World} {g : Nat} {x y z : Value} (h : Frm w g x y z) (hb : Below w.heap.size w w') : Frm w' g x y z := by
  unfold Frm at h ⊢; rw [hb.block g (lt_of_block h), h]
theorem Frm.set {w : World} {g : Nat} {x y z : Value} (h : Frm w g x y z) (a b c : Value) : Frm (((w.setCell ⟨g, 0, none⟩ a).setCell ⟨g, 1, none⟩ b).setCell ⟨g, 2, none⟩ c) g a b c := by
  have := heap_set (heap_set (heap_set h 0 a) 1 b) 2 c
  simpa [Frm] using this
theorem below_set3 {B : Nat} {w w1 : World} {g : Nat} (h : Below B w w1) (hg : B ≤ g) (a b c : Value) : Below B w (((w1.setCell ⟨g, 0, none⟩ a).setCell ⟨g, 1, none⟩ b).setCell ⟨g, 2, none⟩ c) :=
  ((h.setCell (p := ⟨g, 0, none⟩) hg a).setCell (p := ⟨g, 1, none⟩) hg b).setCell (p := ⟨g, 2, none⟩) hg c
theorem frm_new (w : World) (x y z : Value) : Frm (w.alloc (.cells #[x, y, z] 45)) w.heap.size x y z := heap_alloc_new _ _
theorem Frm.drewN {w : World} {g : Nat} {x y z : Value} (h : Frm w g x y z) (n : Nat) : Frm (w.drewN n) g x y z := by
  induction n with
  | zero => exact h
  | succ n ih => exact ih
set_option maxRecDepth 100000 in
theorem signed_any (w : Int) (h : Wid w) (x : Int) (hx : x = 8 * w) (W : World) : Calls Try.prog 72 #[.int .i64 x] W fun e w' => e = .returned (.bool (decide (w < 0))) ∧ w' = W := by
  rcases h with rfl | rfl | rfl | rfl | rfl <;> subst hx
  all_goals
    go_enter Try.func72, Try.ntmps72
    go_wp2
    go_ret
    exact ⟨rfl, rfl⟩
set_option maxRecDepth 100000 in
theorem bits_any (w : Int) (h : Wid w) (x : Int) (hx : x = 8 * w) (W : World) : Calls Try.prog 73 #[.int .i64 x] W fun e w' => e = .returned (.int .i64 (8 * (szW w : Int))) ∧ w' = W := by
  rcases h with rfl | rfl | rfl | rfl | rfl <;> subst hx
  all_goals
    go_enter Try.func73, Try.ntmps73
    go_wp2
    go_ret
    exact ⟨rfl, rfl⟩
set_option maxRecDepth 100000 in
theorem wbytes_any (w : Int) (h : Wid w) (x : Int) (hx : x = 8 * w) (W : World) : Calls Try.prog 58 #[.int .i64 x] W fun e w' => e = .returned (.int .i64 (szW w : Int)) ∧ w' = W := by
  have hb := fun W => bits_any w h x hx W
  rcases h with rfl | rfl | rfl | rfl | rfl <;> subst hx
  all_goals
    simp only [show (8 * (szW 1 : Int)) = 8 from rfl, show (8 * (szW 2 : Int)) = 16 from rfl, show (8 * (szW 4 : Int)) = 32 from rfl, show (8 * (szW (-2) : Int)) = 16 from rfl, show (8 * (szW (-4) : Int)) = 32 from rfl] at hb
    go_enter Try.func58, Try.ntmps58
    go_wp2_with fail
    refine (hb _).mono ?_
    rintro e w1 ⟨rfl, rfl⟩
    go_wp2_with fail
    go_ret
    exact ⟨rfl, rfl⟩
set_option maxRecDepth 100000 in
theorem least_any (w : Int) (h : Wid w) (x : Int) (hx : x = 8 * w) (W : World) : Calls Try.prog 56 #[.int .i64 x] W fun e w' => e = .returned (.int .i64 (leW w)) ∧ w' = W := by
  have hs := fun W => signed_any w h x hx W
  have hb := fun W => bits_any w h x hx W
  rcases h with rfl | rfl | rfl | rfl | rfl <;> subst hx
  all_goals
    simp only [show (8 * (szW 1 : Int)) = 8 from rfl, show (8 * (szW 2 : Int)) = 16 from rfl, show (8 * (szW 4 : Int)) = 32 from rfl, show (8 * (szW (-2) : Int)) = 16 from rfl, show (8 * (szW (-4) : Int)) = 32 from rfl] at hb
    simp only [show decide ((1 : Int) < 0) = false from rfl, show decide ((2 : Int) < 0) = false from rfl, show decide ((4 : Int) < 0) = false from rfl, show decide ((-2 : Int) < 0) = true from rfl, show decide ((-4 : Int) < 0) = true from rfl] at hs
    go_enter Try.func56, Try.ntmps56
    go_wp2_with fail
    refine (hs _).mono ?_
    rintro e w1 ⟨rfl, rfl⟩
    go_wp2_with fail
    try (refine (hb _).mono ?_; rintro e w2 ⟨rfl, rfl⟩; go_wp2_with fail)
    go_ret
    exact ⟨rfl, rfl⟩
set_option maxRecDepth 100000 in
theorem greatest_any (w : Int) (h : Wid w) (x : Int) (hx : x = 8 * w) (W : World) : Calls Try.prog 57 #[.int .i64 x] W fun e w' => e = .returned (.int .i64 (grW w)) ∧ w' = W := by
  have hs := fun W => least_any w h x hx W
  have hb := fun W => bits_any w h x hx W
  rcases h with rfl | rfl | rfl | rfl | rfl <;> subst hx
  all_goals
    simp only [show (8 * (szW 1 : Int)) = 8 from rfl, show (8 * (szW 2 : Int)) = 16 from rfl, show (8 * (szW 4 : Int)) = 32 from rfl, show (8 * (szW (-2) : Int)) = 16 from rfl, show (8 * (szW (-4) : Int)) = 32 from rfl] at hb
    simp only [show leW 1 = 0 from rfl, show leW 2 = 0 from rfl, show leW 4 = 0 from rfl, show leW (-2) = -32768 from rfl, show leW (-4) = -2147483648 from rfl] at hs
    go_enter Try.func57, Try.ntmps57
    go_wp2_with fail
    refine (hs _).mono ?_
    rintro e w1 ⟨rfl, rfl⟩
    go_wp2_with fail
    refine (hb _).mono ?_
    rintro e w2 ⟨rfl, rfl⟩
    go_wp2_with fail
    go_ret
    exact ⟨rfl, rfl⟩
set_option maxRecDepth 100000 in
theorem rsize_any (w : Int) (h : Wid w) (W : World) : Calls Try.prog 68 #[.int .i64 w] W fun e w' => e = .returned (.int .i64 (szW w : Int)) ∧ w' = W := by
  rcases h with rfl | rfl | rfl | rfl | rfl
  all_goals
    go_enter Try.func68, Try.ntmps68
    go_wp2
    go_ret
    exact ⟨rfl, rfl⟩
set_option maxRecDepth 100000 in
theorem all_any (w : Int) (h : Wid w) (W : World) : Calls Try.prog 67 #[.int .i64 w] W fun e w' => e = .returned (.int .i64 (256 ^ szW w)) ∧ w' = W := by
  have hz := wid_sz h
  have hs := fun W => rsize_any w h W
  obtain ⟨m, hm⟩ : ∃ m, szW w = m := ⟨_, rfl⟩
  rw [hm] at hz hs
  rw [hm]
  clear hm h
  go_enter Try.func67, Try.ntmps67
  go_wp2_with fail
  go_loopw [3, 4] (fun n i wx => ∃ k : Nat, k ≤ m ∧ n = .int .i64 (256 ^ k) ∧ i = .int .i64 k ∧ wx = W) (fun _ i _ => m - (intOf i).toNat)
  case atStart => exact ⟨0, by omega, rfl, rfl, rfl⟩
  case round =>
    obtain ⟨k, hk, rfl, rfl, rfl⟩ := hrel
    by_cases hlt : k < m
    · obtain ⟨q, HQ⟩ : ∃ q : Int, Hid ((256 : Int) ^ k = q) := ⟨_, rfl⟩
      have hq : 0 < q ∧ q ≤ 16777216 := by
        rw [← HQ.out]
        have : k = 0 ∨ k = 1 ∨ k = 2 ∨ k = 3 := by omega
        rcases this with rfl | rfl | rfl | rfl <;> decide
      rw [HQ.out]
      go_wp2_with fail
      refine (hs _).mono ?_
      rintro e w1 ⟨rfl, rfl⟩
      go_wp2_with fail
      go_roundw
      case rel => exact ⟨k + 1, by omega, by rw [p256, HQ.out], by go_num, trivial⟩
      case measure => simp [intOf]; omega
    · obtain rfl : k = m := by omega
      obtain ⟨q, HQ⟩ : ∃ q : Int, Hid ((256 : Int) ^ k = q) := ⟨_, rfl⟩
      rw [HQ.out]
      go_wp2_with fail
      refine (hs _).mono ?_
      rintro e w1 ⟨rfl, rfl⟩
      go_wp2_with fail
      go_ret
      exact ⟨ret_int HQ.out.symm, rfl⟩
set_option maxRecDepth 100000 in
theorem fits_any (w n : Int) (h : Wid w) (W : World) : Calls Try.prog 66 #[.int .i64 n, .int .i64 w] W fun e w' => e = .returned (.bool (fitB w n)) ∧ w' = W := by
  have ha := fun W => all_any w h W
  by_cases hs : w < 0
  · have hc : ∃ p : Int, 256 ^ szW w = 2 * p ∧ 0 < p ∧ p ≤ 2147483648 ∧ leW w = -p ∧ grW w = p - 1 := by
      rcases h with rfl | rfl | rfl | rfl | rfl
      · omega
      · omega
      · omega
      · exact ⟨32768, by decide⟩
      · exact ⟨2147483648, by decide⟩
    obtain ⟨p, h1, h2, h3, h4, h5⟩ := hc
    have HF : Hid (fitB w n = (decide (-p ≤ n) && decide (n < p))) := by
      show _ = _
      unfold fitB; rw [h4, h5]; congr 1; simp; omega
    rw [HF.out]
    have q1 : (-(2 * p)).tdiv 2 = -p := by rw [Int.neg_tdiv, Int.mul_tdiv_cancel_left _ (by decide)]
    have q2 : (2 * p).tdiv 2 = p := by rw [Int.mul_tdiv_cancel_left _ (by decide)]
    rw [h1] at ha
    clear h1 h4 h5 HF h
    by_cases hn : -p ≤ n
    · go_enter Try.func66, Try.ntmps66
      go_wp2_with fail
      refine (ha _).mono ?_
      rintro e w1 ⟨rfl, rfl⟩
      go_wp2_with fail
      refine (ha _).mono ?_
      rintro e w1 ⟨rfl, rfl⟩
      go_wp2_with fail
      go_ret
      exact ⟨ret_bool (by simp [hn]), rfl⟩
    · go_enter Try.func66, Try.ntmps66
      go_wp2_with fail
      refine (ha _).mono ?_
      rintro e w1 ⟨rfl, rfl⟩
      go_wp2_with fail
      go_ret
      exact ⟨ret_bool (by simp; omega), rfl⟩
  · have hc : ∃ p : Int, 256 ^ szW w = p ∧ 0 < p ∧ p ≤ 4294967296 ∧ leW w = 0 ∧ grW w = p - 1 := by
      rcases h with rfl | rfl | rfl | rfl | rfl
      · exact ⟨256, by decide⟩
      · exact ⟨65536, by decide⟩
      · exact ⟨4294967296, by decide⟩
      · omega
      · omega
    obtain ⟨p, h1, h2, h3, h4, h5⟩ := hc
    have HF : Hid (fitB w n = (decide (0 ≤ n) && decide (n < p))) := by
      show _ = _
      unfold fitB; rw [h4, h5]; congr 1; simp; omega
    rw [HF.out]
    rw [h1] at ha
    clear h1 h4 h5 HF h
    by_cases hn : 0 ≤ n
    · go_enter Try.func66, Try.ntmps66
      go_wp2_with fail
      refine (ha _).mono ?_
      rintro e w1 ⟨rfl, rfl⟩
      go_wp2_with fail
      go_ret
      exact ⟨ret_bool (by simp [hn]), rfl⟩
    · go_enter Try.func66, Try.ntmps66
      go_wp2_with fail
      go_ret
      exact ⟨ret_bool (by simp; omega), rfl⟩
set_option maxRecDepth 100000 in
set_option maxHeartbeats 1000000 in
theorem rwidths_any (k : Int) (h0 : 0 ≤ k) (h1 : k ≤ 255) (w : World) : Calls Try.prog 65 #[.int .u8 k] w fun e w' => ∃ v, e = .returned v ∧ Ints w' v (wsK k) ∧ Below w.heap.size w w' := by
  rcases wsK_cases k with (h | h | h | h | h | h | h | h | h | h | h) | ⟨hk, h⟩
  · subst h
    go_enter Try.func65, Try.ntmps65
    go_wp2
    go_ret
    exact ⟨_, rfl, ints_row (l := wsK 1) (heap_alloc_new _ _) _ _ rfl, below_alloc _ _⟩
  · subst h
    go_enter Try.func65, Try.ntmps65
    go_wp2
    go_ret
    exact ⟨_, rfl, ints_row (l := wsK 2) (heap_alloc_new _ _) _ _ rfl, below_alloc _ _⟩
  · subst h
    go_enter Try.func65, Try.ntmps65
    go_wp2
    go_ret
    exact ⟨_, rfl, ints_row (l := wsK 3) (heap_alloc_new _ _) _ _ rfl, below_alloc _ _⟩
  · subst h
    go_enter Try.func65, Try.ntmps65
    go_wp2
    go_ret
    exact ⟨_, rfl, ints_row (l := wsK 4) (heap_alloc_new _ _) _ _ rfl, below_alloc _ _⟩
  · subst h
    go_enter Try.func65, Try.ntmps65
    go_wp2
    go_ret
    exact ⟨_, rfl, ints_row (l := wsK 5) (heap_alloc_new _ _) _ _ rfl, below_alloc _ _⟩
  · subst h
    go_enter Try.func65, Try.ntmps65
    go_wp2
    go_ret
    exact ⟨_, rfl, ints_row (l := wsK 6) (heap_alloc_new _ _) _ _ rfl, below_alloc _ _⟩
  · subst h
    go_enter Try.func65, Try.ntmps65
    go_wp2
    go_ret
    exact ⟨_, rfl, ints_row (l := wsK 7) (heap_alloc_new _ _) _ _ rfl, below_alloc _ _⟩
  · subst h
    go_enter Try.func65, Try.ntmps65
    go_wp2
    go_ret
    exact ⟨_, rfl, ints_row (l := wsK 8) (heap_alloc_new _ _) _ _ rfl, below_alloc _ _⟩
  · subst h
    go_enter Try.func65, Try.ntmps65
    go_wp2
    go_ret
    exact ⟨_, rfl, ints_row (l := wsK 9) (heap_alloc_new _ _) _ _ rfl, below_alloc _ _⟩
  · subst h
    go_enter Try.func65, Try.ntmps65
    go_wp2
    go_ret
    exact ⟨_, rfl, ints_row (l := wsK 10) (heap_alloc_new _ _) _ _ rfl, below_alloc _ _⟩
  · subst h
    go_enter Try.func65, Try.ntmps65
    go_wp2
    go_ret
    exact ⟨_, rfl, ints_row (l := wsK 11) (heap_alloc_new _ _) _ _ rfl, below_alloc _ _⟩
  · rw [h]
    have t1 : (k == 1) = false := by simp; omega
    have t2 : (k == 2) = false := by simp; omega
    have t3 : (k == 3) = false := by simp; omega
    have t4 : (k == 4) = false := by simp; omega
    have t5 : (k == 5) = false := by simp; omega
    have t6 : (k == 6) = false := by simp; omega
    have t7 : (k == 7) = false := by simp; omega
    have t8 : (k == 8) = false := by simp; omega
    have t9 : (k == 9) = false := by simp; omega
    have t10 : (k == 10) = false := by simp; omega
    have t11 : (k == 11) = false := by simp; omega
    clear h hk h0 h1
    go_enter Try.func65, Try.ntmps65
    go_wp2
    go_ret
    exact ⟨_, rfl, Ints.nil _, Below.refl _ _⟩
/-- the program's widths: bits -/
def wpK (k : Int) : List Int := (wsK k).map fun w => 8 * w
theorem tot_le4 (ws : List Int) (hw : ∀ w ∈ ws, Wid w) (k : Nat) (hk : k ≤ ws.length) : totK ws k ≤ 4 * k := by
  induction k with
  | zero => simp [totK]
  | succ k ih =>
    have := ih (by omega)
    have := (wid_sz (widD hw k (by omega))).2
    rw [totK]; omega
theorem map8_at (ws : List Int) (k : Nat) (h : k < ws.length) : (ws.map fun w => 8 * w).getD k 0 = 8 * ws.getD k 0 := by
  simp [List.getD, List.getElem?_eq_getElem h]
set_option maxRecDepth 100000 in
set_option maxHeartbeats 1000000 in
theorem fit_any (ws ns : List Int) (hw : ∀ w ∈ ws, Wid w) (hl : ws.length ≤ 7) (hn : ns.length = ws.length) (v u : Value) (w : World) (hv : Ints w v (ws.map fun x => 8 * x)) (hu : Ints w u ns) : Calls Try.prog 36 #[v, u] w fun e w' => e = .returned (.bool (fitsK ws ns ws.length)) ∧ ∃ q, w' = w.drewN q := by
  obtain ⟨a, cap, rfl, hc⟩ := hv
  obtain ⟨b, cbp, rfl, hd⟩ := hu
  rw [List.length_map] at hc ⊢
  rw [hn] at hd ⊢
  have HC := hide hc
  have HD := hide hd
  have HW := hide hw
  obtain ⟨m, hm⟩ : ∃ m, ws.length = m := ⟨_, rfl⟩
  rw [hm] at hl ⊢
  have HM := hide hm
  clear hc hd hw hm hn
  obtain ⟨r, HR⟩ : ∃ r, Hid (fitsK ws ns m = r) := ⟨_, rfl⟩
  rw [HR.out]
  go_enter Try.func36, Try.ntmps36
  go_wp2_with fail
  go_loopw [9] (fun i wx => ∃ k q : Nat, k ≤ m ∧ Hid (fitsK ws ns k = true) ∧ i = .int .i64 k ∧ wx = w.drewN q) (fun i _ => m - (intOf i).toNat)
  case atStart => exact ⟨0, 0, by omega, rfl, rfl, rfl⟩
  case round =>
    obtain ⟨k, q, hk, HK, rfl, hwr⟩ := hrel
    have HWR := hide hwr
    clear hwr
    by_cases hlt : k < m
    · have hkw : k < ws.length := by rw [HM.out]; exact hlt
      have hm0 : 0 < ws.length := by omega
      obtain ⟨g, o, rfl, hg, hcc⟩ := HC.out hm0
      obtain ⟨g2, o2, rfl, hg2, hcd⟩ := HD.out hm0
      have d1 : wr.cell? ⟨g, o + k, none⟩ = some (.int .i64 (8 * ws.getD k 0)) := by rw [HWR.out, drewN_cell, hcc k hkw, map8_at _ _ hkw]
      have d2 : wr.cell? ⟨g2, o2 + k, none⟩ = some (.int .i64 (ns.getD k 0)) := by rw [HWR.out, drewN_cell, hcd k hkw]
      have hL := fun W => least_any (ws.getD k 0) (widD HW.out k hkw) _ rfl W
      have hG := fun W => greatest_any (ws.getD k 0) (widD HW.out k hkw) _ rfl W
      have HB : Hid (fitB (ws.getD k 0) (ns.getD k 0) = (decide (leW (ws.getD k 0) ≤ ns.getD k 0) && decide (ns.getD k 0 ≤ grW (ws.getD k 0)))) := rfl
      have HS : Hid (fitsK ws ns (k + 1) = (fitsK ws ns k && fitB (ws.getD k 0) (ns.getD k 0))) := rfl
      have HNo : Hid (fitB (ws.getD k 0) (ns.getD k 0) = false → fitsK ws ns m = false) := fun h => fitsK_not hlt h
      generalize fitB (ws.getD k 0) (ns.getD k 0) = f at HB HS HNo
      generalize 8 * ws.getD k 0 = x at d1 hL hG
      generalize leW (ws.getD k 0) = le at hL HB
      generalize grW (ws.getD k 0) = gr at hG HB
      generalize ns.getD k 0 = n at d2 HB
      clear hcc hcd HC HD
      have hcs : n < le ∨ (le ≤ n ∧ gr < n) ∨ (le ≤ n ∧ n ≤ gr) := by omega
      rcases hcs with h1 | ⟨h1, h2⟩ | ⟨h1, h2⟩
      · go_wp2_with fail
        go_quiet (first | (go_at_call 56; exact Calls.quiet_of_same (hL _)) | (go_at_call 57; exact Calls.quiet_of_same (hG _)))
        go_wp2_with fail
        go_ret
        exact ⟨ret_bool (by rw [← HR.out, HNo.out (by rw [HB.out]; simp; omega)]), q + nq, by rw [HWR.out, drewN_drewN]⟩
      · go_wp2_with fail
        go_quiet (first | (go_at_call 56; exact Calls.quiet_of_same (hL _)) | (go_at_call 57; exact Calls.quiet_of_same (hG _)))
        go_wp2_with fail
        go_ret
        exact ⟨ret_bool (by rw [← HR.out, HNo.out (by rw [HB.out]; simp; omega)]), q + nq, by rw [HWR.out, drewN_drewN]⟩
      · go_wp2_with fail
        go_quiet (first | (go_at_call 56; exact Calls.quiet_of_same (hL _)) | (go_at_call 57; exact Calls.quiet_of_same (hG _)))
        go_wp2_with fail
        go_roundw
        case rel => exact ⟨k + 1, q + nq, by omega, by show _ = _; rw [HS.out, HK.out, HB.out]; simp; omega, by go_num, by rw [HWR.out, drewN_drewN]⟩
        case measure => simp [intOf]; omega
    · obtain rfl : k = m := by omega
      go_wp2_with fail
      go_ret
      exact ⟨ret_bool (by rw [← HR.out, HK.out]), q, HWR.out⟩
theorem byte_back (c : Int) : ((UInt8.ofNat (c % 256).toNat).toNat : Int) = c % 256 := by rw [UInt8.toNat_ofNat']; omega
set_option maxRecDepth 100000 in
set_option maxHeartbeats 2000000 in
theorem payload_any (ws ns : List Int) (hw : ∀ w ∈ ws, Wid w) (hl : ws.length ≤ 7) (hn : ns.length = ws.length) (v u : Value) (w : World) (hv : Ints w v (ws.map fun x => 8 * x)) (hu : Ints w u ns) : Calls Try.prog 37 #[v, u] w fun e w' => e = .returned (.string (bs (payK ws ns ws.length))) ∧ Below w.heap.size w w' := by
  obtain ⟨i0, hi, hz0, hz1, hz2⟩ := info_parts info_byte
  obtain ⟨a, cap, rfl, hc⟩ := hv
  obtain ⟨b, cbp, rfl, hd⟩ := hu
  rw [List.length_map] at hc ⊢
  rw [hn] at hd ⊢
  have HC := hide hc
  have HD := hide hd
  have HW := hide hw
  have HT := hide (tot_le4 ws hw)
  obtain ⟨m, hm⟩ : ∃ m, ws.length = m := ⟨_, rfl⟩
  rw [hm] at hl ⊢
  have HM := hide hm
  clear hc hd hw hm hn
  obtain ⟨t, HTX⟩ : ∃ t, Hid (bs (payK ws ns m) = t) := ⟨_, rfl⟩
  rw [HTX.out]
  go_enter Try.func37, Try.ntmps37
  go_wp2_with fail
  go_loopw [5, 11] (fun v i wx => ∃ k : Nat, k ≤ m ∧ i = .int .i64 k ∧ BRow wx w.heap.size v (payK ws ns k) ∧ Below w.heap.size w wx) (fun _ i _ => m - (intOf i).toNat)
  case atStart => exact ⟨0, Nat.zero_le _, rfl, BRow.nil _ _, Below.refl _ _⟩
  case round =>
    obtain ⟨k, hk, rfl, hR, hB⟩ := hrel
    have HB := hide hB
    have HR := hide hR
    clear hR hB
    by_cases hlt : k < m
    · have hkw : k < ws.length := by rw [HM.out]; exact hlt
      have hm0 : 0 < ws.length := by omega
      obtain ⟨g, o, rfl, hg, hcc⟩ := HC.out hm0
      obtain ⟨g2, o2, rfl, hg2, hcd⟩ := HD.out hm0
      have e1 : w.cell? ⟨g, o + k, none⟩ = some (.int .i64 (8 * ws.getD k 0)) := by rw [hcc k hkw, map8_at _ _ hkw]
      have e2 : w.cell? ⟨g2, o2 + k, none⟩ = some (.int .i64 (ns.getD k 0)) := hcd k hkw
      have hY := fun W => wbytes_any (ws.getD k 0) (widD HW.out k hkw) _ rfl W
      have hz := (wid_sz (widD HW.out k hkw)).2
      have HP : Hid (payK ws ns (k + 1) = payK ws ns k ++ byK (ns.getD k 0) (szW (ws.getD k 0))) := rfl
      have HPL : Hid ((payK ws ns k).length ≤ 28) := by
        show _ ≤ _
        rw [payK_len]
        have := HT.out k (by omega)
        omega
      generalize 8 * ws.getD k 0 = x at e1 hY
      generalize szW (ws.getD k 0) = z at hY hz HP
      generalize payK ws ns k = p at HP HPL HR
      generalize ns.getD k 0 = n at e2 HP
      have d1 := (HB.out.cell (p := ⟨g, o + k, none⟩) hg).trans e1
      have E2 := hide e2
      clear hcc hcd HC HD e1 e2
      go_wp2_with fail
      refine (hY _).mono ?_
      rintro e w1 ⟨rfl, rfl⟩
      clear d1 hY
      go_wp2_with fail
      go_loopw [5, 18] (fun v i wx => ∃ j : Nat, j ≤ z ∧ i = .int .i64 j ∧ BRow wx w.heap.size v (p ++ byK n j) ∧ Below w.heap.size w wx) (fun _ i _ => z - (intOf i).toNat)
      case atStart => exact ⟨0, Nat.zero_le _, rfl, by rw [byK, List.append_nil]; exact HR.out, HB.out⟩
      case round =>
        obtain ⟨j, hj, rfl, hR2, hB2⟩ := hrel
        have HB2 := hide hB2
        by_cases hlt2 : j < z
        · have d2 := (hB2.cell (p := ⟨g2, o2 + k, none⟩) hg2).trans E2.out
          have h4 : j = 0 ∨ j = 1 ∨ j = 2 ∨ j = 3 := by omega
          have HL : Hid ((p ++ byK n j).length ≤ 32) := by
            show _ ≤ _
            rw [List.length_append, byK_len]
            have := HPL.out
            omega
          have HS : Hid (p ++ byK n (j + 1) = (p ++ byK n j) ++ [UInt8.ofNat (n / 256 ^ j % 256).toNat]) := by
            show _ = _
            rw [byK, List.append_assoc]
          generalize p ++ byK n j = l at HL HS hR2
          have HO : ∀ o, Hid ((wr.alloc o).ownsRow w.heap.size 5 1 u5 l.length (bytesV l)) := fun o => hR2.alloc o
          have hws := hB2.size
          clear hR2 hB2
          rcases h4 with rfl | rfl | rfl | rfl
          · have HS' : Hid (p ++ byK n 1 = l ++ [UInt8.ofNat (n % 256).toNat]) := by
              show _ = _
              have := HS.out
              simpa using this
            clear HS
            go_wp2_with (at_builtin; refine wpList_append_own _ rfl (.tmp 21) (.tmp 30) 94 rfl w.heap.size 5 i0 _ 1 1 Try.underlying94 hi hz0 hz1 hz2 rfl (by decide) _ _ _ rfl (HO _).out ⟨wr.heap.size, 0, none⟩ 1 1 [.int .u8 (n % 256)] rfl rfl ?c1 ?c2 ?c3 ?c4 ?c5 ?_)
            case c1 => exact new_cell1 _ _ rfl _ _
            case c2 => intro u hu; simp at hu; subst hu; rfl
            case c3 => have := HL.out; unfold maxLen; omega
            case c4 => have := HL.out; omega
            case c5 => rw [size_alloc]; omega
            intro v' w5 hown5 hgrow5 _
            have HR5 : Hid (BRow w5 w.heap.size v' (p ++ byK n 1)) := by
              show World.ownsRow _ _ _ _ _ _ _
              rw [HS'.out, List.length_append, bytesV_app, show bytesV [UInt8.ofNat (n % 256).toNat] = [Value.int .u8 (n % 256)] from congrArg (fun z => [Value.int .u8 z]) (byte_back _)]; exact hown5
            have HB5 : Hid (Below w.heap.size w w5) := ((HB2.out.alloc hws _).grown hgrow5 (by rw [size_alloc]; omega) (fun j e => ((HO (.cells #[] 5)).out.lt j e).1))
            clear hown5 hgrow5 HO hi hz0 hz1 hz2
            go_wp2_with fail
            go_roundw
            case rel => exact ⟨1, by omega, by go_num, HR5.out, HB5.out⟩
            case measure => simp [intOf]; omega
          · have HS' : Hid (p ++ byK n 2 = l ++ [UInt8.ofNat (n / 256 % 256).toNat]) := by
              show _ = _
              have := HS.out
              simpa using this
            clear HS
            go_wp2_with (at_builtin; refine wpList_append_own _ rfl (.tmp 21) (.tmp 30) 94 rfl w.heap.size 5 i0 _ 1 1 Try.underlying94 hi hz0 hz1 hz2 rfl (by decide) _ _ _ rfl (HO _).out ⟨wr.heap.size, 0, none⟩ 1 1 [.int .u8 (n / 256 % 256)] rfl rfl ?c1 ?c2 ?c3 ?c4 ?c5 ?_)
            case c1 => exact new_cell1 _ _ rfl _ _
            case c2 => intro u hu; simp at hu; subst hu; rfl
            case c3 => have := HL.out; unfold maxLen; omega
            case c4 => have := HL.out; omega
            case c5 => rw [size_alloc]; omega
            intro v' w5 hown5 hgrow5 _
            have HR5 : Hid (BRow w5 w.heap.size v' (p ++ byK n 2)) := by
              show World.ownsRow _ _ _ _ _ _ _
              rw [HS'.out, List.length_append, bytesV_app, show bytesV [UInt8.ofNat (n / 256 % 256).toNat] = [Value.int .u8 (n / 256 % 256)] from congrArg (fun z => [Value.int .u8 z]) (byte_back _)]; exact hown5
            have HB5 : Hid (Below w.heap.size w w5) := ((HB2.out.alloc hws _).grown hgrow5 (by rw [size_alloc]; omega) (fun j e => ((HO (.cells #[] 5)).out.lt j e).1))
            clear hown5 hgrow5 HO hi hz0 hz1 hz2
            go_wp2_with fail
            go_roundw
            case rel => exact ⟨2, by omega, by go_num, HR5.out, HB5.out⟩
            case measure => simp [intOf]; omega
          · have HS' : Hid (p ++ byK n 3 = l ++ [UInt8.ofNat (n / 65536 % 256).toNat]) := by
              show _ = _
              have := HS.out
              simpa using this
            clear HS
            go_wp2_with (at_builtin; refine wpList_append_own _ rfl (.tmp 21) (.tmp 30) 94 rfl w.heap.size 5 i0 _ 1 1 Try.underlying94 hi hz0 hz1 hz2 rfl (by decide) _ _ _ rfl (HO _).out ⟨wr.heap.size, 0, none⟩ 1 1 [.int .u8 (n / 65536 % 256)] rfl rfl ?c1 ?c2 ?c3 ?c4 ?c5 ?_)
            case c1 => exact new_cell1 _ _ rfl _ _
            case c2 => intro u hu; simp at hu; subst hu; rfl
            case c3 => have := HL.out; unfold maxLen; omega
            case c4 => have := HL.out; omega
            case c5 => rw [size_alloc]; omega
            intro v' w5 hown5 hgrow5 _
            have HR5 : Hid (BRow w5 w.heap.size v' (p ++ byK n 3)) := by
              show World.ownsRow _ _ _ _ _ _ _
              rw [HS'.out, List.length_append, bytesV_app, show bytesV [UInt8.ofNat (n / 65536 % 256).toNat] = [Value.int .u8 (n / 65536 % 256)] from congrArg (fun z => [Value.int .u8 z]) (byte_back _)]; exact hown5
            have HB5 : Hid (Below w.heap.size w w5) := ((HB2.out.alloc hws _).grown hgrow5 (by rw [size_alloc]; omega) (fun j e => ((HO (.cells #[] 5)).out.lt j e).1))
            clear hown5 hgrow5 HO hi hz0 hz1 hz2
            go_wp2_with fail
            go_roundw
            case rel => exact ⟨3, by omega, by go_num, HR5.out, HB5.out⟩
            case measure => simp [intOf]; omega
          · have HS' : Hid (p ++ byK n 4 = l ++ [UInt8.ofNat (n / 16777216 % 256).toNat]) := by
              show _ = _
              have := HS.out
              simpa using this
            clear HS
            go_wp2_with (at_builtin; refine wpList_append_own _ rfl (.tmp 21) (.tmp 30) 94 rfl w.heap.size 5 i0 _ 1 1 Try.underlying94 hi hz0 hz1 hz2 rfl (by decide) _ _ _ rfl (HO _).out ⟨wr.heap.size, 0, none⟩ 1 1 [.int .u8 (n / 16777216 % 256)] rfl rfl ?c1 ?c2 ?c3 ?c4 ?c5 ?_)
            case c1 => exact new_cell1 _ _ rfl _ _
            case c2 => intro u hu; simp at hu; subst hu; rfl
            case c3 => have := HL.out; unfold maxLen; omega
            case c4 => have := HL.out; omega
            case c5 => rw [size_alloc]; omega
            intro v' w5 hown5 hgrow5 _
            have HR5 : Hid (BRow w5 w.heap.size v' (p ++ byK n 4)) := by
              show World.ownsRow _ _ _ _ _ _ _
              rw [HS'.out, List.length_append, bytesV_app, show bytesV [UInt8.ofNat (n / 16777216 % 256).toNat] = [Value.int .u8 (n / 16777216 % 256)] from congrArg (fun z => [Value.int .u8 z]) (byte_back _)]; exact hown5
            have HB5 : Hid (Below w.heap.size w w5) := ((HB2.out.alloc hws _).grown hgrow5 (by rw [size_alloc]; omega) (fun j e => ((HO (.cells #[] 5)).out.lt j e).1))
            clear hown5 hgrow5 HO hi hz0 hz1 hz2
            go_wp2_with fail
            go_roundw
            case rel => exact ⟨4, by omega, by go_num, HR5.out, HB5.out⟩
            case measure => simp [intOf]; omega
        · obtain rfl : j = z := by omega
          have HR3 : Hid (BRow wr w.heap.size u5 (payK ws ns (k + 1))) := by show BRow _ _ _ _; rw [HP.out]; exact hR2
          clear hR2 hB2 hi hz0 hz1 hz2
          go_wp2_with fail
          go_roundw
          case rel => exact ⟨k + 1, by omega, by go_num, HR3.out, HB2.out⟩
          case measure => simp [intOf]; omega
    · obtain rfl : k = m := by omega
      have htx := HR.out.text
      rw [HTX.out] at htx
      clear hi hz0 hz1 hz2
      go_wp2_with fail
      go_ret
      exact ⟨rfl, HB.out⟩
/-- a variable that holds a message -/
def Msg (w : World) (g : Nat) (x y : Value) : Prop := w.heap[g]? = some (.cells #[x, y] 38 (0, 0))
theorem Msg.c0 {w : World} {g : Nat} {x y : Value} (h : Msg w g x y) : w.cell? ⟨g, 0, none⟩ = some x := by
  unfold Msg at h; simp [World.cell?, h]
theorem Msg.c1 {w : World} {g : Nat} {x y : Value} (h : Msg w g x y) : w.cell? ⟨g, 1, none⟩ = some y := by
  unfold Msg at h; simp [World.cell?, h]
theorem Msg.fz {w : World} {g : Nat} {x y : Value} (h : Msg w g x y) (i : Nat) : w.frozen? ⟨g, i, none⟩ = false := by
  unfold Msg at h; simp [World.frozen?, h]
theorem Msg.lt {w : World} {g : Nat} {x y : Value} (h : Msg w g x y) : g < w.heap.size := lt_of_block h
theorem Msg.below {w w' : World} {g : Nat} {x y : Value} (h : Msg w g x y) (hb : Below w.heap.size w w') : Msg w' g x y := by
  unfold Msg at h ⊢; rw [hb.block g (lt_of_block h), h]
theorem Msg.set {w : World} {g : Nat} {x y : Value} (h : Msg w g x y) (a b : Value) : Msg ((w.setCell ⟨g, 0, none⟩ a).setCell ⟨g, 1, none⟩ b) g a b := by
  have := heap_set (heap_set h 0 a) 1 b
  simpa [Msg] using this
theorem msg_new (w : World) (x y : Value) : Msg (w.alloc (.cells #[x, y] 38)) w.heap.size x y := heap_alloc_new _ _
theorem Msg.drewN {w : World} {g : Nat} {x y : Value} (h : Msg w g x y) (n : Nat) : Msg (w.drewN n) g x y := by
  induction n with
  | zero => exact h
  | succ n ih => exact ih
theorem below_set2 {B : Nat} {w w1 : World} {g : Nat} (h : Below B w w1) (hg : B ≤ g) (a b : Value) : Below B w ((w1.setCell ⟨g, 0, none⟩ a).setCell ⟨g, 1, none⟩ b) :=
  (h.setCell (p := ⟨g, 0, none⟩) hg a).setCell (p := ⟨g, 1, none⟩) hg b
theorem frame_back {fn : Func} (h : fn.results = #[.cell 4 45, .tmp 5]) (tmps : Array Value) (w : World) (g : Nat) (x y z : Value) (fr : Nat × Nat) (b : Value) (hp : tmps.getD 4 undef = .pointer (some ⟨g, 0, none⟩)) (hq : tmps.getD 5 undef = b) (hg : w.heap[g]? = some (.cells #[x, y, z] 45 fr)) : (results fn tmps).run Try.prog w = .ok (.tuple #[.agg #[x, y, z], b]) w := by
  rw [results_cell_tmp h]
  have := run_loadVar_row (P := Try.prog) w g 45 45 #[x, y, z] fr _ hg Try.underlying45 rfl (by kernel_rfl)
  rw [hp, hq]
  simp [asAddr, this, Result.andThen]
theorem msg_back {fn : Func} (h : fn.results = #[.cell 2 38, .tmp 3]) (tmps : Array Value) (w : World) (g : Nat) (x y : Value) (fr : Nat × Nat) (b : Value) (hp : tmps.getD 2 undef = .pointer (some ⟨g, 0, none⟩)) (hq : tmps.getD 3 undef = b) (hg : w.heap[g]? = some (.cells #[x, y] 38 fr)) : (results fn tmps).run Try.prog w = .ok (.tuple #[.agg #[x, y], b]) w := by
  rw [results_cell_tmp h]
  have := run_loadVar_row (P := Try.prog) w g 38 38 #[x, y] fr _ hg Try.underlying38 rfl (by kernel_rfl)
  rw [hp, hq]
  simp [asAddr, this, Result.andThen]
theorem wpK_len (k : Int) : (wpK k).length = (wsK k).length := by unfold wpK; rw [List.length_map]
/-- behind the call of widths -/
theorem enc_start {w w1 : World} {k : Int} {u : Value} {ns : List Int} (hu : Ints w u ns) (hB : Below ((w.alloc (.cells #[.int .u8 k, u] 38)).alloc (.cells #[.int .i64 0, .int .i64 0, .string ⟨#[]⟩] 45)).heap.size ((w.alloc (.cells #[.int .u8 k, u] 38)).alloc (.cells #[.int .i64 0, .int .i64 0, .string ⟨#[]⟩] 45)) w1) : Msg w1 w.heap.size (.int .u8 k) u ∧ Frm w1 (w.heap.size + 1) (.int .i64 0) (.int .i64 0) (.string ⟨#[]⟩) ∧ Ints w1 u ns ∧ Below w.heap.size w w1 := by
  refine ⟨((msg_new w _ _).below (below_alloc _ _)).below hB, ?_, ((hu.below (below_alloc _ _)).below (below_alloc _ _)).below hB, below_over (below_over hB)⟩
  have := (frm_new (w.alloc (.cells #[.int .u8 k, u] 38)) (.int .i64 0) (.int .i64 0) (.string ⟨#[]⟩)).below hB
  rw [size_alloc] at this
  exact this
end Go.Proofs.Ytimkfipiebppiaa
