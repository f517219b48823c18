/- NorErases. -/
import Derived.Test.YtjfajonedckggaaLwCl
namespace Go.Proofs.Ytjfajonedckggaa
open Go.RowKit Go.Great

theorem Fl.drewN {w : World} {R : Nat} {σ : St} (h : Fl w R σ) (q : Nat) : Fl (w.drewN q) R σ := ⟨h.len, h.blk⟩
theorem below_drewN {B : Nat} {a w : World} (h : Below B a w) (q : Nat) : Below B a (w.drewN q) := ⟨h.os, h.tape, h.output, h.size, h.block⟩
set_option maxRecDepth 100000 in
theorem erases_bad (s : ByteArray) (h0 : s.size ≠ 0) (hs : s.size ≠ 8192) (a : Int) (j : ByteArray) (w : World) : Calls Try.prog 6 #[.string s, .int .i64 a, .string j] w fun e w' => e = .returned (.bool true) ∧ Below w.heap.size w w' := by
  have M := made_bad s h0 hs w
  clear hs h0
  go_enter Try.func6, Try.ntmps6
  go_wp2_with fail
  refine M.mono ?_
  rintro e w1 ⟨rfl, hw⟩
  obtain rfl := hw.symm
  clear hw
  go_wp2_with fail
  refine M.mono ?_
  rintro e w1 ⟨rfl, hw⟩
  obtain rfl := hw.symm
  clear hw M
  go_wp2_with fail
  refine (awake_true w).mono ?_
  rintro e w1 ⟨rfl, b1⟩
  go_wp2_with fail
  go_ret
  exact ⟨rfl, b1⟩
/-- a cut that is armed -/
theorem cut_arms (w : World) (R : Nat) (C : List UInt8) (h : Fl w R (st0 C)) (n : Nat) (j : ByteArray) (hj : j.size ≤ 140737488351232) : Calls Try.prog 15 #[fp R, .int .i64 n, .string j] w fun e w' => e = .returned (.int .i64 0) ∧ Fl w' R { st0 C with ar := true, lf := n, jk := jkS j } ∧ Kept R w w' :=
  cut_in w R (st0 C) h rfl n (by omega) j (by omega)
theorem erase_free (w : World) (R : Nat) (σ : St) (h : Fl w R σ) (hj : σ.jk.size ≤ 4096) (ho : σ.off = false) (har : σ.ar = false) (h0 : 0 ≤ σ.st) (h1 : σ.st ≤ 100000) (s : Nat) (hs : s < 2) :
    Calls Try.prog 18 #[fp R, .int .i64 s] w fun e w' => e = .returned (.int .i64 0) ∧ Fl w' R { σ with C := onL σ.C (s * 4096) 4096 (fun _ _ => 255), st := σ.st + 1 } ∧ Kept R w w' := by
  have P := erase_in w R σ h hj ho s hs
  have e := stepS_pre σ (by intro hr; rw [har] at hr; cases hr) h0 (by omega)
  unfold eraseS at P
  rw [e, har] at P
  simp only [if_true, Bool.false_eq_true, if_false] at P
  obtain ⟨C, off, st, ar, lf, jk⟩ := σ
  simp only at har
  subst har
  exact P
theorem erase_cut (w : World) (R : Nat) (σ : St) (h : Fl w R σ) (hj : σ.jk.size ≤ 4096) (ho : σ.off = false) (har : σ.ar = true) (hlf : σ.lf = 0) (s : Nat) (hs : s < 2) :
    Calls Try.prog 18 #[fp R, .int .i64 s] w fun e w' => e = .returned (.int .i64 60) ∧ Fl w' R { σ with C := onL σ.C (s * 4096) 4096 (fun i c => c ||| arB σ.jk i), off := true, ar := false, lf := 0, jk := ⟨#[]⟩ } ∧ Kept R w w' := by
  have P := erase_in w R σ h hj ho s hs
  have e : stepS σ = ({ σ with off := true, ar := false, lf := 0, jk := ⟨#[]⟩ }, σ.jk, false) := by simp [stepS, har, hlf]
  unfold eraseS at P
  rw [e] at P
  simp only [Bool.false_eq_true, if_false] at P
  exact P
set_option maxHeartbeats 1000000 in
set_option maxRecDepth 100000 in
theorem erases_out (s : ByteArray) (hs : okI s) (a : Int) (ha : a < 0 ∨ 2 ≤ a) (j : ByteArray) (hj : j.size ≤ 140737488351232) (w : World) : Calls Try.prog 6 #[.string s, .int .i64 a, .string j] w fun e w' => e = .returned (.bool true) ∧ Below w.heap.size w w' := by
  have M := fun w => made_good s hs w
  clear hs
  have q0 : (a != 0) = true := by simp; omega
  have q1 : (a != 1) = true := by simp; omega
  have HA := hide ha
  have HJ := hide hj
  clear ha hj
  go_enter Try.func6, Try.ntmps6
  go_wp2_with fail
  refine (M w).mono ?_
  rintro e w1 ⟨R, X, D, cap, rfl, hM⟩
  obtain ⟨hR, _, _, _, _, hF, _, b1⟩ := hM
  have H1 := hide (And.intro hR (And.intro hF b1))
  clear hR hF b1
  go_wp2_with fail
  refine (M w1).mono ?_
  rintro e w2 ⟨R2, X2, D2, cap2, rfl, hM⟩
  obtain ⟨hR2, _, _, _, _, hG, _, b2⟩ := hM
  clear M
  obtain ⟨hR, hF1, b1⟩ := H1.out
  have hne : R ≠ R2 := by have := hF1.lt; omega
  have hF := hF1.below b2
  obtain ⟨C, hC⟩ : ∃ C, Hid (cellsI s = C) := ⟨_, hide rfl⟩
  rw [hC.out] at hF hG
  obtain ⟨t, ht⟩ : ∃ t, Hid (bs C = t) := ⟨_, hide rfl⟩
  have I := image_any w2 R _ hF
  rw [show bs (st0 C).C = t from ht.out] at I
  have E1 := erase_out w2 R _ hF rfl a HA.out
  have C2 := cut_arms w2 R2 C hG 0 j HJ.out
  have HF := hide hF
  have HB := hide (below_next b1 (Nat.le_refl _) b2)
  have HN := hide hne
  have hsz := b1.size
  have HR := hide (show w.heap.size ≤ R2 by omega)
  clear hF hG hne hR hF1 b1 b2 hR2 H1 hsz
  go_wp2_with fail
  refine I.mono ?_
  rintro e w3 ⟨rfl, hw⟩
  obtain rfl := hw.symm
  clear hw
  go_wp2_with fail
  refine E1.mono ?_
  rintro e w3 ⟨rfl, hw⟩
  obtain rfl := hw.symm
  clear hw
  go_wp2_with fail
  refine C2.mono ?_
  rintro e w3 ⟨rfl, h3, k3⟩
  have E3 := erase_out w3 R2 _ h3 rfl a HA.out
  have H3 := hide h3
  have K3 := hide k3
  clear h3 k3
  go_wp2_with fail
  refine E3.mono ?_
  rintro e w4 ⟨rfl, hw⟩
  obtain rfl := hw.symm
  clear hw
  go_wp2_with fail
  refine (awake_true w3).mono ?_
  rintro e w4 ⟨rfl, b4⟩
  have I4 := image_any w4 R _ ((HF.out.kept K3.out HN.out).below b4)
  rw [show bs (st0 C).C = t from ht.out] at I4
  have J4 := image_any w4 R2 _ (H3.out.below b4)
  rw [show bs ({ st0 C with ar := true, lf := ((0 : Nat) : Int), jk := jkS j } : St).C = t from ht.out] at J4
  have P4 := powered_any w4 R2 _ (H3.out.below b4)
  rw [show (!({ st0 C with ar := true, lf := ((0 : Nat) : Int), jk := jkS j } : St).off) = true from rfl] at P4
  go_wp2_with fail
  refine I4.mono ?_
  rintro e w5 ⟨rfl, hw⟩
  obtain rfl := hw.symm
  clear hw
  go_wp2_with fail
  refine J4.mono ?_
  rintro e w5 ⟨rfl, hw⟩
  obtain rfl := hw.symm
  clear hw
  go_wp2_with fail
  refine P4.mono ?_
  rintro e w5 ⟨rfl, hw⟩
  obtain rfl := hw.symm
  clear hw
  go_wp2_with fail
  go_ret
  have z1 := HB.out.size
  exact ⟨rfl, below_next (K3.out.toBelow HB.out (by omega) HR.out) (Nat.le_refl _) b4⟩
theorem onL_over (C : List UInt8) (o n : Nat) (g : Nat → UInt8 → UInt8) (b : UInt8) : onL (onL C o n g) o n (fun _ _ => b) = onL C o n (fun _ _ => b) := by
  apply List.ext_getElem
  · simp [onL]
  · intro k h1 h2
    rw [onL_at, onL_at, onL_at]
    by_cases c : o ≤ k ∧ k < o + n
    · rw [if_pos c, if_pos c]
    · rw [if_neg c, if_neg c, if_neg c]
/-- what a sector's erasure leaves, byte by byte -/
theorem erased_at (C : List UInt8) (k : Nat) (j : ByteArray) (t0 t1 t2 : ByteArray) (e0 : bs C = t0) (e1 : bs (onL C (k * 4096) 4096 fun _ _ => 255) = t1) (e2 : bs (onL C (k * 4096) 4096 fun i c => c ||| arB j i) = t2) (i : Nat) (h0 : i < t0.size) (h1 : i < t1.size) (h2 : i < t2.size) :
    (i / 4096 = k → t1[i] = 255 ∧ t2[i] ||| t0[i] = t2[i]) ∧ (i / 4096 ≠ k → t1[i] = t0[i] ∧ t2[i] = t0[i]) := by
  subst e0 e1 e2
  have hi : i < C.length := by rw [bs_size] at h0; exact h0
  rw [bs_at, bs_at, bs_at, onL_getD _ _ _ _ _ hi, onL_getD _ _ _ _ _ hi]
  refine ⟨fun hk => ?_, fun hk => ?_⟩
  · rw [if_pos (by omega), if_pos (by omega)]
    refine ⟨rfl, ?_⟩
    rw [UInt8.or_comm, ← UInt8.or_assoc, UInt8.or_self]
  · rw [if_neg (by omega), if_neg (by omega)]
    exact ⟨rfl, rfl⟩
set_option maxHeartbeats 2000000 in
set_option maxRecDepth 100000 in
theorem erases_in0 (s : ByteArray) (hs : okI s) (k : Nat) (hk : k < 2) (q0 : ((k : Int) != 0) = false) (j : ByteArray) (hj : j.size ≤ 140737488351232) (w : World) : Calls Try.prog 6 #[.string s, .int .i64 k, .string j] w fun e w' => e = .returned (.bool true) ∧ Below w.heap.size w w' := by
  have M := fun w => made_good s hs w
  clear hs
  obtain ⟨n, hn⟩ : ∃ n, Hid (n = 8192) := ⟨_, hide rfl⟩
  have HK := hide hk
  have HJ := hide hj
  clear hk hj
  go_enter Try.func6, Try.ntmps6
  go_wp2_with fail
  refine (M w).mono ?_
  rintro e w1 ⟨R, X, D, cap, rfl, hM⟩
  obtain ⟨hR, _, _, _, _, hF, _, b1⟩ := hM
  have H1 := hide (And.intro hR (And.intro hF b1))
  clear hR hF b1
  go_wp2_with fail
  refine (M w1).mono ?_
  rintro e w2 ⟨R2, X2, D2, cap2, rfl, hM⟩
  obtain ⟨hR2, _, _, _, _, hG, _, b2⟩ := hM
  clear M
  obtain ⟨hR, hF1, b1⟩ := H1.out
  have hne : R ≠ R2 := by have := hF1.lt; omega
  have hF := hF1.below b2
  obtain ⟨C, hC⟩ : ∃ C, Hid (cellsI s = C) := ⟨_, hide rfl⟩
  rw [hC.out] at hF hG
  obtain ⟨jj, hjj⟩ : ∃ jj, Hid (jkS j = jj) := ⟨_, hide rfl⟩
  obtain ⟨C1, hC1⟩ : ∃ C1, Hid (onL C (k * 4096) 4096 (fun _ _ => 255) = C1) := ⟨_, hide rfl⟩
  obtain ⟨C2, hC2⟩ : ∃ C2, Hid (onL C (k * 4096) 4096 (fun i c => c ||| arB jj i) = C2) := ⟨_, hide rfl⟩
  obtain ⟨t0, ht0⟩ : ∃ t, Hid (bs C = t) := ⟨_, hide rfl⟩
  obtain ⟨t1, ht1⟩ : ∃ t, Hid (bs C1 = t) := ⟨_, hide rfl⟩
  obtain ⟨t2, ht2⟩ : ∃ t, Hid (bs C2 = t) := ⟨_, hide rfl⟩
  have HE : Hid (∀ (i : Nat) (h0 : i < t0.size) (h1 : i < t1.size) (h2 : i < t2.size), (i / 4096 = k → t1[i] = 255 ∧ t2[i] ||| t0[i] = t2[i]) ∧ (i / 4096 ≠ k → t1[i] = t0[i] ∧ t2[i] = t0[i])) :=
    erased_at C k jj t0 t1 t2 ht0.out (by rw [hC1.out]; exact ht1.out) (by rw [hC2.out]; exact ht2.out)
  have z0 : t0.size = n := by rw [← ht0.out, bs_size, hn.out]; exact hF.len
  have z1 : t1.size = n := by rw [← ht1.out, bs_size, hn.out, ← hC1.out, onL_length]; exact hF.len
  have z2 : t2.size = n := by rw [← ht2.out, bs_size, hn.out, ← hC2.out, onL_length]; exact hF.len
  have HT : Hid (onL C2 (k * 4096) 4096 (fun _ _ => 255) = C1) := by show _ = _; rw [← hC2.out, onL_over]; exact hC1.out
  have I := image_any w2 R _ hF
  rw [show bs (st0 C).C = t0 from ht0.out] at I
  have E1 := erase_free w2 R _ hF (by show (0 : Nat) ≤ _; omega) rfl rfl (by show (0 : Int) ≤ 0; omega) (by show (0 : Int) ≤ _; omega) k HK.out
  rw [show onL (st0 C).C (k * 4096) 4096 (fun _ _ => 255) = C1 from hC1.out] at E1
  have HG := hide hG
  have HB := hide (below_next b1 (Nat.le_refl _) b2)
  have HN := hide hne
  have hsz := b1.size
  have HR := hide (And.intro hR (show w.heap.size ≤ R2 by omega))
  clear hF hG hne hR hF1 b1 b2 hR2 H1 hsz hC1 hC
  go_wp2_with fail
  refine I.mono ?_
  rintro e w3 ⟨rfl, hw⟩
  obtain rfl := hw.symm
  clear hw
  go_wp2_with fail
  refine E1.mono ?_
  rintro e w3 ⟨rfl, h3, k3⟩
  have A3 := cut_arms w3 R2 C (HG.out.kept k3 (Ne.symm HN.out)) 0 j HJ.out
  rw [hjj.out] at A3
  obtain ⟨σ, hσ⟩ : ∃ σ, Hid (({ st0 C with C := C1, st := (st0 C).st + 1 } : St) = σ) := ⟨_, hide rfl⟩
  have H3 : Hid (Fl w3 R σ) := by rw [← hσ.out]; exact h3
  have K3 := hide k3
  clear h3 k3 E1 I
  go_wp2_with fail
  refine A3.mono ?_
  rintro e w4 ⟨rfl, h4, k4⟩
  have H4f := hide (H3.out.kept k4 HN.out)
  have E4 := erase_cut w4 R2 _ h4 (by show jj.size ≤ 4096; rw [← hjj.out]; exact jkS_size j) rfl rfl rfl k HK.out
  have K4 := hide k4
  obtain ⟨τ, hτ⟩ : ∃ τ, Hid (τ = ({ st0 C with C := C2, off := true, ar := false, lf := 0, jk := ⟨#[]⟩ } : St)) := ⟨_, hide rfl⟩
  have E5 : Calls Try.prog 18 #[fp R2, .int .i64 k] w4 fun e w' => e = .returned (.int .i64 60) ∧ Fl w' R2 τ ∧ Kept R2 w4 w' := by
    rw [hτ.out, ← hC2.out]
    exact E4
  clear E4 h4 k4 A3 hC2
  go_wp2_with fail
  refine E5.mono ?_
  rintro e w5 ⟨rfl, h5, k5⟩
  have I5 := image_any w5 R σ (H4f.out.kept k5 HN.out)
  rw [show bs σ.C = t1 by rw [← hσ.out]; exact ht1.out] at I5
  have J5 := image_any w5 R2 τ h5
  rw [show bs τ.C = t2 by rw [hτ.out]; exact ht2.out] at J5
  have P5 := powered_any w5 R2 τ h5
  rw [show (!τ.off) = false by rw [hτ.out]; rfl] at P5
  have H5 := hide h5
  have K5 := hide k5
  clear E5 h5 k5
  have qn : ((n : Int) != 8192) = false := by rw [hn.out]; rfl
  go_wp2_with fail
  refine I5.mono ?_
  rintro e w6 ⟨rfl, hw⟩
  obtain rfl := hw.symm
  clear hw I5
  go_wp2_with fail
  refine J5.mono ?_
  rintro e w6 ⟨rfl, hw⟩
  obtain rfl := hw.symm
  clear hw J5
  go_wp2_with fail
  refine P5.mono ?_
  rintro e w6 ⟨rfl, hw⟩
  obtain rfl := hw.symm
  clear hw P5
  go_wp2_with fail
  have HB5 : Hid (Below w.heap.size w w5) := by
    have y1 := HB.out.size
    have y2 := K3.out.size
    have y3 := K4.out.size
    exact K5.out.toBelow (K4.out.toBelow (K3.out.toBelow HB.out (by omega) HR.out.1) (by omega) HR.out.2) (by omega) HR.out.2
  clear HB K3 K4 K5 H4f H3 HG
  go_loopw [19] (fun v wr => ∃ i : Nat, v = .int .i64 (i : Int) ∧ i ≤ n ∧ Fl wr R2 τ ∧ Below w.heap.size w wr) (fun v _ => n - (intOf v).toNat)
  case atStart => exact ⟨0, rfl, Nat.zero_le _, H5.out, HB5.out⟩
  case round =>
    obtain ⟨i, rfl, hi, hF, hB⟩ := hrel
    by_cases hlt : i < n
    · have hdd : decide ((i : Int) < 8192) = true := decide_eq_true (by have := hn.out; omega)
      have hi0 : i < t0.size := by omega
      have hi1 : i < t1.size := by omega
      have hi2 : i < t2.size := by omega
      obtain ⟨Ei, En⟩ := HE.out i hi0 hi1 hi2
      obtain ⟨x, hx⟩ : ∃ x, t0[i] = x := ⟨_, rfl⟩
      obtain ⟨y, hy⟩ : ∃ y, t1[i] = y := ⟨_, rfl⟩
      obtain ⟨z, hz⟩ : ∃ z, t2[i] = z := ⟨_, rfl⟩
      rw [hx, hy, hz] at Ei En
      have hn9 : n ≤ 8192 := by have := hn.out; omega
      by_cases hc : i / 4096 = k
      · obtain ⟨e1, e2⟩ := Ei hc
        have hq : (((i : Int) / 4096) == (k : Int)) = true := by simp; omega
        subst e1
        have o1 : bits .or .u8 (z.toNat : Int) (x.toNat : Int) = (z.toNat : Int) := by rw [or8, e2]
        have HC := hide (And.intro hc e2)
        clear En Ei hc e2
        go_wp2_with fail
        go_quiet (fail)
        go_wp2_with fail
        go_roundw
        case rel => exact ⟨i + 1, by go_num, by omega, hF.drewN _, below_drewN hB _⟩
        case measure => simp [intOf]; omega
      · obtain ⟨e1, e2⟩ := En hc
        have hq : (((i : Int) / 4096) == (k : Int)) = false := by simp; omega
        subst e1 e2
        clear En Ei hc
        go_wp2_with fail
        go_quiet (fail)
        go_wp2_with fail
        go_roundw
        case rel => exact ⟨i + 1, by go_num, by omega, hF.drewN _, below_drewN hB _⟩
        case measure => simp [intOf]; omega
    · obtain rfl : i = n := by omega
      have hdd : decide ((i : Int) < 8192) = false := decide_eq_false (by have := hn.out; omega)
      go_wp2_with fail
      refine (on_any wr R2 τ hF).mono ?_
      rintro e w6 ⟨rfl, h6, k6⟩
      have H6 := hide h6
      clear h6
      have y1 := hB.size
      have HB6 := hide (k6.toBelow hB (by omega) HR.out.2)
      clear k6 y1
      go_wp2_with fail
      refine (awake_true w6).mono ?_
      rintro e w7 ⟨rfl, b7⟩
      have E7 := erase_free w7 R2 (onS τ) (H6.out.below b7) (by show (0 : Nat) ≤ _; omega) rfl rfl (by rw [hτ.out]; show (0 : Int) ≤ 0; omega) (by rw [hτ.out]; show (0 : Int) ≤ _; omega) k HK.out
      rw [show onL (onS τ).C (k * 4096) 4096 (fun _ _ => 255) = C1 by rw [hτ.out]; exact HT.out] at E7
      go_wp2_with fail
      refine E7.mono ?_
      rintro e w8 ⟨rfl, h8, k8⟩
      have I8 := image_any w8 R2 _ h8
      rw [show bs C1 = t1 from ht1.out] at I8
      have H8 := hide h8
      clear h8
      go_wp2_with fail
      refine I8.mono ?_
      rintro e w9 ⟨rfl, hw⟩
      obtain rfl := hw.symm
      clear hw
      go_wp2_with fail
      go_ret
      have y2 := HB6.out.size
      have y3 := b7.size
      exact ⟨rfl, k8.toBelow (below_next HB6.out (Nat.le_refl _) b7) (by omega) HR.out.2⟩
set_option maxHeartbeats 2000000 in
set_option maxRecDepth 100000 in
theorem erases_in1 (s : ByteArray) (hs : okI s) (k : Nat) (hk : k < 2) (q0 : ((k : Int) != 0) = true) (q1 : ((k : Int) != 1) = false) (j : ByteArray) (hj : j.size ≤ 140737488351232) (w : World) : Calls Try.prog 6 #[.string s, .int .i64 k, .string j] w fun e w' => e = .returned (.bool true) ∧ Below w.heap.size w w' := by
  have M := fun w => made_good s hs w
  clear hs
  obtain ⟨n, hn⟩ : ∃ n, Hid (n = 8192) := ⟨_, hide rfl⟩
  have HK := hide hk
  have HJ := hide hj
  clear hk hj
  go_enter Try.func6, Try.ntmps6
  go_wp2_with fail
  refine (M w).mono ?_
  rintro e w1 ⟨R, X, D, cap, rfl, hM⟩
  obtain ⟨hR, _, _, _, _, hF, _, b1⟩ := hM
  have H1 := hide (And.intro hR (And.intro hF b1))
  clear hR hF b1
  go_wp2_with fail
  refine (M w1).mono ?_
  rintro e w2 ⟨R2, X2, D2, cap2, rfl, hM⟩
  obtain ⟨hR2, _, _, _, _, hG, _, b2⟩ := hM
  clear M
  obtain ⟨hR, hF1, b1⟩ := H1.out
  have hne : R ≠ R2 := by have := hF1.lt; omega
  have hF := hF1.below b2
  obtain ⟨C, hC⟩ : ∃ C, Hid (cellsI s = C) := ⟨_, hide rfl⟩
  rw [hC.out] at hF hG
  obtain ⟨jj, hjj⟩ : ∃ jj, Hid (jkS j = jj) := ⟨_, hide rfl⟩
  obtain ⟨C1, hC1⟩ : ∃ C1, Hid (onL C (k * 4096) 4096 (fun _ _ => 255) = C1) := ⟨_, hide rfl⟩
  obtain ⟨C2, hC2⟩ : ∃ C2, Hid (onL C (k * 4096) 4096 (fun i c => c ||| arB jj i) = C2) := ⟨_, hide rfl⟩
  obtain ⟨t0, ht0⟩ : ∃ t, Hid (bs C = t) := ⟨_, hide rfl⟩
  obtain ⟨t1, ht1⟩ : ∃ t, Hid (bs C1 = t) := ⟨_, hide rfl⟩
  obtain ⟨t2, ht2⟩ : ∃ t, Hid (bs C2 = t) := ⟨_, hide rfl⟩
  have HE : Hid (∀ (i : Nat) (h0 : i < t0.size) (h1 : i < t1.size) (h2 : i < t2.size), (i / 4096 = k → t1[i] = 255 ∧ t2[i] ||| t0[i] = t2[i]) ∧ (i / 4096 ≠ k → t1[i] = t0[i] ∧ t2[i] = t0[i])) :=
    erased_at C k jj t0 t1 t2 ht0.out (by rw [hC1.out]; exact ht1.out) (by rw [hC2.out]; exact ht2.out)
  have z0 : t0.size = n := by rw [← ht0.out, bs_size, hn.out]; exact hF.len
  have z1 : t1.size = n := by rw [← ht1.out, bs_size, hn.out, ← hC1.out, onL_length]; exact hF.len
  have z2 : t2.size = n := by rw [← ht2.out, bs_size, hn.out, ← hC2.out, onL_length]; exact hF.len
  have HT : Hid (onL C2 (k * 4096) 4096 (fun _ _ => 255) = C1) := by show _ = _; rw [← hC2.out, onL_over]; exact hC1.out
  have I := image_any w2 R _ hF
  rw [show bs (st0 C).C = t0 from ht0.out] at I
  have E1 := erase_free w2 R _ hF (by show (0 : Nat) ≤ _; omega) rfl rfl (by show (0 : Int) ≤ 0; omega) (by show (0 : Int) ≤ _; omega) k HK.out
  rw [show onL (st0 C).C (k * 4096) 4096 (fun _ _ => 255) = C1 from hC1.out] at E1
  have HG := hide hG
  have HB := hide (below_next b1 (Nat.le_refl _) b2)
  have HN := hide hne
  have hsz := b1.size
  have HR := hide (And.intro hR (show w.heap.size ≤ R2 by omega))
  clear hF hG hne hR hF1 b1 b2 hR2 H1 hsz hC1 hC
  go_wp2_with fail
  refine I.mono ?_
  rintro e w3 ⟨rfl, hw⟩
  obtain rfl := hw.symm
  clear hw
  go_wp2_with fail
  refine E1.mono ?_
  rintro e w3 ⟨rfl, h3, k3⟩
  have A3 := cut_arms w3 R2 C (HG.out.kept k3 (Ne.symm HN.out)) 0 j HJ.out
  rw [hjj.out] at A3
  obtain ⟨σ, hσ⟩ : ∃ σ, Hid (({ st0 C with C := C1, st := (st0 C).st + 1 } : St) = σ) := ⟨_, hide rfl⟩
  have H3 : Hid (Fl w3 R σ) := by rw [← hσ.out]; exact h3
  have K3 := hide k3
  clear h3 k3 E1 I
  go_wp2_with fail
  refine A3.mono ?_
  rintro e w4 ⟨rfl, h4, k4⟩
  have H4f := hide (H3.out.kept k4 HN.out)
  have E4 := erase_cut w4 R2 _ h4 (by show jj.size ≤ 4096; rw [← hjj.out]; exact jkS_size j) rfl rfl rfl k HK.out
  have K4 := hide k4
  obtain ⟨τ, hτ⟩ : ∃ τ, Hid (τ = ({ st0 C with C := C2, off := true, ar := false, lf := 0, jk := ⟨#[]⟩ } : St)) := ⟨_, hide rfl⟩
  have E5 : Calls Try.prog 18 #[fp R2, .int .i64 k] w4 fun e w' => e = .returned (.int .i64 60) ∧ Fl w' R2 τ ∧ Kept R2 w4 w' := by
    rw [hτ.out, ← hC2.out]
    exact E4
  clear E4 h4 k4 A3 hC2
  go_wp2_with fail
  refine E5.mono ?_
  rintro e w5 ⟨rfl, h5, k5⟩
  have I5 := image_any w5 R σ (H4f.out.kept k5 HN.out)
  rw [show bs σ.C = t1 by rw [← hσ.out]; exact ht1.out] at I5
  have J5 := image_any w5 R2 τ h5
  rw [show bs τ.C = t2 by rw [hτ.out]; exact ht2.out] at J5
  have P5 := powered_any w5 R2 τ h5
  rw [show (!τ.off) = false by rw [hτ.out]; rfl] at P5
  have H5 := hide h5
  have K5 := hide k5
  clear E5 h5 k5
  have qn : ((n : Int) != 8192) = false := by rw [hn.out]; rfl
  go_wp2_with fail
  refine I5.mono ?_
  rintro e w6 ⟨rfl, hw⟩
  obtain rfl := hw.symm
  clear hw I5
  go_wp2_with fail
  refine J5.mono ?_
  rintro e w6 ⟨rfl, hw⟩
  obtain rfl := hw.symm
  clear hw J5
  go_wp2_with fail
  refine P5.mono ?_
  rintro e w6 ⟨rfl, hw⟩
  obtain rfl := hw.symm
  clear hw P5
  go_wp2_with fail
  have HB5 : Hid (Below w.heap.size w w5) := by
    have y1 := HB.out.size
    have y2 := K3.out.size
    have y3 := K4.out.size
    exact K5.out.toBelow (K4.out.toBelow (K3.out.toBelow HB.out (by omega) HR.out.1) (by omega) HR.out.2) (by omega) HR.out.2
  clear HB K3 K4 K5 H4f H3 HG
  go_loopw [19] (fun v wr => ∃ i : Nat, v = .int .i64 (i : Int) ∧ i ≤ n ∧ Fl wr R2 τ ∧ Below w.heap.size w wr) (fun v _ => n - (intOf v).toNat)
  case atStart => exact ⟨0, rfl, Nat.zero_le _, H5.out, HB5.out⟩
  case round =>
    obtain ⟨i, rfl, hi, hF, hB⟩ := hrel
    by_cases hlt : i < n
    · have hdd : decide ((i : Int) < 8192) = true := decide_eq_true (by have := hn.out; omega)
      have hi0 : i < t0.size := by omega
      have hi1 : i < t1.size := by omega
      have hi2 : i < t2.size := by omega
      obtain ⟨Ei, En⟩ := HE.out i hi0 hi1 hi2
      obtain ⟨x, hx⟩ : ∃ x, t0[i] = x := ⟨_, rfl⟩
      obtain ⟨y, hy⟩ : ∃ y, t1[i] = y := ⟨_, rfl⟩
      obtain ⟨z, hz⟩ : ∃ z, t2[i] = z := ⟨_, rfl⟩
      rw [hx, hy, hz] at Ei En
      have hn9 : n ≤ 8192 := by have := hn.out; omega
      by_cases hc : i / 4096 = k
      · obtain ⟨e1, e2⟩ := Ei hc
        have hq : (((i : Int) / 4096) == (k : Int)) = true := by simp; omega
        subst e1
        have o1 : bits .or .u8 (z.toNat : Int) (x.toNat : Int) = (z.toNat : Int) := by rw [or8, e2]
        have HC := hide (And.intro hc e2)
        clear En Ei hc e2
        go_wp2_with fail
        go_quiet (fail)
        go_wp2_with fail
        go_roundw
        case rel => exact ⟨i + 1, by go_num, by omega, hF.drewN _, below_drewN hB _⟩
        case measure => simp [intOf]; omega
      · obtain ⟨e1, e2⟩ := En hc
        have hq : (((i : Int) / 4096) == (k : Int)) = false := by simp; omega
        subst e1 e2
        clear En Ei hc
        go_wp2_with fail
        go_quiet (fail)
        go_wp2_with fail
        go_roundw
        case rel => exact ⟨i + 1, by go_num, by omega, hF.drewN _, below_drewN hB _⟩
        case measure => simp [intOf]; omega
    · obtain rfl : i = n := by omega
      have hdd : decide ((i : Int) < 8192) = false := decide_eq_false (by have := hn.out; omega)
      go_wp2_with fail
      refine (on_any wr R2 τ hF).mono ?_
      rintro e w6 ⟨rfl, h6, k6⟩
      have H6 := hide h6
      clear h6
      have y1 := hB.size
      have HB6 := hide (k6.toBelow hB (by omega) HR.out.2)
      clear k6 y1
      go_wp2_with fail
      refine (awake_true w6).mono ?_
      rintro e w7 ⟨rfl, b7⟩
      have E7 := erase_free w7 R2 (onS τ) (H6.out.below b7) (by show (0 : Nat) ≤ _; omega) rfl rfl (by rw [hτ.out]; show (0 : Int) ≤ 0; omega) (by rw [hτ.out]; show (0 : Int) ≤ _; omega) k HK.out
      rw [show onL (onS τ).C (k * 4096) 4096 (fun _ _ => 255) = C1 by rw [hτ.out]; exact HT.out] at E7
      go_wp2_with fail
      refine E7.mono ?_
      rintro e w8 ⟨rfl, h8, k8⟩
      have I8 := image_any w8 R2 _ h8
      rw [show bs C1 = t1 from ht1.out] at I8
      have H8 := hide h8
      clear h8
      go_wp2_with fail
      refine I8.mono ?_
      rintro e w9 ⟨rfl, hw⟩
      obtain rfl := hw.symm
      clear hw
      go_wp2_with fail
      go_ret
      have y2 := HB6.out.size
      have y3 := b7.size
      exact ⟨rfl, k8.toBelow (below_next HB6.out (Nat.le_refl _) b7) (by omega) HR.out.2⟩
/-- NorErases -/
theorem NorErases_walk (s : ByteArray) (a : Int) (j : ByteArray) (_hs : s.size ≤ 140737488351232) (hj : j.size ≤ 140737488351232) (w : World) : Calls Try.prog 6 #[.string s, .int .i64 a, .string j] w fun e w' => e = .returned (.bool true) ∧ Below w.heap.size w w' := by
  by_cases h0 : s.size = 0 ∨ s.size = 8192
  · by_cases ha : a < 0 ∨ 2 ≤ a
    · exact erases_out s h0 a ha j hj w
    · obtain ⟨k, rfl⟩ := Int.eq_ofNat_of_zero_le (show 0 ≤ a by omega)
      rcases (show k = 0 ∨ k = 1 by omega) with h | h
      · exact erases_in0 s h0 k (by omega) (by subst h; rfl) j hj w
      · exact erases_in1 s h0 k (by omega) (by subst h; rfl) (by subst h; rfl) j hj w
  · exact erases_bad s (fun h => h0 (.inl h)) (fun h => h0 (.inr h)) a j w
end Go.Proofs.Ytjfajonedckggaa
