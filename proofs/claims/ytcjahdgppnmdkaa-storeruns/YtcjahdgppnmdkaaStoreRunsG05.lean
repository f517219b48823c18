/- Rf3, Rf4, NoR. -/
import Derived.Test.YtcjahdgppnmdkaaStoreRunsG04
import Derived.Test.YtcjahdgppnmdkaaStoreRunsG00
import Derived.Deep.RegionHeld3
import Derived.Deep.DeepCutAuto
set_option maxRecDepth 100000
namespace Go.Proofs.Ytcjahdgppnmdkaa
open Go.RowKit Go.Great
def progBR (ρ : St) (i : Nat) (b : UInt8) : St × Bool :=
  if (stepR ρ).2 then ({ (stepR ρ).1 with C := (stepR ρ).1.C.set i ((stepR ρ).1.C.getD i 0 &&& b) }, true)
  else ({ (stepR ρ).1 with C := (stepR ρ).1.C.set i ((stepR ρ).1.C.getD i 0 &&& (b ||| arB (stepR ρ).1.jk 0)) }, false)
theorem stepR_C (ρ : St) : (stepR ρ).1.C = ρ.C := by unfold stepR; split <;> rfl
theorem stepR_jk (ρ : St) : (stepR ρ).1.jk = ρ.jk := by unfold stepR; split <;> rfl
theorem progBR_jk (ρ : St) (i : Nat) (b : UInt8) : (progBR ρ i b).1.jk = ρ.jk := by
  unfold progBR; split <;> exact stepR_jk ρ
def progSR (ρ : St) (a : Nat) : List UInt8 → St × Bool
  | [] => (ρ, true)
  | b :: t => if (progBR ρ a b).2 then progSR (progBR ρ a b).1 (a + 1) t else ((progBR ρ a b).1, false)
def progRR (ρ : St) (a : Int) (d : ByteArray) : St × Int :=
  if ρ.off then (ρ, 60) else if insideB a d.size then ((progSR ρ a.toNat d.data.toList).1, if (progSR ρ a.toNat d.data.toList).2 then 0 else 60) else (ρ, 1)
theorem rprog_off (w : World) (X D cap : Nat) (ρ : St) (h : Rf w X D cap ρ) (ho : ρ.off = true) (a : Int) (d : ByteArray) : Calls Try.prog 73 #[fp X, .int .i64 a, .string d] w fun e w' => e = .returned (.int .i64 60) ∧ w' = w := by
  have c1 := h.c1
  rw [ho] at c1
  clear ho h
  go_enter Try.func73, Try.ntmps73
  go_wp2_with fail
  go_ret
  exact ⟨rfl, rfl⟩
theorem rprog_out (w : World) (X D cap : Nat) (ρ : St) (h : Rf w X D cap ρ) (ho : ρ.off = false) (a : Int) (ha : I64 a) (d : ByteArray) (hd : insideB a d.size = false) : Calls Try.prog 73 #[fp X, .int .i64 a, .string d] w fun e w' => e = .returned (.int .i64 1) ∧ w' = w := by
  have c1 := h.c1
  rw [ho] at c1
  have I := range_any w a d.size ha
  rw [hd] at I
  clear ho h hd
  go_enter Try.func73, Try.ntmps73
  go_wp2_with fail
  refine I.mono ?_
  rintro e w1 ⟨rfl, rfl⟩
  go_wp2_with fail
  go_ret
  exact ⟨rfl, rfl⟩
theorem Kept2.drewN {X D : Nat} {w w1 : World} (h : Kept2 X D w w1) (q : Nat) : Kept2 X D w (w1.drewN q) := h.trans ⟨rfl, rfl, rfl, Nat.le_refl _, fun _ _ _ _ => rfl⟩
theorem Rf.drewN {w : World} {X D cap : Nat} {ρ : St} (h : Rf w X D cap ρ) (q : Nat) : Rf (w.drewN q) X D cap ρ := ⟨h.len, h.ne, h.cle, h.lt, h.blk, h.row⟩
theorem cell_setD {w : World} {D X i k : Nat} (v : Value) (h : D ≠ X) : (w.setCell ⟨D, i, none⟩ v).cell? ⟨X, k, none⟩ = w.cell? ⟨X, k, none⟩ := World.cell?_setCell_other _ _ _ _ (by intro e; injection e with e1; exact h e1)
set_option maxHeartbeats 2000000 in
set_option maxRecDepth 100000 in
theorem rprog_in (w : World) (X D cap : Nat) (ρ : St) (h : Rf w X D cap ρ) (hj : ρ.jk.size ≤ 140737488351232) (ho : ρ.off = false) (a : Nat) (d : ByteArray) (hd : a + d.size ≤ 8192) : Calls Try.prog 73 #[fp X, .int .i64 a, .string d] w fun e w' => e = .returned (.int .i64 (if (progSR ρ a d.data.toList).2 then 0 else 60)) ∧ Rf w' X D cap (progSR ρ a d.data.toList).1 ∧ Kept2 X D w w' := by
  have c1 := h.c1
  rw [ho] at c1
  have I := range_any w a d.size (by unfold I64; omega)
  rw [show insideB (a : Int) d.size = true by unfold insideB; apply decide_eq_true; omega] at I
  have HJ := hide hj
  have hDX := hide h.ne
  clear ho hj
  obtain ⟨⟨ρf, okf⟩, hr⟩ : ∃ r, Hid (progSR ρ a d.data.toList = r) := ⟨_, hide rfl⟩
  rw [hr.out]
  simp only
  obtain ⟨v, hv⟩ : ∃ v : Int, Hid ((if okf then 0 else 60) = v) := ⟨_, hide rfl⟩
  rw [show (if okf = true then (0 : Int) else 60) = v from hv.out]
  go_enter Try.func73, Try.ntmps73
  go_wp2_with fail
  refine I.mono ?_
  rintro e w1 ⟨rfl, hw⟩
  obtain rfl := hw.symm
  clear hw I c1
  go_wp2_with fail
  go_loopw [7] (fun v wr => ∃ i τ, v = .int .i64 ((i : Nat) : Int) ∧ i ≤ d.size ∧ Rf wr X D cap τ ∧ Kept2 X D w wr ∧ τ.jk = ρ.jk ∧ Hid (progSR ρ a d.data.toList = progSR τ (a + i) (d.data.toList.drop i))) (fun v _ => d.size - (intOf v).toNat)
  case atStart => exact ⟨0, ρ, rfl, Nat.zero_le _, h, Kept2.refl _ _ _, rfl, hide rfl⟩
  case round =>
    obtain ⟨i, τ, rfl, hi, hF, hK, hj2, hE⟩ := hrel
    by_cases hlt : i < d.size
    · have hb : d.data.toList.drop i = d[i] :: d.data.toList.drop (i + 1) := by
        rw [List.drop_eq_getElem_cons (by rw [list_size]; exact hlt)]; rfl
      obtain ⟨b, hbb⟩ : ∃ b, d[i] = b := ⟨_, rfl⟩
      rw [hbb] at hb
      have hj3 := progBR_jk τ (a + i) b
      rw [hj2] at hj3
      have hE2 : Hid (progSR ρ a d.data.toList = if (progBR τ (a + i) b).2 then progSR (progBR τ (a + i) b).1 (a + i + 1) (d.data.toList.drop (i + 1)) else ((progBR τ (a + i) b).1, false)) := by
        show _ = _
        rw [hE.out, hb]; rfl
      have hC := stepR_C τ
      have hjk := stepR_jk τ
      rw [hj2] at hjk
      have S := rstep_any wr X D cap τ hF
      unfold progBR at hE2 hj3
      have HJ3 := hide hj3
      clear hb hE hj2 hj3
      obtain ⟨⟨μ, ok⟩, hrr⟩ : ∃ r, stepR τ = r := ⟨_, rfl⟩
      rw [hrr] at S hE2 HJ3 hC hjk
      clear hrr
      simp only at S hE2 HJ3 hC hjk
      have hl : a + i < μ.C.length := by rw [hC, hF.len]; omega
      have hg : μ.C.getD (a + i) 0 = μ.C[a + i] := getD_at _ _ hl
      obtain ⟨x, hx⟩ : ∃ x, Hid (μ.C[a + i] = x) := ⟨_, hide rfl⟩
      rw [hg, hx.out] at hE2 HJ3
      have HC := hide hC
      have HG := hide hg
      have HL := hide hl
      clear hC hg
      cases ok
      · obtain ⟨u, hu⟩ : ∃ u, Hid (arB μ.jk 0 = u) := ⟨_, hide rfl⟩
        obtain ⟨y, hy⟩ : ∃ y, Hid (b ||| u = y) := ⟨_, hide rfl⟩
        obtain ⟨z, hz⟩ : ∃ z, Hid (x &&& y = z) := ⟨_, hide rfl⟩
        rw [hu.out, hy.out, hz.out] at hE2
        go_wp2_with fail
        refine S.mono ?_
        rintro e w1 ⟨rfl, h1, k1⟩
        have c0 := h1.c0
        have c4 := h1.c4
        have cD : w1.cell? ⟨D, a + i, none⟩ = some (.int .u8 (x.toNat : Int)) := by rw [(h1.row (a + i) HL.out).1, hx.out]
        have fD := (h1.row (a + i) HL.out).2
        have A : ∀ wx, Calls Try.prog 94 #[.string μ.jk, .int .i64 0] wx fun e w' => e = .returned (.int .u8 (u.toNat : Int)) ∧ w' = wx := fun wx => by
          have := rjunk_any wx μ.jk 0 (by rw [hjk]; have := HJ.out; omega) (by omega)
          rw [hu.out] at this
          exact this
        have o1 : bits .or .u8 (b.toNat : Int) (u.toNat : Int) = (y.toNat : Int) := by rw [or8, hy.out]
        have a1 : bits .and .u8 (x.toNat : Int) (y.toNat : Int) = (z.toNat : Int) := by rw [and8, hz.out]
        obtain ⟨m, hm⟩ : ∃ m, μ.C.length = m := ⟨_, rfl⟩
        obtain ⟨jk, hjj⟩ : ∃ jk, Hid (μ.jk = jk) := ⟨_, hide rfl⟩
        rw [hm] at c0 hl
        rw [hjj.out] at c4 A
        have hm9 : m ≤ 8192 := by rw [← hm]; exact Nat.le_of_eq h1.len
        obtain ⟨c, hc⟩ : ∃ c : Nat, (a : Int) + (i : Int) = (c : Int) := ⟨a + i, by omega⟩
        have hcN : a + i = c := by omega
        rw [hcN] at cD fD hl
        have b1 : (0 : Int) ≤ (c : Int) := by omega
        have b2 : (c : Int) < (m : Int) := by omega
        have b3 : IntKind.i64.wrap (c : Int) = (c : Int) := by rw [IntKind.wrap_i64]; omega
        have HCN := hide hcN
        clear hcN
        have H1 := hide (And.intro h1 k1)
        have HM := hide hm
        clear h1 k1 S hjk hm
        go_wp2_with fail
        have i1 : (0 : Int) ≤ (i : Int) := by omega
        have i2 : (i : Int) < (d.size : Int) := by omega
        have i3 : (i : Int) ≤ (d.size : Int) := by omega
        have A2 : ∀ k, Calls Try.prog 94 #[.string jk, .int .i64 0] (w1.drewN k) fun e w' => e = .returned (.int .u8 (u.toNat : Int)) ∧ w' = w1.drewN k := fun k => A _
        refine region_last 27 rfl rfl _ rfl (by kernel_rfl) (by kernel_rfl) (by kernel_rfl) ?_
        simp only [List.take_succ_cons, List.take_zero]
        repeat (quiet_step (first | (go_at_call 94; exact Calls.quiet_of_same (A2 _))))
        refine wpQuiet_nil ?_
        intro nq
        go_simp
        clear A A2 o1 a1 cD fD c0 c4
        go_wp2_with fail
        go_ret
        have e := hE2.out
        simp only [Bool.false_eq_true, if_false] at e
        rw [hr.out] at e
        injection e with e1 e2
        subst e1 e2
        have e3 := hv.out
        subst e3
        refine ⟨rfl, ?_, (hK.trans (H1.out.2.drewN nq)).setD _ _⟩
        have := (H1.out.1.drewN nq).setD (a + i) z
        rw [HCN.out] at this ⊢
        exact this
      · obtain ⟨z, hz⟩ : ∃ z, Hid (x &&& b = z) := ⟨_, hide rfl⟩
        rw [hz.out] at hE2
        go_wp2_with fail
        refine S.mono ?_
        rintro e w1 ⟨rfl, h1, k1⟩
        have c0 := h1.c0
        have cD : w1.cell? ⟨D, a + i, none⟩ = some (.int .u8 (x.toNat : Int)) := by rw [(h1.row (a + i) HL.out).1, hx.out]
        have fD := (h1.row (a + i) HL.out).2
        have a1 : bits .and .u8 (x.toNat : Int) (b.toNat : Int) = (z.toNat : Int) := by rw [and8, hz.out]
        obtain ⟨m, hm⟩ : ∃ m, μ.C.length = m := ⟨_, rfl⟩
        rw [hm] at c0 hl
        have hm9 : m ≤ 8192 := by rw [← hm]; exact Nat.le_of_eq h1.len
        obtain ⟨c, hc⟩ : ∃ c : Nat, (a : Int) + (i : Int) = (c : Int) := ⟨a + i, by omega⟩
        have hcN : a + i = c := by omega
        rw [hcN] at cD fD hl
        have b1 : (0 : Int) ≤ (c : Int) := by omega
        have b2 : (c : Int) < (m : Int) := by omega
        have b3 : IntKind.i64.wrap (c : Int) = (c : Int) := by rw [IntKind.wrap_i64]; omega
        have HCN := hide hcN
        clear hcN
        have H1 := hide (And.intro h1 k1)
        have HM := hide hm
        have HJ1 : Hid (μ.jk = ρ.jk) := hide hjk
        clear h1 k1 S hjk hm
        go_wp2_with fail
        have i1 : (0 : Int) ≤ (i : Int) := by omega
        have i2 : (i : Int) < (d.size : Int) := by omega
        refine region_last 21 rfl rfl _ rfl (by kernel_rfl) (by kernel_rfl) (by kernel_rfl) ?_
        simp only [List.take_succ_cons, List.take_zero]
        repeat (quiet_step (fail))
        refine wpQuiet_nil ?_
        intro nq
        go_simp
        clear a1 cD fD c0
        go_wp2_with fail
        go_roundw
        case rel =>
          refine ⟨i + 1, { μ with C := μ.C.set (a + i) z }, by go_num, by omega, ?_, (hK.trans (H1.out.2.drewN nq)).setD _ _, HJ1.out, hide ?_⟩
          · have := (H1.out.1.drewN nq).setD (a + i) z
            rw [HCN.out] at this ⊢
            exact this
          · rw [hE2.out]; rfl
        case measure => simp [intOf]; omega
    · obtain rfl : i = d.size := by omega
      have hE2 := hE.out
      rw [List.drop_of_length_le (by rw [list_size]; exact Nat.le_refl _)] at hE2
      have HE := hide hE2
      clear hE hE2
      go_wp2_with fail
      go_ret
      have := HE.out
      rw [hr.out] at this
      injection this with e1 e2
      subst e1 e2
      have e3 := hv.out
      subst e3
      exact ⟨rfl, hF, hK⟩
theorem rprog_any (w : World) (X D cap : Nat) (ρ : St) (h : Rf w X D cap ρ) (hj : ρ.jk.size ≤ 140737488351232) (a : Int) (ha : I64 a) (d : ByteArray) : Calls Try.prog 73 #[fp X, .int .i64 a, .string d] w fun e w' => e = .returned (.int .i64 (progRR ρ a d).2) ∧ Rf w' X D cap (progRR ρ a d).1 ∧ Kept2 X D w w' := by
  unfold progRR
  cases ho : ρ.off
  · cases hi : insideB a d.size
    · refine (rprog_out w X D cap ρ h ho a ha d hi).mono ?_
      rintro e w1 ⟨rfl, rfl⟩
      exact ⟨rfl, h, Kept2.refl _ _ _⟩
    · obtain ⟨h1, h2, h3⟩ := insideB_true hi
      obtain ⟨k, rfl⟩ := Int.eq_ofNat_of_zero_le h1
      refine (rprog_in w X D cap ρ h hj ho k d (by omega)).mono ?_
      rintro e w1 ⟨rfl, h1, h2⟩
      exact ⟨rfl, h1, h2⟩
  · refine (rprog_off w X D cap ρ h ho a d).mono ?_
    rintro e w1 ⟨rfl, rfl⟩
    exact ⟨rfl, h, Kept2.refl _ _ _⟩
end Go.Proofs.Ytcjahdgppnmdkaa
set_option maxRecDepth 100000
namespace Go.Proofs.Ytcjahdgppnmdkaa
open Go.RowKit Go.Great
def eraseSR (ρ : St) (s : Nat) : St × Bool :=
  if (stepR ρ).2 then ({ (stepR ρ).1 with C := onL (stepR ρ).1.C (s * 4096) 4096 fun _ _ => 255 }, true)
  else ({ (stepR ρ).1 with C := onL (stepR ρ).1.C (s * 4096) 4096 fun i c => c ||| arB (stepR ρ).1.jk i }, false)
def eraseRR (ρ : St) (s : Int) : St × Int :=
  if ρ.off then (ρ, 60) else if s = 0 ∨ s = 1 then ((eraseSR ρ s.toNat).1, if (eraseSR ρ s.toNat).2 then 0 else 60) else (ρ, 1)
theorem rerase_off (w : World) (X D cap : Nat) (ρ : St) (h : Rf w X D cap ρ) (ho : ρ.off = true) (s : Int) : Calls Try.prog 70 #[fp X, .int .i64 s] w fun e w' => e = .returned (.int .i64 60) ∧ w' = w := by
  have c1 := h.c1
  rw [ho] at c1
  clear ho h
  go_enter Try.func70, Try.ntmps70
  go_wp2_with fail
  go_ret
  exact ⟨rfl, rfl⟩
theorem rerase_out (w : World) (X D cap : Nat) (ρ : St) (h : Rf w X D cap ρ) (ho : ρ.off = false) (s : Int) (hs : ¬ (s = 0 ∨ s = 1)) : Calls Try.prog 70 #[fp X, .int .i64 s] w fun e w' => e = .returned (.int .i64 1) ∧ w' = w := by
  have c1 := h.c1
  rw [ho] at c1
  have q0 : (s != 0) = true := by simp; omega
  have q1 : (s != 1) = true := by simp; omega
  clear ho h hs
  go_enter Try.func70, Try.ntmps70
  go_wp2_with fail
  go_ret
  exact ⟨rfl, rfl⟩
set_option maxHeartbeats 1000000 in
set_option maxRecDepth 100000 in
/-- sector s, q: whether the test for sector 0 says no -/
theorem rerase_whole (w : World) (X D cap : Nat) (μ : St) (s o : Nat) (c1 : w.cell? ⟨X, 1, none⟩ = some (.bool false)) (hs : (s : Int) * 4096 = (o : Int)) (ho : o ≤ 4096)
    (S : Calls Try.prog 93 #[fp X] w fun e w' => e = .returned (.bool true) ∧ Rf w' X D cap μ ∧ Kept2 X D w w')
    (hq : ((s : Int) != 0) = false ∨ (((s : Int) != 0) = true ∧ ((s : Int) != 1) = false)) :
    Calls Try.prog 70 #[fp X, .int .i64 s] w fun e w' => e = .returned (.int .i64 0) ∧ Rf w' X D cap { μ with C := onL μ.C o 4096 fun _ _ => 255 } ∧ Kept2 X D w w' := by
  obtain ⟨n, hn⟩ : ∃ n, Hid (n = 4096) := ⟨_, hide rfl⟩
  rw [show onL μ.C o 4096 = onL μ.C o n by rw [hn.out]]
  have hw2 : IntKind.i64.wrap (o : Int) = (o : Int) := by rw [IntKind.wrap_i64]; omega
  rcases hq with hq | ⟨hq, hq1⟩
  all_goals
    go_enter Try.func70, Try.ntmps70
    go_wp2_with fail
    refine S.mono ?_
    rintro e w1 ⟨rfl, h1, k1⟩
    clear S c1
    go_wp2_with fail
    go_loopw [6] (fun v wr => ∃ i : Nat, v = .int .i64 (i : Int) ∧ i ≤ n ∧ Rf wr X D cap { μ with C := onL μ.C o i fun _ _ => 255 } ∧ Kept2 X D w wr) (fun v _ => n - (intOf v).toNat)
    case atStart => exact ⟨0, rfl, Nat.zero_le _, by rw [onL_zero]; exact h1, k1⟩
    case round =>
      obtain ⟨i, rfl, hi, hF, hK⟩ := hrel
      by_cases hlt : i < n
      · have hdd : decide ((i : Int) < 4096) = true := decide_eq_true (by have := hn.out; omega)
        have hlen : (onL μ.C o i fun _ _ => (255 : UInt8)).length = 8192 := hF.len
        have hlC : μ.C.length = 8192 := (onL_length μ.C o i fun _ _ => 255).symm.trans hlen
        obtain ⟨c, hc⟩ : ∃ c : Nat, (o : Int) + (i : Int) = (c : Int) := ⟨o + i, by omega⟩
        have hcN : o + i = c := by omega
        have hcl : c < μ.C.length := by have := hn.out; omega
        have c0 := hF.c0
        obtain ⟨m, hm⟩ : ∃ m, μ.C.length = m := ⟨_, rfl⟩
        rw [show ({ μ with C := onL μ.C o i fun _ _ => 255 } : St).C.length = m from (onL_length μ.C o i fun _ _ => 255).trans hm] at c0
        rw [hm] at hcl
        obtain ⟨u, cD⟩ : ∃ u, wr.cell? ⟨D, c, none⟩ = some u := ⟨_, (hF.row c (by show c < (onL μ.C o i fun _ _ => 255).length; rw [onL_length, hm]; exact hcl)).1⟩
        have fD := (hF.row c (by show c < (onL μ.C o i fun _ _ => 255).length; rw [onL_length, hm]; exact hcl)).2
        have hm9 : m ≤ 8192 := by omega
        have hn9 : n ≤ 4096 := by have := hn.out; omega
        have b1 : (0 : Int) ≤ (c : Int) := by omega
        have b2 : (c : Int) < (m : Int) := by omega
        have HC := hide (And.intro hcN (And.intro hlC hm))
        clear hcN hlC hm hlen
        go_wp2_with fail
        go_roundw
        case rel =>
          refine ⟨i + 1, by go_num, by omega, ?_, hK.setD _ _⟩
          have e := hF.setD (o + i) 255
          have e2 : onL μ.C o (i + 1) (fun _ _ => 255) = (onL μ.C o i fun _ _ => 255).set (o + i) 255 := by
            rw [← onL_succ _ _ _ _ (by rw [HC.out.2.2, HC.out.1]; exact hcl)]
          rw [e2]
          rw [HC.out.1] at e ⊢
          exact e
        case measure => simp [intOf]; omega
      · obtain rfl : i = n := by omega
        have hdd : decide ((i : Int) < 4096) = false := decide_eq_false (by have := hn.out; omega)
        go_wp2_with fail
        go_ret
        exact ⟨rfl, hF, hK⟩
set_option maxHeartbeats 1000000 in
set_option maxRecDepth 100000 in
theorem rerase_part (w : World) (X D cap : Nat) (μ : St) (s o : Nat) (c1 : w.cell? ⟨X, 1, none⟩ = some (.bool false)) (hs : (s : Int) * 4096 = (o : Int)) (ho : o ≤ 4096) (hj : μ.jk.size ≤ 140737488351232)
    (S : Calls Try.prog 93 #[fp X] w fun e w' => e = .returned (.bool false) ∧ Rf w' X D cap μ ∧ Kept2 X D w w')
    (hq : ((s : Int) != 0) = false ∨ (((s : Int) != 0) = true ∧ ((s : Int) != 1) = false)) :
    Calls Try.prog 70 #[fp X, .int .i64 s] w fun e w' => e = .returned (.int .i64 60) ∧ Rf w' X D cap { μ with C := onL μ.C o 4096 fun i c => c ||| arB μ.jk i } ∧ Kept2 X D w w' := by
  obtain ⟨n, hn⟩ : ∃ n, Hid (n = 4096) := ⟨_, hide rfl⟩
  rw [show onL μ.C o 4096 = onL μ.C o n by rw [hn.out]]
  have hw2 : IntKind.i64.wrap (o : Int) = (o : Int) := by rw [IntKind.wrap_i64]; omega
  have HJ := hide hj
  clear hj
  rcases hq with hq | ⟨hq, hq1⟩
  all_goals
    go_enter Try.func70, Try.ntmps70
    go_wp2_with fail
    refine S.mono ?_
    rintro e w1 ⟨rfl, h1, k1⟩
    clear S c1
    go_wp2_with fail
    go_loopw [6] (fun v wr => ∃ i : Nat, v = .int .i64 (i : Int) ∧ i ≤ n ∧ Rf wr X D cap { μ with C := onL μ.C o i fun i c => c ||| arB μ.jk i } ∧ Kept2 X D w wr) (fun v _ => n - (intOf v).toNat)
    case atStart => exact ⟨0, rfl, Nat.zero_le _, by rw [onL_zero]; exact h1, k1⟩
    case round =>
      obtain ⟨i, rfl, hi, hF, hK⟩ := hrel
      by_cases hlt : i < n
      · have hdd : decide ((i : Int) < 4096) = true := decide_eq_true (by have := hn.out; omega)
        have hlen : (onL μ.C o i fun i c => c ||| arB μ.jk i).length = 8192 := hF.len
        have hlC : μ.C.length = 8192 := (onL_length μ.C o i fun i c => c ||| arB μ.jk i).symm.trans hlen
        obtain ⟨c, hc⟩ : ∃ c : Nat, (o : Int) + (i : Int) = (c : Int) := ⟨o + i, by omega⟩
        have hcN : o + i = c := by omega
        have hcl : c < μ.C.length := by have := hn.out; omega
        have c0 := hF.c0
        have c4 : wr.cell? ⟨X, 4, none⟩ = some (.string μ.jk) := hF.c4
        obtain ⟨x, hx⟩ : ∃ x, Hid (μ.C.getD (o + i) 0 = x) := ⟨_, hide rfl⟩
        have hlt2 : c < (onL μ.C o i fun i c => c ||| arB μ.jk i).length := by rw [onL_length]; exact hcl
        have hg : (onL μ.C o i fun i c => c ||| arB μ.jk i)[c]'hlt2 = x := by
          rw [← getD_at _ 0, ← hcN, onL_next _ _ _ _ (by rw [hcN]; exact hcl)]
          exact hx.out
        have cD : wr.cell? ⟨D, c, none⟩ = some (.int .u8 (x.toNat : Int)) := by
          have := (hF.row c hlt2).1
          rw [this]
          exact congrArg (fun y : UInt8 => some (Value.int .u8 (y.toNat : Int))) hg
        have fD := (hF.row c hlt2).2
        obtain ⟨m, hm⟩ : ∃ m, μ.C.length = m := ⟨_, rfl⟩
        rw [show ({ μ with C := onL μ.C o i fun i c => c ||| arB μ.jk i } : St).C.length = m from (onL_length μ.C o i fun i c => c ||| arB μ.jk i).trans hm] at c0
        rw [hm] at hcl
        obtain ⟨u, hu⟩ : ∃ u, Hid (arB μ.jk i = u) := ⟨_, hide rfl⟩
        obtain ⟨z, hz⟩ : ∃ z, Hid (x ||| u = z) := ⟨_, hide rfl⟩
        have o1 : bits .or .u8 (x.toNat : Int) (u.toNat : Int) = (z.toNat : Int) := by rw [or8, hz.out]
        have A : ∀ k, Calls Try.prog 94 #[.string μ.jk, .int .i64 (i : Int)] (wr.drewN k) fun e w' => e = .returned (.int .u8 (u.toNat : Int)) ∧ w' = wr.drewN k := fun k => by
          have := rjunk_any (wr.drewN k) μ.jk i (by have := HJ.out; omega) (by have := hn.out; omega)
          rw [hu.out] at this
          exact this
        have hm9 : m ≤ 8192 := by omega
        have hn9 : n ≤ 4096 := by have := hn.out; omega
        have b1 : (0 : Int) ≤ (c : Int) := by omega
        have b2 : (c : Int) < (m : Int) := by omega
        have HC := hide (And.intro hcN (And.intro hlC hm))
        clear hcN hlC hm hlen hg hlt2
        go_wp2_with fail
        refine region_last 20 rfl rfl _ rfl (by kernel_rfl) (by kernel_rfl) (by kernel_rfl) ?_
        simp only [List.take_succ_cons, List.take_zero]
        repeat (quiet_step (first | (go_at_call 94; exact Calls.quiet_of_same (A _))))
        refine wpQuiet_nil ?_
        intro nq
        go_simp
        clear A o1 cD fD c0 c4
        go_wp2_with fail
        go_roundw
        case rel =>
          refine ⟨i + 1, by go_num, by omega, ?_, (hK.drewN nq).setD _ _⟩
          have e := (hF.drewN nq).setD (o + i) z
          have e2 : onL μ.C o (i + 1) (fun i c => c ||| arB μ.jk i) = (onL μ.C o i fun i c => c ||| arB μ.jk i).set (o + i) z := by
            rw [← onL_succ _ _ _ _ (by rw [HC.out.2.2, HC.out.1]; exact hcl), hx.out, hu.out, hz.out]
          rw [e2]
          rw [HC.out.1] at e ⊢
          exact e
        case measure => simp [intOf]; omega
      · obtain rfl : i = n := by omega
        have hdd : decide ((i : Int) < 4096) = false := decide_eq_false (by have := hn.out; omega)
        go_wp2_with fail
        go_ret
        exact ⟨rfl, hF, hK⟩
theorem rerase_any (w : World) (X D cap : Nat) (ρ : St) (h : Rf w X D cap ρ) (hj : ρ.jk.size ≤ 140737488351232) (s : Int) : Calls Try.prog 70 #[fp X, .int .i64 s] w fun e w' => e = .returned (.int .i64 (eraseRR ρ s).2) ∧ Rf w' X D cap (eraseRR ρ s).1 ∧ Kept2 X D w w' := by
  unfold eraseRR
  cases ho : ρ.off
  · by_cases hi : s = 0 ∨ s = 1
    · obtain ⟨k, rfl⟩ := Int.eq_ofNat_of_zero_le (show 0 ≤ s by omega)
      simp only [if_pos hi, Bool.false_eq_true, if_false]
      have hk : k < 2 := by omega
      have c1 := h.c1
      rw [ho] at c1
      have P := rstep_any w X D cap ρ h
      have hjk : (stepR ρ).1.jk.size ≤ 140737488351232 := by rw [stepR_jk]; exact hj
      have hq : ((k : Int) != 0) = false ∨ (((k : Int) != 0) = true ∧ ((k : Int) != 1) = false) := by
        rcases (show k = 0 ∨ k = 1 by omega) with e | e <;> subst e
        · exact .inl rfl
        · exact .inr ⟨rfl, rfl⟩
      show Calls Try.prog 70 #[fp X, .int .i64 (k : Int)] w fun e w' => e = .returned (.int .i64 (if (eraseSR ρ k).2 = true then 0 else 60)) ∧ Rf w' X D cap (eraseSR ρ k).1 ∧ Kept2 X D w w'
      unfold eraseSR
      cases hw : (stepR ρ).2
      · rw [hw] at P
        exact rerase_part w X D cap (stepR ρ).1 k (k * 4096) c1 (by omega) (by omega) hjk P hq
      · rw [hw] at P
        exact rerase_whole w X D cap (stepR ρ).1 k (k * 4096) c1 (by omega) (by omega) P hq
    · simp only [if_neg hi, Bool.false_eq_true, if_false]
      refine (rerase_out w X D cap ρ h ho s hi).mono ?_
      rintro e w1 ⟨rfl, rfl⟩
      exact ⟨rfl, h, Kept2.refl _ _ _⟩
  · refine (rerase_off w X D cap ρ h ho s).mono ?_
    rintro e w1 ⟨rfl, rfl⟩
    exact ⟨rfl, h, Kept2.refl _ _ _⟩
end Go.Proofs.Ytcjahdgppnmdkaa
set_option maxRecDepth 100000
namespace Go.Proofs.Ytcjahdgppnmdkaa
open Go.RowKit Go.Great
structure Rel (σ ρ : St) : Prop where
  C : σ.C = ρ.C
  off : σ.off = ρ.off
  ar : σ.ar = ρ.ar
  st : σ.st = ρ.st
  lf : σ.ar = true → σ.lf = ρ.lf
  jk : σ.ar = true → σ.jk = jkS ρ.jk
  js : σ.jk.size ≤ 4096
  jr : ρ.jk.size ≤ 140737488351232
theorem rel_new (C : List UInt8) : Rel (st0 C) (st0 C) := ⟨rfl, rfl, rfl, rfl, fun h => (by cases h), fun h => (by cases h), by show (0 : Nat) ≤ _; omega, by show (0 : Nat) ≤ _; omega⟩
theorem arB_jkS (j : ByteArray) (i : Nat) (hi : i < 4096) : arB (jkS j) i = arB j i := by
  have hl : (jkS j).data.toList = j.data.toList.take (min j.size 4096) := by
    unfold jkS
    rw [ByteArray.data_extract, Array.toList_extract]; simp
  have hs : (jkS j).size = min j.size 4096 := by unfold jkS; rw [ByteArray.size_extract]; omega
  unfold arB
  rw [hs, hl]
  by_cases h0 : j.size = 0
  · rw [if_pos (by omega), if_pos h0]
  · rw [if_neg (by omega), if_neg h0]
    by_cases h1 : j.size ≤ 4096
    · rw [Nat.min_eq_left h1, List.take_of_length_le (by rw [list_size]; omega)]
    · rw [Nat.min_eq_right (by omega), Nat.mod_eq_of_lt hi, Nat.mod_eq_of_lt (by omega), List.getD_eq_getElem?_getD, List.getD_eq_getElem?_getD, List.getElem?_take_of_lt hi]
theorem Rel.step {σ ρ : St} (h : Rel σ ρ) : Rel (stepS σ).1 (stepR ρ).1 ∧ (stepS σ).2.2 = (stepR ρ).2 ∧ ((stepS σ).2.2 = false → (stepS σ).2.1 = jkS ρ.jk) := by
  unfold stepS stepR
  by_cases hc : σ.ar = true ∧ σ.lf = 0
  · have hc2 : ρ.ar = true ∧ ρ.lf = 0 := ⟨by rw [← h.ar]; exact hc.1, by rw [← h.lf hc.1]; exact hc.2⟩
    rw [if_pos hc, if_pos hc2]
    exact ⟨⟨h.C, rfl, rfl, h.st, fun e => (by cases e), fun e => (by cases e), by show (0 : Nat) ≤ _; omega, h.jr⟩, rfl, fun _ => h.jk hc.1⟩
  · have hc2 : ¬ (ρ.ar = true ∧ ρ.lf = 0) := fun e => hc ⟨by rw [h.ar]; exact e.1, by rw [h.lf (by rw [h.ar]; exact e.1)]; exact e.2⟩
    rw [if_neg hc, if_neg hc2]
    refine ⟨⟨h.C, h.off, h.ar, ?_, fun e => ?_, h.jk, h.js, h.jr⟩, rfl, fun e => (by cases e)⟩
    · show wrap64 (σ.st + 1) = wrap64 (ρ.st + 1)
      rw [h.st]
    · have e' : σ.ar = true := e
      have e2 : ρ.ar = true := by rw [← h.ar]; exact e'
      show (if σ.ar = true then wrap64 (σ.lf - 1) else σ.lf) = (if ρ.ar = true then wrap64 (ρ.lf - 1) else ρ.lf)
      rw [if_pos e', if_pos e2, h.lf e']
theorem Rel.withC {σ ρ : St} (h : Rel σ ρ) (C : List UInt8) : Rel { σ with C := C } { ρ with C := C } := ⟨rfl, h.off, h.ar, h.st, h.lf, h.jk, h.js, h.jr⟩
theorem Rel.progB {σ ρ : St} (h : Rel σ ρ) (i : Nat) (b : UInt8) : Rel (progB σ i b).1 (progBR ρ i b).1 ∧ (progB σ i b).2 = (progBR ρ i b).2 := by
  obtain ⟨h1, h2, h3⟩ := h.step
  unfold Go.Proofs.Ytcjahdgppnmdkaa.progB progBR
  rw [← h2, h1.C]
  cases hw : (stepS σ).2.2
  · simp only [Bool.false_eq_true, if_false]
    have e : arB (stepS σ).2.1 0 = arB (stepR ρ).1.jk 0 := by rw [h3 hw, arB_jkS _ 0 (by omega), stepR_jk]
    rw [e]
    exact ⟨h1.withC _, by trivial⟩
  · simp only [if_true]
    exact ⟨h1.withC _, by trivial⟩
theorem Rel.progS (d : List UInt8) : ∀ {σ ρ : St} (_ : Rel σ ρ) (a : Nat), Rel (progS σ a d).1 (progSR ρ a d).1 ∧ (progS σ a d).2 = (progSR ρ a d).2 := by
  induction d with
  | nil => intro σ ρ h a; exact ⟨h, by trivial⟩
  | cons b t ih =>
    intro σ ρ h a
    obtain ⟨h1, h2⟩ := h.progB a b
    rw [Go.Proofs.Ytcjahdgppnmdkaa.progS, progSR, ← h2]
    cases hw : (Go.Proofs.Ytcjahdgppnmdkaa.progB σ a b).2
    · simp only [Bool.false_eq_true, if_false]
      exact ⟨h1, by trivial⟩
    · simp only [if_true]
      exact ih h1 (a + 1)
theorem Rel.prog {σ ρ : St} (h : Rel σ ρ) (a : Int) (d : ByteArray) : Rel (progR σ a d).1 (progRR ρ a d).1 ∧ (progR σ a d).2 = (progRR ρ a d).2 := by
  unfold progR progRR
  rw [← h.off]
  cases σ.off
  · simp only [Bool.false_eq_true, if_false]
    cases insideB a d.size
    · exact ⟨h, by trivial⟩
    · obtain ⟨h1, h2⟩ := Rel.progS d.data.toList h a.toNat
      simp only [if_true]
      rw [h2]
      exact ⟨h1, by trivial⟩
  · exact ⟨h, by trivial⟩
theorem Rel.erase {σ ρ : St} (h : Rel σ ρ) (s : Int) : Rel (eraseR σ s).1 (eraseRR ρ s).1 ∧ (eraseR σ s).2 = (eraseRR ρ s).2 := by
  unfold eraseR eraseRR
  rw [← h.off]
  cases σ.off
  · simp only [Bool.false_eq_true, if_false]
    by_cases hi : s = 0 ∨ s = 1
    · simp only [if_pos hi]
      obtain ⟨h1, h2, h3⟩ := h.step
      unfold eraseS eraseSR
      rw [← h2, h1.C]
      cases hw : (stepS σ).2.2
      · simp only [Bool.false_eq_true, if_false]
        rw [onL_congr (stepR ρ).1.C (s.toNat * 4096) 4096 (fun i c => c ||| arB (stepS σ).2.1 i) (fun i c => c ||| arB (stepR ρ).1.jk i) (fun i c hi => by rw [h3 hw, arB_jkS _ _ hi, stepR_jk])]
        exact ⟨h1.withC _, by trivial⟩
      · simp only [if_true]
        exact ⟨h1.withC _, by trivial⟩
    · simp only [if_neg hi]
      exact ⟨h, by trivial⟩
  · exact ⟨h, by trivial⟩
theorem Rel.cut {σ ρ : St} (h : Rel σ ρ) (n : Int) (j : ByteArray) (hj : j.size ≤ 140737488351232) : Rel (cutR σ n j).1 (cutRR ρ n j).1 ∧ (cutR σ n j).2 = (cutRR ρ n j).2 := by
  unfold cutR cutRR
  rw [← h.off]
  cases ho : σ.off
  · simp only [Bool.false_eq_true, if_false]
    by_cases hi : n < 0
    · simp only [if_pos hi]
      exact ⟨h, by trivial⟩
    · simp only [if_neg hi]
      exact ⟨⟨h.C, by first | rfl | exact h.off, rfl, h.st, fun _ => rfl, fun _ => rfl, jkS_size j, hj⟩, by trivial⟩
  · exact ⟨h, by trivial⟩
theorem Rel.on {σ ρ : St} (h : Rel σ ρ) : Rel (onS σ) (onR ρ) := ⟨h.C, rfl, rfl, h.st, fun e => (by cases e), fun e => (by cases e), by show (0 : Nat) ≤ _; omega, h.jr⟩
theorem Rel.read {σ ρ : St} (h : Rel σ ρ) (a n : Int) : readR σ a n = readR ρ a n := by
  unfold readR
  rw [h.off, h.C]
end Go.Proofs.Ytcjahdgppnmdkaa
