/- The reference's flash: Program. -/
import Derived.Test.YthccigikelinbaaRf2
import Derived.Test.YthccigikelinbaaRg
import Derived.Deep.RegionHeld3
import Derived.Deep.DeepCutAuto
namespace Go.Proofs.Ythccigikelinbaa
open Go.RowKit Go.Great

def progBR (ρ : St) (i : Nat) (b : UInt8) : St × Bool :=
  if (stepR ρ).2 then ({ (stepR ρ).1 with C := (stepR ρ).1.C.set i ((stepR ρ).1.C.getD i 0 &&& b) }, true)
  else ({ (stepR ρ).1 with C := (stepR ρ).1.C.set i ((stepR ρ).1.C.getD i 0 &&& (b ||| arB (stepR ρ).1.jk 0)) }, false)
theorem stepR_C (ρ : St) : (stepR ρ).1.C = ρ.C := by unfold stepR; split <;> rfl
theorem stepR_jk (ρ : St) : (stepR ρ).1.jk = ρ.jk := by unfold stepR; split <;> rfl
theorem progBR_jk (ρ : St) (i : Nat) (b : UInt8) : (progBR ρ i b).1.jk = ρ.jk := by
  unfold progBR; split <;> exact stepR_jk ρ
def progSR (ρ : St) (a : Nat) : List UInt8 → St × Bool
  | [] => (ρ, true)
  | b :: t => if (progBR ρ a b).2 then progSR (progBR ρ a b).1 (a + 1) t else ((progBR ρ a b).1, false)
def progRR (ρ : St) (a : Int) (d : ByteArray) : St × Int :=
  if ρ.off then (ρ, 60) else if insideB a d.size then ((progSR ρ a.toNat d.data.toList).1, if (progSR ρ a.toNat d.data.toList).2 then 0 else 60) else (ρ, 1)
theorem rprog_off (w : World) (X D cap : Nat) (ρ : St) (h : Rf w X D cap ρ) (ho : ρ.off = true) (a : Int) (d : ByteArray) : Calls Try.prog 53 #[fp X, .int .i64 a, .string d] w fun e w' => e = .returned (.int .i64 60) ∧ w' = w := by
  have c1 := h.c1
  rw [ho] at c1
  clear ho h
  go_enter Try.func53, Try.ntmps53
  go_wp2_with fail
  go_ret
  exact ⟨rfl, rfl⟩
theorem rprog_out (w : World) (X D cap : Nat) (ρ : St) (h : Rf w X D cap ρ) (ho : ρ.off = false) (a : Int) (ha : I64 a) (d : ByteArray) (hd : insideB a d.size = false) : Calls Try.prog 53 #[fp X, .int .i64 a, .string d] w fun e w' => e = .returned (.int .i64 1) ∧ w' = w := by
  have c1 := h.c1
  rw [ho] at c1
  have I := range_any w a d.size ha
  rw [hd] at I
  clear ho h hd
  go_enter Try.func53, Try.ntmps53
  go_wp2_with fail
  refine I.mono ?_
  rintro e w1 ⟨rfl, rfl⟩
  go_wp2_with fail
  go_ret
  exact ⟨rfl, rfl⟩
theorem Kept2.drewN {X D : Nat} {w w1 : World} (h : Kept2 X D w w1) (q : Nat) : Kept2 X D w (w1.drewN q) := h.trans ⟨rfl, rfl, rfl, Nat.le_refl _, fun _ _ _ _ => rfl⟩
theorem Rf.drewN {w : World} {X D cap : Nat} {ρ : St} (h : Rf w X D cap ρ) (q : Nat) : Rf (w.drewN q) X D cap ρ := ⟨h.len, h.ne, h.cle, h.lt, h.blk, h.row⟩
theorem cell_setD {w : World} {D X i k : Nat} (v : Value) (h : D ≠ X) : (w.setCell ⟨D, i, none⟩ v).cell? ⟨X, k, none⟩ = w.cell? ⟨X, k, none⟩ := World.cell?_setCell_other _ _ _ _ (by intro e; injection e with e1; exact h e1)
set_option maxHeartbeats 2000000 in
set_option maxRecDepth 100000 in
theorem rprog_in (w : World) (X D cap : Nat) (ρ : St) (h : Rf w X D cap ρ) (hj : ρ.jk.size ≤ 140737488351232) (ho : ρ.off = false) (a : Nat) (d : ByteArray) (hd : a + d.size ≤ 8192) : Calls Try.prog 53 #[fp X, .int .i64 a, .string d] w fun e w' => e = .returned (.int .i64 (if (progSR ρ a d.data.toList).2 then 0 else 60)) ∧ Rf w' X D cap (progSR ρ a d.data.toList).1 ∧ Kept2 X D w w' := by
  have c1 := h.c1
  rw [ho] at c1
  have I := range_any w a d.size (by unfold I64; omega)
  rw [show insideB (a : Int) d.size = true by unfold insideB; apply decide_eq_true; omega] at I
  have HJ := hide hj
  have hDX := hide h.ne
  clear ho hj
  obtain ⟨⟨ρf, okf⟩, hr⟩ : ∃ r, Hid (progSR ρ a d.data.toList = r) := ⟨_, hide rfl⟩
  rw [hr.out]
  simp only
  obtain ⟨v, hv⟩ : ∃ v : Int, Hid ((if okf then 0 else 60) = v) := ⟨_, hide rfl⟩
  rw [show (if okf = true then (0 : Int) else 60) = v from hv.out]
  go_enter Try.func53, Try.ntmps53
  go_wp2_with fail
  refine I.mono ?_
  rintro e w1 ⟨rfl, hw⟩
  obtain rfl := hw.symm
  clear hw I c1
  go_wp2_with fail
  go_loopw [7] (fun v wr => ∃ i τ, v = .int .i64 ((i : Nat) : Int) ∧ i ≤ d.size ∧ Rf wr X D cap τ ∧ Kept2 X D w wr ∧ τ.jk = ρ.jk ∧ Hid (progSR ρ a d.data.toList = progSR τ (a + i) (d.data.toList.drop i))) (fun v _ => d.size - (intOf v).toNat)
  case atStart => exact ⟨0, ρ, rfl, Nat.zero_le _, h, Kept2.refl _ _ _, rfl, hide rfl⟩
  case round =>
    obtain ⟨i, τ, rfl, hi, hF, hK, hj2, hE⟩ := hrel
    by_cases hlt : i < d.size
    · have hb : d.data.toList.drop i = d[i] :: d.data.toList.drop (i + 1) := by
        rw [List.drop_eq_getElem_cons (by rw [list_size]; exact hlt)]; rfl
      obtain ⟨b, hbb⟩ : ∃ b, d[i] = b := ⟨_, rfl⟩
      rw [hbb] at hb
      have hj3 := progBR_jk τ (a + i) b
      rw [hj2] at hj3
      have hE2 : Hid (progSR ρ a d.data.toList = if (progBR τ (a + i) b).2 then progSR (progBR τ (a + i) b).1 (a + i + 1) (d.data.toList.drop (i + 1)) else ((progBR τ (a + i) b).1, false)) := by
        show _ = _
        rw [hE.out, hb]; rfl
      have hC := stepR_C τ
      have hjk := stepR_jk τ
      rw [hj2] at hjk
      have S := rstep_any wr X D cap τ hF
      unfold progBR at hE2 hj3
      have HJ3 := hide hj3
      clear hb hE hj2 hj3
      obtain ⟨⟨μ, ok⟩, hrr⟩ : ∃ r, stepR τ = r := ⟨_, rfl⟩
      rw [hrr] at S hE2 HJ3 hC hjk
      clear hrr
      simp only at S hE2 HJ3 hC hjk
      have hl : a + i < μ.C.length := by rw [hC, hF.len]; omega
      have hg : μ.C.getD (a + i) 0 = μ.C[a + i] := getD_at _ _ hl
      obtain ⟨x, hx⟩ : ∃ x, Hid (μ.C[a + i] = x) := ⟨_, hide rfl⟩
      rw [hg, hx.out] at hE2 HJ3
      have HC := hide hC
      have HG := hide hg
      have HL := hide hl
      clear hC hg
      cases ok
      · obtain ⟨u, hu⟩ : ∃ u, Hid (arB μ.jk 0 = u) := ⟨_, hide rfl⟩
        obtain ⟨y, hy⟩ : ∃ y, Hid (b ||| u = y) := ⟨_, hide rfl⟩
        obtain ⟨z, hz⟩ : ∃ z, Hid (x &&& y = z) := ⟨_, hide rfl⟩
        rw [hu.out, hy.out, hz.out] at hE2
        go_wp2_with fail
        refine S.mono ?_
        rintro e w1 ⟨rfl, h1, k1⟩
        have c0 := h1.c0
        have c4 := h1.c4
        have cD : w1.cell? ⟨D, a + i, none⟩ = some (.int .u8 (x.toNat : Int)) := by rw [(h1.row (a + i) HL.out).1, hx.out]
        have fD := (h1.row (a + i) HL.out).2
        have A : ∀ wx, Calls Try.prog 67 #[.string μ.jk, .int .i64 0] wx fun e w' => e = .returned (.int .u8 (u.toNat : Int)) ∧ w' = wx := fun wx => by
          have := rjunk_any wx μ.jk 0 (by rw [hjk]; have := HJ.out; omega) (by omega)
          rw [hu.out] at this
          exact this
        have o1 : bits .or .u8 (b.toNat : Int) (u.toNat : Int) = (y.toNat : Int) := by rw [or8, hy.out]
        have a1 : bits .and .u8 (x.toNat : Int) (y.toNat : Int) = (z.toNat : Int) := by rw [and8, hz.out]
        obtain ⟨m, hm⟩ : ∃ m, μ.C.length = m := ⟨_, rfl⟩
        obtain ⟨jk, hjj⟩ : ∃ jk, Hid (μ.jk = jk) := ⟨_, hide rfl⟩
        rw [hm] at c0 hl
        rw [hjj.out] at c4 A
        have hm9 : m ≤ 8192 := by rw [← hm]; exact Nat.le_of_eq h1.len
        obtain ⟨c, hc⟩ : ∃ c : Nat, (a : Int) + (i : Int) = (c : Int) := ⟨a + i, by omega⟩
        have hcN : a + i = c := by omega
        rw [hcN] at cD fD hl
        have b1 : (0 : Int) ≤ (c : Int) := by omega
        have b2 : (c : Int) < (m : Int) := by omega
        have b3 : IntKind.i64.wrap (c : Int) = (c : Int) := by rw [IntKind.wrap_i64]; omega
        have HCN := hide hcN
        clear hcN
        have H1 := hide (And.intro h1 k1)
        have HM := hide hm
        clear h1 k1 S hjk hm
        go_wp2_with fail
        have i1 : (0 : Int) ≤ (i : Int) := by omega
        have i2 : (i : Int) < (d.size : Int) := by omega
        have i3 : (i : Int) ≤ (d.size : Int) := by omega
        have A2 : ∀ k, Calls Try.prog 67 #[.string jk, .int .i64 0] (w1.drewN k) fun e w' => e = .returned (.int .u8 (u.toNat : Int)) ∧ w' = w1.drewN k := fun k => A _
        refine region_last 27 rfl rfl _ rfl (by kernel_rfl) (by kernel_rfl) (by kernel_rfl) ?_
        simp only [List.take_succ_cons, List.take_zero]
        repeat (quiet_step (first | (go_at_call 67; exact Calls.quiet_of_same (A2 _))))
        refine wpQuiet_nil ?_
        intro nq
        go_simp
        clear A A2 o1 a1 cD fD c0 c4
        go_wp2_with fail
        go_ret
        have e := hE2.out
        simp only [Bool.false_eq_true, if_false] at e
        rw [hr.out] at e
        injection e with e1 e2
        subst e1 e2
        have e3 := hv.out
        subst e3
        refine ⟨rfl, ?_, (hK.trans (H1.out.2.drewN nq)).setD _ _⟩
        have := (H1.out.1.drewN nq).setD (a + i) z
        rw [HCN.out] at this ⊢
        exact this
      · obtain ⟨z, hz⟩ : ∃ z, Hid (x &&& b = z) := ⟨_, hide rfl⟩
        rw [hz.out] at hE2
        go_wp2_with fail
        refine S.mono ?_
        rintro e w1 ⟨rfl, h1, k1⟩
        have c0 := h1.c0
        have cD : w1.cell? ⟨D, a + i, none⟩ = some (.int .u8 (x.toNat : Int)) := by rw [(h1.row (a + i) HL.out).1, hx.out]
        have fD := (h1.row (a + i) HL.out).2
        have a1 : bits .and .u8 (x.toNat : Int) (b.toNat : Int) = (z.toNat : Int) := by rw [and8, hz.out]
        obtain ⟨m, hm⟩ : ∃ m, μ.C.length = m := ⟨_, rfl⟩
        rw [hm] at c0 hl
        have hm9 : m ≤ 8192 := by rw [← hm]; exact Nat.le_of_eq h1.len
        obtain ⟨c, hc⟩ : ∃ c : Nat, (a : Int) + (i : Int) = (c : Int) := ⟨a + i, by omega⟩
        have hcN : a + i = c := by omega
        rw [hcN] at cD fD hl
        have b1 : (0 : Int) ≤ (c : Int) := by omega
        have b2 : (c : Int) < (m : Int) := by omega
        have b3 : IntKind.i64.wrap (c : Int) = (c : Int) := by rw [IntKind.wrap_i64]; omega
        have HCN := hide hcN
        clear hcN
        have H1 := hide (And.intro h1 k1)
        have HM := hide hm
        have HJ1 : Hid (μ.jk = ρ.jk) := hide hjk
        clear h1 k1 S hjk hm
        go_wp2_with fail
        have i1 : (0 : Int) ≤ (i : Int) := by omega
        have i2 : (i : Int) < (d.size : Int) := by omega
        refine region_last 21 rfl rfl _ rfl (by kernel_rfl) (by kernel_rfl) (by kernel_rfl) ?_
        simp only [List.take_succ_cons, List.take_zero]
        repeat (quiet_step (fail))
        refine wpQuiet_nil ?_
        intro nq
        go_simp
        clear a1 cD fD c0
        go_wp2_with fail
        go_roundw
        case rel =>
          refine ⟨i + 1, { μ with C := μ.C.set (a + i) z }, by go_num, by omega, ?_, (hK.trans (H1.out.2.drewN nq)).setD _ _, HJ1.out, hide ?_⟩
          · have := (H1.out.1.drewN nq).setD (a + i) z
            rw [HCN.out] at this ⊢
            exact this
          · rw [hE2.out]; rfl
        case measure => simp [intOf]; omega
    · obtain rfl : i = d.size := by omega
      have hE2 := hE.out
      rw [List.drop_of_length_le (by rw [list_size]; exact Nat.le_refl _)] at hE2
      have HE := hide hE2
      clear hE hE2
      go_wp2_with fail
      go_ret
      have := HE.out
      rw [hr.out] at this
      injection this with e1 e2
      subst e1 e2
      have e3 := hv.out
      subst e3
      exact ⟨rfl, hF, hK⟩
theorem rprog_any (w : World) (X D cap : Nat) (ρ : St) (h : Rf w X D cap ρ) (hj : ρ.jk.size ≤ 140737488351232) (a : Int) (ha : I64 a) (d : ByteArray) : Calls Try.prog 53 #[fp X, .int .i64 a, .string d] w fun e w' => e = .returned (.int .i64 (progRR ρ a d).2) ∧ Rf w' X D cap (progRR ρ a d).1 ∧ Kept2 X D w w' := by
  unfold progRR
  cases ho : ρ.off
  · cases hi : insideB a d.size
    · refine (rprog_out w X D cap ρ h ho a ha d hi).mono ?_
      rintro e w1 ⟨rfl, rfl⟩
      exact ⟨rfl, h, Kept2.refl _ _ _⟩
    · obtain ⟨h1, h2, h3⟩ := insideB_true hi
      obtain ⟨k, rfl⟩ := Int.eq_ofNat_of_zero_le h1
      refine (rprog_in w X D cap ρ h hj ho k d (by omega)).mono ?_
      rintro e w1 ⟨rfl, h1, h2⟩
      exact ⟨rfl, h1, h2⟩
  · refine (rprog_off w X D cap ρ h ho a d).mono ?_
    rintro e w1 ⟨rfl, rfl⟩
    exact ⟨rfl, h, Kept2.refl _ _ _⟩
end Go.Proofs.Ythccigikelinbaa
