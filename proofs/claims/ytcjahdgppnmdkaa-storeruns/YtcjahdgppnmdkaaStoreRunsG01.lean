/- No3, No4, No5, NoP. -/
import Derived.Test.YtcjahdgppnmdkaaStoreRunsG00
import Derived.Deep.RegionHeld3
set_option maxRecDepth 100000
namespace Go.Proofs.Ytcjahdgppnmdkaa
open Go.RowKit Go.Great
/-- one byte that is programmed -/
def progB (σ : St) (i : Nat) (b : UInt8) : St × Bool :=
  if (stepS σ).2.2 then ({ (stepS σ).1 with C := (stepS σ).1.C.set i ((stepS σ).1.C.getD i 0 &&& b) }, true)
  else ({ (stepS σ).1 with C := (stepS σ).1.C.set i ((stepS σ).1.C.getD i 0 &&& (b ||| arB (stepS σ).2.1 0)) }, false)
theorem stepS_C (σ : St) : (stepS σ).1.C = σ.C := by unfold stepS; split <;> rfl
set_option maxRecDepth 100000 in
theorem progB_any (w : World) (R : Nat) (σ : St) (h : Fl w R σ) (hj : σ.jk.size ≤ 9223372036854775807) (i : Nat) (hi : i < 8192) (b : UInt8) : Calls Try.prog 110 #[fp R, .int .i64 i, .int .u8 (b.toNat : Int)] w fun e w' => e = .returned (.int .i64 (if (progB σ i b).2 then 0 else 60)) ∧ Fl w' R (progB σ i b).1 ∧ Kept R w w' := by
  have S := step_any w R σ h
  have hjj : (stepS σ).2.1.size ≤ 9223372036854775807 := by
    unfold stepS; split
    · exact hj
    · show (0 : Nat) ≤ _; omega
  have hC := stepS_C σ
  unfold progB
  obtain ⟨⟨τ, jk, wh⟩, hs⟩ : ∃ x, stepS σ = x := ⟨_, rfl⟩
  rw [hs] at S hjj hC ⊢
  simp only at S hjj hC ⊢
  clear hs
  have hl : i < τ.C.length := by rw [hC, h.len]; exact hi
  have hg : τ.C.getD i 0 = τ.C[i] := by rw [List.getD_eq_getElem?_getD, List.getElem?_eq_getElem hl]; rfl
  rw [hg]
  clear hC
  obtain ⟨x, hx⟩ : ∃ x, Hid (τ.C[i] = x) := ⟨_, hide rfl⟩
  go_enter Try.func110, Try.ntmps110
  go_wp2_with fail
  refine S.mono ?_
  rintro e w1 ⟨rfl, h1, k1⟩
  have c : w1.cell? ⟨R, i, none⟩ = some (.int .u8 (x.toNat : Int)) := by rw [h1.cell i hl, hx.out]
  have f := h1.frozen i
  have hi' : (i : Int) < 8192 := by omega
  cases wh
  · obtain ⟨u, hu⟩ : ∃ u, Hid (arB jk 0 = u) := ⟨_, hide rfl⟩
    have A : ∀ wx, Calls Try.prog 107 #[.string jk, .int .i64 0] wx fun e w' => e = .returned (.int .u8 (u.toNat : Int)) ∧ w' = wx := fun wx => by
      have := around_any wx jk 0 hjj (by omega)
      rw [hu.out] at this
      exact this
    obtain ⟨y, hy⟩ : ∃ y, Hid (b ||| u = y) := ⟨_, hide rfl⟩
    have o1 : bits .or .u8 (b.toNat : Int) (u.toNat : Int) = (y.toNat : Int) := by rw [or8, hy.out]
    obtain ⟨z, hz⟩ : ∃ z, Hid (x &&& y = z) := ⟨_, hide rfl⟩
    have a1 : bits .and .u8 (x.toNat : Int) (y.toNat : Int) = (z.toNat : Int) := by rw [and8, hz.out]
    go_wp2_with fail
    go_region_with (go_at_call 107; refine (A _).mono ?_; rintro e w2 ⟨rfl, rfl⟩)
    all_goals
      clear o1 a1 A c f S hi'
      go_wp2_with fail
      go_ret
      refine ⟨by rfl, ?_, (k1.set _ _).drew⟩
      show Fl _ R { τ with C := τ.C.set i (τ.C[i] &&& (b ||| arB jk 0)) }
      rw [hx.out, hu.out, hy.out, hz.out]
      exact (h1.setCell i z hl).drew
  · obtain ⟨z, hz⟩ : ∃ z, Hid (x &&& b = z) := ⟨_, hide rfl⟩
    have a1 : bits .and .u8 (x.toNat : Int) (b.toNat : Int) = (z.toNat : Int) := by rw [and8, hz.out]
    go_wp2_with fail
    go_region
    go_wp2_with fail
    go_ret
    refine ⟨by rfl, ?_, (k1.set _ _).drew⟩
    show Fl _ R { τ with C := τ.C.set i (τ.C[i] &&& b) }
    rw [hx.out, hz.out]
    exact (h1.setCell i z hl).drew
/-- cells that are filled -/
theorem fill_any (w : World) (R : Nat) (σ : St) (h : Fl w R σ) (o n cap : Nat) (hn : o + n ≤ 8192) : Calls Try.prog 47 #[.slice (some ⟨R, o, none⟩) n cap] w fun e w' => e = .returned (.tuple #[]) ∧ Fl w' R { σ with C := onL σ.C o n fun _ _ => 255 } ∧ Kept R w w' := by
  have hl := h.len
  go_enter Try.func47, Try.ntmps47
  go_wp2_with fail
  go_loopw [5] (fun v5 wr => ∃ i : Nat, v5 = .int .i64 (i : Int) ∧ i ≤ n ∧ Fl wr R { σ with C := onL σ.C o i fun _ _ => 255 } ∧ Kept R w wr) (fun v5 _ => n - (intOf v5).toNat)
  case atStart => exact ⟨0, rfl, Nat.zero_le _, by rw [onL_zero]; exact h, Kept.refl _ _⟩
  case round =>
    obtain ⟨i, rfl, hi, hF, hK⟩ := hrel
    by_cases hlt : i < n
    · have hio : o + i < σ.C.length := by omega
      have c := hF.cell (o + i) (by rw [onL_length]; exact hio)
      have f := hF.frozen (o + i)
      go_wp2_with fail
      go_roundw
      case rel =>
        refine ⟨i + 1, by go_num, by omega, ?_, hK.set _ _⟩
        have := hF.setCell (o + i) 255 (by rw [onL_length]; exact hio)
        rw [← onL_succ _ _ _ _ hio]
        exact this
      case measure => simp [intOf]; omega
    · obtain rfl : i = n := by omega
      go_wp2_with fail
      go_end0
      exact ⟨rfl, hF, hK⟩
end Go.Proofs.Ytcjahdgppnmdkaa
set_option maxRecDepth 100000
namespace Go.Proofs.Ytcjahdgppnmdkaa
open Go.RowKit Go.Great
theorem progB_jk (σ : St) (i : Nat) (b : UInt8) (h : σ.jk.size ≤ 4096) : (progB σ i b).1.jk.size ≤ 4096 := by
  have : (stepS σ).1.jk.size ≤ 4096 := by
    unfold stepS; split
    · show (0 : Nat) ≤ _; omega
    · exact h
  unfold progB; split <;> exact this
/-- bytes that are programmed -/
def progS (σ : St) (a : Nat) : List UInt8 → St × Bool
  | [] => (σ, true)
  | b :: t => if (progB σ a b).2 then progS (progB σ a b).1 (a + 1) t else ((progB σ a b).1, false)
def progR (σ : St) (a : Int) (d : ByteArray) : St × Int :=
  if σ.off then (σ, 60) else if insideB a d.size then ((progS σ a.toNat d.data.toList).1, if (progS σ a.toNat d.data.toList).2 then 0 else 60) else (σ, 1)
theorem prog_nil (w : World) (a : Int) (d : ByteArray) : Calls Try.prog 96 #[.pointer none, .int .i64 a, .string d] w fun e w' => e = .returned (.int .i64 2) ∧ w' = w := by
  go_enter Try.func96, Try.ntmps96
  go_wp2_with fail
  refine (ready_nil w).mono ?_
  rintro e w1 ⟨rfl, rfl⟩
  go_wp2_with fail
  go_ret
  exact ⟨rfl, rfl⟩
theorem prog_off (w : World) (R : Nat) (σ : St) (h : Fl w R σ) (ho : σ.off = true) (a : Int) (d : ByteArray) : Calls Try.prog 96 #[fp R, .int .i64 a, .string d] w fun e w' => e = .returned (.int .i64 60) ∧ w' = w := by
  have S := ready_any w R σ h
  rw [ho] at S
  go_enter Try.func96, Try.ntmps96
  go_wp2_with fail
  refine S.mono ?_
  rintro e w1 ⟨rfl, rfl⟩
  go_wp2_with fail
  go_ret
  exact ⟨rfl, rfl⟩
theorem prog_out (w : World) (R : Nat) (σ : St) (h : Fl w R σ) (ho : σ.off = false) (a : Int) (ha : I64 a) (d : ByteArray) (hd : insideB a d.size = false) : Calls Try.prog 96 #[fp R, .int .i64 a, .string d] w fun e w' => e = .returned (.int .i64 1) ∧ w' = w := by
  have S := ready_any w R σ h
  rw [ho] at S
  have I := inside_any w a d.size ha
  rw [hd] at I
  go_enter Try.func96, Try.ntmps96
  go_wp2_with fail
  refine S.mono ?_
  rintro e w1 ⟨rfl, rfl⟩
  go_wp2_with fail
  refine I.mono ?_
  rintro e w1 ⟨rfl, rfl⟩
  go_wp2_with fail
  go_ret
  exact ⟨rfl, rfl⟩
theorem prog_in (w : World) (R : Nat) (σ : St) (h : Fl w R σ) (hj : σ.jk.size ≤ 4096) (ho : σ.off = false) (a : Nat) (d : ByteArray) (hd : a + d.size ≤ 8192) : Calls Try.prog 96 #[fp R, .int .i64 a, .string d] w fun e w' => e = .returned (.int .i64 (if (progS σ a d.data.toList).2 then 0 else 60)) ∧ Fl w' R (progS σ a d.data.toList).1 ∧ Kept R w w' := by
  have S := ready_any w R σ h
  rw [ho] at S
  have I := inside_any w a d.size (by unfold I64; omega)
  rw [show insideB (a : Int) d.size = true by unfold insideB; apply decide_eq_true; omega] at I
  obtain ⟨⟨ρf, okf⟩, hr⟩ : ∃ r, Hid (progS σ a d.data.toList = r) := ⟨_, hide rfl⟩
  rw [hr.out]
  simp only
  obtain ⟨v, hv⟩ : ∃ v : Int, Hid ((if okf then 0 else 60) = v) := ⟨_, hide rfl⟩
  rw [show (if okf = true then (0 : Int) else 60) = v from hv.out]
  go_enter Try.func96, Try.ntmps96
  go_wp2_with fail
  refine S.mono ?_
  rintro e w1 ⟨rfl, hw⟩
  obtain rfl := hw.symm
  clear hw
  go_wp2_with fail
  refine I.mono ?_
  rintro e w1 ⟨rfl, hw⟩
  obtain rfl := hw.symm
  clear hw
  clear S I
  go_wp2_with fail
  go_loopw [22] (fun v wr => ∃ i τ, v = .int .i64 ((i : Nat) : Int) ∧ i ≤ d.size ∧ Fl wr R τ ∧ Kept R w wr ∧ τ.jk.size ≤ 4096 ∧ Hid (progS σ a d.data.toList = progS τ (a + i) (d.data.toList.drop i))) (fun v _ => d.size - (intOf v).toNat)
  case atStart => exact ⟨0, σ, rfl, Nat.zero_le _, h, Kept.refl _ _, hj, hide rfl⟩
  case round =>
    obtain ⟨i, τ, rfl, hi, hF, hK, hj2, hE⟩ := hrel
    by_cases hlt : i < d.size
    · have hb : d.data.toList.drop i = d[i] :: d.data.toList.drop (i + 1) := by
        rw [List.drop_eq_getElem_cons (by rw [list_size]; exact hlt)]; rfl
      have P := progB_any wr R τ hF (by omega) (a + i) (by omega) d[i]
      have hj3 := progB_jk τ (a + i) d[i] hj2
      have hE2 : Hid (progS σ a d.data.toList = if (progB τ (a + i) d[i]).2 then progS (progB τ (a + i) d[i]).1 (a + i + 1) (d.data.toList.drop (i + 1)) else ((progB τ (a + i) d[i]).1, false)) := by
        show _ = _
        rw [hE.out, hb]; rfl
      clear hb hE hj2
      obtain ⟨⟨ρ, ok⟩, hr⟩ : ∃ r, progB τ (a + i) d[i] = r := ⟨_, rfl⟩
      rw [hr] at P hE2 hj3
      clear hr
      simp only at P hE2 hj3
      rw [show ((a + i : Nat) : Int) = (a : Int) + (i : Int) from by omega] at P
      cases ok
      · go_wp2_with fail
        refine P.mono ?_
        rintro e w1 ⟨rfl, h1, k1⟩
        go_wp2_with fail
        go_ret
        have := hE2.out
        simp only [Bool.false_eq_true, if_false] at this
        rw [hr.out] at this
        injection this with e1 e2
        subst e1 e2
        have e3 := hv.out
        subst e3
        exact ⟨rfl, h1, hK.trans k1⟩
      · go_wp2_with fail
        refine P.mono ?_
        rintro e w1 ⟨rfl, h1, k1⟩
        go_wp2_with fail
        go_roundw
        case rel => exact ⟨i + 1, ρ, by go_num, by omega, h1, hK.trans k1, hj3, hide (by rw [hE2.out]; rfl)⟩
        case measure => simp [intOf]; omega
    · obtain rfl : i = d.size := by omega
      have hE2 := hE.out
      rw [List.drop_of_length_le (by rw [list_size]; exact Nat.le_refl _)] at hE2
      have HE := hide hE2
      clear hE hE2
      go_wp2_with fail
      go_ret
      have := HE.out
      rw [hr.out] at this
      injection this with e1 e2
      subst e1 e2
      have e3 := hv.out
      subst e3
      exact ⟨rfl, hF, hK⟩
theorem insideB_true {a n : Int} (h : insideB a n = true) : 0 ≤ a ∧ 0 ≤ n ∧ a + n ≤ 8192 := of_decide_eq_true h
theorem prog_any (w : World) (R : Nat) (σ : St) (h : Fl w R σ) (hj : σ.jk.size ≤ 4096) (a : Int) (ha : I64 a) (d : ByteArray) : Calls Try.prog 96 #[fp R, .int .i64 a, .string d] w fun e w' => e = .returned (.int .i64 (progR σ a d).2) ∧ Fl w' R (progR σ a d).1 ∧ Kept R w w' := by
  unfold progR
  cases ho : σ.off
  · cases hi : insideB a d.size
    · refine (prog_out w R σ h ho a ha d hi).mono ?_
      rintro e w1 ⟨rfl, rfl⟩
      exact ⟨rfl, h, Kept.refl _ _⟩
    · obtain ⟨h1, h2, h3⟩ := insideB_true hi
      obtain ⟨k, rfl⟩ := Int.eq_ofNat_of_zero_le h1
      refine (prog_in w R σ h hj ho k d (by omega)).mono ?_
      rintro e w1 ⟨rfl, h1, h2⟩
      exact ⟨rfl, h1, h2⟩
  · refine (prog_off w R σ h ho a d).mono ?_
    rintro e w1 ⟨rfl, rfl⟩
    exact ⟨rfl, h, Kept.refl _ _⟩
end Go.Proofs.Ytcjahdgppnmdkaa
set_option maxRecDepth 100000
namespace Go.Proofs.Ytcjahdgppnmdkaa
open Go.RowKit Go.Great
theorem image_nil (w : World) : Calls Try.prog 26 #[.pointer none] w fun e w' => e = .returned (.string ⟨#[]⟩) ∧ w' = w := by
  go_enter Try.func26, Try.ntmps26
  go_wp2
  go_ret
  exact ⟨rfl, rfl⟩
theorem image_any (w : World) (R : Nat) (σ : St) (h : Fl w R σ) : Calls Try.prog 26 #[fp R] w fun e w' => e = .returned (.string (bs σ.C)) ∧ w' = w := by
  have T := told_any w ⟨R, 0, none⟩ 8192 σ.C (fun j hj => by rw [Addr.add0]; exact h.cell j hj)
  rw [h.len] at T
  go_enter Try.func26, Try.ntmps26
  go_wp2_with fail
  refine T.mono ?_
  rintro e w1 ⟨rfl, rfl⟩
  go_wp2_with fail
  go_ret
  exact ⟨rfl, rfl⟩
theorem steps_nil (w : World) : Calls Try.prog 25 #[.pointer none] w fun e w' => e = .returned (.int .i64 0) ∧ w' = w := by
  go_enter Try.func25, Try.ntmps25
  go_wp2
  go_ret
  exact ⟨rfl, rfl⟩
theorem steps_any (w : World) (R : Nat) (σ : St) (h : Fl w R σ) : Calls Try.prog 25 #[fp R] w fun e w' => e = .returned (.int .i64 σ.st) ∧ w' = w := by
  have h1 := h.c1
  go_enter Try.func25, Try.ntmps25
  go_wp2
  go_ret
  exact ⟨rfl, rfl⟩
theorem on_nil (w : World) : Calls Try.prog 28 #[.pointer none] w fun e w' => e = .returned (.tuple #[]) ∧ w' = w := by
  go_enter Try.func28, Try.ntmps28
  go_wp2
  refine bodyPost_ret (results_none rfl _ _ _) rfl ?_
  exact ⟨rfl, rfl⟩
def onS (σ : St) : St := { σ with off := false, ar := false, lf := 0, jk := ⟨#[]⟩ }
theorem on_any (w : World) (R : Nat) (σ : St) (h : Fl w R σ) : Calls Try.prog 28 #[fp R] w fun e w' => e = .returned (.tuple #[]) ∧ Fl w' R (onS σ) ∧ Kept R w w' := by
  have h0 := h.c0
  have h2 := h.c2
  have h3 := h.c3
  have h4 := h.c4
  have f0 := h.frozen 8192
  have f2 := h.frozen 8194
  have f3 := h.frozen 8195
  have f4 := h.frozen 8196
  go_enter Try.func28, Try.ntmps28
  go_wp2
  go_end0
  exact ⟨rfl, (((h.s0 false).s2 false).s3 0).s4 ⟨#[]⟩, ((((Kept.refl _ _).set _ _).set _ _).set _ _).set _ _⟩
/-- what Read answers -/
def readR (σ : St) (a n : Int) : ByteArray × Int :=
  if σ.off then (⟨#[]⟩, 60) else if insideB a n then (bs ((σ.C.drop a.toNat).take n.toNat), 0) else (⟨#[]⟩, 1)
theorem read_nil (w : World) (a n : Int) : Calls Try.prog 39 #[.pointer none, .int .i64 a, .int .i64 n] w fun e w' => e = .returned (.tuple #[.string ⟨#[]⟩, .int .i64 2]) ∧ w' = w := by
  go_enter Try.func39, Try.ntmps39
  go_wp2_with fail
  refine (ready_nil w).mono ?_
  rintro e w1 ⟨rfl, rfl⟩
  go_wp2_with fail
  go_ret2
  exact ⟨rfl, rfl⟩
theorem cut_cells (R a n : Nat) (hi : a + n ≤ 8192) : ∃ X, (n = 0 ∨ X = (⟨R, a, none⟩ : Addr)) ∧ ∀ w, (Instr.sliceAt 96 (.pointer (some ⟨R, 0, none⟩)) (some (.int .i64 (a : Int))) (some (.int .i64 ((a : Int) + (n : Int)))) none).run Try.prog w = .ok (.slice (some X) n (8192 - a)) w := by
  refine ⟨if 8192 = a then ⟨R, 0, none⟩ else Addr.add ⟨R, 0, none⟩ (a * 1), ?_, fun w => ?_⟩
  · by_cases h : 8192 = a
    · exact .inl (by omega)
    · right; rw [if_neg h, Addr.add0, Nat.mul_one]
  · rw [run_sliceAt_array_lh w 96 ⟨R, 0, none⟩ (by kernel_rfl) .i64 .i64 (a : Int) ((a : Int) + (n : Int)) (by omega) (by omega) (by rw [show Try.prog.arrayLen 96 = 8192 by kernel_rfl]; omega)]
    rw [show Try.prog.arrayLen 96 = 8192 by kernel_rfl, show Try.prog.elem 96 = 5 by kernel_rfl, Try.sizeOf5]
    simp only [Result.andThen_ok, slicedAt]
    rw [show ((a : Int)).toNat = a by omega, show ((a : Int) + (n : Int)).toNat - a = n by omega]
theorem read_in (w : World) (R : Nat) (σ : St) (h : Fl w R σ) (ho : σ.off = false) (a n : Nat) (hi : a + n ≤ 8192) : Calls Try.prog 39 #[fp R, .int .i64 a, .int .i64 n] w fun e w' => e = .returned (.tuple #[.string (bs ((σ.C.drop a).take n)), .int .i64 0]) ∧ w' = w := by
  have S := ready_any w R σ h
  rw [ho] at S
  have I := inside_any w a n (by unfold I64; omega)
  rw [show insideB (a : Int) n = true by unfold insideB; apply decide_eq_true; omega] at I
  have hl : ((σ.C.drop a).take n).length = n := by rw [List.length_take, List.length_drop, h.len]; omega
  have T : ∀ x cap, (n = 0 ∨ x = ⟨R, a, none⟩) → Calls Try.prog 54 #[.slice (some x) n cap] w fun e w' => e = .returned (.string (bs ((σ.C.drop a).take n))) ∧ w' = w := by
    intro x cap hx
    have := told_any w x cap ((σ.C.drop a).take n) (fun j hj => by
      rw [hl] at hj
      rcases hx with hx | hx
      · omega
      · subst hx
        rw [Addr.addi, h.cell (a + j) (by rw [h.len]; omega)]
        simp)
    rw [hl] at this
    exact this
  go_enter Try.func39, Try.ntmps39
  go_wp2_with fail
  refine S.mono ?_
  rintro e w1 ⟨rfl, hw⟩
  obtain rfl := hw.symm
  clear hw
  go_wp2_with fail
  refine I.mono ?_
  rintro e w1 ⟨rfl, hw⟩
  obtain rfl := hw.symm
  clear hw
  clear S I
  obtain ⟨X, hX, hc⟩ := cut_cells R a n hi
  have T2 := T X (8192 - a) hX
  clear T hX
  go_wp2_with fail
  refine T2.mono ?_
  rintro e w1 ⟨rfl, rfl⟩
  go_wp2_with fail
  go_ret2
  exact ⟨rfl, rfl⟩
theorem read_off (w : World) (R : Nat) (σ : St) (h : Fl w R σ) (ho : σ.off = true) (a n : Int) : Calls Try.prog 39 #[fp R, .int .i64 a, .int .i64 n] w fun e w' => e = .returned (.tuple #[.string ⟨#[]⟩, .int .i64 60]) ∧ w' = w := by
  have S := ready_any w R σ h
  rw [ho] at S
  go_enter Try.func39, Try.ntmps39
  go_wp2_with fail
  refine S.mono ?_
  rintro e w1 ⟨rfl, rfl⟩
  go_wp2_with fail
  go_ret2
  exact ⟨rfl, rfl⟩
theorem read_out (w : World) (R : Nat) (σ : St) (h : Fl w R σ) (ho : σ.off = false) (a n : Int) (ha : I64 a) (hd : insideB a n = false) : Calls Try.prog 39 #[fp R, .int .i64 a, .int .i64 n] w fun e w' => e = .returned (.tuple #[.string ⟨#[]⟩, .int .i64 1]) ∧ w' = w := by
  have S := ready_any w R σ h
  rw [ho] at S
  have I := inside_any w a n ha
  rw [hd] at I
  go_enter Try.func39, Try.ntmps39
  go_wp2_with fail
  refine S.mono ?_
  rintro e w1 ⟨rfl, rfl⟩
  go_wp2_with fail
  refine I.mono ?_
  rintro e w1 ⟨rfl, rfl⟩
  go_wp2_with fail
  go_ret2
  exact ⟨rfl, rfl⟩
theorem read_any (w : World) (R : Nat) (σ : St) (h : Fl w R σ) (a n : Int) (ha : I64 a) : Calls Try.prog 39 #[fp R, .int .i64 a, .int .i64 n] w fun e w' => e = .returned (.tuple #[.string (readR σ a n).1, .int .i64 (readR σ a n).2]) ∧ w' = w := by
  unfold readR
  cases ho : σ.off
  · cases hi : insideB a n
    · exact read_out w R σ h ho a n ha hi
    · obtain ⟨h1, h2, h3⟩ := insideB_true hi
      obtain ⟨k, rfl⟩ := Int.eq_ofNat_of_zero_le h1
      obtain ⟨m, rfl⟩ := Int.eq_ofNat_of_zero_le h2
      exact read_in w R σ h ho k m (by omega)
  · exact read_off w R σ h ho a n
end Go.Proofs.Ytcjahdgppnmdkaa
set_option maxRecDepth 100000
namespace Go.Proofs.Ytcjahdgppnmdkaa
open Go.RowKit Go.Great
theorem wrap_id (n : Int) (h : -9223372036854775808 ≤ n ∧ n ≤ 9223372036854775807) : wrap64 n = n := by unfold wrap64; omega
def andL (d : List UInt8) (i : Nat) (c : UInt8) : UInt8 := c &&& d.getD i 0
theorem onL_cons (C : List UInt8) (a : Nat) (b : UInt8) (d : List UInt8) (h : a < C.length) : onL (C.set a (C.getD a 0 &&& b)) (a + 1) d.length (andL d) = onL C a (d.length + 1) (andL (b :: d)) := by
  apply List.ext_getElem
  · simp [onL]
  · intro k h1 h2
    have hk : k < C.length := by simpa [onL] using h2
    rw [onL_at, onL_at]
    simp only [List.getElem_set]
    by_cases e : a = k
    · subst e
      rw [if_neg (by omega), if_pos rfl, if_pos (by omega), Nat.sub_self, getD_at _ _ h]
      rfl
    · simp only [if_neg e]
      by_cases c : a + 1 ≤ k ∧ k < a + 1 + d.length
      · rw [if_pos c, if_pos (by omega)]
        obtain ⟨m, hm⟩ : ∃ m, k - a = m + 1 := ⟨k - a - 1, by omega⟩
        rw [hm, show k - (a + 1) = m by omega]
        rfl
      · rw [if_neg c, if_neg (by omega)]
theorem stepS_pre (σ : St) (har : σ.ar = true → 1 ≤ σ.lf ∧ σ.lf ≤ 9223372036854775807) (h0 : 0 ≤ σ.st) (h1 : σ.st + 1 ≤ 9223372036854775807) : stepS σ = ({ σ with lf := if σ.ar then σ.lf - 1 else σ.lf, st := σ.st + 1 }, ⟨#[]⟩, true) := by
  unfold stepS
  have e1 : wrap64 (σ.st + 1) = σ.st + 1 := wrap_id _ (by omega)
  have e3 : (if σ.ar = true then wrap64 (σ.lf - 1) else σ.lf) = if σ.ar = true then σ.lf - 1 else σ.lf := by
    by_cases hr : σ.ar = true
    · have := har hr
      rw [if_pos hr, if_pos hr, wrap_id _ (by omega)]
    · rw [if_neg hr, if_neg hr]
  have e2 : ¬ (σ.ar = true ∧ σ.lf = 0) := by intro hc; have := har hc.1; omega
  rw [if_neg e2, e1, e3]
theorem progB_pre (σ : St) (a : Nat) (b : UInt8) (har : σ.ar = true → 1 ≤ σ.lf ∧ σ.lf ≤ 9223372036854775807) (h0 : 0 ≤ σ.st) (h1 : σ.st + 1 ≤ 9223372036854775807) : progB σ a b = ({ σ with C := σ.C.set a (σ.C.getD a 0 &&& b), lf := if σ.ar then σ.lf - 1 else σ.lf, st := σ.st + 1 }, true) := by
  unfold progB
  rw [stepS_pre σ har h0 h1]
  rfl
theorem progS_pre (d : List UInt8) : ∀ (σ : St) (a : Nat), (σ.ar = true → (d.length : Int) ≤ σ.lf ∧ σ.lf ≤ 9223372036854775807) → a + d.length ≤ σ.C.length → 0 ≤ σ.st → σ.st + d.length ≤ 9223372036854775807 →
    progS σ a d = ({ σ with C := onL σ.C a d.length (andL d), st := σ.st + d.length, lf := if σ.ar then σ.lf - d.length else σ.lf }, true) := by
  induction d with
  | nil =>
    intro σ a _ _ _ _
    rw [progS, List.length_nil, onL_zero]
    obtain ⟨C, off, st, ar, lf, jk⟩ := σ
    simp
  | cons b t ih =>
    intro σ a har hlen h0 h1
    rw [List.length_cons] at hlen
    have hl : (((b :: t).length : Nat) : Int) = (t.length : Int) + 1 := by rw [List.length_cons]; omega
    rw [hl] at h1 har ⊢
    have hpb := progB_pre σ a b (fun hr => by have := har hr; omega) h0 (by omega)
    rw [progS, hpb, if_pos rfl]
    have ih2 := ih { σ with C := σ.C.set a (σ.C.getD a 0 &&& b), lf := if σ.ar then σ.lf - 1 else σ.lf, st := σ.st + 1 } (a + 1) (by
        intro hr
        have := har hr
        show (t.length : Int) ≤ (if σ.ar = true then σ.lf - 1 else σ.lf) ∧ (if σ.ar = true then σ.lf - 1 else σ.lf) ≤ _
        rw [if_pos hr]
        omega) (by
        show a + 1 + t.length ≤ (σ.C.set a (σ.C.getD a 0 &&& b)).length
        rw [List.length_set]; omega) (by show 0 ≤ σ.st + 1; omega) (by show σ.st + 1 + (t.length : Int) ≤ _; omega)
    rw [ih2]
    have e1 : σ.st + 1 + (t.length : Int) = σ.st + ((t.length : Int) + 1) := by omega
    have e2 : (if σ.ar = true then (if σ.ar = true then σ.lf - 1 else σ.lf) - (t.length : Int) else (if σ.ar = true then σ.lf - 1 else σ.lf)) = if σ.ar = true then σ.lf - ((t.length : Int) + 1) else σ.lf := by
      by_cases hr : σ.ar = true
      · rw [if_pos hr, if_pos hr, if_pos hr]; omega
      · rw [if_neg hr, if_neg hr, if_neg hr]
    show (({ C := onL (σ.C.set a (σ.C.getD a 0 &&& b)) (a + 1) t.length (andL t), off := σ.off, st := σ.st + 1 + (t.length : Int), ar := σ.ar, lf := (if σ.ar = true then (if σ.ar = true then σ.lf - 1 else σ.lf) - (t.length : Int) else (if σ.ar = true then σ.lf - 1 else σ.lf)), jk := σ.jk } : St), true) = _
    rw [e1, e2, onL_cons _ _ _ _ (by omega)]
    rfl
theorem progS_app (d1 d2 : List UInt8) : ∀ (σ : St) (a : Nat), progS σ a (d1 ++ d2) = if (progS σ a d1).2 then progS (progS σ a d1).1 (a + d1.length) d2 else ((progS σ a d1).1, false) := by
  induction d1 with
  | nil => intro σ a; simp [progS]
  | cons b t ih =>
    intro σ a
    rw [List.cons_append, progS, progS]
    cases h : (progB σ a b).2
    · simp
    · simp only [if_true]
      rw [ih, List.length_cons, show a + 1 + t.length = a + (t.length + 1) by omega]
/-- a program that is cut: in its byte L -/
theorem progS_cut (d : List UInt8) (L : Nat) (hL : L < d.length) (σ : St) (a : Nat) (har : σ.ar = true) (hlf : σ.lf = L) (hlen : a + d.length ≤ σ.C.length) (h0 : 0 ≤ σ.st) (h1 : σ.st + d.length ≤ 9223372036854775807) (h2 : L ≤ 9223372036854775807) :
    progS σ a d = ({ C := (onL σ.C a L (andL d)).set (a + L) (σ.C.getD (a + L) 0 &&& (d.getD L 0 ||| arB σ.jk 0)), off := true, st := σ.st + L, ar := false, lf := 0, jk := ⟨#[]⟩ }, false) := by
  have hd : d = d.take L ++ (d.getD L 0 :: d.drop (L + 1)) := by
    rw [getD_at d 0 hL]
    rw [← List.drop_eq_getElem_cons hL, List.take_append_drop]
  have hl : (d.take L).length = L := by rw [List.length_take]; omega
  have hp := progS_pre (d.take L) σ a (by intro _; rw [hl, hlf]; omega) (by rw [hl]; omega) h0 (by rw [hl]; omega)
  rw [hl] at hp
  have hon : onL σ.C a L (andL (d.take L)) = onL σ.C a L (andL d) := by
    apply onL_congr
    intro i c hi
    unfold andL
    congr 1
    rw [List.getD_eq_getElem?_getD, List.getD_eq_getElem?_getD, List.getElem?_take_of_lt hi]
  rw [hon] at hp
  conv => lhs; rw [hd]
  rw [progS_app, hp, hl]
  simp only [if_true, har, hlf, Int.sub_self]
  have hst : stepS { C := onL σ.C a L (andL d), off := σ.off, st := σ.st + L, ar := true, lf := 0, jk := σ.jk } = ({ C := onL σ.C a L (andL d), off := true, st := σ.st + L, ar := false, lf := 0, jk := ⟨#[]⟩ }, σ.jk, false) := by
    simp [stepS]
  rw [progS]
  unfold progB
  rw [hst]
  simp only [Bool.false_eq_true, if_false]
  rw [onL_next _ _ _ _ (by omega)]
end Go.Proofs.Ytcjahdgppnmdkaa
