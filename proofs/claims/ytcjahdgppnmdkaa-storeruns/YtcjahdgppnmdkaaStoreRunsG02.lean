/- No6. -/
import Derived.Test.YtcjahdgppnmdkaaStoreRunsG01
import Derived.Lib.BufferWrite
import Derived.Laws.CopyOwn
set_option maxRecDepth 100000
namespace Go.Proofs.Ytcjahdgppnmdkaa
open Go.RowKit Go.Great
theorem stepS_jk (σ : St) (h : σ.jk.size ≤ 4096) : (stepS σ).2.1.size ≤ 4096 ∧ (stepS σ).1.jk.size ≤ 4096 := by
  unfold stepS; split
  · exact ⟨h, by show (0 : Nat) ≤ _; omega⟩
  · exact ⟨by show (0 : Nat) ≤ _; omega, h⟩
/-- what Erase leaves, of sector s -/
def eraseS (σ : St) (s : Nat) : St × Bool :=
  if (stepS σ).2.2 then ({ (stepS σ).1 with C := onL (stepS σ).1.C (s * 4096) 4096 fun _ _ => 255 }, true)
  else ({ (stepS σ).1 with C := onL (stepS σ).1.C (s * 4096) 4096 fun i c => c ||| arB (stepS σ).2.1 i }, false)
theorem erase_nil (w : World) (s : Int) : Calls Try.prog 82 #[.pointer none, .int .i64 s] w fun e w' => e = .returned (.int .i64 2) ∧ w' = w := by
  go_enter Try.func82, Try.ntmps82
  go_wp2_with fail
  refine (ready_nil w).mono ?_
  rintro e w1 ⟨rfl, rfl⟩
  go_wp2_with fail
  go_ret
  exact ⟨rfl, rfl⟩
theorem erase_off (w : World) (R : Nat) (σ : St) (h : Fl w R σ) (ho : σ.off = true) (s : Int) : Calls Try.prog 82 #[fp R, .int .i64 s] w fun e w' => e = .returned (.int .i64 60) ∧ w' = w := by
  have S := ready_any w R σ h
  rw [ho] at S
  go_enter Try.func82, Try.ntmps82
  go_wp2_with fail
  refine S.mono ?_
  rintro e w1 ⟨rfl, rfl⟩
  go_wp2_with fail
  go_ret
  exact ⟨rfl, rfl⟩
theorem erase_out (w : World) (R : Nat) (σ : St) (h : Fl w R σ) (ho : σ.off = false) (s : Int) (hs : s < 0 ∨ 2 ≤ s) : Calls Try.prog 82 #[fp R, .int .i64 s] w fun e w' => e = .returned (.int .i64 1) ∧ w' = w := by
  have S := ready_any w R σ h
  rw [ho] at S
  go_enter Try.func82, Try.ntmps82
  rcases hs with hs | hs
  · go_wp2_with fail
    refine S.mono ?_
    rintro e w1 ⟨rfl, rfl⟩
    go_wp2_with fail
    go_ret
    exact ⟨rfl, rfl⟩
  · go_wp2_with fail
    refine S.mono ?_
    rintro e w1 ⟨rfl, rfl⟩
    go_wp2_with fail
    go_ret
    exact ⟨rfl, rfl⟩
theorem wrap_in (n : Int) (h : -9223372036854775808 ≤ n ∧ n ≤ 9223372036854775807) : wrap64 n = n := by unfold wrap64; omega
theorem measNat {n i : Nat} (h : i < n) : n - ((i : Int) + 1).toNat < n - ((i : Int)).toNat := by omega
theorem erase_part (w : World) (R : Nat) (τ : St) (jk : ByteArray) (s o n cp : Nat) (hs : s < 2)
    (S : Calls Try.prog 48 #[fp R] w fun e w' => e = .returned (.int .i64 0) ∧ w' = w)
    (P : Calls Try.prog 106 #[fp R] w fun e w' => e = .returned (.tuple #[.string jk, .bool false]) ∧ Fl w' R τ ∧ Kept R w w')
    (hjj : Hid (jk.size ≤ 4096)) (hn : o + n ≤ 8192) (HN : Hid (o + n ≤ τ.C.length))
    (hc2 : ∀ w, (Instr.sliceAt 96 (.pointer (some ⟨R, 0, none⟩)) (some (.int .i64 ((s : Int) * 4096))) (some (.int .i64 ((s : Int) * 4096 + 4096))) none).run Try.prog w = .ok (.slice (some ⟨R, o, none⟩) n cp) w) :
    Calls Try.prog 82 #[fp R, .int .i64 s] w fun e w' => e = .returned (.int .i64 60) ∧ Fl w' R { τ with C := onL τ.C o n fun i c => c ||| arB jk i } ∧ Kept R w w' := by
  have hd0 : decide ((s : Int) < 0) = false := decide_eq_false (by omega)
  have hd2 : decide ((2 : Int) ≤ (s : Int)) = false := decide_eq_false (by omega)
  go_enter Try.func82, Try.ntmps82
  go_wp2_with fail
  refine S.mono ?_
  rintro e w1 ⟨rfl, hw⟩
  obtain rfl := hw.symm
  clear hw
  go_wp2_with fail
  refine P.mono ?_
  rintro e w1 ⟨rfl, h1, k1⟩
  clear hc2 P S
  go_wp2_with fail
  go_loopw [40] (fun v wr => ∃ i : Nat, v = .int .i64 (i : Int) ∧ i ≤ n ∧ Fl wr R { τ with C := onL τ.C o i fun i c => c ||| arB jk i } ∧ Kept R w wr) (fun v _ => n - (intOf v).toNat)
  case atStart => exact ⟨0, rfl, Nat.zero_le _, by rw [onL_zero]; exact h1, k1⟩
  case round =>
    obtain ⟨i, rfl, hi, hF, hK⟩ := hrel
    by_cases hlt : i < n
    · have hio : o + i < τ.C.length := by have := HN.out; omega
      have c := hF.cell (o + i) (by rw [onL_length]; exact hio)
      have f := hF.frozen (o + i)
      have hg : (onL τ.C o i fun i c => c ||| arB jk i)[o + i]'(by rw [onL_length]; exact hio) = τ.C.getD (o + i) 0 := by
        rw [← getD_at _ 0, onL_next _ _ _ _ hio]
      simp only [hg] at c
      clear hg
      obtain ⟨x, hx⟩ : ∃ x, Hid (τ.C.getD (o + i) 0 = x) := ⟨_, hide rfl⟩
      rw [hx.out] at c
      obtain ⟨u, hu⟩ : ∃ u, Hid (arB jk i = u) := ⟨_, hide rfl⟩
      have A : ∀ wx, Calls Try.prog 107 #[.string jk, .int .i64 (i : Int)] wx fun e w' => e = .returned (.int .u8 (u.toNat : Int)) ∧ w' = wx := fun wx => by
        have := around_any wx jk i (by have := hjj.out; omega) (by omega)
        rw [hu.out] at this
        exact this
      obtain ⟨z, hz⟩ : ∃ z, Hid (x ||| u = z) := ⟨_, hide rfl⟩
      have o1 : bits .or .u8 (x.toNat : Int) (u.toNat : Int) = (z.toNat : Int) := by rw [or8, hz.out]
      have HO := hide hio
      clear hio
      go_wp2_with fail
      go_region_with (go_at_call 107; refine (A _).mono ?_; rintro e w2 ⟨rfl, rfl⟩)
      all_goals
        clear o1 A c f
        go_wp2_with fail
        go_roundw
        case rel =>
          refine ⟨i + 1, by go_num, by omega, ?_, (hK.set _ _).drew⟩
          have e := (hF.setCell (o + i) z (by rw [onL_length]; exact HO.out)).drew
          have e2 : onL τ.C o (i + 1) (fun i c => c ||| arB jk i) = (onL τ.C o i fun i c => c ||| arB jk i).set (o + i) z := by
            rw [← onL_succ _ _ _ _ HO.out, hx.out, hu.out, hz.out]
          rw [e2]
          exact e
        case measure =>
          simp [intOf]
          omega
    · obtain rfl : i = n := by omega
      go_wp2_with fail
      go_ret
      exact ⟨rfl, hF, hK⟩
theorem erase_whole (w : World) (R : Nat) (τ : St) (jk : ByteArray) (s o n cp : Nat) (hs : s < 2)
    (S : Calls Try.prog 48 #[fp R] w fun e w' => e = .returned (.int .i64 0) ∧ w' = w)
    (P : Calls Try.prog 106 #[fp R] w fun e w' => e = .returned (.tuple #[.string jk, .bool true]) ∧ Fl w' R τ ∧ Kept R w w')
    (F : ∀ w1, Fl w1 R τ → Calls Try.prog 47 #[.slice (some ⟨R, o, none⟩) n cp] w1 fun e w' => e = .returned (.tuple #[]) ∧ Fl w' R { τ with C := onL τ.C o n fun _ _ => 255 } ∧ Kept R w1 w')
    (hc2 : ∀ w, (Instr.sliceAt 96 (.pointer (some ⟨R, 0, none⟩)) (some (.int .i64 ((s : Int) * 4096))) (some (.int .i64 ((s : Int) * 4096 + 4096))) none).run Try.prog w = .ok (.slice (some ⟨R, o, none⟩) n cp) w) :
    Calls Try.prog 82 #[fp R, .int .i64 s] w fun e w' => e = .returned (.int .i64 0) ∧ Fl w' R { τ with C := onL τ.C o n fun _ _ => 255 } ∧ Kept R w w' := by
  have hd0 : decide ((s : Int) < 0) = false := decide_eq_false (by omega)
  have hd2 : decide ((2 : Int) ≤ (s : Int)) = false := decide_eq_false (by omega)
  go_enter Try.func82, Try.ntmps82
  go_wp2_with fail
  refine S.mono ?_
  rintro e w1 ⟨rfl, hw⟩
  obtain rfl := hw.symm
  clear hw
  go_wp2_with fail
  refine P.mono ?_
  rintro e w1 ⟨rfl, h1, k1⟩
  clear hc2 P S
  have F1 := F w1 h1
  clear F
  go_wp2_with fail
  refine F1.mono ?_
  rintro e w2 ⟨rfl, h2, k2⟩
  go_wp2_with fail
  go_ret
  exact ⟨rfl, h2, k1.trans k2⟩
theorem cut_sector (R s : Nat) (hs : s < 2) : ∀ w, (Instr.sliceAt 96 (.pointer (some ⟨R, 0, none⟩)) (some (.int .i64 ((s : Int) * 4096))) (some (.int .i64 ((s : Int) * 4096 + 4096))) none).run Try.prog w = .ok (.slice (some ⟨R, s * 4096, none⟩) 4096 (8192 - s * 4096)) w := by
  obtain ⟨X, hX, hc⟩ := cut_cells R (s * 4096) 4096 (by omega)
  obtain rfl : X = ⟨R, s * 4096, none⟩ := by
    rcases hX with hX | hX
    · omega
    · exact hX
  rw [Int.natCast_mul] at hc
  exact hc
theorem erase_in (w : World) (R : Nat) (σ : St) (h : Fl w R σ) (hj : σ.jk.size ≤ 4096) (ho : σ.off = false) (s : Nat) (hs : s < 2) : Calls Try.prog 82 #[fp R, .int .i64 s] w fun e w' => e = .returned (.int .i64 (if (eraseS σ s).2 then 0 else 60)) ∧ Fl w' R (eraseS σ s).1 ∧ Kept R w w' := by
  have S := ready_any w R σ h
  rw [ho] at S
  have P := step_any w R σ h
  have hjj := (stepS_jk σ hj).1
  have hC := stepS_C σ
  have hl : s * 4096 + 4096 ≤ (stepS σ).1.C.length := by rw [hC, h.len]; omega
  unfold eraseS
  cases hw : (stepS σ).2.2
  · rw [hw] at P
    exact erase_part w R (stepS σ).1 (stepS σ).2.1 s (s * 4096) 4096 (8192 - s * 4096) hs S P (hide hjj) (by omega) (hide hl) (cut_sector R s hs)
  · rw [hw] at P
    exact erase_whole w R (stepS σ).1 (stepS σ).2.1 s (s * 4096) 4096 (8192 - s * 4096) hs S P (fun w1 h1 => fill_any w1 R _ h1 _ _ _ (by omega)) (cut_sector R s hs)
def eraseR (σ : St) (s : Int) : St × Int :=
  if σ.off then (σ, 60) else if s = 0 ∨ s = 1 then ((eraseS σ s.toNat).1, if (eraseS σ s.toNat).2 then 0 else 60) else (σ, 1)
theorem erase_any (w : World) (R : Nat) (σ : St) (h : Fl w R σ) (hj : σ.jk.size ≤ 4096) (s : Int) : Calls Try.prog 82 #[fp R, .int .i64 s] w fun e w' => e = .returned (.int .i64 (eraseR σ s).2) ∧ Fl w' R (eraseR σ s).1 ∧ Kept R w w' := by
  unfold eraseR
  cases ho : σ.off
  · by_cases hi : s = 0 ∨ s = 1
    · obtain ⟨k, rfl⟩ := Int.eq_ofNat_of_zero_le (show 0 ≤ s by omega)
      simp only [if_pos hi, Bool.false_eq_true, if_false]
      exact erase_in w R σ h hj ho k (by omega)
    · simp only [if_neg hi, Bool.false_eq_true, if_false]
      refine (erase_out w R σ h ho s (by omega)).mono ?_
      rintro e w1 ⟨rfl, rfl⟩
      exact ⟨rfl, h, Kept.refl _ _⟩
  · refine (erase_off w R σ h ho s).mono ?_
    rintro e w1 ⟨rfl, rfl⟩
    exact ⟨rfl, h, Kept.refl _ _⟩
theorem onL_rep (n : Nat) (a b : UInt8) : onL (List.replicate n a) 0 n (fun _ _ => b) = List.replicate n b := by
  apply List.ext_getElem
  · simp [onL]
  · intro k h1 h2
    have : k < n := by simpa using h2
    rw [onL_at, if_pos (by omega)]
    simp
theorem fl_alloc (w : World) : Fl (w.alloc (.cells flZ.toArray 100)) w.heap.size (st0 (List.replicate 8192 0)) :=
  ⟨List.length_replicate, by rw [heap_alloc_new, flZ_row]⟩
/-- a new flash -/
theorem new_any (w : World) : Calls Try.prog 18 #[] w fun e w' => e = .returned (fp w.heap.size) ∧ Fl w' w.heap.size (st0 (List.replicate 8192 255)) ∧ Below w.heap.size w w' := by
  have hz := zv_fl
  have ha := fl_alloc w
  obtain ⟨Z, hZ⟩ : ∃ Z, Hid (flZ = Z) := ⟨_, hide rfl⟩
  rw [hZ.out] at hz ha
  have F := fill_any _ _ _ ha 0 8192 8192 (by omega)
  rw [show (st0 (List.replicate 8192 0)).C = List.replicate 8192 0 from rfl, onL_rep 8192 0 255] at F
  obtain ⟨σ, hσ⟩ : ∃ σ, Hid (st0 (List.replicate 8192 255) = σ) := ⟨_, hide rfl⟩
  have F2 : Calls Try.prog 47 #[.slice (some ⟨w.heap.size, 0, none⟩) 8192 8192] (w.alloc (.cells Z.toArray 100)) fun e w' => e = .returned (.tuple #[]) ∧ Fl w' w.heap.size σ ∧ Kept w.heap.size (w.alloc (.cells Z.toArray 100)) w' := by
    rw [← hσ.out]; exact F
  rw [hσ.out]
  clear F ha
  go_enter Try.func18, Try.ntmps18
  go_wp2_with fail
  refine F2.mono ?_
  rintro e w2 ⟨rfl, h2, k2⟩
  go_wp2_with fail
  go_ret
  exact ⟨rfl, h2, k2.toBelow (below_alloc _ _) (by simp) (Nat.le_refl _)⟩
theorem of_out (w : World) (s : ByteArray) (hs : s.size ≠ 8192) : Calls Try.prog 23 #[.string s] w fun e w' => e = .returned (.tuple #[.pointer none, .int .i64 3]) ∧ w' = w := by
  have hn : ((s.size : Int) != 8192) = true := by simp; omega
  go_enter Try.func23, Try.ntmps23
  go_wp2_with fail
  go_ret2
  exact ⟨rfl, rfl⟩
theorem of_in (w : World) (s : ByteArray) (hs : s.size = 8192) : Calls Try.prog 23 #[.string s] w fun e w' => e = .returned (.tuple #[fp w.heap.size, .int .i64 0]) ∧ Fl w' w.heap.size (st0 s.data.toList) ∧ Below w.heap.size w w' := by
  have hn : ((s.size : Int) != 8192) = false := by simp; omega
  have hz := zv_fl
  have ha := fl_alloc w
  obtain ⟨Z, hZ⟩ : ∃ Z, Hid (flZ = Z) := ⟨_, hide rfl⟩
  rw [hZ.out] at hz ha
  have hZl : Z.length = 8197 := by
    rw [← hZ.out, flZ_row, flRow_length]
    show (List.replicate 8192 (0 : UInt8)).length + 5 = 8197
    rw [List.length_replicate]
  have hcp := Lib.run_copy_row_string (P := Try.prog) (w.alloc (.cells Z.toArray 100)) 93 9 3 5 w.heap.size 0 8192 8192 s Z.toArray 100 Try.underlying93 (by kernel_rfl) (heap_alloc_new _ _) (by omega) (by simp [hZl]; omega)
  obtain ⟨wc, hwc⟩ : ∃ wc, Hid ((w.alloc (.cells Z.toArray 100)).setRow w.heap.size (Z.toArray.toList.take 0 ++ Lib.byteCells s.data.toList ++ Z.toArray.toList.drop (0 + s.size)).toArray = wc) := ⟨_, hide rfl⟩
  rw [hwc.out] at hcp
  have hF : Fl wc w.heap.size (st0 s.data.toList) := by
    refine ⟨(list_size s).trans hs, ?_⟩
    rw [← hwc.out, setRow_heap _ _ _ _ _ _ (heap_alloc_new _ _)]
    have e : List.drop (0 + s.size) Z = [.bool false, .int .i64 0, .bool false, .int .i64 0, .string ⟨#[]⟩] := by
      rw [← hZ.out, flZ, Nat.zero_add, hs]
      exact List.drop_left' List.length_replicate
    show some (Obj.cells (List.take 0 Z ++ Lib.byteCells s.data.toList ++ List.drop (0 + s.size) Z).toArray _ _) = _
    rw [e]
    rfl
  have hB : Below w.heap.size w wc := by
    rw [← hwc.out]
    exact below_setRow (below_alloc w _) (Nat.le_refl _) _
  have HF := hide hF
  clear hF ha hZl hs
  go_enter Try.func23, Try.ntmps23
  go_wp2_with fail
  go_ret2
  exact ⟨rfl, HF.out, hB⟩
end Go.Proofs.Ytcjahdgppnmdkaa
