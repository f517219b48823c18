/- Package mixer, walked: the arms' pushes, their twists, the motors' parts. -/
import Derived.Test.YtpoodmfhcoaleaaMx1
namespace Go.Proofs.Ytpoodmfhcoaleaa
open Go.RowKit Go.Great

/-- the pushes of the first i arms -/
def pC (l x y : Int) : Nat → Array Value
  | 0 => wC 0 0 0 0
  | 1 => wC (l + x + y) 0 0 0
  | 2 => wC (l + x + y) (l - x + y) 0 0
  | 3 => wC (l + x + y) (l - x + y) (l - x - y) 0
  | _ => wC (l + x + y) (l - x + y) (l - x - y) (l + x - y)
theorem blk_cells {W : World} {B : Nat} {A C : Array Value} {t : TypeId} (h : Blk W B A t) (e : A = C) : Blk W B C t := e ▸ h
theorem two_cells {W : World} {d : Nat} {a b : Value} {t : TypeId} (h : Blk W d #[a, b] t) : W.cell? ⟨d, 0, none⟩ = some a ∧ W.cell? ⟨d, 1, none⟩ = some b := ⟨h.cell 0 rfl, h.cell 1 rfl⟩
theorem four_cells {W : World} {d : Nat} {a b c e : Value} {t : TypeId} (h : Blk W d #[a, b, c, e] t) : W.cell? ⟨d, 0, none⟩ = some a ∧ W.cell? ⟨d, 1, none⟩ = some b ∧ W.cell? ⟨d, 2, none⟩ = some c ∧ W.cell? ⟨d, 3, none⟩ = some e := ⟨h.cell 0 rfl, h.cell 1 rfl, h.cell 2 rfl, h.cell 3 rfl⟩
/-- the arms' signs -/
abbrev sdV : Value := .agg #[.int .i64 1, .int .i64 1, .int .i64 (-1), .int .i64 1, .int .i64 (-1), .int .i64 (-1), .int .i64 1, .int .i64 (-1)]
theorem sd0 (w : World) : (Instr.index 63 sdV (.int .i64 0)).run Try.prog w = .ok (.agg #[.int .i64 1, .int .i64 1]) w := by kernel_rfl
theorem sd1 (w : World) : (Instr.index 63 sdV (.int .i64 1)).run Try.prog w = .ok (.agg #[.int .i64 (-1), .int .i64 1]) w := by kernel_rfl
theorem sd2 (w : World) : (Instr.index 63 sdV (.int .i64 2)).run Try.prog w = .ok (.agg #[.int .i64 (-1), .int .i64 (-1)]) w := by kernel_rfl
theorem sd3 (w : World) : (Instr.index 63 sdV (.int .i64 3)).run Try.prog w = .ok (.agg #[.int .i64 1, .int .i64 (-1)]) w := by kernel_rfl
theorem pC_set0 {l x y v : Int} (h : v = l + x + y) : (pC l x y 0).setIfInBounds 0 (.int .i64 v) = pC l x y 1 := by rw [h]; rfl
theorem pC_set1 {l x y v : Int} (h : v = l - x + y) : (pC l x y 1).setIfInBounds 1 (.int .i64 v) = pC l x y 2 := by rw [h]; rfl
theorem pC_set2 {l x y v : Int} (h : v = l - x - y) : (pC l x y 2).setIfInBounds 2 (.int .i64 v) = pC l x y 3 := by rw [h]; rfl
theorem pC_set3 {l x y v : Int} (h : v = l + x - y) : (pC l x y 3).setIfInBounds 3 (.int .i64 v) = pC l x y 4 := by rw [h]; rfl
theorem four_set {W : World} {B : Nat} {x y z q : Value} {t : TypeId} (h : Blk W B #[x, y, z, q] t) : W.frozen? ⟨B, 0, none⟩ = false ∧ W.frozen? ⟨B, 1, none⟩ = false ∧ W.frozen? ⟨B, 2, none⟩ = false ∧ W.frozen? ⟨B, 3, none⟩ = false := ⟨h.frozen 0, h.frozen 1, h.frozen 2, h.frozen 3⟩
set_option maxHeartbeats 1000000 in
theorem shares_any (l x y t : Int) (w : World) (hl : 0 ≤ l ∧ l ≤ 1000) (hx : -1000 ≤ x ∧ x ≤ 1000) (hy : -1000 ≤ y ∧ y ≤ 1000) : Calls Try.prog 36 #[wV l x y t] w fun e w' => e = .returned (wV (l + x + y) (l - x + y) (l - x - y) (l + x - y)) ∧ Below w.heap.size w w' := by
  obtain ⟨W0, hW0, b0, M0, R0, P0, hz0⟩ := three_boxes w (wC l x y t) (wC 0 0 0 0) (wC 0 0 0 0) 46 57 57
  have Hb := hide b0
  have HM := hide M0
  have HR := hide R0
  have HP := hide P0
  clear b0 M0 R0 P0
  go_enter Try.func36, Try.ntmps36
  go_wp2_with (go_at_call 39; refine (sides_any _).mono ?_; rintro e w1 ⟨rfl, hb1⟩; replace HM := hide (HM.out.after hb1); replace HR := hide (HR.out.after hb1); replace HP := hide (HP.out.after hb1); replace Hb := hide (below_next Hb.out (Nat.le_refl _) hb1); clear hb1 hW0 hz0)
  go_loopw [7] (fun v wr => ∃ i : Nat, v = .int .i64 (i : Int) ∧ i ≤ 4 ∧ Blk wr w.heap.size (wC l x y t) 46 ∧ Blk wr (w.heap.size + 1) (wC 0 0 0 0) 57 ∧ Blk wr (w.heap.size + 1 + 1) (pC l x y i) 57 ∧ Below w.heap.size w wr) (fun v _ => 4 - (intOf v).toNat)
  case atStart => exact ⟨0, rfl, by omega, HM.out, HR.out, HP.out, Hb.out⟩
  case round =>
    clear HM HR HP Hb
    obtain ⟨i, rfl, hi, hM, hR, hP, hb⟩ := hrel
    have HM := hide hM
    have HR := hide hR
    have Hb := hide hb
    have hz := hP.lt
    clear hM hR hb
    obtain rfl | rfl | rfl | rfl | rfl : i = 0 ∨ i = 1 ∨ i = 2 ∨ i = 3 ∨ i = 4 := by omega
    · have HP := hide hP
      clear hP
      have IX := sd0
      go_upto_region 5 with fail
      clear IX
      have HD := hide (Blk.new wr #[.int .i64 1, .int .i64 1] 62)
      replace HM := hide (HM.out.alloc (.cells #[.int .i64 1, .int .i64 1] 62))
      replace HR := hide (HR.out.alloc (.cells #[.int .i64 1, .int .i64 1] 62))
      replace HP := hide (HP.out.alloc (.cells #[.int .i64 1, .int .i64 1] 62))
      replace Hb := hide (Hb.out.alloc Hb.out.size (.cells #[.int .i64 1, .int .i64 1] 62))
      generalize wr.alloc (.cells #[.int .i64 1, .int .i64 1] 62) = W1 at *
      generalize wr.heap.size = d at *
      obtain ⟨m0, m1, m2, _⟩ := four_cells HM.out
      obtain ⟨p0, p1, p2, p3⟩ := four_cells HP.out
      obtain ⟨d0, d1⟩ := two_cells HD.out
      have f0 := HP.out.frozen 0
      go_wp2_with fail
      go_roundw
      case rel => exact ⟨1, by go_num, by omega, HM.out.setOther (by omega) _ _, HR.out.setOther (by omega) _ _, blk_cells (HP.out.set 0 _) (pC_set0 (by omega)), below_set Hb.out _ _ _ (by omega) Hb.out.size⟩
      case measure => simp [intOf]
    · have HP := hide hP
      clear hP
      have IX := sd1
      go_upto_region 5 with fail
      clear IX
      have HD := hide (Blk.new wr #[.int .i64 (-1), .int .i64 1] 62)
      replace HM := hide (HM.out.alloc (.cells #[.int .i64 (-1), .int .i64 1] 62))
      replace HR := hide (HR.out.alloc (.cells #[.int .i64 (-1), .int .i64 1] 62))
      replace HP := hide (HP.out.alloc (.cells #[.int .i64 (-1), .int .i64 1] 62))
      replace Hb := hide (Hb.out.alloc Hb.out.size (.cells #[.int .i64 (-1), .int .i64 1] 62))
      generalize wr.alloc (.cells #[.int .i64 (-1), .int .i64 1] 62) = W1 at *
      generalize wr.heap.size = d at *
      obtain ⟨m0, m1, m2, _⟩ := four_cells HM.out
      obtain ⟨p0, p1, p2, p3⟩ := four_cells HP.out
      obtain ⟨d0, d1⟩ := two_cells HD.out
      have f0 := HP.out.frozen 1
      go_wp2_with fail
      go_roundw
      case rel => exact ⟨2, by go_num, by omega, HM.out.setOther (by omega) _ _, HR.out.setOther (by omega) _ _, blk_cells (HP.out.set 1 _) (pC_set1 (by omega)), below_set Hb.out _ _ _ (by omega) Hb.out.size⟩
      case measure => simp [intOf]
    · have HP := hide hP
      clear hP
      have IX := sd2
      go_upto_region 5 with fail
      clear IX
      have HD := hide (Blk.new wr #[.int .i64 (-1), .int .i64 (-1)] 62)
      replace HM := hide (HM.out.alloc (.cells #[.int .i64 (-1), .int .i64 (-1)] 62))
      replace HR := hide (HR.out.alloc (.cells #[.int .i64 (-1), .int .i64 (-1)] 62))
      replace HP := hide (HP.out.alloc (.cells #[.int .i64 (-1), .int .i64 (-1)] 62))
      replace Hb := hide (Hb.out.alloc Hb.out.size (.cells #[.int .i64 (-1), .int .i64 (-1)] 62))
      generalize wr.alloc (.cells #[.int .i64 (-1), .int .i64 (-1)] 62) = W1 at *
      generalize wr.heap.size = d at *
      obtain ⟨m0, m1, m2, _⟩ := four_cells HM.out
      obtain ⟨p0, p1, p2, p3⟩ := four_cells HP.out
      obtain ⟨d0, d1⟩ := two_cells HD.out
      have f0 := HP.out.frozen 2
      go_wp2_with fail
      go_roundw
      case rel => exact ⟨3, by go_num, by omega, HM.out.setOther (by omega) _ _, HR.out.setOther (by omega) _ _, blk_cells (HP.out.set 2 _) (pC_set2 (by omega)), below_set Hb.out _ _ _ (by omega) Hb.out.size⟩
      case measure => simp [intOf]
    · have HP := hide hP
      clear hP
      have IX := sd3
      go_upto_region 5 with fail
      clear IX
      have HD := hide (Blk.new wr #[.int .i64 1, .int .i64 (-1)] 62)
      replace HM := hide (HM.out.alloc (.cells #[.int .i64 1, .int .i64 (-1)] 62))
      replace HR := hide (HR.out.alloc (.cells #[.int .i64 1, .int .i64 (-1)] 62))
      replace HP := hide (HP.out.alloc (.cells #[.int .i64 1, .int .i64 (-1)] 62))
      replace Hb := hide (Hb.out.alloc Hb.out.size (.cells #[.int .i64 1, .int .i64 (-1)] 62))
      generalize wr.alloc (.cells #[.int .i64 1, .int .i64 (-1)] 62) = W1 at *
      generalize wr.heap.size = d at *
      obtain ⟨m0, m1, m2, _⟩ := four_cells HM.out
      obtain ⟨p0, p1, p2, p3⟩ := four_cells HP.out
      obtain ⟨d0, d1⟩ := two_cells HD.out
      have f0 := HP.out.frozen 3
      go_wp2_with fail
      go_roundw
      case rel => exact ⟨4, by go_num, by omega, HM.out.setOther (by omega) _ _, HR.out.setOther (by omega) _ _, blk_cells (HP.out.set 3 _) (pC_set3 (by omega)), below_set Hb.out _ _ _ (by omega) Hb.out.size⟩
      case measure => simp [intOf]
    · obtain ⟨p0, p1, p2, p3⟩ := four_cells hP
      obtain ⟨r0, r1, r2, r3⟩ := four_cells HR.out
      obtain ⟨f0, f1, f2, f3⟩ := four_set HR.out
      clear hP
      go_wp2_with fail
      exact bodyPost_ret (four_back (p := 2) (by kernel_rfl) _ _ (w.heap.size + 1) _ _ _ _ rfl (HR.out.set4 _ _ _ _)) rfl ⟨rfl, below_set4 Hb.out _ _ _ _ _ (by omega) Hb.out.size⟩
end Go.Proofs.Ytpoodmfhcoaleaa
