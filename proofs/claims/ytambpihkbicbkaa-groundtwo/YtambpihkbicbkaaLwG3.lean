/- GroundTwo. -/
import Derived.Test.YtambpihkbicbkaaGrO
namespace Go.Proofs.Ytambpihkbicbkaa
open Go.RowKit Go.Great Go.Deep Go.WideShapes Go.ChangeShapes

theorem gs_le {n : Int} {i : Nat} (h : 0 ≤ n ∧ n ≤ 65535) (hi : n ≤ (i : Int)) (f : Bool) (c a : Int) : gs n f c a ≤ (i : Int) + 1 := by
  unfold gs
  split
  · split <;> omega
  · omega
theorem zero_step {w : World} {B : Nat} (hB : Det w B 0) : Calls Try.prog 8 #[gP B, .bool false, .int .i64 0, .int .i64 0] w fun e w' => e = .returned (.bool false) ∧ Det w' B 0 ∧ w.grownBy w' (some B) := stepG_any w B 0 false 0 0 hB (by omega) (by unfold I64; omega)
set_option maxHeartbeats 2000000 in
theorem two_any (L : List Lok) (v : Value) (w : World) (hL : ∀ x ∈ L, LokOk x) (hT : Rws w v 4 cLok L) : Calls Try.prog 5 #[v] w fun e w' => e = .returned (.bool true) ∧ Below w.heap.size w w' := by
  have HT := hide hT
  have HL := hide hL
  have hmax := hT.1
  unfold maxLen at hmax
  obtain ⟨_, ta, tc, rfl, _⟩ := hT
  obtain ⟨n, hn⟩ : ∃ n, Hid (L.length = n) := ⟨_, hide rfl⟩
  rw [hn.out] at hmax ⊢
  clear hL
  go_enter Try.func5, Try.ntmps5
  go_upto_region 2 with (go_at_call 7; refine (newG_any _).mono ?_; rintro e w1 ⟨D, rfl, hD, hb1, hDw⟩)
  have HD := hide hD
  have Hb := hide hb1
  have hDl := hD.lt
  clear hD hb1
  go_upto_region 3 with (go_at_call 7; refine (newG_any _).mono ?_; rintro e w2 ⟨E, rfl, hE, hb2, hEw⟩)
  have HE := hide hE
  replace HD := hide (HD.out.after hb2)
  replace Hb := hide (below_next Hb.out (Nat.le_refl _) hb2)
  have hne : D ≠ E := by omega
  have hEw2 : w.heap.size ≤ E := by omega
  clear hE hb2 hDl hEw
  go_wp2_with fail
  go_loopw [5] (fun v wr => ∃ (i : Nat) (m : Int), v = .int .i64 (i : Int) ∧ i ≤ n ∧ (0 ≤ m ∧ m ≤ 65535) ∧ m ≤ (i : Int) ∧ Det wr D m ∧ Det wr E 0 ∧ Below w.heap.size w wr) (fun v _ => n - (intOf v).toNat)
  case atStart => exact ⟨0, 0, rfl, by omega, by omega, by omega, HD.out, HE.out, Hb.out⟩
  case round =>
    clear HD HE Hb
    obtain ⟨i, m, rfl, hi, hm, hmi, hD, hE, hb⟩ := hrel
    have HD := hide hD
    have HE := hide hE
    have Hb := hide hb
    clear hD hE hb
    by_cases hlt : i < n
    · obtain ⟨ga, oa, ca, x, e1, hga, hx, hcell⟩ := HT.out.get i (by rw [hn.out]; exact hlt)
      injection e1 with e1 e2 e3
      subst e1 e3
      have HXO := hide (HL.out x (List.mem_of_getElem? hx))
      have HC := hide hcell
      clear e2 hx hcell hga
      obtain ⟨x0, x1, x2, x3⟩ := x
      have ST := hide (fun W (hW : Det W D m) => stepG_any W D m x0 x1 x2 hW hm HXO.out.a)
      have hm2 := gs_in hm x0 x1 x2
      have hmi2 := gs_le hm hmi x0 x1 x2
      have k0 : wr.cell? ⟨ga, oa + i * 4, none⟩ = some (.bool x0) := HC.out wr Hb.out 0 _ rfl
      have k1 : wr.cell? ⟨ga, oa + i * 4 + 1, none⟩ = some (.int .i64 x1) := HC.out wr Hb.out 1 _ rfl
      have k2 : wr.cell? ⟨ga, oa + i * 4 + 2, none⟩ = some (.int .i64 x2) := HC.out wr Hb.out 2 _ rfl
      have k3 : wr.cell? ⟨ga, oa + i * 4 + 3, none⟩ = some (.int .i64 x3) := HC.out wr Hb.out 3 _ rfl
      go_upto_region 9 with fail
      have HX := hide (Blk.new wr #[.bool x0, .int .i64 x1, .int .i64 x2, .int .i64 x3] 26)
      replace HD := hide (HD.out.alloc (.cells #[.bool x0, .int .i64 x1, .int .i64 x2, .int .i64 x3] 26))
      replace HE := hide (HE.out.alloc (.cells #[.bool x0, .int .i64 x1, .int .i64 x2, .int .i64 x3] 26))
      replace Hb := hide (below_next Hb.out (Nat.le_refl _) (below_alloc wr (.cells #[.bool x0, .int .i64 x1, .int .i64 x2, .int .i64 x3] 26)))
      clear k0 k1 k2 k3 HC
      generalize wr.heap.size = d at *
      generalize wr.alloc (.cells #[.bool x0, .int .i64 x1, .int .i64 x2, .int .i64 x3] 26) = W3 at *
      have k0 : W3.cell? ⟨d, 0, none⟩ = some (.bool x0) := HX.out.cell 0 rfl
      have k1 : W3.cell? ⟨d, 1, none⟩ = some (.int .i64 x1) := HX.out.cell 1 rfl
      have k2 : W3.cell? ⟨d, 2, none⟩ = some (.int .i64 x2) := HX.out.cell 2 rfl
      go_upto_region 10 with (go_at_call 8; refine (ST.out _ HD.out).mono ?_; rintro e w4 ⟨rfl, hD4, hG4⟩)
      generalize gs m x0 x1 x2 = m4 at *
      have HD4 := hide hD4
      have HE4 := hide (HE.out.grown hG4 (by intro e; injection e with e; omega))
      have Hb4 := hide (below_grown Hb.out hG4 (fun q e => by injection e with e; omega))
      clear hD4 hG4 HD HE Hb ST HX k0 k1 k2
      go_upto_region 11 with (go_at_call 8; refine (zero_step HE4.out).mono ?_; rintro e w5 ⟨rfl, hE5, hG5⟩)
      have HE5 := hide hE5
      have HD5 := hide (HD4.out.grown hG5 (by intro e; injection e with e; omega))
      have Hb5 := hide (below_grown Hb4.out hG5 (fun q e => by injection e with e; omega))
      clear hE5 hG5 HD4 HE4 Hb4
      go_wp2_with fail
      refine (seen_any _ E 0 HE5.out).mono ?_
      rintro e w6 ⟨rfl, rfl⟩
      go_wp2_with fail
      refine (seen_any _ D m4 HD5.out).mono ?_
      rintro e w7 ⟨rfl, rfl⟩
      go_wp2_with fail
      go_roundw
      case rel => exact ⟨i + 1, m4, by go_num, by omega, hm2, by omega, HD5.out, HE5.out, Hb5.out⟩
      case measure => simp [intOf]; omega
    · obtain rfl : i = n := by omega
      go_wp2_with (go_at_call 11; refine (awakeG _).mono ?_; rintro e w5 ⟨rfl, hb5⟩)
      go_ret
      exact ⟨rfl, below_next Hb.out (Nat.le_refl _) hb5⟩
theorem GroundTwo_walk (v : Value) (w : World) (hT : ∃ L, (∀ x ∈ L, LokOk x) ∧ Rws w v 4 cLok L) : Calls Try.prog 5 #[v] w fun e w' => e = .returned (.bool true) ∧ Below w.heap.size w w' := by
  obtain ⟨L, h1, h2⟩ := hT
  exact two_any L v w h1 h2
end Go.Proofs.Ytambpihkbicbkaa
