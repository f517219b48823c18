/- GroundSees. -/
import Derived.Test.YtambpihkbicbkaaGrO
import Derived.Test.YtambpihkbicbkaaGrR
namespace Go.Proofs.Ytambpihkbicbkaa
open Go.RowKit Go.Great Go.Deep Go.WideShapes Go.ChangeShapes

set_option maxHeartbeats 4000000 in
theorem sees_any (L : List Lok) (v : Value) (w : World) (hL : ∀ x ∈ L, LokOk x) (hT : Rws w v 4 cLok L) : Calls Try.prog 3 #[v] w fun e w' => e = .returned (.bool true) ∧ Below w.heap.size w w' := by
  have HT := hide hT
  have HL := hide hL
  have hmax := hT.1
  unfold maxLen at hmax
  obtain ⟨_, ta, tc, rfl, _⟩ := hT
  obtain ⟨n, hn⟩ : ∃ n, Hid (L.length = n) := ⟨_, hide rfl⟩
  rw [hn.out] at hmax ⊢
  clear hL
  go_enter Try.func3, Try.ntmps3
  go_upto_region 2 with (go_at_call 7; refine (newG_any _).mono ?_; rintro e w1 ⟨D, rfl, hD, hb1, hDw⟩)
  have HD := hide hD
  have Hb := hide hb1
  clear hD hb1
  go_wp2_with fail
  go_loopw [4, 5] (fun vs v wr => ∃ (i : Nat) (m : Int), vs = .int .i64 m ∧ v = .int .i64 (i : Int) ∧ i ≤ n ∧ (0 ≤ m ∧ m ≤ 65535) ∧ Det wr D m ∧ Below w.heap.size w wr) (fun _ v _ => n - (intOf v).toNat)
  case atStart => exact ⟨0, 0, rfl, rfl, by omega, by omega, HD.out, Hb.out⟩
  case round =>
    clear HD Hb
    obtain ⟨i, m, rfl, rfl, hi, hm, hD, hb⟩ := hrel
    have HD := hide hD
    have Hb := hide hb
    clear hD hb
    by_cases hlt : i < n
    · obtain ⟨ga, oa, ca, x, e1, hga, hx, hcell⟩ := HT.out.get i (by rw [hn.out]; exact hlt)
      injection e1 with e1 e2 e3
      subst e1 e3
      have HXO := hide (HL.out x (List.mem_of_getElem? hx))
      have HC := hide hcell
      clear e2 hx hcell hga
      obtain ⟨x0, x1, x2, x3⟩ := x
      have k0 : wr.cell? ⟨ga, oa + i * 4, none⟩ = some (.bool x0) := HC.out wr Hb.out 0 _ rfl
      have k1 : wr.cell? ⟨ga, oa + i * 4 + 1, none⟩ = some (.int .i64 x1) := HC.out wr Hb.out 1 _ rfl
      have k2 : wr.cell? ⟨ga, oa + i * 4 + 2, none⟩ = some (.int .i64 x2) := HC.out wr Hb.out 2 _ rfl
      have k3 : wr.cell? ⟨ga, oa + i * 4 + 3, none⟩ = some (.int .i64 x3) := HC.out wr Hb.out 3 _ rfl
      go_upto_region 9 with fail
      have HX := hide (Blk.new wr #[.bool x0, .int .i64 x1, .int .i64 x2, .int .i64 x3] 26)
      have hDd : D < wr.heap.size := HD.out.lt
      replace HD := hide (HD.out.alloc (.cells #[.bool x0, .int .i64 x1, .int .i64 x2, .int .i64 x3] 26))
      replace Hb := hide (below_next Hb.out (Nat.le_refl _) (below_alloc wr (.cells #[.bool x0, .int .i64 x1, .int .i64 x2, .int .i64 x3] 26)))
      clear k0 k1 k2 k3 HC
      generalize wr.heap.size = d at *
      generalize wr.alloc (.cells #[.bool x0, .int .i64 x1, .int .i64 x2, .int .i64 x3] 26) = W3 at *
      go_wp2_with fail
      go_loopw [4, 7] (fun vs v wq => ∃ (k : Nat) (m : Int), vs = .int .i64 m ∧ v = .int .i64 (k : Int) ∧ k ≤ 100 ∧ (0 ≤ m ∧ m ≤ 65535) ∧ Det wq D m ∧ Blk wq d #[.bool x0, .int .i64 x1, .int .i64 x2, .int .i64 x3] 26 ∧ Below w.heap.size w wq) (fun _ v _ => 100 - (intOf v).toNat)
      case atStart => exact ⟨0, m, rfl, rfl, by omega, hm, HD.out, HX.out, Hb.out⟩
      case round =>
        clear HD Hb HX hm
        obtain ⟨k, m, rfl, rfl, hk, hm, hD, hX, hb⟩ := hrel
        have HD := hide hD
        have HX := hide hX
        have Hb := hide hb
        clear hD hb hX
        have k0 : wr.cell? ⟨d, 0, none⟩ = some (.bool x0) := HX.out.cell 0 rfl
        have k1 : wr.cell? ⟨d, 1, none⟩ = some (.int .i64 x1) := HX.out.cell 1 rfl
        have k2 : wr.cell? ⟨d, 2, none⟩ = some (.int .i64 x2) := HX.out.cell 2 rfl
        have k3 : wr.cell? ⟨d, 3, none⟩ = some (.int .i64 x3) := HX.out.cell 3 rfl
        rcases (show ¬ (k : Int) < x3 ∨ ((k : Int) < x3 ∧ ¬ k < 100) ∨ ((k : Int) < x3 ∧ k < 100) by omega) with h1 | ⟨h1, h2⟩ | ⟨h1, h2⟩
        · go_wp2_with fail
          go_roundw
          case rel => exact ⟨i + 1, m, rfl, by go_num, by omega, hm, HD.out, Hb.out⟩
          case measure => simp [intOf]; omega
        · have h3 : ¬ (k : Int) < 100 := by omega
          go_wp2_with fail
          go_roundw
          case rel => exact ⟨i + 1, m, rfl, by go_num, by omega, hm, HD.out, Hb.out⟩
          case measure => simp [intOf]; omega
        · have h3 : (k : Int) < 100 := by omega
          have ST := hide (stepG_any wr D m x0 x1 x2 HD.out hm HXO.out.a)
          have RS := hide (fun W => rstepG_any m x0 x1 x2 W hm HXO.out.a)
          have hm2 := gs_in hm x0 x1 x2
          go_upto_region 13 with (go_at_call 8; refine ST.out.mono ?_; rintro e w4 ⟨rfl, hD4, hG4⟩)
          generalize gs m x0 x1 x2 = m4 at *
          have HD4 := hide hD4
          have HX4 := hide (HX.out.grown hG4 (by intro e; injection e with e; omega))
          have Hb4 := hide (below_grown Hb.out hG4 (fun q e => by injection e with e; omega))
          clear hD4 hG4 HD HX Hb ST k0 k1 k2 k3
          have k0 : w4.cell? ⟨d, 0, none⟩ = some (.bool x0) := HX4.out.cell 0 rfl
          have k1 : w4.cell? ⟨d, 1, none⟩ = some (.int .i64 x1) := HX4.out.cell 1 rfl
          have k2 : w4.cell? ⟨d, 2, none⟩ = some (.int .i64 x2) := HX4.out.cell 2 rfl
          go_upto_region 14 with (go_at_call 9; refine (RS.out _).mono ?_; rintro e w5 ⟨rfl, hb5⟩)
          have HD5 := hide (HD4.out.after hb5)
          have HX5 := hide (HX4.out.after hb5)
          have Hb5 := hide (below_next Hb4.out (Nat.le_refl _) hb5)
          clear hb5 HD4 HX4 Hb4 RS k0 k1 k2
          obtain ⟨y, hy⟩ : ∃ y, decide (40 ≤ m4) = y := ⟨_, rfl⟩
          rw [hy]
          have hc : (decide (40 ≤ m4)) = y := hy
          cases y
          · have hc2 : ¬ 40 ≤ m4 := by simpa using hc
            clear hc hy
            go_wp2_with (go_at_call 10; refine (seen_any _ D m4 HD5.out).mono ?_; rintro e w6 ⟨rfl, rfl⟩)
            go_roundw
            case rel => exact ⟨k + 1, m4, rfl, by go_num, by omega, hm2, HD5.out, HX5.out, Hb5.out⟩
            case measure => simp [intOf]; omega
          · have hc2 : 40 ≤ m4 := by simpa using hc
            clear hc hy
            go_wp2_with (go_at_call 10; refine (seen_any _ D m4 HD5.out).mono ?_; rintro e w6 ⟨rfl, rfl⟩)
            go_roundw
            case rel => exact ⟨k + 1, m4, rfl, by go_num, by omega, hm2, HD5.out, HX5.out, Hb5.out⟩
            case measure => simp [intOf]; omega
    · obtain rfl : i = n := by omega
      go_wp2_with (go_at_call 11; refine (awakeG _).mono ?_; rintro e w5 ⟨rfl, hb5⟩)
      go_ret
      exact ⟨rfl, below_next Hb.out (Nat.le_refl _) hb5⟩
theorem GroundSees_walk (v : Value) (w : World) (hT : ∃ L, (∀ x ∈ L, LokOk x) ∧ Rws w v 4 cLok L) : Calls Try.prog 3 #[v] w fun e w' => e = .returned (.bool true) ∧ Below w.heap.size w w' := by
  obtain ⟨L, h1, h2⟩ := hT
  exact sees_any L v w h1 h2
end Go.Proofs.Ytambpihkbicbkaa
