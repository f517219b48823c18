/- GroundNever. -/
import Derived.Test.YtambpihkbicbkaaGr2
import Derived.Test.YtambpihkbicbkaaOp0
namespace Go.Proofs.Ytambpihkbicbkaa
open Go.RowKit Go.Great

theorem gs_no {n c a : Int} (h : ¬ -(a.tdiv 2) ≤ c) : gs n true c a = 0 := by
  unfold gs lk
  rw [if_neg (by simp [h])]
theorem none_of {w : World} {B : Nat} {f : Bool} {c a : Int} (hB : Det w B 0) (ha : I64 a) (h : gs 0 f c a = 0) : Calls Try.prog 8 #[gP B, .bool f, .int .i64 c, .int .i64 a] w fun e w' => e = .returned (.bool false) ∧ Det w' B 0 ∧ w.grownBy w' (some B) := by
  have := stepG_any w B 0 f c a hB (by omega) ha
  rw [h] at this
  exact this
set_option maxHeartbeats 2000000 in
theorem never_any (a : Int) (l : List Int) (v : Value) (w : World) (ha : I64 a) (hv : Ints w v l) (hlen : l.length * 8 + 32 ≤ 140737488355328) : Calls Try.prog 4 #[.int .i64 a, v] w fun e w' => e = .returned (.bool true) ∧ Below w.heap.size w w' := by
  have HV := hide hv
  have hq := tdiv2 a ha
  have HA := hide ha
  clear ha
  obtain ⟨ad, cap, rfl, hv2⟩ := hv
  clear hv2
  obtain ⟨n, hn⟩ : ∃ n, Hid (l.length = n) := ⟨_, hide rfl⟩
  rw [hn.out] at hlen ⊢
  go_enter Try.func4, Try.ntmps4
  go_upto_region 2 with (go_at_call 7; refine (newG_any _).mono ?_; rintro e w1 ⟨B, rfl, hB, hb, hBw⟩)
  have HB := hide hB
  have Hb := hide hb
  clear hB hb
  by_cases h0 : a < 0
  · go_wp2_with (go_at_call 11; refine (awakeG _).mono ?_; rintro e w5 ⟨rfl, hb5⟩)
    go_ret
    exact ⟨rfl, below_next Hb.out (Nat.le_refl _) hb5⟩
  · go_wp2_with fail
    go_loopw [6] (fun v wr => ∃ i : Nat, v = .int .i64 (i : Int) ∧ i ≤ n ∧ Det wr B 0 ∧ Below w.heap.size w wr) (fun v _ => n - (intOf v).toNat)
    case atStart => exact ⟨0, rfl, by omega, HB.out, Hb.out⟩
    case round =>
      clear HB Hb
      obtain ⟨i, rfl, hi, hB, hb⟩ := hrel
      have HB := hide hB
      have Hb := hide hb
      clear hB hb
      by_cases hlt : i < n
      · obtain ⟨a2, cap2, e1, hc⟩ := HV.out
        injection e1 with e1 e2 e3
        subst e1 e3
        obtain ⟨g, o, rfl, hg, hc⟩ := hc (by rw [hn.out]; omega)
        have hci := hc i (by rw [hn.out]; omega)
        obtain ⟨c, hcc⟩ : ∃ c, Hid (l.getD i 0 = c) := ⟨_, hide rfl⟩
        rw [hcc.out] at hci
        have k0 : wr.cell? ⟨g, o + i, none⟩ = some (.int .i64 c) := (Hb.out.cell (p := ⟨g, o + i, none⟩) hg).trans hci
        clear hci hc e2 HV
        by_cases hge : -(a.tdiv 2) ≤ c
        · have ST := hide (none_of HB.out HA.out (gs_off 0 c a))
          go_wp2_with (go_at_call 8; refine ST.out.mono ?_; rintro e w2 ⟨rfl, hB2, hG2⟩; have HB2 := hide hB2; have Hb2 := hide (below_grown Hb.out hG2 (fun q e => by injection e with e; omega)); clear hB2 hG2)
          refine (seen_any _ B 0 HB2.out).mono ?_
          rintro e w3 ⟨rfl, rfl⟩
          go_wp2_with fail
          go_roundw
          case rel => exact ⟨i + 1, by go_num, by omega, HB2.out, Hb2.out⟩
          case measure => simp [intOf]; omega
        · have ST := hide (none_of HB.out HA.out (gs_no (n := 0) hge))
          go_wp2_with (go_at_call 8; refine ST.out.mono ?_; rintro e w2 ⟨rfl, hB2, hG2⟩; have HB2 := hide hB2; have Hb2 := hide (below_grown Hb.out hG2 (fun q e => by injection e with e; omega)); clear hB2 hG2)
          refine (seen_any _ B 0 HB2.out).mono ?_
          rintro e w3 ⟨rfl, rfl⟩
          go_wp2_with fail
          go_roundw
          case rel => exact ⟨i + 1, by go_num, by omega, HB2.out, Hb2.out⟩
          case measure => simp [intOf]; omega
      · obtain rfl : i = n := by omega
        go_wp2_with (go_at_call 11; refine (awakeG _).mono ?_; rintro e w5 ⟨rfl, hb5⟩)
        go_ret
        exact ⟨rfl, below_next Hb.out (Nat.le_refl _) hb5⟩
theorem GroundNever_walk (a : Int) (v : Value) (w : World) (ha : I64 a) (hv : ∃ l, IntsIn w v l) : Calls Try.prog 4 #[.int .i64 a, v] w fun e w' => e = .returned (.bool true) ∧ Below w.heap.size w w' := by
  obtain ⟨l, h1, _, h2⟩ := hv
  exact never_any a l v w ha h1 h2
end Go.Proofs.Ytambpihkbicbkaa
