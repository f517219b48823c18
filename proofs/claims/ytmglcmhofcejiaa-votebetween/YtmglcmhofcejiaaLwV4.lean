/- VoteBetween. -/
import Derived.Test.YtmglcmhofcejiaaVoH
namespace Go.Proofs.Ytmglcmhofcejiaa
open Go.RowKit Go.Great

/-- how many of the first j units speak; the least and the greatest of what they say -/
def bn (u : Un) : Nat → Nat
  | 0 => 0
  | j + 1 => bn u j + if u.o j = true then 1 else 0
def bl (u : Un) : Nat → Int
  | 0 => 0
  | j + 1 => if u.o j = true then (if bn u j = 0 then u.x j else min (bl u j) (u.x j)) else bl u j
def bh (u : Un) : Nat → Int
  | 0 => 0
  | j + 1 => if u.o j = true then (if bn u j = 0 then u.x j else max (bh u j) (u.x j)) else bh u j
theorem bn_le (u : Un) (j : Nat) : bn u j ≤ j := by
  induction j with
  | zero => exact Nat.le_refl _
  | succ j ih => rw [bn]; split <;> omega
theorem between_math (u : Un) (t : Vt) (ht : VOk t) (h0 : t.st = 0) : sok u t = decide (0 < bn u 3) ∧ (0 < bn u 3 → bl u 3 ≤ sx u t ∧ sx u t ≤ bh u 3) ∧ (bn u 3 = 0 → sx u t = 0) := by
  have hs : (hr u t 3).st = 0 := (hr_st u t 3).1.trans h0
  have c : ∀ i, i < 3 → ((hr u t 3).a i ≤ 0) = (u.o i = true) := by
    intro i hi
    rw [(hr_v u t i hi).2]
    have := (ht.a i hi).1
    cases u.o i
    · simp [cnt]; omega
    · simp
  have e0 := (hr_v u t 0 (by omega)).1
  have e1 := (hr_v u t 1 (by omega)).1
  have e2 := (hr_v u t 2 (by omega)).1
  unfold sok sx
  rw [vl3, hs]
  simp only [c 0 (by omega), c 1 (by omega), c 2 (by omega), e0, e1, e2]
  simp only [bn, bl, bh]
  have b : ∀ x : Bool, x = true ∨ x = false := fun x => by cases x <;> simp
  rcases b (u.o 0) with h0 | h0 <;> rcases b (u.o 1) with h1 | h1 <;> rcases b (u.o 2) with h2 | h2 <;> simp [h0, h1, h2, midL, hlf] <;> omega
theorem Blk.past2 {W : World} {B sb : Nat} {cs : Array Value} {t : TypeId} (h : Blk W B cs t) (hne : ¬ B = sb) (u v : Value) : Blk ((W.setCell ⟨sb, 0, none⟩ u).setCell ⟨sb, 1, none⟩ v) B cs t := (h.setOther hne _ _).setOther hne _ _
theorem below_two {n : Nat} {w W : World} {sb : Nat} (h : Below n w W) (hs : n ≤ sb) (hn : n ≤ W.heap.size) (u v : Value) : Below n w ((W.setCell ⟨sb, 0, none⟩ u).setCell ⟨sb, 1, none⟩ v) := below_set (below_set h _ _ _ hs hn) _ _ _ hs (by rw [setCell_size]; exact hn)
theorem size_two (W : World) (sb : Nat) (u v : Value) : ((W.setCell ⟨sb, 0, none⟩ u).setCell ⟨sb, 1, none⟩ v).heap.size = W.heap.size := by rw [setCell_size, setCell_size]
theorem min_if (a b : Int) : min a b = if b < a then b else a := by split <;> omega
theorem max_if (a b : Int) : max a b = if a < b then b else a := by split <;> omega
/-- the world in which a tick is read -/
theorem tick_below {w w' : World} {g o : Nat} {u : Un} (hb : Below w.heap.size w w') (hg : g < w.heap.size) (h : w.cell? ⟨g, o, none⟩ = some (.bool (u.o 0)) ∧ w.cell? ⟨g, o + 1, none⟩ = some (.int .i64 (u.x 0)) ∧ w.cell? ⟨g, o + 2, none⟩ = some (.bool (u.o 1)) ∧ w.cell? ⟨g, o + 3, none⟩ = some (.int .i64 (u.x 1)) ∧ w.cell? ⟨g, o + 4, none⟩ = some (.bool (u.o 2)) ∧ w.cell? ⟨g, o + 5, none⟩ = some (.int .i64 (u.x 2))) : w'.cell? ⟨g, o, none⟩ = some (.bool (u.o 0)) ∧ w'.cell? ⟨g, o + 1, none⟩ = some (.int .i64 (u.x 0)) ∧ w'.cell? ⟨g, o + 2, none⟩ = some (.bool (u.o 1)) ∧ w'.cell? ⟨g, o + 3, none⟩ = some (.int .i64 (u.x 1)) ∧ w'.cell? ⟨g, o + 4, none⟩ = some (.bool (u.o 2)) ∧ w'.cell? ⟨g, o + 5, none⟩ = some (.int .i64 (u.x 2)) :=
  ⟨(hb.cell (p := ⟨g, _, none⟩) hg).trans h.1, (hb.cell (p := ⟨g, _, none⟩) hg).trans h.2.1, (hb.cell (p := ⟨g, _, none⟩) hg).trans h.2.2.1, (hb.cell (p := ⟨g, _, none⟩) hg).trans h.2.2.2.1, (hb.cell (p := ⟨g, _, none⟩) hg).trans h.2.2.2.2.1, (hb.cell (p := ⟨g, _, none⟩) hg).trans h.2.2.2.2.2⟩
set_option maxHeartbeats 2000000 in
set_option maxRecDepth 100000 in
theorem VoteBetween_walk (tv : Value) (w : World) (hT0 : ∃ L, Tks w tv L) : Calls Try.prog 6 #[tv] w fun e w' => e = .returned (.bool true) ∧ Below w.heap.size w w' := by
  obtain ⟨L, hT⟩ := hT0
  have HT := hide hT
  have hmax := hT.2.1
  unfold maxLen at hmax
  obtain ⟨_, _, ta, tc, rfl, _⟩ := hT
  obtain ⟨n, hn⟩ : ∃ n, Hid (L.length = n) := ⟨_, hide rfl⟩
  rw [hn.out] at HT hmax ⊢
  go_enter Try.func6, Try.ntmps6
  go_wp2_with (go_at_call 9; refine (new_any w 0 0 (by decide) (by decide) (by decide)).mono ?_; rintro e w1 ⟨B, rfl, hB, hb1, hBw⟩)
  have HB0 : Hid (Blk w1 B (vC (vN 0 0)) 53) := hide hB
  have Hb1 := hide hb1
  clear hB hb1
  go_loopw [5] (fun vi wr => ∃ (k : Nat) (t : Vt), vi = .int .i64 (k : Int) ∧ k ≤ n ∧ VOk t ∧ Hid (t.st = 0) ∧ Blk wr B (vC t) 53 ∧ Below w.heap.size w wr) (fun v _ => n - (intOf v).toNat)
  case atStart => exact ⟨0, vN 0 0, rfl, by omega, vN_ok (by decide) (by decide) (by decide) (by decide), hide rfl, HB0.out, Hb1.out⟩
  case round =>
    clear HB0 Hb1
    obtain ⟨i, t, rfl, hk, hok, hst, hB, hb⟩ := hrel
    have HOK := hide hok
    have HB := hide hB
    have Hb1 := hide hb
    clear hok hB hb
    by_cases hlt : i < n
    · obtain ⟨g, o, cap, u, e1, hg, hv, hvo, hcells⟩ := HT.out.get i (by rw [hn.out]; exact hlt)
      injection e1 with e1 e2 e3
      subst e1 e3
      clear hv e2
      have HVO := hide hvo
      have HC := hide hcells
      clear hvo hcells
      go_wp2_with fail
      have HB2 := hide (HB.out.alloc (.cells #[.int .i64 0, .int .i64 0] 43))
      have SB := hide (Blk.new wr #[.int .i64 0, .int .i64 0] 43)
      have hwr := Hb1.out.size
      have l1 := HB.out.lt
      have Hb2 := hide (Hb1.out.alloc hwr (.cells #[.int .i64 0, .int .i64 0] 43))
      have n1 : ¬ B = wr.heap.size := by omega
      clear HB Hb1 l1
      generalize wr.heap.size = sb at *
      generalize wr.alloc (.cells #[.int .i64 0, .int .i64 0] 43) = W1 at *
      go_loopw [6, 8] (fun vn vj wr2 => ∃ j : Nat, vj = .int .i64 (j : Int) ∧ j ≤ 3 ∧ vn = .int .i64 (bn u j : Int) ∧ Blk wr2 sb #[.int .i64 (bl u j), .int .i64 (bh u j)] 43 ∧ Blk wr2 B (vC t) 53 ∧ Below w.heap.size w wr2) (fun _ v _ => 3 - (intOf v).toNat)
      case atStart => exact ⟨0, rfl, by omega, rfl, SB.out, HB2.out, Hb2.out⟩
      case round =>
        clear HB2 SB Hb2
        obtain ⟨j, rfl, hj, rfl, hS, hB, hb⟩ := hrel
        have hgl := bn_le u j
        have SB := hide hS
        have HB := hide hB
        have Hb2 := hide hb
        obtain ⟨k0, k1, k2, k3, k4, k5⟩ := tick_below hb hg HC.out
        clear hS hB hb
        by_cases h3 : j = 3
        · subst h3
          obtain ⟨hok1, hin, hno⟩ := between_math u t HOK.out hst.out
          obtain ⟨m, hm⟩ : ∃ m, Hid (bn u 3 = m) := ⟨_, hide rfl⟩
          obtain ⟨lo, hlo⟩ : ∃ m, Hid (bl u 3 = m) := ⟨_, hide rfl⟩
          obtain ⟨hi, hhi⟩ : ∃ m, Hid (bh u 3 = m) := ⟨_, hide rfl⟩
          obtain ⟨y, hy⟩ : ∃ m, Hid (sx u t = m) := ⟨_, hide rfl⟩
          rw [hm.out] at hok1 hin hno hgl ⊢
          rw [hlo.out] at hin SB
          rw [hhi.out] at hin SB
          rw [hy.out] at hin hno
          have HST := hide (show (stp u t).st = 0 by
            unfold stp; simp only; split
            · exact (hr_st u t 3).1.trans hst.out
            · exact (hr_st u t 3).1.trans hst.out)
          have SO := hide (stp_ok HVO.out HOK.out)
          have hBs : ¬ B = sb := n1
          by_cases hm0 : m = 0
          · subst hm0
            have hy0 := hno rfl
            subst hy0
            have ST : Hid (Calls Try.prog 14 #[.pointer (some ⟨B, 0, none⟩), .agg #[.bool (u.o 0), .int .i64 (u.x 0), .bool (u.o 1), .int .i64 (u.x 1), .bool (u.o 2), .int .i64 (u.x 2)]] wr fun e w' => e = .returned (.agg #[.bool false, .int .i64 0]) ∧ Blk w' B (vC (stp u t)) 53 ∧ wr.grownBy w' (some B)) := hide (by
              have := step_any wr B t u HB.out HOK.out HVO.out
              rw [hok1, hy.out] at this
              exact this)
            clear hok1 hin hno
            go_wp2_with (go_at_call 14; refine ST.out.mono ?_; rintro e wn ⟨rfl, hB, hG⟩; replace Hb2 := hide (grown_over Hb2.out hG (fun q e => by injection e with e; omega)); replace HB := hide hB; clear hB hG)
            go_roundw
            case rel => exact ⟨i + 1, stp u t, by go_num, by omega, SO.out, HST, HB.out.alloc _, Hb2.out.alloc Hb2.out.size _⟩
            case measure => simp [intOf]; omega
          · obtain ⟨hya, hyb⟩ := hin (by omega)
            have hok2 : sok u t = true := by rw [hok1]; simp; omega
            have ST : Hid (Calls Try.prog 14 #[.pointer (some ⟨B, 0, none⟩), .agg #[.bool (u.o 0), .int .i64 (u.x 0), .bool (u.o 1), .int .i64 (u.x 1), .bool (u.o 2), .int .i64 (u.x 2)]] wr fun e w' => e = .returned (.agg #[.bool true, .int .i64 y]) ∧ Blk w' B (vC (stp u t)) 53 ∧ wr.grownBy w' (some B)) := hide (by
              have := step_any wr B t u HB.out HOK.out HVO.out
              rw [hok2, hy.out] at this
              exact this)
            have hwi : (decide (lo ≤ y) && decide (y ≤ hi)) = true := by simp [hya, hyb]
            have WI : Hid (∀ w', Calls Try.prog 16 #[.int .i64 y, .agg #[.int .i64 lo, .int .i64 hi]] w' fun e w'' => e = .returned (.bool true) ∧ Below w'.heap.size w' w'') := hide (fun w' => by
              have := within_fn y lo hi w'
              rw [hwi] at this
              exact this)
            have hmd : decide (0 < m) = true := by simp; omega
            have hmp : 0 < m := by omega
            clear hok1 hin hno hok2 hwi hya hyb hm0
            go_wp2_with (first
              | (go_at_call 14; refine ST.out.mono ?_; rintro e wn ⟨rfl, hB, hG⟩; replace Hb2 := hide (grown_over Hb2.out hG (fun q e => by injection e with e; omega)); replace HB := hide hB; replace SB := hide (SB.out.grown hG (fun e => by injection e with e; exact hBs e)); have lsb := SB.out.lt; have s0 : wn.cell? ⟨sb, 0, none⟩ = some (.int .i64 lo) := SB.out.cell 0 rfl; have s1 : wn.cell? ⟨sb, 1, none⟩ = some (.int .i64 hi) := SB.out.cell 1 rfl; clear hB hG)
              | (go_at_call 16; refine (WI.out _).mono ?_; rintro e w6 ⟨rfl, hb6⟩; replace HB := hide ((HB.out.alloc _).after hb6); replace Hb2 := hide (below_next (Hb2.out.alloc Hb2.out.size _) (Nat.le_refl _) hb6); have r0 : w6.cell? ⟨wn.heap.size, 0, none⟩ = some (.bool true) := ((Blk.new wn #[.bool true, .int .i64 y] 36).after hb6).cell 0 rfl; clear hb6))
            go_roundw
            case rel => exact ⟨i + 1, stp u t, by go_num, by omega, SO.out, HST, HB.out, Hb2.out⟩
            case measure => simp [intOf]; omega
        · have HN : Hid (bn u (j + 1) = bn u j + if u.o j = true then 1 else 0) := hide rfl
          have HL : Hid (bl u (j + 1) = if u.o j = true then (if bn u j = 0 then u.x j else min (bl u j) (u.x j)) else bl u j) := hide rfl
          have HH : Hid (bh u (j + 1) = if u.o j = true then (if bn u j = 0 then u.x j else max (bh u j) (u.x j)) else bh u j) := hide rfl
          obtain ⟨m, hm⟩ : ∃ m, Hid (bn u j = m) := ⟨_, hide rfl⟩
          obtain ⟨lo, hlo⟩ : ∃ m, Hid (bl u j = m) := ⟨_, hide rfl⟩
          obtain ⟨hi, hhi⟩ : ∃ m, Hid (bh u j = m) := ⟨_, hide rfl⟩
          rw [hm.out] at HN HL HH hgl
          rw [hlo.out] at HL SB
          rw [hhi.out] at HH SB
          rw [hm.out]
          have s0 : wr.cell? ⟨sb, 0, none⟩ = some (.int .i64 lo) := SB.out.cell 0 rfl
          have s1 : wr.cell? ⟨sb, 1, none⟩ = some (.int .i64 hi) := SB.out.cell 1 rfl
          have f0 := SB.out.frozen 0
          have f1 := SB.out.frozen 1
          obtain rfl | rfl | rfl : j = 0 ∨ j = 1 ∨ j = 2 := by omega
          · rcases (show u.o 0 = true ∨ u.o 0 = false by cases u.o 0 <;> simp) with ho | ho
            · rw [ho] at k0
              rw [ho, if_pos rfl] at HN HL HH
              clear ho
              by_cases hm0 : m = 0
              · rw [if_pos hm0] at HL HH
                have hm1 : ((m : Int) == 0) = true := by subst hm0; rfl
                have hme := hide hm0
                clear hm0
                go_wp2_with fail
                go_roundw
                case rel =>
                  refine ⟨0 + 1, by go_num, by omega, by rw [HN.out]; go_num, ?_, ?_, ?_⟩
                  · rw [HL.out, HH.out]; exact (SB.out.set2 _ _).set2 _ _
                  · exact (HB.out.past2 n1 _ _).past2 n1 _ _
                  · exact below_two (below_two Hb2.out hwr Hb2.out.size _ _) hwr (by rw [size_two]; exact Hb2.out.size) _ _
                case measure => simp [intOf]
              · rw [if_neg hm0] at HL HH
                have hm1 : ((m : Int) == 0) = false := by simp; omega
                clear hm0
                rw [min_if] at HL
                rw [max_if] at HH
                go_wp2_with fail
                go_roundw
                case rel => exact ⟨0 + 1, by go_num, by omega, by rw [HN.out]; go_num, by rw [HL.out, HH.out]; exact SB.out.set2 _ _, HB.out.past2 n1 _ _, below_two Hb2.out hwr Hb2.out.size _ _⟩
                case measure => simp [intOf]
            · rw [ho] at k0
              rw [ho, if_neg (by simp)] at HN HL HH
              clear ho
              go_wp2_with fail
              go_roundw
              case rel => exact ⟨0 + 1, by go_num, by omega, by rw [HN.out]; go_num, by rw [HL.out, HH.out]; exact SB.out, HB.out, Hb2.out⟩
              case measure => simp [intOf]
          · rcases (show u.o 1 = true ∨ u.o 1 = false by cases u.o 1 <;> simp) with ho | ho
            · rw [ho] at k2
              rw [ho, if_pos rfl] at HN HL HH
              clear ho
              by_cases hm0 : m = 0
              · rw [if_pos hm0] at HL HH
                have hm1 : ((m : Int) == 0) = true := by subst hm0; rfl
                have hme := hide hm0
                clear hm0
                go_wp2_with fail
                go_roundw
                case rel =>
                  refine ⟨1 + 1, by go_num, by omega, by rw [HN.out]; go_num, ?_, ?_, ?_⟩
                  · rw [HL.out, HH.out]; exact (SB.out.set2 _ _).set2 _ _
                  · exact (HB.out.past2 n1 _ _).past2 n1 _ _
                  · exact below_two (below_two Hb2.out hwr Hb2.out.size _ _) hwr (by rw [size_two]; exact Hb2.out.size) _ _
                case measure => simp [intOf]
              · rw [if_neg hm0] at HL HH
                have hm1 : ((m : Int) == 0) = false := by simp; omega
                clear hm0
                rw [min_if] at HL
                rw [max_if] at HH
                go_wp2_with fail
                go_roundw
                case rel => exact ⟨1 + 1, by go_num, by omega, by rw [HN.out]; go_num, by rw [HL.out, HH.out]; exact SB.out.set2 _ _, HB.out.past2 n1 _ _, below_two Hb2.out hwr Hb2.out.size _ _⟩
                case measure => simp [intOf]
            · rw [ho] at k2
              rw [ho, if_neg (by simp)] at HN HL HH
              clear ho
              go_wp2_with fail
              go_roundw
              case rel => exact ⟨1 + 1, by go_num, by omega, by rw [HN.out]; go_num, by rw [HL.out, HH.out]; exact SB.out, HB.out, Hb2.out⟩
              case measure => simp [intOf]
          · rcases (show u.o 2 = true ∨ u.o 2 = false by cases u.o 2 <;> simp) with ho | ho
            · rw [ho] at k4
              rw [ho, if_pos rfl] at HN HL HH
              clear ho
              by_cases hm0 : m = 0
              · rw [if_pos hm0] at HL HH
                have hm1 : ((m : Int) == 0) = true := by subst hm0; rfl
                have hme := hide hm0
                clear hm0
                go_wp2_with fail
                go_roundw
                case rel =>
                  refine ⟨2 + 1, by go_num, by omega, by rw [HN.out]; go_num, ?_, ?_, ?_⟩
                  · rw [HL.out, HH.out]; exact (SB.out.set2 _ _).set2 _ _
                  · exact (HB.out.past2 n1 _ _).past2 n1 _ _
                  · exact below_two (below_two Hb2.out hwr Hb2.out.size _ _) hwr (by rw [size_two]; exact Hb2.out.size) _ _
                case measure => simp [intOf]
              · rw [if_neg hm0] at HL HH
                have hm1 : ((m : Int) == 0) = false := by simp; omega
                clear hm0
                rw [min_if] at HL
                rw [max_if] at HH
                go_wp2_with fail
                go_roundw
                case rel => exact ⟨2 + 1, by go_num, by omega, by rw [HN.out]; go_num, by rw [HL.out, HH.out]; exact SB.out.set2 _ _, HB.out.past2 n1 _ _, below_two Hb2.out hwr Hb2.out.size _ _⟩
                case measure => simp [intOf]
            · rw [ho] at k4
              rw [ho, if_neg (by simp)] at HN HL HH
              clear ho
              go_wp2_with fail
              go_roundw
              case rel => exact ⟨2 + 1, by go_num, by omega, by rw [HN.out]; go_num, by rw [HL.out, HH.out]; exact SB.out, HB.out, Hb2.out⟩
              case measure => simp [intOf]
    · obtain rfl : i = n := by omega
      go_wp2_with (go_at_call 11; refine (awakeV _).mono ?_; rintro e w5 ⟨rfl, hb5⟩)
      go_ret
      exact ⟨rfl, below_next Hb1.out (Nat.le_refl _) hb5⟩
end Go.Proofs.Ytmglcmhofcejiaa
