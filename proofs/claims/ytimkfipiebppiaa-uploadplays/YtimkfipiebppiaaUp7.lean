/- Package upload: New, Busy, Keep, Tick. -/
import Derived.Test.YtimkfipiebppiaaUp6
namespace Go.Proofs.Ytimkfipiebppiaa
open Go.RowKit Go.Great

/-- may a desk be made? -/
def newB (wh ms : Int) : Bool := decide (0 ≤ wh ∧ wh ≤ 255 ∧ 1 ≤ ms ∧ ms ≤ 65535)
theorem newD_no (wh ms : Int) (h : newB wh ms = false) (w : World) : Calls Try.prog 8 #[.int .i64 wh, .int .i64 ms] w fun e w' => e = .returned (.tuple #[.pointer none, .int .i64 1]) ∧ w' = w := by
  have h : ¬ (0 ≤ wh ∧ wh ≤ 255 ∧ 1 ≤ ms ∧ ms ≤ 65535) := by simpa [newB] using h
  by_cases h1 : wh < 0
  · clear h
    go_enter Try.func8, Try.ntmps8
    go_wp2_with fail
    go_ret2
    exact ⟨rfl, rfl⟩
  · by_cases h2 : 255 < wh
    · clear h
      go_enter Try.func8, Try.ntmps8
      go_wp2_with fail
      go_ret2
      exact ⟨rfl, rfl⟩
    · by_cases h3 : ms < 1
      · clear h
        go_enter Try.func8, Try.ntmps8
        go_wp2_with fail
        go_ret2
        exact ⟨rfl, rfl⟩
      · have h4 : 65535 < ms := by omega
        clear h
        go_enter Try.func8, Try.ntmps8
        go_wp2_with fail
        go_ret2
        exact ⟨rfl, rfl⟩
theorem newD_any (wh ms : Int) (h : newB wh ms = true) (w : World) : Calls Try.prog 8 #[.int .i64 wh, .int .i64 ms] w fun e w' => ∃ D, e = .returned (.tuple #[dP D, .int .i64 0]) ∧ Dsk w' D wh ms ls0 [] ∧ w.heap.size ≤ D ∧ Below w.heap.size w w' := by
  have h : 0 ≤ wh ∧ wh ≤ 255 ∧ 1 ≤ ms ∧ ms ≤ 65535 := of_decide_eq_true h
  have HB := hide (Blk.new w (deC wh ms ls0 (.pointer none)) 68)
  have Hb := hide (below_alloc w (.cells (deC wh ms ls0 (.pointer none)) 68))
  go_enter Try.func8, Try.ntmps8
  go_wp2_with fail
  go_ret2
  exact ⟨w.heap.size, rfl, ⟨_, HB.out, rfl, fun k hk => by cases hk⟩, Nat.le_refl _, Hb.out⟩
theorem busy_nil (w : World) : Calls Try.prog 13 #[.pointer none] w fun e w' => e = .returned (.bool false) ∧ w' = w := by
  go_enter Try.func13, Try.ntmps13
  go_wp2_with fail
  go_ret
  exact ⟨rfl, rfl⟩
theorem busy_any (w : World) (D : Nat) (wh ms : Int) (l : Ls) (ks : List Nat) (h : Dsk w D wh ms l ks) : Calls Try.prog 13 #[dP D] w fun e w' => e = .returned (.bool (decide (0 < l.cn))) ∧ w' = w := by
  obtain ⟨p, hB, _, _⟩ := h
  have c2 : w.cell? ⟨D, 2, none⟩ = some (.int .i64 l.cn) := hB.cell 2 rfl
  clear hB
  go_enter Try.func13, Try.ntmps13
  go_wp2_with fail
  go_ret
  exact ⟨rfl, rfl⟩
theorem keep_nil (r : Int) (w : World) : Calls Try.prog 26 #[.pointer none, .int .i64 r] w fun e w' => e = .returned (.slice none 0 0) ∧ w' = w := by
  go_enter Try.func26, Try.ntmps26
  go_wp2_with fail
  go_ret
  exact ⟨rfl, rfl⟩
theorem tick_nil (r : Int) (w : World) : Calls Try.prog 17 #[.pointer none, .int .i64 r] w fun e w' => e = .returned (.slice none 0 0) ∧ w' = w := by
  go_enter Try.func17, Try.ntmps17
  go_wp2_with fail
  go_ret
  exact ⟨rfl, rfl⟩
theorem keep_any (w : World) (D : Nat) (wh ms : Int) (l : Ls) (ks : List Nat) (h : Dsk w D wh ms l ks) (r : Int) : Calls Try.prog 26 #[dP D, .int .i64 r] w (DEnd w D wh ms ks (keepS wh l r)) := by
  have HD := hide h
  have DR : Hid (∀ W, Below w.heap.size w W → Calls Try.prog 40 #[dP D, .int .i64 r] W (DEnd W D wh ms ks (dropS wh r))) := hide (fun W hb => drop_any W D wh ms l ks (h.after hb) r)
  have HE : Hid (keepS wh l r = if rdB l = true then dropS wh r else (l, none)) := hide rfl
  rw [HE.out]
  obtain ⟨p, hB, hC, _⟩ := h
  obtain ⟨q, rfl⟩ := chn_ptr hC
  have LR := hide (listready_any l.cn l.hd l.he l.ag (.pointer q) w)
  have HT : Hid ((decide (0 < l.cn) && (l.hd == l.cn)) = rdB l) := hide rfl
  rw [HT.out] at LR
  have c2 : w.cell? ⟨D, 2, none⟩ = some (.int .i64 l.cn) := hB.cell 2 rfl
  have c3 : w.cell? ⟨D, 3, none⟩ = some (.int .i64 l.hd) := hB.cell 3 rfl
  have c4 : w.cell? ⟨D, 4, none⟩ = some (.pointer q) := hB.cell 4 rfl
  have c5 : w.cell? ⟨D, 5, none⟩ = some (.int .i64 l.he) := hB.cell 5 rfl
  have c6 : w.cell? ⟨D, 6, none⟩ = some (.int .i64 l.ag) := hB.cell 6 rfl
  clear hB hC HE HT
  generalize rdB l = y at *
  cases y
  · rw [if_neg (by simp)]
    go_enter Try.func26, Try.ntmps26
    go_wp2_with fail
    refine LR.out.mono ?_
    rintro e w1 ⟨rfl, hb⟩
    have Hb := hide hb
    clear hb
    go_wp2_with fail
    go_ret
    exact dEnd_none HD.out Hb.out
  · rw [if_pos rfl]
    go_enter Try.func26, Try.ntmps26
    go_wp2_with fail
    refine LR.out.mono ?_
    rintro e w1 ⟨rfl, hb⟩
    have Hb := hide hb
    clear hb
    go_wp2_with fail
    refine (DR.out _ Hb.out).mono ?_
    intro e w2 hq
    obtain ⟨v, rfl, hq⟩ := hq.value
    have HQ := hide (hq.before Hb.out)
    clear hq
    go_wp2_with fail
    go_ret
    exact HQ.out
theorem set56 {W : World} {B : Nat} {x y a b c d e : Value} {t : TypeId} (h : Blk W B #[x, y, a, b, c, d, e] t) (d' e' : Value) : Blk ((W.setCell ⟨B, 6, none⟩ e').setCell ⟨B, 5, none⟩ d') B #[x, y, a, b, c, d', e'] t := (h.set 6 e').set 5 d'
theorem grown56 (W : World) (B : Nat) (d' e' : Value) : W.grownBy ((W.setCell ⟨B, 6, none⟩ e').setCell ⟨B, 5, none⟩ d') (some B) := grown_more (grown_set _ _ _ _) (grown_set _ _ _ _)
set_option maxHeartbeats 1000000 in
theorem tick_any (w : World) (D : Nat) (wh ms : Int) (l : Ls) (ks : List Nat) (h : Dsk w D wh ms l ks) (hl : LOk ms l) (now : Int) (hn : I64 now) : Calls Try.prog 17 #[dP D, .int .i64 now] w (DEnd w D wh ms ks (tickS wh l now)) := by
  have HD := hide h
  have DR : Hid (∀ W, Below w.heap.size w W → Calls Try.prog 40 #[dP D, .int .i64 210] W (DEnd W D wh ms ks (dropS wh 210))) := hide (fun W hb => drop_any W D wh ms l ks (h.after hb) 210)
  have LT := hide (late_any l.he now hl.e hn)
  have hag := hl.a
  obtain ⟨R, hR⟩ : ∃ R, Hid (tickS wh l now = R) := ⟨_, hide rfl⟩
  rw [hR.out]
  have HE : Hid (R = if tkB l = false ∨ ltB l.he now = false then (l, none) else if l.ag = 5 then dropS wh 210 else askS wh ⟨l.cn, now, l.ag + 1, l.rw⟩) := hide hR.out.symm
  clear hR
  obtain ⟨p, hB, hC, h3⟩ := h
  obtain ⟨q, rfl⟩ := chn_ptr hC
  have TK := hide (taken_any l.cn l.hd l.he l.ag (.pointer q) w)
  have HT : Hid (decide (l.hd < l.cn) = tkB l) := hide rfl
  rw [HT.out] at TK
  have HB := hide hB
  have HC := hide hC
  have H3 := hide h3
  have c2 : w.cell? ⟨D, 2, none⟩ = some (.int .i64 l.cn) := hB.cell 2 rfl
  have c3 : w.cell? ⟨D, 3, none⟩ = some (.int .i64 l.hd) := hB.cell 3 rfl
  have c4 : w.cell? ⟨D, 4, none⟩ = some (.pointer q) := hB.cell 4 rfl
  have c5 : w.cell? ⟨D, 5, none⟩ = some (.int .i64 l.he) := hB.cell 5 rfl
  have c6 : w.cell? ⟨D, 6, none⟩ = some (.int .i64 l.ag) := hB.cell 6 rfl
  clear hB hC h3 HT
  generalize tkB l = y at *
  generalize hyl : ltB l.he now = z at *
  clear hyl
  go_enter Try.func17, Try.ntmps17
  cases y
  · have eR : R = (l, none) := by rw [HE.out, if_pos (.inl rfl)]
    subst eR
    go_wp2_with fail
    refine TK.out.mono ?_
    rintro e w1 ⟨rfl, hb⟩
    have Hb := hide hb
    clear hb
    go_wp2_with fail
    go_ret
    exact dEnd_none HD.out Hb.out
  · go_wp2_with fail
    refine TK.out.mono ?_
    rintro e w1 ⟨rfl, hb⟩
    have Hb := hide hb
    clear hb c2 c3 c4 c5 c6
    have HB1 := hide (HB.out.after Hb.out)
    have c5 : w1.cell? ⟨D, 5, none⟩ = some (.int .i64 l.he) := HB1.out.cell 5 rfl
    have c6 : w1.cell? ⟨D, 6, none⟩ = some (.int .i64 l.ag) := HB1.out.cell 6 rfl
    go_wp2_with fail
    refine (LT.out _).mono ?_
    rintro e w2 ⟨rfl, hw2⟩
    obtain rfl := hw2.symm
    cases z
    · have eR : R = (l, none) := by rw [HE.out, if_pos (.inr rfl)]
      subst eR
      go_wp2_with fail
      go_ret
      exact dEnd_none HD.out Hb.out
    · by_cases h5 : l.ag = 5
      · have eR : R = dropS wh 210 := by rw [HE.out, if_neg (by simp), if_pos h5]
        subst eR
        rw [h5] at c6
        clear h5
        go_wp2_with fail
        refine (DR.out _ Hb.out).mono ?_
        intro e w3 hq
        obtain ⟨v, rfl, hq⟩ := hq.value
        have HQ := hide (hq.before Hb.out)
        clear hq
        go_wp2_with fail
        go_ret
        exact HQ.out
      · have eR : R = askS wh ⟨l.cn, now, l.ag + 1, l.rw⟩ := by rw [HE.out, if_neg (by simp), if_neg h5]
        subst eR
        have q5 : (l.ag == 5) = false := by simpa using h5
        have f5 := HB1.out.frozen 5
        have f6 := HB1.out.frozen 6
        have HS := hide (set56 HB1.out (.int .i64 now) (.int .i64 (l.ag + 1)))
        have HG := hide (grown56 w1 D (.int .i64 now) (.int .i64 (l.ag + 1)))
        clear h5
        go_upto_region 7 with fail
        clear c5 c6 f5 f6 q5
        generalize (w1.setCell ⟨D, 6, none⟩ (.int .i64 (l.ag + 1))).setCell ⟨D, 5, none⟩ (.int .i64 now) = W at *
        have HG0 : Hid (w.grownBy W (some D)) := hide (grown_then (grown_below Hb.out (some D)) HG.out (fun k e => .inl (by injection e with e; exact e.symm)))
        have HD2 : Hid (Dsk W D wh ms ⟨l.cn, now, l.ag + 1, l.rw⟩ ks) := hide ⟨.pointer q, HS.out, HC.out.keep HG0.out.size (fun k hk => HG0.out.block k (H3.out k hk).1 (fun e => (H3.out k hk).2 (by injection e))) (fun _ h => h), fun k hk => ⟨Nat.lt_of_lt_of_le (H3.out k hk).1 HG0.out.size, (H3.out k hk).2⟩⟩
        have SA := hide (ask_any W D wh ms _ _ HD2.out)
        clear HS HG
        go_wp2_with fail
        refine SA.out.mono ?_
        rintro e w3 ⟨v, rfl, ha, hb3⟩
        have HA := hide ha
        have Hb3 := hide hb3
        clear ha hb3
        go_wp2_with fail
        go_ret
        exact dEnd_say HD2.out (fun k hk => .inl hk) HG0.out HA.out Hb3.out
end Go.Proofs.Ytimkfipiebppiaa
