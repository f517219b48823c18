/- Package upload: drop, ask, begin, cancel; a list with one more row. -/
import Derived.Test.YtimkfipiebppiaaUp1
namespace Go.Proofs.Ytimkfipiebppiaa
open Go.RowKit Go.Great

/-- an answer of say, as the end of a call -/
theorem dEnd_say {w W w' : World} {D : Nat} {wh ms : Int} {ks ks' : List Nat} {l : Ls} {v : Value} {a : An} (hD : Dsk W D wh ms l ks') (hks : ∀ k ∈ ks', k ∈ ks ∨ w.heap.size ≤ k) (hg : w.grownBy W (some D)) (ha : Ans w' W.heap.size v a) (hb : Below W.heap.size W w') : DEnd w D wh ms ks (l, a) (.returned v) w' := by
  have h3 : ∀ k ∈ ks', k < W.heap.size := by
    obtain ⟨p, _, _, h3⟩ := hD; exact fun k hk => (h3 k hk).1
  exact ⟨v, ks', W.heap.size, rfl, hD.after hb, hks, h3, hg.size, ha, grown_after hg hb⟩
/-- a call that does nothing -/
theorem dEnd_none {w w' : World} {D : Nat} {wh ms : Int} {ks : List Nat} {l : Ls} (hD : Dsk w D wh ms l ks) (hb : Below w.heap.size w w') : DEnd w D wh ms ks (l, none) (.returned (.slice none 0 0)) w' := by
  have h3 : ∀ k ∈ ks, k < w.heap.size := by
    obtain ⟨p, _, _, h3⟩ := hD; exact fun k hk => (h3 k hk).1
  exact ⟨_, ks, w.heap.size, rfl, hD.after hb, fun k hk => .inl hk, h3, Nat.le_refl _, rfl, grown_below hb _⟩
theorem DEnd.before {w W w' : World} {D : Nat} {wh ms : Int} {ks : List Nat} {r : Ls × An} {e : Ending} (hb : Below w.heap.size w W) (h : DEnd W D wh ms ks r e w') : DEnd w D wh ms ks r e w' := by
  obtain ⟨v, ks', b, h0, h1, h2, h3, h4, h5, h6⟩ := h
  exact ⟨v, ks', b, h0, h1, fun k hk => (h2 k hk).imp id (fun h => Nat.le_trans hb.size h), h3, Nat.le_trans hb.size h4, h5, grown_then (grown_below hb (some D)) h6 (fun k e => .inl (by injection e with e; exact e.symm))⟩
theorem DEnd.value {w w' : World} {D : Nat} {wh ms : Int} {ks : List Nat} {r : Ls × An} {e : Ending} (h : DEnd w D wh ms ks r e w') : ∃ v, e = .returned v ∧ DEnd w D wh ms ks r (.returned v) w' := by
  have h0 := h
  obtain ⟨v, _, _, h1, _⟩ := h
  subst h1
  exact ⟨v, rfl, h0⟩
theorem ask_any (w : World) (D : Nat) (wh ms : Int) (l : Ls) (ks : List Nat) (h : Dsk w D wh ms l ks) : Calls Try.prog 41 #[dP D] w fun e w' => ∃ v, e = .returned v ∧ Ans w' w.heap.size v (some (8, wh, l.hd)) ∧ Below w.heap.size w w' := by
  obtain ⟨p, hB, _, _⟩ := h
  have SA := hide (say_any w D _ wh hB rfl 8 l.hd)
  have c3 : w.cell? ⟨D, 3, none⟩ = some (.int .i64 l.hd) := hB.cell 3 rfl
  clear hB
  generalize l.hd = hd at *
  go_enter Try.func41, Try.ntmps41
  go_wp2_with fail
  refine SA.out.mono ?_
  rintro e w1 ⟨v, rfl, ha, hb⟩
  have HA := hide ha
  have Hb := hide hb
  clear ha hb
  go_wp2_with fail
  go_ret
  exact ⟨v, rfl, HA.out, Hb.out⟩
theorem chn_nil (w : World) : Chn w [] (.pointer none) [] := rfl
theorem drop_any (w : World) (D : Nat) (wh ms : Int) (l : Ls) (ks : List Nat) (h : Dsk w D wh ms l ks) (r : Int) : Calls Try.prog 40 #[dP D, .int .i64 r] w (DEnd w D wh ms ks (dropS wh r)) := by
  obtain ⟨p, hB, _, _⟩ := h
  have c2 : w.cell? ⟨D, 2, none⟩ = some (.int .i64 l.cn) := hB.cell 2 rfl
  have c3 : w.cell? ⟨D, 3, none⟩ = some (.int .i64 l.hd) := hB.cell 3 rfl
  have c4 : w.cell? ⟨D, 4, none⟩ = some p := hB.cell 4 rfl
  have c5 : w.cell? ⟨D, 5, none⟩ = some (.int .i64 l.he) := hB.cell 5 rfl
  have c6 : w.cell? ⟨D, 6, none⟩ = some (.int .i64 l.ag) := hB.cell 6 rfl
  have f2 := hB.frozen 2
  have f3 := hB.frozen 3
  have f4 := hB.frozen 4
  have f5 := hB.frozen 5
  have f6 := hB.frozen 6
  have HS := hide (set5 hB (.int .i64 0) (.int .i64 0) (.pointer none) (.int .i64 0) (.int .i64 0))
  have HG := hide (grown5 w D (.int .i64 0) (.int .i64 0) (.pointer none) (.int .i64 0) (.int .i64 0))
  clear hB
  go_enter Try.func40, Try.ntmps40
  go_upto_region 2 with fail
  clear c2 c3 c4 c5 c6 f2 f3 f4 f5 f6
  generalize ((((w.setCell ⟨D, 2, none⟩ (.int .i64 0)).setCell ⟨D, 3, none⟩ (.int .i64 0)).setCell ⟨D, 4, none⟩ (.pointer none)).setCell ⟨D, 5, none⟩ (.int .i64 0)).setCell ⟨D, 6, none⟩ (.int .i64 0) = W at *
  have HD : Hid (Dsk W D wh ms ls0 []) := hide ⟨.pointer none, HS.out, chn_nil _, fun k hk => by cases hk⟩
  have SA := hide (say_any W D _ wh HS.out rfl 10 r)
  clear HS
  go_wp2_with fail
  refine SA.out.mono ?_
  rintro e w1 ⟨v, rfl, ha, hb⟩
  have HA := hide ha
  have Hb := hide hb
  clear ha hb
  go_wp2_with fail
  go_ret
  exact dEnd_say HD.out (fun k hk => by cases hk) HG.out HA.out Hb.out
theorem cancel_any (w : World) (D : Nat) (wh ms : Int) (l : Ls) (ks : List Nat) (h : Dsk w D wh ms l ks) (u : Value) (now : Int) : Calls Try.prog 62 #[dP D, u, .int .i64 now] w (DEnd w D wh ms ks (cancelS wh l)) := by
  have HD := hide h
  have TK := hide (fun p => taken_any l.cn l.hd l.he l.ag p w)
  have DR : Hid (∀ W, Below w.heap.size w W → Calls Try.prog 40 #[dP D, .int .i64 211] W (DEnd W D wh ms ks (dropS wh 211))) := hide (fun W hb => drop_any W D wh ms l ks (h.after hb) 211)
  have HE : Hid (cancelS wh l = if tkB l = true then dropS wh 211 else (l, none)) := hide rfl
  have HT : Hid (decide (l.hd < l.cn) = tkB l) := hide rfl
  rw [HE.out]
  obtain ⟨p, hB, _, _⟩ := h
  have c2 : w.cell? ⟨D, 2, none⟩ = some (.int .i64 l.cn) := hB.cell 2 rfl
  have c3 : w.cell? ⟨D, 3, none⟩ = some (.int .i64 l.hd) := hB.cell 3 rfl
  have c4 : w.cell? ⟨D, 4, none⟩ = some p := hB.cell 4 rfl
  have c5 : w.cell? ⟨D, 5, none⟩ = some (.int .i64 l.he) := hB.cell 5 rfl
  have c6 : w.cell? ⟨D, 6, none⟩ = some (.int .i64 l.ag) := hB.cell 6 rfl
  clear hB HE
  have TKp := hide (TK.out p)
  rw [HT.out] at TKp
  clear TK HT
  generalize tkB l = y at *
  have G0 : Hid (∀ W, Below w.heap.size w W → w.grownBy W (some D)) := hide (fun W hb => grown_below hb _)
  cases y
  · go_enter Try.func62, Try.ntmps62
    go_wp2_with fail
    refine TKp.out.mono ?_
    rintro e w1 ⟨rfl, hb⟩
    have Hb := hide hb
    clear hb
    go_wp2_with fail
    go_ret
    exact dEnd_none HD.out Hb.out
  · go_enter Try.func62, Try.ntmps62
    go_wp2_with fail
    refine TKp.out.mono ?_
    rintro e w1 ⟨rfl, hb⟩
    have Hb := hide hb
    clear hb
    go_wp2_with fail
    refine (DR.out _ Hb.out).mono ?_
    intro e w2 hq
    obtain ⟨v, rfl, hq⟩ := hq.value
    have HQ := hide (hq.before Hb.out)
    clear hq
    go_wp2_with fail
    go_ret
    exact HQ.out
set_option maxHeartbeats 1000000 in
theorem begin_any (w : World) (D : Nat) (wh ms : Int) (l : Ls) (ks : List Nat) (h : Dsk w D wh ms l ks) (fs : List Int) (u : Value) (hu : Ints w u fs) (hf : fs.length = 2) (now : Int) : Calls Try.prog 60 #[dP D, u, .int .i64 now] w (DEnd w D wh ms ks (beginS wh ms (fs.getD 1 0) now)) := by
  have DR := hide (drop_any w D wh ms l ks h 4)
  obtain ⟨a, cap, rfl, hc⟩ := hu
  obtain ⟨g, o, rfl, _, hc⟩ := hc (by omega)
  have d1 := hc 1 (by omega)
  clear hc
  rw [hf]
  generalize fs.getD 1 0 = n at *
  have HB : Hid (beginS wh ms n now = if n < 1 ∨ ms < n then dropS wh 4 else askS wh ⟨n, now, 0, []⟩) := hide rfl
  rw [HB.out]
  clear HB
  obtain ⟨p, hB, _, _⟩ := h
  have c1 : w.cell? ⟨D, 1, none⟩ = some (.int .i64 ms) := hB.cell 1 rfl
  have c2 : w.cell? ⟨D, 2, none⟩ = some (.int .i64 l.cn) := hB.cell 2 rfl
  have c3 : w.cell? ⟨D, 3, none⟩ = some (.int .i64 l.hd) := hB.cell 3 rfl
  have c4 : w.cell? ⟨D, 4, none⟩ = some p := hB.cell 4 rfl
  have c5 : w.cell? ⟨D, 5, none⟩ = some (.int .i64 l.he) := hB.cell 5 rfl
  have c6 : w.cell? ⟨D, 6, none⟩ = some (.int .i64 l.ag) := hB.cell 6 rfl
  by_cases h1 : n < 1
  · rw [if_pos (.inl h1)]
    clear hB
    go_enter Try.func60, Try.ntmps60
    go_wp2_with fail
    refine DR.out.mono ?_
    intro e w2 hq
    obtain ⟨v, rfl, hq⟩ := hq.value
    have HQ := hide hq
    clear hq
    go_wp2_with fail
    go_ret
    exact HQ.out
  · by_cases h2 : ms < n
    · rw [if_pos (.inr h2)]
      clear hB
      go_enter Try.func60, Try.ntmps60
      go_wp2_with fail
      refine DR.out.mono ?_
      intro e w2 hq
      obtain ⟨v, rfl, hq⟩ := hq.value
      have HQ := hide hq
      clear hq
      go_wp2_with fail
      go_ret
      exact HQ.out
    · rw [if_neg (by omega)]
      have f2 := hB.frozen 2
      have f3 := hB.frozen 3
      have f4 := hB.frozen 4
      have f5 := hB.frozen 5
      have f6 := hB.frozen 6
      have HS := hide (set5 hB (.int .i64 n) (.int .i64 0) (.pointer none) (.int .i64 now) (.int .i64 0))
      have HG := hide (grown5 w D (.int .i64 n) (.int .i64 0) (.pointer none) (.int .i64 now) (.int .i64 0))
      clear hB DR
      go_enter Try.func60, Try.ntmps60
      go_upto_region 5 with fail
      clear c1 c2 c3 c4 c5 c6 f2 f3 f4 f5 f6 d1
      generalize ((((w.setCell ⟨D, 2, none⟩ (.int .i64 n)).setCell ⟨D, 3, none⟩ (.int .i64 0)).setCell ⟨D, 4, none⟩ (.pointer none)).setCell ⟨D, 5, none⟩ (.int .i64 now)).setCell ⟨D, 6, none⟩ (.int .i64 0) = W at *
      have HD : Hid (Dsk W D wh ms ⟨n, now, 0, []⟩ []) := hide ⟨.pointer none, HS.out, chn_nil _, fun k hk => by cases hk⟩
      have SA := hide (ask_any W D wh ms _ _ HD.out)
      clear HS
      go_wp2_with fail
      refine SA.out.mono ?_
      rintro e w1 ⟨v, rfl, ha, hb⟩
      have HA := hide ha
      have Hb := hide hb
      clear ha hb
      go_wp2_with fail
      go_ret
      exact dEnd_say HD.out (fun k hk => by cases hk) HG.out HA.out Hb.out
end Go.Proofs.Ytimkfipiebppiaa
