/- RvW: Rv1, Rv2, Rv3, Rv4 in one text. -/
import Derived.Test.YtimkfipiebppiaaUp9
import Derived.Test.YtimkfipiebppiaaGn3
import Derived.Test.YtimkfipiebppiaaRg3
/- The document's desk (windhoverref21): its block; New, say, drop, count, Ready, Keep. -/
namespace Go.Proofs.Ytimkfipiebppiaa
open Go.RowKit Go.Great

/-- idle, taking, or whole -/
def stI (l : Ls) : Int := if l.cn = 0 then 0 else if rdB l = true then 2 else 1
/-- the document's desk's cells -/
abbrev rfC (wh ms : Int) (l : Ls) (v : Value) : Array Value := #[.int .i64 wh, .int .i64 ms, .int .i64 (stI l), .int .i64 l.cn, v, .int .i64 l.he, .int .i64 l.ag]
/-- the document's desk in block X, its rows of its own -/
structure RDv (w : World) (b X : Nat) (wh ms : Int) (l : Ls) (v : Value) (us : List Value) : Prop where
  B : Blk w X (rfC wh ms l v) 29
  o : w.ownsRow b 36 1 v us.length us
  u : Urs w b us l.rw
  x : X < b
  z : b ≤ w.heap.size
/-- what is kept beside the document's desk: all blocks but its own and its rows' -/
def KeX (w w' : World) (X : Nat) (v : Value) : Prop := w'.os = w.os ∧ w'.tape = w.tape ∧ w'.output = w.output ∧ w.heap.size ≤ w'.heap.size ∧ ∀ k, k < w.heap.size → k ≠ X → v.ownBlock ≠ some k → w'.heap[k]? = w.heap[k]?
theorem KeX.of {w w' : World} {X : Nat} {v : Value} (h : w.grownBy w' (some X)) : KeX w w' X v := ⟨h.os, h.tape, h.output, h.size, fun k hk hx _ => h.block k hk (fun e => hx (by injection e))⟩
/-- what a call of the document's desk leaves -/
def XEnd (w : World) (b X : Nat) (wh ms : Int) (v : Value) (r : Ls × An) (e : Ending) (w' : World) : Prop := ∃ z v' us', e = .returned z ∧ RDv w' b X wh ms r.1 v' us' ∧ Ans w' w.heap.size z r.2 ∧ KeX w w' X v
theorem RDv.after {w w' : World} {b X : Nat} {wh ms : Int} {l : Ls} {v : Value} {us : List Value} (h : RDv w b X wh ms l v us) (hb : Below w.heap.size w w') : RDv w' b X wh ms l v us := ⟨h.B.after hb, owns_below h.o hb, h.u.below hb, h.x, Nat.le_trans h.z hb.size⟩
theorem RDv.shape {w : World} {b X : Nat} {wh ms : Int} {l : Ls} {v : Value} {us : List Value} (h : RDv w b X wh ms l v us) : ∃ a c, v = .slice a l.rw.length c := by rw [← h.u.len]; exact rows_shape h.o
theorem RDv.none {w : World} {b X : Nat} {wh ms : Int} {l : Ls} {v : Value} {us : List Value} (h : RDv w b X wh ms l v us) {w' : World} (hb : Below w.heap.size w w') : XEnd w b X wh ms v (l, Option.none) (.returned (.slice Option.none 0 0)) w' := ⟨_, v, us, rfl, h.after hb, rfl, KeX.of (grown_below hb _)⟩
theorem XEnd.say {w W w' : World} {b X : Nat} {wh ms : Int} {l : Ls} {v v' : Value} {us' : List Value} {z : Value} {a : An} (h : RDv W b X wh ms l v' us') (hg : w.grownBy W (some X)) (ha : Ans w' W.heap.size z a) (hb : Below W.heap.size W w') : XEnd w b X wh ms v (l, a) (.returned z) w' := ⟨z, v', us', rfl, h.after hb, ha.up hg.size, KeX.of (grown_after hg hb)⟩
theorem RDv.idle {w : World} {b X : Nat} {wh ms : Int} (hB : Blk w X #[.int .i64 wh, .int .i64 ms, .int .i64 0, .int .i64 0, .slice Option.none 0 0, .int .i64 0, .int .i64 0] 29) (hx : X < b) (hz : b ≤ w.heap.size) : RDv w b X wh ms ls0 (.slice Option.none 0 0) [] := ⟨hB, World.ownsRow_nil _ _ _ _, Urs.nil _ _, hx, hz⟩
theorem stI_0 : stI ls0 = 0 := rfl
theorem stI_take {l : Ls} (h0 : 0 < l.cn) (h : rdB l = false) : stI l = 1 := by unfold stI; rw [if_neg (by omega), if_neg (by rw [h]; simp)]
theorem stI_ready {l : Ls} (h : rdB l = true) : stI l = 2 := by
  have h0 : 0 < l.cn := by unfold rdB at h; simp at h; exact h.1
  unfold stI; rw [if_neg (by omega), if_pos h]
theorem sayR_any (k a b : Int) (w : World) : Calls Try.prog 52 #[.int .u8 k, .int .i64 a, .int .i64 b] w fun e w' => ∃ v, e = .returned v ∧ Ans w' w.heap.size v (some (k, a, b)) ∧ Below w.heap.size w w' := by
  obtain ⟨W2, HW2, hb2, hB1, hB2, hz2⟩ := two_boxes w #[.int .i64 a, .int .i64 b] #[.int .u8 k, .slice (some ⟨w.heap.size, 0, none⟩) 2 2] 3 38
  have Hb := hide hb2
  have H1 := hide hB1
  have H2 := hide hB2
  clear hb2 hB1 hB2 hz2
  go_enter Try.func52, Try.ntmps52
  go_wp2_with fail
  go_ret
  exact ⟨_, rfl, ⟨w.heap.size, w.heap.size + 1, Nat.le_refl _, by omega, by omega, rfl, H2.out, H1.out⟩, Hb.out⟩
theorem newR_no (wh ms : Int) (h : newB wh ms = false) (w : World) : Calls Try.prog 9 #[.int .i64 wh, .int .i64 ms] w fun e w' => e = .returned (.tuple #[.agg (rfC 0 0 ls0 (.slice none 0 0)), .int .i64 1]) ∧ Below w.heap.size w w' := by
  have h : ¬ (0 ≤ wh ∧ wh ≤ 255 ∧ 1 ≤ ms ∧ ms ≤ 65535) := by simpa [newB] using h
  have HB := hide (Blk.new w #[.int .i64 0, .int .i64 0, .int .i64 0, .int .i64 0, .slice none 0 0, .int .i64 0, .int .i64 0] 29)
  have Hb := hide (below_alloc w (.cells #[.int .i64 0, .int .i64 0, .int .i64 0, .int .i64 0, .slice none 0 0, .int .i64 0, .int .i64 0] 29))
  by_cases h1 : wh < 0
  · clear h
    go_enter Try.func9, Try.ntmps9
    go_wp2_with fail
    refine bodyPost_ret (res_back2 Try.results9 Try.underlying29 (by kernel_rfl) _ _ w.heap.size _ rfl rfl HB.out) rfl ?_
    exact ⟨rfl, Hb.out⟩
  · by_cases h2 : 255 < wh
    · clear h
      go_enter Try.func9, Try.ntmps9
      go_wp2_with fail
      refine bodyPost_ret (res_back2 Try.results9 Try.underlying29 (by kernel_rfl) _ _ w.heap.size _ rfl rfl HB.out) rfl ?_
      exact ⟨rfl, Hb.out⟩
    · by_cases h3 : ms < 1
      · clear h
        go_enter Try.func9, Try.ntmps9
        go_wp2_with fail
        refine bodyPost_ret (res_back2 Try.results9 Try.underlying29 (by kernel_rfl) _ _ w.heap.size _ rfl rfl HB.out) rfl ?_
        exact ⟨rfl, Hb.out⟩
      · have h4 : 65535 < ms := by omega
        clear h
        go_enter Try.func9, Try.ntmps9
        go_wp2_with fail
        refine bodyPost_ret (res_back2 Try.results9 Try.underlying29 (by kernel_rfl) _ _ w.heap.size _ rfl rfl HB.out) rfl ?_
        exact ⟨rfl, Hb.out⟩
theorem newR_any (wh ms : Int) (h : newB wh ms = true) (w : World) : Calls Try.prog 9 #[.int .i64 wh, .int .i64 ms] w fun e w' => e = .returned (.tuple #[.agg (rfC wh ms ls0 (.slice none 0 0)), .int .i64 0]) ∧ Below w.heap.size w w' := by
  have h : 0 ≤ wh ∧ wh ≤ 255 ∧ 1 ≤ ms ∧ ms ≤ 65535 := of_decide_eq_true h
  have HB := hide (Blk.new w #[.int .i64 wh, .int .i64 ms, .int .i64 0, .int .i64 0, .slice none 0 0, .int .i64 0, .int .i64 0] 29)
  have Hb := hide (below_alloc w (.cells #[.int .i64 wh, .int .i64 ms, .int .i64 0, .int .i64 0, .slice none 0 0, .int .i64 0, .int .i64 0] 29))
  go_enter Try.func9, Try.ntmps9
  go_wp2_with fail
  refine bodyPost_ret (res_back2 Try.results9 Try.underlying29 (by kernel_rfl) _ _ w.heap.size _ rfl rfl HB.out) rfl ?_
  exact ⟨rfl, Hb.out⟩
theorem dropR_any (w : World) (X : Nat) (x y : Value) (st n he ag : Int) (a : Option Addr) (ln c : Nat) (hB : Blk w X #[x, y, .int .i64 st, .int .i64 n, .slice a ln c, .int .i64 he, .int .i64 ag] 29) : Calls Try.prog 51 #[dP X] w fun e w' => e = .returned (.tuple #[]) ∧ Blk w' X #[x, y, .int .i64 0, .int .i64 0, .slice none 0 0, .int .i64 0, .int .i64 0] 29 ∧ w.grownBy w' (some X) := by
  have c2 := hB.cell 2 rfl
  have c3 := hB.cell 3 rfl
  have c4 := hB.cell 4 rfl
  have c5 := hB.cell 5 rfl
  have c6 := hB.cell 6 rfl
  have f2 := hB.frozen 2
  have f3 := hB.frozen 3
  have f4 := hB.frozen 4
  have f5 := hB.frozen 5
  have f6 := hB.frozen 6
  have HS := hide (set5 hB (.int .i64 0) (.int .i64 0) (.slice none 0 0) (.int .i64 0) (.int .i64 0))
  have HG := hide (grown5 w X (.int .i64 0) (.int .i64 0) (.slice none 0 0) (.int .i64 0) (.int .i64 0))
  clear hB
  go_enter Try.func51, Try.ntmps51
  go_wp2_with fail
  go_end0
  exact ⟨rfl, HS.out, HG.out⟩
set_option maxHeartbeats 1000000 in
theorem countR_any (w : World) (b X : Nat) (wh ms : Int) (l : Ls) (v : Value) (us : List Value) (h : RDv w b X wh ms l v us) (n now : Int) : Calls Try.prog 49 #[dP X, .int .i64 n, .int .i64 now] w (XEnd w b X wh ms v (beginS wh ms n now)) := by
  obtain ⟨a, c, rfl⟩ := h.shape
  have DR := hide (dropR_any w X (.int .i64 wh) (.int .i64 ms) (stI l) l.cn l.he l.ag a _ c h.B)
  have hx := h.x
  have hz := h.z
  have HB : Hid (beginS wh ms n now = if n < 1 ∨ ms < n then dropS wh 4 else askS wh ⟨n, now, 0, []⟩) := hide rfl
  rw [HB.out]
  clear HB h
  generalize l.rw.length = rl at *
  by_cases h0 : n < 1 ∨ ms < n
  · rw [if_pos h0]
    have SA := hide (sayR_any 10 wh 4)
    have main : ∀ w1 : World, Blk w1 X #[.int .i64 wh, .int .i64 ms, .int .i64 0, .int .i64 0, .slice none 0 0, .int .i64 0, .int .i64 0] 29 → w.grownBy w1 (some X) → ∀ w2 z, Ans w2 w1.heap.size z (some (10, wh, 4)) → Below w1.heap.size w1 w2 → XEnd w b X wh ms (.slice a rl c) (dropS wh 4) (.returned z) w2 := fun w1 h1 h2 w2 z h3 h4 => XEnd.say (RDv.idle h1 hx (Nat.le_trans hz h2.size)) h2 h3 h4
    have HM := hide main
    clear main
    by_cases h1 : n < 1
    · clear h0
      go_enter Try.func49, Try.ntmps49
      go_wp2_with fail
      refine DR.out.mono ?_
      rintro e w1 ⟨rfl, hB1, hg1⟩
      have HB1 := hide hB1
      have HG1 := hide hg1
      have c0 : w1.cell? ⟨X, 0, none⟩ = some (.int .i64 wh) := hB1.cell 0 rfl
      clear hB1 hg1
      go_wp2_with fail
      refine (SA.out _).mono ?_
      rintro e w2 ⟨z, rfl, ha, hb2⟩
      have HQ := hide (HM.out w1 HB1.out HG1.out w2 z ha hb2)
      clear ha hb2
      go_wp2_with fail
      go_ret
      exact HQ.out
    · have h2 : ms < n := by omega
      clear h0
      go_enter Try.func49, Try.ntmps49
      go_wp2_with fail
      refine DR.out.mono ?_
      rintro e w1 ⟨rfl, hB1, hg1⟩
      have HB1 := hide hB1
      have HG1 := hide hg1
      have c0 : w1.cell? ⟨X, 0, none⟩ = some (.int .i64 wh) := hB1.cell 0 rfl
      have c1 : w1.cell? ⟨X, 1, none⟩ = some (.int .i64 ms) := hB1.cell 1 rfl
      clear hB1 hg1
      go_wp2_with fail
      refine (SA.out _).mono ?_
      rintro e w2 ⟨z, rfl, ha, hb2⟩
      have HQ := hide (HM.out w1 HB1.out HG1.out w2 z ha hb2)
      clear ha hb2
      go_wp2_with fail
      go_ret
      exact HQ.out
  · rw [if_neg h0]
    have h1 : ¬ n < 1 := by omega
    have h2 : ¬ ms < n := by omega
    have hst : stI ⟨n, now, 0, []⟩ = 1 := stI_take (by show 0 < n; omega) (by unfold rdB Ls.hd; show (decide (0 < n) && (((0 : Nat) : Int) == n)) = false; simp; omega)
    have HST := hide hst
    have SA := hide (sayR_any 8 wh 0)
    clear h0 hst
    go_enter Try.func49, Try.ntmps49
    go_wp2_with fail
    refine DR.out.mono ?_
    rintro e w1 ⟨rfl, hB1, hg1⟩
    have HG1 := hide hg1
    have c0 : w1.cell? ⟨X, 0, none⟩ = some (.int .i64 wh) := hB1.cell 0 rfl
    have c1 : w1.cell? ⟨X, 1, none⟩ = some (.int .i64 ms) := hB1.cell 1 rfl
    have c2 := hB1.cell 2 rfl
    have c3 := hB1.cell 3 rfl
    have c5 := hB1.cell 5 rfl
    have f2 := hB1.frozen 2
    have f3 := hB1.frozen 3
    have f5 := hB1.frozen 5
    have HS := hide (((hB1.set 2 (.int .i64 1)).set 3 (.int .i64 n)).set 5 (.int .i64 now))
    have HG := hide (grown_more (grown_more (grown_set w1 X 2 (.int .i64 1)) (grown_set _ X 3 (.int .i64 n))) (grown_set _ X 5 (.int .i64 now)))
    clear hB1 hg1
    go_upto_region 7 with fail
    clear c0 c1 c2 c3 c5 f2 f3 f5
    generalize ((w1.setCell ⟨X, 2, none⟩ (.int .i64 1)).setCell ⟨X, 3, none⟩ (.int .i64 n)).setCell ⟨X, 5, none⟩ (.int .i64 now) = W at *
    have HG2 := hide (grown_more HG1.out HG.out)
    have HD : Hid (RDv W b X wh ms ⟨n, now, 0, []⟩ (.slice none 0 0) []) := hide ⟨by unfold rfC; rw [HST.out]; exact HS.out, World.ownsRow_nil _ _ _ _, Urs.nil _ _, hx, Nat.le_trans hz HG2.out.size⟩
    have c0 : W.cell? ⟨X, 0, none⟩ = some (.int .i64 wh) := HD.out.B.cell 0 rfl
    clear HS HG HG1
    go_wp2_with fail
    refine (SA.out _).mono ?_
    rintro e w2 ⟨z, rfl, ha, hb2⟩
    have HQ := hide (XEnd.say (v := .slice a rl c) HD.out HG2.out ha hb2)
    clear ha hb2
    go_wp2_with fail
    go_ret
    exact HQ.out
end Go.Proofs.Ytimkfipiebppiaa
/- The document's desk (windhoverref21): Ready, Keep, item. -/
namespace Go.Proofs.Ytimkfipiebppiaa
open Go.RowKit Go.Great

theorem stI_tk {l : Ls} (h : tkB l = true) : stI l = 1 := by
  have h1 := of_decide_eq_true h
  have h2 := hd_nat l
  refine stI_take (by omega) ?_
  unfold rdB
  simp; omega
theorem stI_no {ms : Int} {l : Ls} (hl : LOk ms l) (h : tkB l = false) : ¬ stI l = 1 := by
  have h1 := of_decide_eq_false h
  have h2 := hl.h
  have h3 := hl.m
  by_cases h0 : l.cn = 0
  · unfold stI; rw [if_pos h0]; omega
  · have hr : rdB l = true := by unfold rdB; simp; omega
    rw [stI_ready hr]; omega
theorem stI_2 {l : Ls} (h : rdB l = false) : ¬ stI l = 2 := by
  unfold stI
  split
  · omega
  · rw [if_neg (by rw [h]; simp)]; omega
theorem readyR_any (w : World) (b X : Nat) (wh ms : Int) (l : Ls) (v : Value) (us : List Value) (h : RDv w b X wh ms l v us) : Calls Try.prog 33 #[dP X] w fun e w' => e = .returned (.tuple #[if rdB l = true then v else .slice none 0 0, .bool (rdB l)]) ∧ w' = w := by
  obtain ⟨a, c, rfl⟩ := h.shape
  have c2 : w.cell? ⟨X, 2, none⟩ = some (.int .i64 (stI l)) := h.B.cell 2 rfl
  have c4 : w.cell? ⟨X, 4, none⟩ = some (.slice a l.rw.length c) := h.B.cell 4 rfl
  clear h
  generalize l.rw.length = rl at *
  cases hr : rdB l
  · have d : (stI l != 2) = true := by simpa using stI_2 hr
    rw [if_neg (by simp)]
    generalize stI l = st at *
    clear hr
    go_enter Try.func33, Try.ntmps33
    go_wp2_with fail
    go_ret2
    exact ⟨rfl, rfl⟩
  · rw [stI_ready hr] at c2
    rw [if_pos rfl]
    clear hr
    go_enter Try.func33, Try.ntmps33
    go_wp2_with fail
    go_ret2
    exact ⟨rfl, rfl⟩
theorem keepR_any (w : World) (b X : Nat) (wh ms : Int) (l : Ls) (v : Value) (us : List Value) (h : RDv w b X wh ms l v us) (r : Int) : Calls Try.prog 32 #[dP X, .int .i64 r] w (XEnd w b X wh ms v (keepS wh l r)) := by
  have HD := hide h
  obtain ⟨a, c, rfl⟩ := h.shape
  have DR := hide (dropR_any w X (.int .i64 wh) (.int .i64 ms) (stI l) l.cn l.he l.ag a _ c h.B)
  have hx := h.x
  have hz := h.z
  have c2 : w.cell? ⟨X, 2, none⟩ = some (.int .i64 (stI l)) := h.B.cell 2 rfl
  have HE : Hid (keepS wh l r = if rdB l = true then dropS wh r else (l, none)) := hide rfl
  rw [HE.out]
  clear h HE
  cases hr : rdB l
  · have d : (stI l != 2) = true := by simpa using stI_2 hr
    rw [if_neg (by simp)]
    generalize stI l = st at *
    clear hr
    go_enter Try.func32, Try.ntmps32
    go_wp2_with fail
    go_ret
    exact HD.out.none (Below.refl _ _)
  · rw [stI_ready hr] at c2
    rw [if_pos rfl]
    have SA := hide (sayR_any 10 wh r)
    obtain ⟨rl, hrl⟩ : ∃ rl, Hid (l.rw.length = rl) := ⟨_, hide rfl⟩
    rw [hrl.out]
    clear hr HD
    go_enter Try.func32, Try.ntmps32
    go_wp2_with fail
    refine DR.out.mono ?_
    rintro e w1 ⟨rfl, hB1, hg1⟩
    have HB1 := hide hB1
    have HG1 := hide hg1
    have c0 : w1.cell? ⟨X, 0, none⟩ = some (.int .i64 wh) := hB1.cell 0 rfl
    clear hB1 hg1
    go_wp2_with fail
    refine (SA.out _).mono ?_
    rintro e w2 ⟨z, rfl, ha, hb2⟩
    have HQ : Hid (XEnd w b X wh ms (.slice a rl c) (dropS wh r) (.returned z) w2) := hide (XEnd.say (RDv.idle HB1.out hx (Nat.le_trans hz HG1.out.size)) HG1.out ha hb2)
    clear ha hb2
    go_wp2_with fail
    go_ret
    exact HQ.out
set_option maxHeartbeats 4000000 in
set_option maxRecDepth 100000 in
theorem itemR_any (w : World) (b X : Nat) (wh ms : Int) (l : Ls) (v : Value) (us : List Value) (h : RDv w b X wh ms l v us) (hl : LOk ms l) (hms : ms ≤ 65535) (fs : List Int) (g o cap : Nat) (hu : Ints w (.slice (some ⟨g, o, none⟩) 7 cap) fs) (hf : fs.length = 7) (hcap : 7 ≤ cap) (now : Int) : Calls Try.prog 50 #[dP X, .slice (some ⟨g, o, none⟩) 7 cap, .int .i64 now] w (XEnd w b X wh ms v (takeS wh l fs now)) := by
  obtain ⟨i0, hi0, hz0, hz1, hz2⟩ := info_parts info_sl
  have HI0 := hide hi0
  have HZ0 := hide hz0
  have HZ1 := hide hz1
  have HZ2 := hide hz2
  clear hi0 hz0 hz1 hz2
  have HD := hide h
  obtain ⟨a, c, rfl⟩ := h.shape
  have HU := hide (itail_ints hf hu (k := 2) (by omega))
  have HF5 : Hid ((fs.drop 2).length = 5) := hide (by rw [List.length_drop, hf])
  have hh : 0 ≤ l.hd ∧ l.hd ≤ 65535 := ⟨hd_nat l, by have := hl.h; have := hl.m; omega⟩
  have TL := itail g o 7 cap 2 (by omega) (by omega)
  simp only [Int.cast_ofNat_Int, Nat.reduceSub] at TL HU
  obtain ⟨a', c', e, hc⟩ := hu
  injection e with e1 e2 e3
  obtain ⟨g', o', e4, _, hcc⟩ := hc (by omega)
  rw [e4] at e1
  injection e1 with e1
  injection e1 with e5 e6
  subst e5 e6
  have d1 := hcc 1 (by omega)
  clear hc hcc e2 e3 e4 hf a' c'
  obtain ⟨R, hR⟩ : ∃ R, Hid (takeS wh l fs now = R) := ⟨_, hide rfl⟩
  rw [hR.out]
  have HE : Hid (R = if tkB l = false then (l, none) else if fs.getD 1 0 = l.hd then (if rdB (l.with (fs.drop 2) now) = true then (l.with (fs.drop 2) now, none) else askS wh (l.with (fs.drop 2) now)) else if fs.getD 1 0 = l.hd - 1 then askS wh l else (l, none)) := hide hR.out.symm
  clear hR
  generalize fs.getD 1 0 = i at *
  obtain ⟨rl, hrl⟩ : ∃ rl, Hid (l.rw.length = rl) := ⟨_, hide rfl⟩
  have hhd : l.hd = (rl : Int) := by unfold Ls.hd; rw [hrl.out]
  rw [hrl.out] at HD ⊢
  rw [hhd] at HE hh
  have HHD := hide hhd
  have c0 : w.cell? ⟨X, 0, none⟩ = some (.int .i64 wh) := HD.out.B.cell 0 rfl
  have c2 : w.cell? ⟨X, 2, none⟩ = some (.int .i64 (stI l)) := HD.out.B.cell 2 rfl
  have c4 : w.cell? ⟨X, 4, none⟩ = some (.slice a rl c) := HD.out.B.cell 4 rfl
  clear h hhd
  cases ht : tkB l
  · have eR : R = (l, none) := by rw [HE.out, if_pos ht]
    subst eR
    have dn : (stI l != 1) = true := by simpa using stI_no hl ht
    generalize stI l = st at *
    clear HE ht
    go_enter Try.func50, Try.ntmps50
    go_wp2_with fail
    go_ret
    exact HD.out.none (Below.refl _ _)
  · rw [stI_tk ht] at c2
    have HT := hide ht
    by_cases h1 : i = (rl : Int)
    · subst h1
      have HE2 : Hid (R = if rdB (l.with (fs.drop 2) now) = true then (l.with (fs.drop 2) now, none) else askS wh (l.with (fs.drop 2) now)) := hide (by rw [HE.out, if_neg (by rw [ht]; simp), if_pos rfl])
      have deq : ((rl : Int) == (rl : Int)) = true := by simp
      clear HE ht
      go_enter Try.func50, Try.ntmps50
      go_upto_region 5 with fail
      clear deq
      have HSW : Hid (∀ W, Below w.heap.size w W → W.cell? ⟨X, 4, none⟩ = some (.slice a rl c)) := hide (fun W hb => (HD.out.B.after hb).cell 4 rfl)
      have RI := hide (fun W (hb : Below w.heap.size w W) => rintsL_any (fs.drop 2) _ W (HU.out.below hb) (fun n c e => by injection e with e; cases e) (by rw [HF5.out]; omega))
      refine reg_last_held (fun wx => wx.cell? ⟨X, 4, none⟩ = some (.slice a rl c)) 12 rfl rfl _ rfl (by kernel_rfl) (by kernel_rfl) (HSW.out w (Below.refl _ _)) (fun hHeld => ?_)
      simp only [List.take_succ_cons, List.take_zero]
      refine take_at (i := 0) (v := .pointer (some ⟨X, 0, none⟩)) (d := some 23) rfl rfl (by kernel_rfl) (by kernel_rfl) (by kernel_rfl) (fun _ _ _ h => h) (Or.inl ⟨by rfl, fun wS hSw => by go_simp; all_goals (rw [IntKind.wrap_i64]; omega)⟩) (by assumption) ?_
      simp only [Act.put, List.setIfInBounds_toArray, List.set_cons_zero, List.set_cons_succ]
      refine take_at (i := 1) (v := .pointer (some ⟨X, 0, none⟩)) (d := some 24) rfl rfl (by kernel_rfl) (by kernel_rfl) (by kernel_rfl) (fun _ _ _ h => h) (Or.inl ⟨by rfl, fun wS hSw => by go_simp; all_goals (rw [IntKind.wrap_i64]; omega)⟩) (by assumption) ?_
      simp only [Act.put, List.setIfInBounds_toArray, List.set_cons_zero, List.set_cons_succ]
      refine take_at (i := 2) (v := .pointer (some ⟨X, 0, none⟩)) (d := some 25) rfl rfl (by kernel_rfl) (by kernel_rfl) (by kernel_rfl) (fun _ _ _ h => h) (Or.inl ⟨by rfl, fun wS hSw => by go_simp; all_goals (rw [IntKind.wrap_i64]; omega)⟩) (by assumption) ?_
      simp only [Act.put, List.setIfInBounds_toArray, List.set_cons_zero, List.set_cons_succ]
      refine take_at (i := 3) (v := .pointer (some ⟨X, 4, none⟩)) (d := some 26) rfl rfl (by kernel_rfl) (by kernel_rfl) (by kernel_rfl) (fun _ _ _ h => h) (Or.inl ⟨by rfl, fun wS hSw => by go_simp; all_goals (rw [IntKind.wrap_i64]; omega)⟩) (by assumption) ?_
      simp only [Act.put, List.setIfInBounds_toArray, List.set_cons_zero, List.set_cons_succ]
      refine take_at (i := 4) (v := .slice a rl c) (d := some 27) rfl rfl (by kernel_rfl) (by kernel_rfl) (by kernel_rfl) (fun _ _ _ h => h) (Or.inl ⟨by rfl, fun wS hSw => by go_simp; all_goals (rw [IntKind.wrap_i64]; omega)⟩) (by assumption) ?_
      simp only [Act.put, List.setIfInBounds_toArray, List.set_cons_zero, List.set_cons_succ]
      refine take_at (i := 5) (v := .slice (some ⟨g, o, none⟩) 7 cap) (d := some 28) rfl rfl (by kernel_rfl) (by kernel_rfl) (by kernel_rfl) (fun _ _ _ h => h) (Or.inl ⟨by rfl, fun wS hSw => by go_simp; all_goals (rw [IntKind.wrap_i64]; omega)⟩) (by assumption) ?_
      simp only [Act.put, List.setIfInBounds_toArray, List.set_cons_zero, List.set_cons_succ]
      refine take_at (i := 6) (v := .slice (some ⟨g, o + 2, none⟩) 5 (cap - 2)) (d := some 29) rfl rfl (by kernel_rfl) (by kernel_rfl) (by kernel_rfl) (fun _ _ _ h => h) (Or.inl ⟨by rfl, fun wS hSw => by go_simp; all_goals (rw [IntKind.wrap_i64]; omega)⟩) (by assumption) ?_
      simp only [Act.put, List.setIfInBounds_toArray, List.set_cons_zero, List.set_cons_succ]
      clear hHeld
      refine wpAnyH_ready (rs := [7]) (by kernel_rfl) (by simp) ?_
      refine AllReadyH.cons rfl (fun K hK => ?_) AllReadyH.nil
      go_simp
      refine (RI.out w.drew (Below.refl _ _).drew).mono ?_
      rintro e w3 ⟨u3, rfl, hI3, hb3⟩
      have hb3 := below_undrew hb3
      have HI3 : Hid (IRow w3 w.heap.size u3 (fs.drop 2)) := hide hI3
      have Hb3 := hide hb3
      obtain ⟨a3, c3, rfl⟩ := hI3.shape
      rw [HF5.out] at HI3 ⊢
      clear hI3 hb3
      refine hK.out _ _ (HSW.out _ Hb3.out) (fun hHeld => ?_)
      clear hK K hHeld
      refine wpAnyH_ready (rs := [8]) (by kernel_rfl) (by simp) ?_
      refine AllReadyH.cons rfl (fun K hK => ?_) AllReadyH.nil
      go_simp
      have Hb4 := hide (below_next Hb3.out (Nat.le_refl _) (below_alloc w3 (.cells #[.slice a3 5 c3] 36)))
      refine hK.out _ _ (HSW.out _ Hb4.out) (fun hHeld => ?_)
      clear hK K hHeld
      have HUL : Hid (us.length = rl) := hide (by rw [← hrl.out]; exact HD.out.u.len)
      have HOA : Hid ((w3.alloc (.cells #[.slice a3 5 c3] 36)).ownsRow b 36 1 (.slice a rl c) rl us) := hide (by have := owns_below HD.out.o Hb4.out; rw [HUL.out] at this; exact this)
      have hz := HD.out.z
      have hs3 := Hb3.out.size
      obtain ⟨v5, w5, hrun, hown5, hgrow5⟩ := run_append_one (P := Try.prog) (w3.alloc (.cells #[.slice a3 5 c3] 36)) 27 27 b 36 i0 _ 1 24 Try.underlying27 HI0.out HZ0.out HZ1.out HZ2.out rfl (by decide) (.slice a rl c) rl us HOA.out ⟨w3.heap.size, 0, none⟩ 1 [.slice a3 5 c3] rfl (new_cell1 _ _ rfl _ _) (by intro u hu; simp at hu; subst hu; rfl) (by omega) (by omega) (by rw [size_alloc]; omega)
      refine wpAnyH_ready (rs := [9]) (by kernel_rfl) (by simp) ?_
      refine AllReadyH.cons rfl (fun K hK => ?_) AllReadyH.nil
      refine wp_append_run (.tmp 27) (.tmp 31) 27 rfl _ _ _ rfl rfl hrun ?_
      have HB5 := hide ((HD.out.B.after Hb4.out).grown hgrow5 (blk_apart HOA.out (HD.out.B.after Hb4.out) (by decide)))
      have HU5 : Hid (Urs w5 b (us ++ [.slice a3 5 c3]) (l.rw ++ [fs.drop 2])) := hide ((((HD.out.u.below Hb3.out).more HI3.out hz (fun j x hx k hk => (World.ownsRow.lt (HD.out.u.row j x hx) k hk).2) (by rw [HF5.out]; omega)).below (below_alloc w3 (.cells #[.slice a3 5 c3] 36))).grown HOA.out hgrow5)
      have HO5 : Hid (w5.ownsRow b 36 1 v5 (us ++ [Value.slice a3 5 c3]).length (us ++ [Value.slice a3 5 c3])) := hide (by rw [List.length_append, HUL.out]; exact hown5)
      have HK5 : Hid (KeX w w5 X (.slice a rl c)) := hide ⟨hgrow5.os.trans Hb4.out.os, hgrow5.tape.trans Hb4.out.tape, hgrow5.output.trans Hb4.out.output, Nat.le_trans Hb4.out.size hgrow5.size, fun k hk _ hr => (hgrow5.block k (Nat.lt_of_lt_of_le hk Hb4.out.size) (fun e => hr e.symm)).trans (Hb4.out.block k hk)⟩
      have hs5 : b ≤ w5.heap.size := Nat.le_trans hz HK5.out.2.2.2.1
      obtain ⟨a5, c5, rfl⟩ := rows_shape hown5
      clear hown5 hgrow5 HOA hrun
      refine hK.out _ _ (HB5.out.cell 4 rfl) (fun hHeld => ?_)
      clear hK K
      refine take_at (i := 10) (v := .pointer (some ⟨X, 0, none⟩)) (d := some 33) rfl rfl (by kernel_rfl) (by kernel_rfl) (by kernel_rfl) (fun _ _ _ h => h) (Or.inl ⟨by rfl, fun wS hSw => by go_simp; all_goals (rw [IntKind.wrap_i64]; omega)⟩) (by assumption) ?_
      refine take_at (i := 11) (v := .pointer (some ⟨X, 4, none⟩)) (d := some 34) rfl rfl (by kernel_rfl) (by kernel_rfl) (by kernel_rfl) (fun _ _ _ h => h) (Or.inl ⟨by rfl, fun wS hSw => by go_simp; all_goals (rw [IntKind.wrap_i64]; omega)⟩) (by assumption) ?_
      clear hHeld
      refine wpAnyH_done (by kernel_rfl) (then_last ?_) _
      have s4 := HB5.out.cell 4 rfl
      have f4 := HB5.out.frozen 4
      have f5 := HB5.out.frozen 5
      have f6 := HB5.out.frozen 6
      have s5 := HB5.out.cell 5 rfl
      have s6 := HB5.out.cell 6 rfl
      have HS := hide (((HB5.out.set 4 (.slice a5 (rl + 1) c5)).set 5 (.int .i64 now)).set 6 (.int .i64 0))
      have HG := hide (grown_more (grown_more (grown_set w5 X 4 (.slice a5 (rl + 1) c5)) (grown_set _ X 5 (.int .i64 now))) (grown_set _ X 6 (.int .i64 0)))
      go_simp
      go_upto_region 8 with fail
      clear s4 s5 s6 f4 f5 f6
      generalize ((w5.setCell ⟨X, 4, none⟩ (.slice a5 (rl + 1) c5)).setCell ⟨X, 5, none⟩ (.int .i64 now)).setCell ⟨X, 6, none⟩ (.int .i64 0) = W6 at *
      have HK6 : Hid (KeX w W6 X (.slice a rl c)) := hide ⟨HG.out.os.trans HK5.out.1, HG.out.tape.trans HK5.out.2.1, HG.out.output.trans HK5.out.2.2.1, Nat.le_trans HK5.out.2.2.2.1 HG.out.size, fun k hk hx hr => (HG.out.block k (Nat.lt_of_lt_of_le hk HK5.out.2.2.2.1) (fun e => hx (by injection e))).trans (HK5.out.2.2.2.2 k hk hx hr)⟩
      have HX := hide HD.out.x
      have HO6 := hide (owns_desk HO5.out HG.out HX.out)
      have HU6 := hide (HU5.out.desk HG.out HX.out)
      have hs6 : b ≤ W6.heap.size := Nat.le_trans hs5 HG.out.size
      have HB6 : Hid (Blk W6 X #[.int .i64 wh, .int .i64 ms, .int .i64 1, .int .i64 l.cn, .slice a5 (rl + 1) c5, .int .i64 now, .int .i64 0] 29) := hide (by have h6 := HS.out; unfold rfC at h6; rw [stI_tk HT.out] at h6; exact h6)
      clear HS HG HB5 HO5 HU5 HK5 c0 c2 c4 d1 TL Hb3 Hb4 HI3
      have p0 := HB6.out.cell 0 rfl
      have p2 := HB6.out.cell 2 rfl
      have p3 := HB6.out.cell 3 rfl
      have p4 := HB6.out.cell 4 rfl
      have f2 := HB6.out.frozen 2
      have HL2 : Hid ((l.with (fs.drop 2) now).cn = l.cn ∧ (l.with (fs.drop 2) now).he = now ∧ (l.with (fs.drop 2) now).ag = 0 ∧ (l.with (fs.drop 2) now).rw = l.rw ++ [fs.drop 2] ∧ (l.with (fs.drop 2) now).hd = (rl : Int) + 1) := hide ⟨rfl, rfl, rfl, rfl, by rw [with_hd, HHD.out]⟩
      have hcn : 0 < l.cn := by have h5 := of_decide_eq_true HT.out; have h6 := hd_nat l; omega
      have HRB : Hid (rdB (l.with (fs.drop 2) now) = ((rl : Int) + 1 == l.cn)) := hide (by unfold rdB; rw [HL2.out.1, HL2.out.2.2.2.2]; simp [hcn])
      generalize l.with (fs.drop 2) now = l2 at *
      by_cases hq : (rl : Int) + 1 = l.cn
      · have dq : ((rl : Int) + 1 == l.cn) = true := by simp [hq]
        have hr2 : rdB l2 = true := by rw [HRB.out, dq]
        have eR : R = (l2, none) := by rw [HE2.out, if_pos hr2]
        subst eR
        have HST := hide (stI_ready hr2)
        clear hq hr2 HE2
        go_quiet (fail)
        have hb67 : Below W6.heap.size W6 (W6.drewN nq) := below_drewN (Below.refl W6.heap.size W6) nq
        have HS2 := hide ((blk_drewN HB6.out nq).set 2 (.int .i64 2))
        have HG2 : Hid (W6.grownBy ((W6.drewN nq).setCell ⟨X, 2, none⟩ (.int .i64 2)) (some X)) := hide (grown_then (grown_below hb67 (some X)) (grown_set (W6.drewN nq) X 2 (.int .i64 2)) (fun k e => .inl (by injection e with e; exact e.symm)))
        clear hb67
        go_wp2_with fail
        go_ret
        exact ⟨_, .slice a5 (rl + 1) c5, us ++ [.slice a3 5 c3], rfl, ⟨by unfold rfC; rw [HST.out, HL2.out.1, HL2.out.2.1, HL2.out.2.2.1]; exact HS2.out, owns_desk HO6.out HG2.out HX.out, by rw [HL2.out.2.2.2.1]; exact HU6.out.desk HG2.out HX.out, HX.out, Nat.le_trans hs6 HG2.out.size⟩, rfl, HG2.out.os.trans HK6.out.1, HG2.out.tape.trans HK6.out.2.1, HG2.out.output.trans HK6.out.2.2.1, Nat.le_trans HK6.out.2.2.2.1 HG2.out.size, fun k hk hx hr => (HG2.out.block k (Nat.lt_of_lt_of_le hk HK6.out.2.2.2.1) (fun e => hx (by injection e))).trans (HK6.out.2.2.2.2 k hk hx hr)⟩
      · have dq : ((rl : Int) + 1 == l.cn) = false := by simp [hq]
        have hr2 : rdB l2 = false := by rw [HRB.out, dq]
        have eR : R = askS wh l2 := by rw [HE2.out, if_neg (by rw [hr2]; simp)]
        subst eR
        have HST := hide (stI_take (l := l2) (by rw [HL2.out.1]; exact hcn) hr2)
        have HD6 : Hid (RDv W6 b X wh ms l2 (.slice a5 (rl + 1) c5) (us ++ [.slice a3 5 c3])) := hide ⟨by unfold rfC; rw [HST.out, HL2.out.1, HL2.out.2.1, HL2.out.2.2.1]; exact HB6.out, HO6.out, by rw [HL2.out.2.2.2.1]; exact HU6.out, HX.out, hs6⟩
        have SA := hide (sayR_any 8 wh ((rl : Int) + 1))
        clear hq hr2 HE2
        go_quiet (fail)
        have HD7 := hide (HD6.out.after (below_drewN (Below.refl W6.heap.size W6) nq))
        have p0 := HD7.out.B.cell 0 rfl
        go_wp2_with fail
        refine (SA.out _).mono ?_
        rintro e w8 ⟨z, rfl, ha, hb8⟩
        have hb68 : Below W6.heap.size W6 w8 := below_next (below_drewN (Below.refl W6.heap.size W6) nq) (Nat.le_refl _) hb8
        have HQ : Hid (XEnd w b X wh ms (.slice a rl c) (askS wh l2) (.returned z) w8) := hide ⟨z, _, _, rfl, HD6.out.after hb68, by
          have h9 := ha.up (m := w.heap.size) (Nat.le_trans HK6.out.2.2.2.1 (below_drewN (Below.refl W6.heap.size W6) nq).size)
          unfold askS; rw [HL2.out.2.2.2.2]; exact h9, hb68.os.trans HK6.out.1, hb68.tape.trans HK6.out.2.1, hb68.output.trans HK6.out.2.2.1, Nat.le_trans HK6.out.2.2.2.1 hb68.size, fun k hk hx hr => (hb68.block k (Nat.lt_of_lt_of_le hk HK6.out.2.2.2.1)).trans (HK6.out.2.2.2.2 k hk hx hr)⟩
        clear ha hb8 hb68
        go_wp2_with fail
        go_ret
        exact HQ.out
    · have q2 : (i == (rl : Int)) = false := by simp [h1]
      by_cases h2 : i = (rl : Int) - 1
      · have eR : R = askS wh l := by rw [HE.out, if_neg (by rw [ht]; simp), if_neg h1, if_pos h2]
        subst eR
        have q3 : (i == (rl : Int) - 1) = true := by simp [h2]
        have SA := hide (sayR_any 8 wh (rl : Int))
        clear HE ht h1 h2
        go_enter Try.func50, Try.ntmps50
        go_wp2_with fail
        refine (SA.out _).mono ?_
        rintro e w2 ⟨z, rfl, ha, hb2⟩
        have HQ : Hid (XEnd w b X wh ms (.slice a rl c) (askS wh l) (.returned z) w2) := hide (XEnd.say HD.out (grown_below (Below.refl _ _) _) (by rw [HHD.out]; exact ha) hb2)
        clear ha hb2
        go_wp2_with fail
        go_ret
        exact HQ.out
      · have eR : R = (l, none) := by rw [HE.out, if_neg (by rw [ht]; simp), if_neg h1, if_neg h2]
        subst eR
        have q3 : (i == (rl : Int) - 1) = false := by simp [h2]
        clear HE ht h1 h2
        go_enter Try.func50, Try.ntmps50
        go_wp2_with fail
        go_ret
        exact HD.out.none (Below.refl _ _)
end Go.Proofs.Ytimkfipiebppiaa
/- The document's desk (windhoverref21): On. -/
namespace Go.Proofs.Ytimkfipiebppiaa
open Go.RowKit Go.Great

theorem KeX.before {w W w' : World} {X : Nat} {v : Value} (hb : Below w.heap.size w W) (h : KeX W w' X v) : KeX w w' X v := ⟨h.1.trans hb.os, h.2.1.trans hb.tape, h.2.2.1.trans hb.output, Nat.le_trans hb.size h.2.2.2.1, fun k hk hx hr => (h.2.2.2.2 k (Nat.lt_of_lt_of_le hk hb.size) hx hr).trans (hb.block k hk)⟩
theorem XEnd.before {w W w' : World} {b X : Nat} {wh ms : Int} {v : Value} {r : Ls × An} {e : Ending} (hb : Below w.heap.size w W) (h : XEnd W b X wh ms v r e w') : XEnd w b X wh ms v r e w' := by
  obtain ⟨z, v', us', h0, h1, h2, h3⟩ := h
  exact ⟨z, v', us', h0, h1, h2.up hb.size, h3.before hb⟩
theorem XEnd.value {w w' : World} {b X : Nat} {wh ms : Int} {v : Value} {r : Ls × An} {e : Ending} (h : XEnd w b X wh ms v r e w') : ∃ z, e = .returned z ∧ (∃ p m c, z = .slice p m c) ∧ XEnd w b X wh ms v r (.returned z) w' := by
  have h9 := h
  obtain ⟨z, v', us', h0, h1, h2, h3⟩ := h
  subst h0
  exact ⟨z, rfl, h2.any, h9⟩
set_option maxHeartbeats 4000000 in
set_option maxRecDepth 100000 in
theorem onR_any (w : World) (b X : Nat) (wh ms : Int) (l : Ls) (v : Value) (us : List Value) (h : RDv w b X wh ms l v us) (hl : LOk ms l) (hms : ms ≤ 65535) (k : Int) (hk : 0 ≤ k ∧ k ≤ 255) (fs : List Int) (u : Value) (hu : Ints w u fs) (hcap : ∀ a n c, u = .slice a n c → n ≤ c) (hlen : fs.length ≤ 9223372036854775807) (now : Int) : Calls Try.prog 30 #[dP X, .agg #[.int .u8 k, u], .int .i64 now] w (XEnd w b X wh ms v (onS wh ms l k fs now)) := by
  obtain ⟨a, cap, rfl, hu2⟩ := id hu
  have hcap := hcap _ _ _ rfl
  obtain ⟨R, hR⟩ : ∃ R, Hid (onS wh ms l k fs now = R) := ⟨_, hide rfl⟩
  rw [hR.out]
  have HU := hide hu
  have HU2 := hide hu2
  have HD := hide h
  obtain ⟨n, hn⟩ : ∃ n, Hid (fs.length = n) := ⟨_, hide rfl⟩
  rw [hn.out] at HU hcap hlen HU2 ⊢
  clear hu hu2 h
  have BX := hide (Blk.new w #[.int .u8 k, .slice a n cap] 38)
  have Hb0 := hide (below_alloc w (.cells #[.int .u8 k, .slice a n cap] 38))
  have HRR : Hid (rdB l = true → R = (l, none)) := hide (fun h => by rw [← hR.out]; exact on_ready h)
  have HRB : Hid (¬ (encM 0 k fs).2 = 0 → R = (l, none)) := hide (fun h => by rw [← hR.out]; exact on_bad h)
  have HRW : Hid (¬ fs.getD 0 0 = wh → R = (l, none)) := hide (fun h => by rw [← hR.out]; exact on_what h)
  have HRG : Hid (rdB l = false → (encM 0 k fs).2 = 0 → fs.getD 0 0 = wh → R = if k = 7 then beginS wh ms (fs.getD 1 0) now else if k = 9 then takeS wh l fs now else if k = 11 then cancelS wh l else (l, none)) := hide (fun h1 h2 h3 => by rw [← hR.out]; exact on_good h1 h2 h3)
  have HPOS : Hid ((encM 0 k fs).2 = 0 → (wsK k).length ≠ 0 ∧ n = (wsK k).length) := hide (fun h => by rw [← hn.out]; exact okM_len (by unfold okM; rw [h]; rfl))
  clear hR
  have EN := hide (fun W (hb : Below w.heap.size w W) => rencode_any 0 k hk.1 hk.2 fs (.slice a n cap) W (HU.out.below hb) (by rw [hn.out]; exact hlen))
  generalize encM 0 k fs = E at *
  obtain ⟨⟨x0, x1, x2⟩, en⟩ := E
  simp only at EN HRB HRG HPOS
  have b0 := BX.out.cell 0 rfl
  have b1 := BX.out.cell 1 rfl
  go_enter Try.func30, Try.ntmps30
  go_upto_region 2 with (go_at_call 48; refine (EN.out _ Hb0.out).mono ?_; rintro e w2 ⟨rfl, hb2⟩; have Hb2 := hide (below_next Hb0.out (Nat.le_refl _) hb2); have BX2 := hide (BX.out.after hb2); clear hb2)
  have Hb3 := hide (below_next Hb2.out (Nat.le_refl _) (below_alloc w2 (.cells #[.int .i64 x0, .int .i64 x1, .string x2] 45)))
  have BX3 := hide (BX2.out.alloc (.cells #[.int .i64 x0, .int .i64 x1, .string x2] 45))
  clear b0 b1 EN Hb2 BX2 BX Hb0
  generalize w2.alloc (.cells #[.int .i64 x0, .int .i64 x1, .string x2] 45) = W3 at *
  have DN : Hid (∀ W, Below w.heap.size w W → XEnd w b X wh ms v (l, none) (.returned (.slice none 0 0)) W) := hide (fun W hb => HD.out.none hb)
  by_cases he : en = 0
  · subst he
    obtain ⟨hp0, hp1⟩ := HPOS.out rfl
    have hn0 : 0 < n := by omega
    obtain ⟨g, o, rfl, hg, hcc⟩ := HU2.out hn0
    have HD3 := hide (HD.out.after Hb3.out)
    have s2 : W3.cell? ⟨X, 2, none⟩ = some (.int .i64 (stI l)) := HD3.out.B.cell 2 rfl
    have s0 : W3.cell? ⟨X, 0, none⟩ = some (.int .i64 wh) := HD3.out.B.cell 0 rfl
    cases hr : rdB l
    · have d2 : (stI l == 2) = false := by simpa using stI_2 hr
      have hc0 := hcc 0 hn0
      rw [Nat.add_zero] at hc0
      have k0 : W3.cell? ⟨g, o, none⟩ = some (.int .i64 (fs.getD 0 0)) := (Hb3.out.cell (p := ⟨g, o, none⟩) hg).trans hc0
      have k1 : W3.cell? ⟨w.heap.size, 1, none⟩ = some (.slice (some ⟨g, o, none⟩) n cap) := BX3.out.cell 1 rfl
      have HCC : Hid (∀ W, Below w.heap.size w W → 1 < n → W.cell? ⟨g, o + 1, none⟩ = some (.int .i64 (fs.getD 1 0))) := hide (fun W hb h1 => (hb.cell (p := ⟨g, o + 1, none⟩) hg).trans (hcc 1 h1))
      have HST : Hid (stI l = stI l) := hide rfl
      clear hcc hc0
      by_cases hw : fs.getD 0 0 = wh
      · have q1 : (wh != wh) = false := by simp
        rw [hw] at k0
        have HG := hide (HRG.out hr rfl hw)
        have HRD := hide hr
        obtain ⟨st, hst⟩ : ∃ st, Hid (stI l = st) := ⟨_, hide rfl⟩
        rw [hst.out] at s2 d2
        clear hw hr
        go_quiet (fail)
        have Hb4 := hide (below_drewN Hb3.out nq)
        have BX4 := hide (blk_drewN BX3.out nq)
        have HD4 := hide (HD.out.after Hb4.out)
        have HU4 := hide (HU.out.below Hb4.out)
        clear k0 k1 s0 s2 Hb3 BX3 HD3
        generalize W3.drewN nq = W4 at *
        have k4 : W4.cell? ⟨w.heap.size, 1, none⟩ = some (.slice (some ⟨g, o, none⟩) n cap) := BX4.out.cell 1 rfl
        have k3 : W4.cell? ⟨w.heap.size, 0, none⟩ = some (.int .u8 k) := BX4.out.cell 0 rfl
        by_cases h7 : k = 7
        · have eR : R = beginS wh ms (fs.getD 1 0) now := by rw [HG.out, if_pos h7]
          have h2 : n = 2 := by rw [hp1, h7]; rfl
          subst eR h2 h7
          have f1 := HCC.out W4 Hb4.out (by omega)
          have BG := hide (countR_any W4 b X wh ms l v us HD4.out (fs.getD 1 0) now)
          clear hp0 hp1
          go_wp2_with fail
          refine BG.out.mono ?_
          intro e w5 hq
          obtain ⟨z, rfl, ⟨p5, m5, c5, rfl⟩, hq⟩ := hq.value
          have HQ := hide (hq.before Hb4.out)
          clear hq
          go_wp2_with fail
          go_ret
          exact HQ.out
        · have d7 : (k == 7) = false := by simp [h7]
          by_cases h9 : k = 9
          · have eR : R = takeS wh l fs now := by rw [HG.out, if_neg h7, if_pos h9]
            have h2 : n = 7 := by rw [hp1, h9]; rfl
            subst eR h2 h9
            have BG := hide (itemR_any W4 b X wh ms l v us HD4.out hl hms fs g o cap HU4.out hn.out hcap now)
            clear hp0 hp1
            go_wp2_with fail
            refine BG.out.mono ?_
            intro e w5 hq
            obtain ⟨z, rfl, ⟨p5, m5, c5, rfl⟩, hq⟩ := hq.value
            have HQ := hide (hq.before Hb4.out)
            clear hq
            go_wp2_with fail
            go_ret
            exact HQ.out
          · have d9 : (k == 9) = false := by simp [h9]
            by_cases h11 : k = 11
            · have ER0 : Hid (R = cancelS wh l) := hide (by rw [HG.out, if_neg h7, if_neg h9, if_pos h11])
              subst h11
              have c2 : W4.cell? ⟨X, 2, none⟩ = some (.int .i64 (stI l)) := HD4.out.B.cell 2 rfl
              cases ht : tkB l
              · have dt : (stI l == 1) = false := by simpa using stI_no hl ht
                have eR : R = (l, none) := by rw [ER0.out]; unfold cancelS; rw [if_neg (by rw [ht]; simp)]
                subst eR
                generalize stI l = st2 at *
                clear ht ER0
                go_wp2_with fail
                go_ret
                exact DN.out _ Hb4.out
              · rw [stI_tk ht] at c2
                have eR : R = dropS wh 211 := by rw [ER0.out]; unfold cancelS; rw [if_pos ht]
                subst eR
                obtain ⟨va, vc, rfl⟩ := HD4.out.shape
                have DR := hide (dropR_any W4 X (.int .i64 wh) (.int .i64 ms) (stI l) l.cn l.he l.ag va _ vc HD4.out.B)
                have SA := hide (sayR_any 10 wh 211)
                have hx := HD4.out.x
                have hz := HD4.out.z
                clear ht ER0
                go_wp2_with fail
                refine DR.out.mono ?_
                rintro e w5 ⟨rfl, hB1, hg1⟩
                have HB1 := hide hB1
                have HG1 := hide hg1
                have c0 : w5.cell? ⟨X, 0, none⟩ = some (.int .i64 wh) := hB1.cell 0 rfl
                clear hB1 hg1 c2
                go_wp2_with fail
                refine (SA.out _).mono ?_
                rintro e w6 ⟨z, rfl, ha, hb6⟩
                have HQ := hide (XEnd.before Hb4.out (XEnd.say (v := .slice va l.rw.length vc) (RDv.idle HB1.out hx (Nat.le_trans hz HG1.out.size)) HG1.out ha hb6))
                clear ha hb6
                go_wp2_with fail
                go_ret
                exact HQ.out
            · have eR : R = (l, none) := by rw [HG.out, if_neg h7, if_neg h9, if_neg h11]
              subst eR
              have d11 : (k == 11) = false := by simp [h11]
              go_wp2_with fail
              go_ret
              exact DN.out _ Hb4.out
      · have eR : R = (l, none) := HRW.out hw
        subst eR
        have q1 : (fs.getD 0 0 != wh) = true := by simpa using hw
        obtain ⟨st, hst⟩ : ∃ st, Hid (stI l = st) := ⟨_, hide rfl⟩
        rw [hst.out] at s2 d2
        generalize fs.getD 0 0 = x at *
        clear hw
        go_quiet (fail)
        go_wp2_with fail
        go_ret
        exact DN.out _ (below_drewN Hb3.out nq)
    · have eR : R = (l, none) := HRR.out hr
      subst eR
      rw [stI_ready hr] at s2
      clear hcc
      go_quiet (fail)
      go_wp2_with fail
      go_ret
      exact DN.out _ (below_drewN Hb3.out nq)
  · have eR : R = (l, none) := HRB.out he
    subst eR
    have q1 : (en != 0) = true := by simpa using he
    clear he
    go_quiet (fail)
    go_wp2_with fail
    go_ret
    exact DN.out _ (below_drewN Hb3.out nq)
end Go.Proofs.Ytimkfipiebppiaa
/- Answers that are the same (windhoverref05.SameList), and the statement's 'same', which writes over one of them. -/
namespace Go.Proofs.Ytimkfipiebppiaa
open Go.RowKit Go.Great

set_option maxHeartbeats 2000000 in
theorem sameList_any (w : World) (n m : Nat) (v u : Value) (a : An) (hv : Ans w n v a) (hu : Ans w m u a) : Calls Try.prog 47 #[v, u] w fun e w' => e = .returned (.bool true) ∧ Below w.heap.size w w' := by
  cases a with
  | none =>
    obtain rfl := hv.zero
    obtain rfl := hu.zero
    clear hv hu
    go_enter Try.func47, Try.ntmps47
    go_wp2_with fail
    go_loopw [5] (fun i wx => i = .int .i64 0 ∧ wx = w) (fun _ _ => 0)
    case atStart => exact ⟨rfl, rfl⟩
    case round =>
      obtain ⟨rfl, hw⟩ := hrel
      have hw := hw.symm
      subst hw
      go_wp2_with fail
      go_ret
      exact ⟨rfl, Below.refl _ _⟩
  | some x =>
    obtain ⟨k, x, y⟩ := x
    obtain ⟨f, g, _, _, _, rfl, hg, hf⟩ := hv
    obtain ⟨f', g', _, _, _, rfl, hg', hf'⟩ := hu
    have SA := hide (fun W (hb : Below w.heap.size w W) => same_true5 k [x, y] (.slice (some ⟨f, 0, none⟩) 2 2) (.slice (some ⟨f', 0, none⟩) 2 2) W ((ints_row (l := [x, y]) hf 2 2 rfl).below hb) ((ints_row (l := [x, y]) hf' 2 2 rfl).below hb) (by simp))
    have HG := hide hg
    have HG' := hide hg'
    clear hg hg' hf hf'
    go_enter Try.func47, Try.ntmps47
    go_wp2_with fail
    go_loopw [5] (fun i wx => ∃ j : Nat, i = .int .i64 (j : Int) ∧ j ≤ 1 ∧ Hid (Below w.heap.size w wx)) (fun i _ => 1 - (intOf i).toNat)
    case atStart => exact ⟨0, rfl, by omega, hide (Below.refl _ _)⟩
    case round =>
      obtain ⟨j, rfl, hj, Hb⟩ := hrel
      by_cases hl : j < 1
      · have ej : j = 0 := by omega
        have e1 : ∀ z : BelowW wr, z.q.cell? ⟨g, j * 2, none⟩ = some (.int .u8 k) := by rw [ej]; exact (HG.out.after Hb.out).at 0 rfl
        have e2 : ∀ z : BelowW wr, z.q.cell? ⟨g, j * 2 + 1, none⟩ = some (.slice (some ⟨f, 0, none⟩) 2 2) := by rw [ej]; exact (HG.out.after Hb.out).at 1 rfl
        have e3 : ∀ z : BelowW wr, z.q.cell? ⟨g', j * 2, none⟩ = some (.int .u8 k) := by rw [ej]; exact (HG'.out.after Hb.out).at 0 rfl
        have e4 : ∀ z : BelowW wr, z.q.cell? ⟨g', j * 2 + 1, none⟩ = some (.slice (some ⟨f', 0, none⟩) 2 2) := by rw [ej]; exact (HG'.out.after Hb.out).at 1 rfl
        have hne : Nonempty (BelowW wr) := ⟨⟨wr, Below.refl _ _⟩⟩
        clear ej
        go_upto_region 6 with fail
        refine wp_region_calm (by kernel_rfl) (by kernel_rfl) ?_
        repeat (go_big_quiet_step (first | (go_at_call 46; exact calm_of (SA.out _ (below_next Hb.out (Nat.le_refl _) (BelowW.h _))))))
        refine wpQuiet_nil ?_
        rintro _ ⟨z, rfl⟩
        have Zb := hide (below_next Hb.out (Nat.le_refl _) z.h)
        generalize z.q = W3 at *
        clear z e1 e2 e3 e4 hne
        go_wp2_with fail
        go_roundw
        case rel => exact ⟨j + 1, by go_num, by omega, Zb⟩
        case measure => simp [intOf]; omega
      · go_wp2_with fail
        go_ret
        exact ⟨rfl, Hb.out⟩
/-- all blocks but two are kept -/
def KeB (w w' : World) (f g : Nat) : Prop := w'.os = w.os ∧ w'.tape = w.tape ∧ w'.output = w.output ∧ w.heap.size ≤ w'.heap.size ∧ ∀ k, k < w.heap.size → k ≠ f → k ≠ g → w'.heap[k]? = w.heap[k]?
theorem KeB.of {w w' : World} {f g : Nat} (h : Below w.heap.size w w') : KeB w w' f g := ⟨h.os, h.tape, h.output, h.size, fun k hk _ _ => h.block k hk⟩
theorem KeB.set {w w1 w2 : World} {f g B : Nat} (h : KeB w w1 f g) (h2 : w1.grownBy w2 (some B)) (hB : B = f ∨ B = g) : KeB w w2 f g := ⟨h2.os.trans h.1, h2.tape.trans h.2.1, h2.output.trans h.2.2.1, Nat.le_trans h.2.2.2.1 h2.size, fun k hk h3 h4 => (h2.block k (Nat.lt_of_lt_of_le hk h.2.2.2.1) (fun e => by injection e with e; rcases hB with h | h <;> omega)).trans (h.2.2.2.2 k hk h3 h4)⟩
theorem same_none (w : World) (m : Nat) (u : Value) (hu : Ans w m u none) : Calls Try.prog 29 #[.slice none 0 0, u] w fun e w' => e = .returned (.bool true) ∧ Below w.heap.size w w' := by
  have SL := hide (sameList_any w 0 m (.slice none 0 0) u none rfl hu)
  obtain rfl := hu.zero
  clear hu
  go_enter Try.func29, Try.ntmps29
  go_wp2_with fail
  refine SL.out.mono ?_
  rintro e w1 ⟨rfl, hb⟩
  have Hb := hide hb
  clear hb SL
  go_wp2_with fail
  go_loopw [6] (fun i wx => i = .int .i64 0 ∧ wx = w1) (fun _ _ => 0)
  case atStart => exact ⟨rfl, rfl⟩
  case round =>
    obtain ⟨rfl, hw⟩ := hrel
    have hw := hw.symm
    subst hw
    go_wp2_with fail
    go_ret
    exact ⟨rfl, Hb.out⟩
/-- a message's two numbers behind k rounds of writing over -/
def ovA (x y : Int) (k : Nat) : Array Value := #[.int .i64 (if 0 < k then -77 else x), .int .i64 (if 1 < k then -77 else y)]
theorem ovA_step (x y : Int) : ∀ k : Nat, k < 2 → (ovA x y k).setIfInBounds k (.int .i64 (-77)) = ovA x y (k + 1)
  | 0, _ => rfl
  | 1, _ => rfl
  | n + 2, h => absurd h (by omega)
theorem ovA_at (x y : Int) : ∀ k : Nat, k < 2 → ∃ u : Int, (ovA x y k)[k]? = some (.int .i64 u)
  | 0, _ => ⟨_, rfl⟩
  | 1, _ => ⟨_, rfl⟩
  | n + 2, h => absurd h (by omega)
set_option maxHeartbeats 4000000 in
theorem same_some (w : World) (m f g : Nat) (k x y : Int) (u : Value) (hfg : f ≠ g) (hg : Blk w g #[.int .u8 k, .slice (some ⟨f, 0, none⟩) 2 2] 38) (hf : Blk w f #[.int .i64 x, .int .i64 y] 3) (hu : Ans w m u (some (k, x, y))) : Calls Try.prog 29 #[.slice (some ⟨g, 0, none⟩) 1 1, u] w fun e w' => e = .returned (.bool true) ∧ KeB w w' f g := by
  have SL := hide (sameList_any w 0 m (.slice (some ⟨g, 0, none⟩) 1 1) u (some (k, x, y)) ⟨f, g, Nat.zero_le _, Nat.zero_le _, hfg, rfl, hg, hf⟩ hu)
  obtain ⟨pu, cu, rfl⟩ := hu.one
  have HG := hide hg
  have HF := hide hf
  clear hg hf hu
  go_enter Try.func29, Try.ntmps29
  go_wp2_with fail
  refine SL.out.mono ?_
  rintro e w1 ⟨rfl, hb⟩
  have HG1 := hide (HG.out.after hb)
  have HF1 := hide (HF.out.after hb)
  have HK : Hid (KeB w w1 f g) := hide (KeB.of hb)
  clear hb SL HG HF
  go_wp2_with fail
  go_loopw [6] (fun i wx => ∃ j : Nat, i = .int .i64 (j : Int) ∧ j ≤ 1 ∧ Hid (j = 0 → Blk wx g #[.int .u8 k, .slice (some ⟨f, 0, none⟩) 2 2] 38 ∧ Blk wx f (ovA x y 0) 3) ∧ Hid (KeB w wx f g)) (fun i _ => 1 - (intOf i).toNat)
  case atStart => exact ⟨0, rfl, by omega, hide (fun _ => ⟨HG1.out, HF1.out⟩), HK⟩
  case round =>
    clear HG1 HF1 HK
    obtain ⟨j, rfl, hj, HB, HK⟩ := hrel
    by_cases hl : j < 1
    · have ej : j = 0 := by omega
      obtain ⟨hg, hf⟩ := HB.out ej
      have HG := hide hg
      have HF := hide hf
      have EJ := hide ej
      clear hg hf HB ej
      go_wp2_with fail
      go_loopw [7] (fun i wx => ∃ q : Nat, i = .int .i64 (q : Int) ∧ q ≤ 2 ∧ Hid (Blk wx g #[.int .u8 k, .slice (some ⟨f, 0, none⟩) 2 2] 38) ∧ Hid (Blk wx f (ovA x y q) 3) ∧ Hid (KeB w wx f g)) (fun i _ => 2 - (intOf i).toNat)
      case atStart => exact ⟨0, rfl, by omega, HG, HF, HK⟩
      case round =>
        clear HG HF HK
        obtain ⟨q, rfl, hq, HG, HF, HK⟩ := hrel
        have g1 : wr.cell? ⟨g, j * 2 + 1, none⟩ = some (.slice (some ⟨f, 0, none⟩) 2 2) := by rw [EJ.out]; exact HG.out.cell 1 rfl
        by_cases hq2 : q < 2
        · obtain ⟨t, ht⟩ := ovA_at x y q hq2
          have c0 := HF.out.cell q ht
          have f0 := HF.out.frozen q
          have HF2 := hide (HF.out.set q (.int .i64 (-77)))
          rw [ovA_step x y q hq2] at HF2
          have HG2 := hide (HG.out.setOther (C := f) (fun e => hfg e.symm) q (.int .i64 (-77)))
          have HK2 := hide (HK.out.set (grown_set wr f q (.int .i64 (-77))) (.inl rfl))
          clear ht HF HG HK
          go_wp2_with fail
          go_roundw
          case rel => exact ⟨q + 1, by go_num, by omega, HG2, HF2, HK2⟩
          case measure => simp [intOf]; omega
        · have g0 : wr.cell? ⟨g, j * 2, none⟩ = some (.int .u8 k) := by rw [EJ.out]; exact HG.out.cell 0 rfl
          have f0 : wr.frozen? ⟨g, j * 2, none⟩ = false := HG.out.frozen _
          have f1 : wr.frozen? ⟨g, j * 2 + 1, none⟩ = false := HG.out.frozen _
          have HK2 := hide ((HK.out.set (grown_set wr g (j * 2) (.int .u8 99)) (.inr rfl)).set (grown_set _ g (j * 2 + 1) (.slice none 0 0)) (.inr rfl))
          go_wp2_with fail
          go_roundw
          case rel => exact ⟨j + 1, by go_num, by omega, hide (fun e => by omega), HK2⟩
          case measure => simp [intOf]; omega
    · go_wp2_with fail
      go_ret
      exact ⟨rfl, HK.out⟩
end Go.Proofs.Ytimkfipiebppiaa
