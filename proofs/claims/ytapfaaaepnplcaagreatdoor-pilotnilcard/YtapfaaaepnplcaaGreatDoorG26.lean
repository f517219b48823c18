/- Mo3. -/
import Derived.Test.YtapfaaaepnplcaaGreatDoorG25
import Derived.WalkSmall
set_option maxRecDepth 100000
set_option maxHeartbeats 1000000
namespace Go.Proofs.YtapfaaaepnplcaaGreatDoor
open Go.RowKit Go.Great
/-- a queue's slice: n numbers in block g -/
abbrev slQ_Mo3 (g n cap : Nat) : Value := .slice (some ⟨g, 0, none⟩) n cap
/-- the queue in block Q: the numbers l in block g, both from b on -/
structure Qu_Mo3 (w : World) (b Q g cap : Nat) (l : List Int) : Prop where
  bq : b ≤ Q
  box : Blk w Q #[slQ_Mo3 g l.length cap] 434
  own : w.ownsRow b 3 1 (slQ_Mo3 g l.length cap) l.length (l.map (Value.int .i64))
theorem Qu_Mo3.row {w : World} {b Q g cap : Nat} {l : List Int} (h : Qu_Mo3 w b Q g cap l) : ∃ cur, Blk w g cur 3 ∧ b ≤ g ∧ l.length ≤ cap ∧ cap ≤ maxLen ∧ cur.size = cap ∧ cur.toList.take l.length = l.map (Value.int .i64) := by
  rcases h.own.2 with ⟨h0, _⟩ | ⟨g', cap', cur, hv, hg_HpM, hh, hn, hc, hs, ht⟩
  · cases h0
  · injection hv with e1 _ e2
    injection e1 with e1
    injection e1 with e1
    subst e1 e2
    exact ⟨cur, hh, hg_HpM, hn, hc, by rw [hs, Nat.mul_one], by rw [← ht, Nat.mul_one]⟩
theorem Qu_Mo3.bg {w : World} {b Q g cap : Nat} {l : List Int} (h : Qu_Mo3 w b Q g cap l) : b ≤ g := by obtain ⟨_, _, h1, _⟩ := h.row; exact h1
theorem Qu_Mo3.ne {w : World} {b Q g cap : Nat} {l : List Int} (h : Qu_Mo3 w b Q g cap l) : g ≠ Q := by
  have := blk_apart h.own h.box (by decide)
  intro e
  subst e
  exact this rfl
theorem Qu_Mo3.frozen {w : World} {b Q g cap : Nat} {l : List Int} (h : Qu_Mo3 w b Q g cap l) (i : Nat) : w.frozen? ⟨g, i, none⟩ = false := by obtain ⟨_, h1, _⟩ := h.row; exact h1.frozen i
theorem Qu_Mo3.at {w : World} {b Q g cap : Nat} {l : List Int} (h : Qu_Mo3 w b Q g cap l) (i : Nat) (hi : i < l.length) : w.cell? ⟨g, i, none⟩ = some (.int .i64 (hg_HpM l i)) := by
  rw [World.ownsRow.cellAt h.own i (by omega)]
  simp [hg_HpM, hi]
theorem Qu_Mo3.cap_in {w : World} {b Q g cap : Nat} {l : List Int} (h : Qu_Mo3 w b Q g cap l) : l.length ≤ cap ∧ cap ≤ 9223372036854775807 := by obtain ⟨_, _, _, h1, h2, _⟩ := h.row; exact ⟨h1, h2⟩
theorem Qu_Mo3.drewN {w : World} {b Q g cap : Nat} {l : List Int} (h : Qu_Mo3 w b Q g cap l) (k : Nat) : Qu_Mo3 (w.drewN k) b Q g cap l := by
  induction k with
  | zero => exact h
  | succ k ih => exact ⟨ih.bq, ih.box, ih.own⟩
theorem Qu_Mo3.after {w w' : World} {b Q g cap : Nat} {l : List Int} (h : Qu_Mo3 w b Q g cap l) (hb : Below w.heap.size w w') : Qu_Mo3 w' b Q g cap l :=
  ⟨h.bq, h.box.after hb, World.ownsRow.kept h.own (grown_below hb none) (by simp [Value.ownBlock])⟩
theorem own_of_Mo3 {w : World} {b g cap n : Nat} {l : List Int} {cur : Array Value} (hb : b ≤ g) (hB : Blk w g cur 3) (hn : l.length = n) (h1 : n ≤ cap) (h2 : cap ≤ maxLen) (h3 : cur.size = cap) (h4 : cur.toList.take n = l.map (Value.int .i64)) : w.ownsRow b 3 1 (slQ_Mo3 g n cap) n (l.map (Value.int .i64)) :=
  ⟨by rw [List.length_map, hn, Nat.mul_one], .inr ⟨g, cap, cur, rfl, hb, hB, h1, h2, by rw [h3, Nat.mul_one], by rw [Nat.mul_one, h4]⟩⟩
theorem Qu_Mo3.set {w : World} {b Q g cap : Nat} {l : List Int} (h : Qu_Mo3 w b Q g cap l) (i : Nat) (x : Int) (_hi : i < l.length) : Qu_Mo3 (w.setCell ⟨g, i, none⟩ (.int .i64 x)) b Q g cap (l.set i x) := by
  obtain ⟨cur, hB, hb, h1, h2, h3, h4⟩ := h.row
  have e : (l.set i x).length = l.length := List.length_set
  refine ⟨h.bq, ?_, ?_⟩
  · rw [e]; exact h.box.setOther (fun e => h.ne e.symm) i _
  · rw [e]
    refine own_of_Mo3 hb (hB.set i _) e h1 h2 (by simp [h3]) ?_
    rw [Array.toList_setIfInBounds, List.take_set, h4, List.map_set]
theorem Qu_Mo3.sw {w : World} {b Q g cap : Nat} {l : List Int} (h : Qu_Mo3 w b Q g cap l) (i j : Nat) (hi : i < l.length) (hj : j < l.length) : Qu_Mo3 ((w.setCell ⟨g, i, none⟩ (.int .i64 (hg_HpM l j))).setCell ⟨g, j, none⟩ (.int .i64 (hg_HpM l i))) b Q g cap (sw_HpM l i j) :=
  (h.set i _ hi).set j _ (by simpa using hj)
/-- the last one is taken away -/
theorem Qu_Mo3.less {w : World} {b Q g cap n : Nat} {l : List Int} (h : Qu_Mo3 w b Q g cap l) (hn : l.length = n + 1) : Qu_Mo3 (w.setCell ⟨Q, 0, none⟩ (slQ_Mo3 g n cap)) b Q g cap (l.take n) := by
  obtain ⟨cur, hB, hb, h1, h2, h3, h4⟩ := h.row
  have e : (l.take n).length = n := by rw [List.length_take]; omega
  refine ⟨h.bq, ?_, ?_⟩
  · rw [e]; exact h.box.set 0 _
  · rw [e]
    refine own_of_Mo3 hb (hB.setOther h.ne 0 _) e (by omega) h2 h3 ?_
    rw [List.map_take, ← h4, List.take_take, hn, Nat.min_eq_left (by omega)]
abbrev qP_Mo3 (Q : Nat) : Value := .pointer (some ⟨Q, 0, none⟩)
abbrev qI_Mo3 (Q : Nat) : Value := .iface 362 (qP_Mo3 Q)
theorem len_any_Mo3 (g n cap : Nat) (w : World) : Calls Tryz.prog 309 #[slQ_Mo3 g n cap] w fun e w' => e = .returned (.int .i64 n) ∧ w' = w := by
  go_enter Tryz.func309, Tryz.ntmps309
  go_wp2
  go_ret
  exact ⟨rfl, rfl⟩
/-- what a queue's method leaves: the queue, and all below -/
def QEnd_Mo3 (w : World) (b Q g cap : Nat) (l : List Int) (v : Value) (e : Ending) (w' : World) : Prop := e = .returned v ∧ Qu_Mo3 w' b Q g cap l ∧ Below b w w'
theorem less_any_Mo3 (w : World) (b Q g cap : Nat) (l : List Int) (i j : Nat) (h : Qu_Mo3 w b Q g cap l) (hi : i < l.length) (hj : j < l.length) : Calls Tryz.prog 450 #[slQ_Mo3 g l.length cap, .int .i64 i, .int .i64 j] w (QEnd_Mo3 w b Q g cap l (.bool (decide (hg_HpM l i < hg_HpM l j)))) := by
  have HQ := hide h
  have c1 := h.at i hi
  have c2 := h.at j hj
  generalize hg_HpM l i = x at *
  generalize hg_HpM l j = y at *
  generalize l.length = n at *
  clear h
  go_enter Tryz.func450, Tryz.ntmps450
  go_wp2
  go_quiet (fail)
  go_wp2
  go_ret
  exact ⟨rfl, HQ.out.drewN _, below_drewN (Below.refl _ _) _⟩
theorem swap_any_Mo3 (w : World) (b Q g cap : Nat) (l : List Int) (i j : Nat) (h : Qu_Mo3 w b Q g cap l) (hi : i < l.length) (hj : j < l.length) : Calls Tryz.prog 453 #[slQ_Mo3 g l.length cap, .int .i64 i, .int .i64 j] w (QEnd_Mo3 w b Q g cap (sw_HpM l i j) (.tuple #[])) := by
  have HQ := hide h
  have HS : Hid (∀ k, Qu_Mo3 (((w.drewN k).setCell ⟨g, i, none⟩ (.int .i64 (hg_HpM l j))).setCell ⟨g, j, none⟩ (.int .i64 (hg_HpM l i))) b Q g cap (sw_HpM l i j)) := hide (fun k => (h.drewN k).sw i j hi hj)
  have c1 := h.at i hi
  have c2 := h.at j hj
  have c3 := (h.set i (hg_HpM l j) hi).at j (by simpa using hj)
  generalize hg_HpM (l.set i (hg_HpM l j)) j = z at *
  have f1 := h.frozen i
  have f2 := h.frozen j
  have hbg := h.bg
  have hbs : b ≤ w.heap.size := Nat.le_trans h.bq (Nat.le_of_lt h.box.lt)
  generalize hg_HpM l i = x at *
  generalize hg_HpM l j = y at *
  generalize sw_HpM l i j = m at *
  generalize l.length = n at *
  clear h
  go_enter Tryz.func453, Tryz.ntmps453
  go_wp2
  go_region
  all_goals go_wp2
  go_end0
  exact ⟨rfl, (HS.out 0).drewN 1, (below_set (below_set (Below.refl _ _) g i _ hbg hbs) g j _ hbg (by rw [setCell_size]; exact hbs)).drew⟩
end Go.Proofs.YtapfaaaepnplcaaGreatDoor
