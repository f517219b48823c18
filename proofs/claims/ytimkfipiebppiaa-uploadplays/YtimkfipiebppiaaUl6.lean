/- UploadOnly: what the statement keeps beside a desk: pure; which. -/
import Derived.Test.YtimkfipiebppiaaUp9
namespace Go.Proofs.Ytimkfipiebppiaa
open Go.RowKit Go.Great

/-- which call it is -/
def whB (x : Int) : Int := if x.tmod 5 < 0 then x.tmod 5 + 5 else x.tmod 5
theorem whB_in (x : Int) : 0 ≤ whB x ∧ whB x < 5 := by
  have h1 := Int.lt_tmod_of_pos x (show (0 : Int) < 5 by omega)
  have h2 := Int.tmod_lt_of_pos x (show (0 : Int) < 5 by omega)
  unfold whB
  split <;> omega
theorem which_any (x k now res : Int) (a : Option Addr) (n c : Nat) (w : World) : Calls Try.prog 16 #[.agg #[.int .i64 x, .int .u8 k, .slice a n c, .int .i64 now, .int .i64 res]] w fun e w' => e = .returned (.int .i64 (whB x)) ∧ Below w.heap.size w w' := by
  have Hb := hide (below_alloc w (.cells #[.int .i64 x, .int .u8 k, .slice a n c, .int .i64 now, .int .i64 res] 40))
  have h1 := Int.lt_tmod_of_pos x (show (0 : Int) < 5 by omega)
  have h2 := Int.tmod_lt_of_pos x (show (0 : Int) < 5 by omega)
  have HE : Hid (whB x = if x.tmod 5 < 0 then x.tmod 5 + 5 else x.tmod 5) := hide rfl
  by_cases h : x.tmod 5 < 0
  · have HE2 : Hid (whB x = x.tmod 5 + 5) := hide (by rw [HE.out, if_pos h])
    rw [HE2.out]
    clear HE HE2
    go_enter Try.func16, Try.ntmps16
    go_wp2_with fail
    go_ret
    exact ⟨rfl, Hb.out⟩
  · have HE2 : Hid (whB x = x.tmod 5) := hide (by rw [HE.out, if_neg h])
    rw [HE2.out]
    clear HE HE2
    go_enter Try.func16, Try.ntmps16
    go_wp2_with fail
    go_ret
    exact ⟨rfl, Hb.out⟩
/-- no answer is a Done of OK -/
def AOk (a : An) : Prop := ∀ k x y, a = some (k, x, y) → (k = 8 ∨ (k = 10 ∧ ¬ y = 0))
theorem aok_none : AOk none := fun _ _ _ h => by cases h
theorem aok_ask (wh : Int) (l : Ls) : AOk (askS wh l).2 := fun k x y h => by injection h with h; injection h with h _; exact .inl h.symm
theorem aok_drop (wh r : Int) (hr : ¬ r = 0) : AOk (dropS wh r).2 := fun k x y h => by injection h with h; injection h with h1 h2; injection h2 with _ h3; exact .inr ⟨h1.symm, by rw [← h3]; exact hr⟩
theorem aok_tick (wh : Int) (l : Ls) (now : Int) : AOk (tickS wh l now).2 := by
  unfold tickS
  split
  · exact aok_none
  · split
    · exact aok_drop _ _ (by omega)
    · exact aok_ask _ _
theorem aok_on (wh ms : Int) (l : Ls) (k : Int) (fs : List Int) (now : Int) : AOk (onS wh ms l k fs now).2 := by
  unfold onS
  split
  · exact aok_none
  · split
    · unfold beginS
      split
      · exact aok_drop _ _ (by omega)
      · exact aok_ask _ _
    · split
      · unfold takeS
        split
        · exact aok_none
        · split
          · split
            · exact aok_none
            · exact aok_ask _ _
          · split
            · exact aok_ask _ _
            · exact aok_none
      · split
        · unfold cancelS
          split
          · exact aok_drop _ _ (by omega)
          · exact aok_none
        · exact aok_none
/-- what the statement keeps behind a message -/
def keN (l : Ls) (k : Int) (ns : List Int) : Int := if okM k ns = true ∧ ns.getD 0 0 = 1 ∧ k = 7 then ns.getD 1 0 else l.cn
def keR (l : Ls) (k : Int) (ns : List Int) : List (List Int) :=
  if okM k ns = true ∧ ns.getD 0 0 = 1 then (if k = 7 then [] else if k = 9 ∧ ns.getD 1 0 = l.hd then l.rw ++ [ns.drop 2] else l.rw) else l.rw
theorem tick_keep {l : Ls} {now : Int} (h : 0 < (tickS 1 l now).1.cn) : (tickS 1 l now).1.cn = l.cn ∧ (tickS 1 l now).1.rw = l.rw := by
  unfold tickS at h ⊢
  split
  · exact ⟨rfl, rfl⟩
  · rename_i h1
    rw [if_neg h1] at h
    split
    · rename_i h2
      rw [if_pos h2] at h
      exact absurd h (by show ¬ (0 : Int) < 0; omega)
    · exact ⟨rfl, rfl⟩
theorem keN_other {l : Ls} {k : Int} {ns : List Int} (h : ¬ (okM k ns = true ∧ ns.getD 0 0 = 1 ∧ k = 7)) : keN l k ns = l.cn := by unfold keN; rw [if_neg h]
theorem keR_bad {l : Ls} {k : Int} {ns : List Int} (h : ¬ (okM k ns = true ∧ ns.getD 0 0 = 1)) : keR l k ns = l.rw := by unfold keR; rw [if_neg h]
theorem keR_7 {l : Ls} {k : Int} {ns : List Int} (h : okM k ns = true ∧ ns.getD 0 0 = 1) (h7 : k = 7) : keR l k ns = [] := by unfold keR; rw [if_pos h, if_pos h7]
theorem keR_9 {l : Ls} {k : Int} {ns : List Int} (h : okM k ns = true ∧ ns.getD 0 0 = 1) (h9 : k = 9) (h1 : ns.getD 1 0 = l.hd) : keR l k ns = l.rw ++ [ns.drop 2] := by unfold keR; rw [if_pos h, if_neg (by omega), if_pos ⟨h9, h1⟩]
theorem keR_no {l : Ls} {k : Int} {ns : List Int} (h7 : ¬ k = 7) (h9 : ¬ (k = 9 ∧ ns.getD 1 0 = l.hd)) : keR l k ns = l.rw := by
  by_cases hok : okM k ns = true ∧ ns.getD 0 0 = 1
  · unfold keR; rw [if_pos hok, if_neg h7, if_neg h9]
  · exact keR_bad hok
theorem on_keep {ms : Int} {l : Ls} {k : Int} {ns : List Int} {now : Int} (hr : rdB l = false) (hl : LOk ms l) (h : 0 < (onS 1 ms l k ns now).1.cn) : (onS 1 ms l k ns now).1.cn = keN l k ns ∧ (onS 1 ms l k ns now).1.rw = keR l k ns := by
  have hz : ¬ (0 : Int) < ls0.cn := by show ¬ (0 : Int) < 0; omega
  by_cases hok : okM k ns = true ∧ ns.getD 0 0 = 1
  · have h2 : (encM 0 k ns).2 = 0 := by have := hok.1; unfold okM at this; simpa using this
    have e := on_good (wh := 1) (ms := ms) (now := now) hr h2 hok.2
    by_cases h7 : k = 7
    · rw [if_pos h7] at e
      rw [keR_7 hok h7, show keN l k ns = ns.getD 1 0 by unfold keN; rw [if_pos ⟨hok.1, hok.2, h7⟩]]
      by_cases h3 : ns.getD 1 0 < 1 ∨ ms < ns.getD 1 0
      · have e2 : beginS 1 ms (ns.getD 1 0) now = dropS 1 4 := by unfold beginS; rw [if_pos h3]
        rw [e, e2] at h
        exact absurd h hz
      · have e2 : beginS 1 ms (ns.getD 1 0) now = askS 1 ⟨ns.getD 1 0, now, 0, []⟩ := by unfold beginS; rw [if_neg h3]
        rw [e, e2]
        exact ⟨rfl, rfl⟩
    · rw [if_neg h7] at e
      rw [keN_other (fun h => h7 h.2.2)]
      by_cases h9 : k = 9
      · rw [if_pos h9] at e
        by_cases ht : tkB l = false
        · have e2 : takeS 1 l ns now = (l, none) := by unfold takeS; rw [if_pos ht]
          rw [e, e2] at h
          have h : (0 : Int) < l.cn := h
          have h4 : ¬ l.hd < l.cn := of_decide_eq_false ht
          have h5 : ¬ l.hd = l.cn := by
            intro e
            unfold rdB at hr
            rw [e] at hr
            simp at hr
            omega
          have := hl.h
          omega
        · by_cases h1 : ns.getD 1 0 = l.hd
          · rw [keR_9 hok h9 h1]
            have e2 : (takeS 1 l ns now).1 = l.with (ns.drop 2) now := by
              unfold takeS
              rw [if_neg ht, if_pos h1]
              split <;> rfl
            rw [e, e2]
            exact ⟨rfl, rfl⟩
          · rw [keR_no h7 (fun h => h1 h.2)]
            have e2 : (takeS 1 l ns now).1 = l := by
              unfold takeS
              rw [if_neg ht, if_neg h1]
              split <;> rfl
            rw [e, e2]
            exact ⟨rfl, rfl⟩
      · rw [if_neg h9] at e
        rw [keR_no h7 (fun h => h9 h.1)]
        by_cases h11 : k = 11
        · rw [if_pos h11] at e
          by_cases ht : tkB l = true
          · have e2 : cancelS 1 l = dropS 1 211 := by unfold cancelS; rw [if_pos ht]
            rw [e, e2] at h
            exact absurd h hz
          · have e2 : cancelS 1 l = (l, none) := by unfold cancelS; rw [if_neg ht]
            rw [e, e2]
            exact ⟨rfl, rfl⟩
        · rw [if_neg h11] at e
          rw [e]
          exact ⟨rfl, rfl⟩
  · have e : onS 1 ms l k ns now = (l, none) := by
      unfold onS
      rw [if_pos]
      right
      by_cases h1 : okM k ns = true
      · right; exact fun h => hok ⟨h1, h⟩
      · left; simpa using h1
    rw [e, keN_other (fun h => hok ⟨h.1, h.2.1⟩), keR_bad hok]
    exact ⟨rfl, rfl⟩
theorem idle_rows {ms : Int} {l : Ls} (hl : LOk ms l) (h : ¬ 0 < l.cn) : l.cn = 0 ∧ l.rw = [] := by
  have h1 := hl.m
  have h2 := hl.h
  have e : l.cn = 0 := by omega
  refine ⟨e, List.eq_nil_of_length_eq_zero ?_⟩
  unfold Ls.hd at h2
  omega
theorem ready_len {l : Ls} (h : rdB l = true) : (l.rw.length : Int) = l.cn := by
  unfold rdB Ls.hd at h
  simp at h
  exact h.2
theorem only_bad {ms : Int} (h : newB 1 ms = false) : ms < 1 ∨ 65535 < ms := by
  unfold newB at h
  have := of_decide_eq_false h
  omega
end Go.Proofs.Ytimkfipiebppiaa
