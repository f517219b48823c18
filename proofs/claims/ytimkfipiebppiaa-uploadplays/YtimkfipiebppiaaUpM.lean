/- Package upload: what a desk does, and what it keeps in memory: pure, and the blocks. -/
import Derived.Test.YtimkfipiebppiaaMtD
namespace Go.Proofs.Ytimkfipiebppiaa
open Go.RowKit Go.Great

/-- a list that is taken: its count, when it was heard, how often asked again, the rows that came -/
structure Ls where
  cn : Int
  he : Int
  ag : Int
  rw : List (List Int)
def ls0 : Ls := ⟨0, 0, 0, []⟩
def Ls.hd (l : Ls) : Int := (l.rw.length : Int)
/-- items are wanted still -/
def tkB (l : Ls) : Bool := decide (l.hd < l.cn)
/-- all items came -/
def rdB (l : Ls) : Bool := decide (0 < l.cn) && (l.hd == l.cn)
/-- an answer: nothing, or one message of two fields -/
abbrev An := Option (Int × Int × Int)
def askS (wh : Int) (l : Ls) : Ls × An := (l, some (8, wh, l.hd))
def dropS (wh r : Int) : Ls × An := (ls0, some (10, wh, r))
def beginS (wh ms n now : Int) : Ls × An := if n < 1 ∨ ms < n then dropS wh 4 else askS wh ⟨n, now, 0, []⟩
/-- the list with one more row -/
def Ls.with (l : Ls) (r : List Int) (now : Int) : Ls := ⟨l.cn, now, 0, l.rw ++ [r]⟩
def takeS (wh : Int) (l : Ls) (fs : List Int) (now : Int) : Ls × An :=
  if tkB l = false then (l, none)
  else if fs.getD 1 0 = l.hd then (if rdB (l.with (fs.drop 2) now) = true then (l.with (fs.drop 2) now, none) else askS wh (l.with (fs.drop 2) now))
  else if fs.getD 1 0 = l.hd - 1 then askS wh l else (l, none)
def cancelS (wh : Int) (l : Ls) : Ls × An := if tkB l = true then dropS wh 211 else (l, none)
/-- may a message be said at all? -/
def okM (k : Int) (fs : List Int) : Bool := (encM 0 k fs).2 == 0
def onS (wh ms : Int) (l : Ls) (k : Int) (fs : List Int) (now : Int) : Ls × An :=
  if rdB l = true ∨ okM k fs = false ∨ ¬ fs.getD 0 0 = wh then (l, none)
  else if k = 7 then beginS wh ms (fs.getD 1 0) now else if k = 9 then takeS wh l fs now else if k = 11 then cancelS wh l else (l, none)
def ltB (he now : Int) : Bool := decide (200 ≤ now - he)
def tickS (wh : Int) (l : Ls) (now : Int) : Ls × An :=
  if tkB l = false ∨ ltB l.he now = false then (l, none) else if l.ag = 5 then dropS wh 210 else askS wh ⟨l.cn, now, l.ag + 1, l.rw⟩
def keepS (wh : Int) (l : Ls) (r : Int) : Ls × An := if rdB l = true then dropS wh r else (l, none)
/-- what holds of every list of a desk -/
structure LOk (ms : Int) (l : Ls) : Prop where
  m : 0 ≤ l.cn ∧ l.cn ≤ ms
  h : l.hd ≤ l.cn
  a : 0 ≤ l.ag ∧ l.ag ≤ 5
  e : I64 l.he
  r : ∀ x ∈ l.rw, x.length = 5
theorem LOk.zero {ms : Int} (h : 0 ≤ ms) : LOk ms ls0 := ⟨⟨Int.le_refl _, h⟩, Int.le_refl _, by decide, by unfold I64 ls0; simp only; omega, fun x hx => by cases hx⟩
theorem hd_nat (l : Ls) : 0 ≤ l.hd := Int.natCast_nonneg _
theorem okM_len {k : Int} {fs : List Int} (h : okM k fs = true) : (wsK k).length ≠ 0 ∧ fs.length = (wsK k).length := by
  unfold okM at h
  simp only [beq_iff_eq] at h
  by_cases h1 : (wsK k).length = 0
  · rw [encM_kind _ _ _ h1] at h; cases h
  · refine ⟨h1, ?_⟩
    by_cases h2 : fs.length = (wsK k).length
    · exact h2
    · rw [encM_count _ _ _ h1 h2] at h; cases h
theorem okM_7 {fs : List Int} (h : okM 7 fs = true) : fs.length = 2 := (okM_len h).2
theorem okM_9 {fs : List Int} (h : okM 9 fs = true) : fs.length = 7 := (okM_len h).2
theorem okM_11 {fs : List Int} (h : okM 11 fs = true) : fs.length = 1 := (okM_len h).2
theorem okM_pos {k : Int} {fs : List Int} (h : okM k fs = true) : 0 < fs.length := by
  have := okM_len h; omega
theorem begin_ok {wh ms n now : Int} (hm : 0 ≤ ms) (hn : I64 now) : LOk ms (beginS wh ms n now).1 := by
  unfold beginS
  split
  · exact LOk.zero hm
  · exact ⟨⟨by show (0 : Int) ≤ n; omega, by show n ≤ ms; omega⟩, by show ((0 : Nat) : Int) ≤ n; omega, by show (0 : Int) ≤ 0 ∧ (0 : Int) ≤ 5; omega, hn, fun x hx => by cases hx⟩
theorem with_ok {ms : Int} {l : Ls} {r : List Int} {now : Int} (h : LOk ms l) (ht : tkB l = true) (hr : r.length = 5) (hn : I64 now) : LOk ms (l.with r now) := by
  refine ⟨h.m, ?_, by show (0 : Int) ≤ 0 ∧ (0 : Int) ≤ 5; omega, hn, ?_⟩
  · have ht := of_decide_eq_true ht
    show (((l.rw ++ [r]).length : Nat) : Int) ≤ l.cn
    rw [List.length_append]
    unfold Ls.hd at ht
    simp only [List.length_singleton]
    omega
  · intro x hx
    rcases List.mem_append.1 hx with hx | hx
    · exact h.r x hx
    · rw [List.mem_singleton.1 hx]; exact hr
theorem take_ok {ms wh : Int} {l : Ls} {fs : List Int} {now : Int} (h : LOk ms l) (hf : fs.length = 7) (hn : I64 now) : LOk ms (takeS wh l fs now).1 := by
  have hd : (fs.drop 2).length = 5 := by rw [List.length_drop, hf]
  unfold takeS
  split
  · exact h
  · rename_i ht
    have ht : tkB l = true := by simpa using ht
    split
    · split
      · exact with_ok h ht hd hn
      · exact with_ok h ht hd hn
    · split <;> exact h
theorem cancel_ok {ms wh : Int} {l : Ls} (hm : 0 ≤ ms) (h : LOk ms l) : LOk ms (cancelS wh l).1 := by
  unfold cancelS
  split
  · exact LOk.zero hm
  · exact h
theorem on_ok {ms wh : Int} {l : Ls} {k : Int} {fs : List Int} {now : Int} (hm : 0 ≤ ms) (h : LOk ms l) (hn : I64 now) : LOk ms (onS wh ms l k fs now).1 := by
  unfold onS
  split
  · exact h
  · rename_i hc
    split
    · exact begin_ok hm hn
    · split
      · rename_i h9
        subst h9
        refine take_ok h (okM_9 ?_) hn
        cases hk : okM 9 fs
        · exact absurd (.inr (.inl hk)) hc
        · rfl
      · split
        · exact cancel_ok hm h
        · exact h
theorem tick_ok {ms wh : Int} {l : Ls} {now : Int} (hm : 0 ≤ ms) (h : LOk ms l) (hn : I64 now) : LOk ms (tickS wh l now).1 := by
  unfold tickS
  split
  · exact h
  · split
    · exact LOk.zero hm
    · exact ⟨h.m, h.h, by have := h.a; show (0 : Int) ≤ l.ag + 1 ∧ l.ag + 1 ≤ 5; omega, hn, h.r⟩
theorem keep_ok {ms wh r : Int} {l : Ls} (hm : 0 ≤ ms) (h : LOk ms l) : LOk ms (keepS wh l r).1 := by
  unfold keepS
  split
  · exact LOk.zero hm
  · exact h
/-! ### the blocks -/
/-- a row of a list, in a block of its own -/
def RowK (w : World) (u : Value) (r : List Int) (ks : List Nat) : Prop :=
  ∃ g cap, u = .slice (some ⟨g, 0, none⟩) r.length cap ∧ g ∈ ks ∧ (∃ cs, Blk w g cs 3) ∧ ∀ i, i < r.length → w.cell? ⟨g, i, none⟩ = some (.int .i64 (r.getD i 0))
/-- the chain of a list's rows, the last one first, within the blocks ks -/
def Chn (w : World) (ks : List Nat) : Value → List (List Int) → Prop
  | p, [] => p = .pointer none
  | p, r :: R => ∃ e u q, p = .pointer (some ⟨e, 0, none⟩) ∧ Blk w e #[u, q] 98 ∧ e ∈ ks ∧ RowK w u r ks ∧ Chn w ks q R
theorem cell_same {w w' : World} {g : Nat} (h : w'.heap[g]? = w.heap[g]?) (i : Nat) : w'.cell? ⟨g, i, none⟩ = w.cell? ⟨g, i, none⟩ := by
  unfold World.cell?; simp only [h]
theorem RowK.keep {w w' : World} {u : Value} {r : List Int} {ks ks' : List Nat} (h : RowK w u r ks) (hk : ∀ k ∈ ks, w'.heap[k]? = w.heap[k]?) (hm : ∀ k ∈ ks, k ∈ ks') : RowK w' u r ks' := by
  obtain ⟨g, cap, e, hg, hl, hc⟩ := h
  obtain ⟨cs, hl⟩ := hl
  exact ⟨g, cap, e, hm g hg, ⟨cs, (hk g hg).trans hl⟩, fun i hi => (cell_same (hk g hg) i).trans (hc i hi)⟩
theorem Chn.keep {w w' : World} {ks ks' : List Nat} (hs : w.heap.size ≤ w'.heap.size) (hk : ∀ k ∈ ks, w'.heap[k]? = w.heap[k]?) (hm : ∀ k ∈ ks, k ∈ ks') : ∀ {R : List (List Int)} {p : Value}, Chn w ks p R → Chn w' ks' p R
  | [], _, h => h
  | _ :: _, _, ⟨e, u, q, e1, hb, he, hr, hc⟩ => ⟨e, u, q, e1, (hk e he).trans hb, hm e he, hr.keep hk hm, Chn.keep hs hk hm hc⟩
theorem RowK.ints {w : World} {u : Value} {r : List Int} {ks : List Nat} (h : RowK w u r ks) : Ints w u r := by
  obtain ⟨g, cap, e, _, ⟨cs, hl⟩, hc⟩ := h
  exact ⟨_, cap, e, fun _ => ⟨g, 0, rfl, hl.lt, fun i hi => by rw [Nat.zero_add]; exact hc i hi⟩⟩
/-- a desk's cells -/
abbrev deC (wh ms : Int) (l : Ls) (p : Value) : Array Value := #[.int .i64 wh, .int .i64 ms, .int .i64 l.cn, .int .i64 l.hd, p, .int .i64 l.he, .int .i64 l.ag]
/-- the desk in block D -/
def Dsk (w : World) (D : Nat) (wh ms : Int) (l : Ls) (ks : List Nat) : Prop :=
  ∃ p, Blk w D (deC wh ms l p) 68 ∧ Chn w ks p l.rw.reverse ∧ ∀ k ∈ ks, k < w.heap.size ∧ k ≠ D
abbrev dP (D : Nat) : Value := .pointer (some ⟨D, 0, none⟩)
theorem Dsk.lt {w : World} {D : Nat} {wh ms : Int} {l : Ls} {ks : List Nat} (h : Dsk w D wh ms l ks) : D < w.heap.size := by
  obtain ⟨p, h1, _⟩ := h; exact h1.lt
/-- what is kept: the desk's own block, and its rows' -/
theorem Dsk.keep {w w' : World} {D : Nat} {wh ms : Int} {l : Ls} {ks : List Nat} (h : Dsk w D wh ms l ks) (hs : w.heap.size ≤ w'.heap.size) (hD : w'.heap[D]? = w.heap[D]?) (hk : ∀ k ∈ ks, w'.heap[k]? = w.heap[k]?) : Dsk w' D wh ms l ks := by
  obtain ⟨p, h1, h2, h3⟩ := h
  exact ⟨p, hD.trans h1, h2.keep hs hk (fun _ h => h), fun k hk => ⟨Nat.lt_of_lt_of_le (h3 k hk).1 hs, (h3 k hk).2⟩⟩
theorem Dsk.after {w w' : World} {D : Nat} {wh ms : Int} {l : Ls} {ks : List Nat} (h : Dsk w D wh ms l ks) (hb : Below w.heap.size w w') : Dsk w' D wh ms l ks := by
  have hD := h.lt
  have h0 := h
  obtain ⟨p, h1, h2, h3⟩ := h
  exact h0.keep hb.size (hb.block D hD) (fun k hk => hb.block k (h3 k hk).1)
theorem Dsk.grown {w w' : World} {D : Nat} {wh ms : Int} {l : Ls} {ks : List Nat} {B : Nat} (h : Dsk w D wh ms l ks) (hg : w.grownBy w' (some B)) (hD : D ≠ B) (hB : ∀ k ∈ ks, k ≠ B) : Dsk w' D wh ms l ks := by
  have hl := h.lt
  have h0 := h
  obtain ⟨p, h1, h2, h3⟩ := h
  exact h0.keep hg.size (hg.block D hl (fun e => hD (by injection e))) (fun k hk => hg.block k (h3 k hk).1 (fun e => hB k hk (by injection e)))
/-- an answer, in new blocks from n on -/
def Ans (w : World) (n : Nat) (v : Value) : An → Prop
  | none => v = .slice none 0 0
  | some (k, a, b) => ∃ f g, n ≤ f ∧ n ≤ g ∧ f ≠ g ∧ v = .slice (some ⟨g, 0, none⟩) 1 1 ∧ Blk w g #[.int .u8 k, .slice (some ⟨f, 0, none⟩) 2 2] 38 ∧ Blk w f #[.int .i64 a, .int .i64 b] 3
theorem Ans.below {w w' : World} {n : Nat} {v : Value} {a : An} (h : Ans w n v a) (hb : Below w.heap.size w w') : Ans w' n v a := by
  cases a with
  | none => exact h
  | some x =>
    obtain ⟨k, a, b⟩ := x
    obtain ⟨f, g, h1, h2, h3, h4, h5, h6⟩ := h
    exact ⟨f, g, h1, h2, h3, h4, h5.after hb, h6.after hb⟩
theorem Ans.up {w : World} {n m : Nat} {v : Value} {a : An} (h : Ans w n v a) (hm : m ≤ n) : Ans w m v a := by
  cases a with
  | none => exact h
  | some x =>
    obtain ⟨k, a, b⟩ := x
    obtain ⟨f, g, h1, h2, h3⟩ := h
    exact ⟨f, g, Nat.le_trans hm h1, Nat.le_trans hm h2, h3⟩
/-- what a call of a desk leaves -/
def DEnd (w : World) (D : Nat) (wh ms : Int) (ks : List Nat) (r : Ls × An) (e : Ending) (w' : World) : Prop :=
  ∃ v ks' b, e = .returned v ∧ Dsk w' D wh ms r.1 ks' ∧ (∀ k ∈ ks', k ∈ ks ∨ w.heap.size ≤ k) ∧ (∀ k ∈ ks', k < b) ∧ w.heap.size ≤ b ∧ Ans w' b v r.2 ∧ w.grownBy w' (some D)
theorem set5 {W : World} {B : Nat} {x y a b c d e : Value} {t : TypeId} (h : Blk W B #[x, y, a, b, c, d, e] t) (a' b' c' d' e' : Value) : Blk (((((W.setCell ⟨B, 2, none⟩ a').setCell ⟨B, 3, none⟩ b').setCell ⟨B, 4, none⟩ c').setCell ⟨B, 5, none⟩ d').setCell ⟨B, 6, none⟩ e') B #[x, y, a', b', c', d', e'] t :=
  ((((h.set 2 a').set 3 b').set 4 c').set 5 d').set 6 e'
theorem grown5 (W : World) (B : Nat) (a' b' c' d' e' : Value) : W.grownBy (((((W.setCell ⟨B, 2, none⟩ a').setCell ⟨B, 3, none⟩ b').setCell ⟨B, 4, none⟩ c').setCell ⟨B, 5, none⟩ d').setCell ⟨B, 6, none⟩ e') (some B) :=
  grown_more (grown_more (grown_more (grown_more (grown_set _ _ _ _) (grown_set _ _ _ _)) (grown_set _ _ _ _)) (grown_set _ _ _ _)) (grown_set _ _ _ _)
end Go.Proofs.Ytimkfipiebppiaa
