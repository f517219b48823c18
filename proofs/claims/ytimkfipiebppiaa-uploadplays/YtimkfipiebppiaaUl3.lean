/- The statements of layer 21: row; desks that are known; awake. -/
import Derived.Test.YtimkfipiebppiaaUl2
namespace Go.Proofs.Ytimkfipiebppiaa
open Go.RowKit Go.Great

theorem Ans.grown {w w' : World} {D n : Nat} {v : Value} {a : An} (h : Ans w n v a) (hg : w.grownBy w' (some D)) (hD : D < n) : Ans w' n v a := by
  cases a with
  | none => exact h
  | some x =>
    obtain ⟨k, a, b⟩ := x
    obtain ⟨f, g, h1, h2, h3, h4, h5, h6⟩ := h
    exact ⟨f, g, h1, h2, h3, h4, h5.grown hg (fun e => by injection e with e; omega), h6.grown hg (fun e => by injection e with e; omega)⟩
theorem Ans.one {w : World} {n : Nat} {v : Value} {x : Int × Int × Int} (h : Ans w n v (some x)) : ∃ p c, v = .slice p 1 c := by
  obtain ⟨k, a, b⟩ := x
  obtain ⟨f, g, h1, h2, h3, h4, h5, h6⟩ := h
  exact ⟨_, _, h4⟩
theorem Ans.zero {w : World} {n : Nat} {v : Value} (h : Ans w n v none) : v = .slice none 0 0 := h
/-- what is left of memory: the desk lies in new memory -/
theorem below_desk {w W W' : World} {D : Nat} (hb : Below w.heap.size w W) (hg : W.grownBy W' (some D)) (hD : w.heap.size ≤ D) : Below w.heap.size w W' := below_grown hb hg (fun q e => by injection e with e; omega)
/-- the end of a call, as the statements use it -/
def LEnd (w : World) (D : Nat) (wh ms : Int) (l : Ls) (a : An) (e : Ending) (w' : World) : Prop := ∃ v ks, e = .returned v ∧ Dsk w' D wh ms l ks ∧ Ans w' w.heap.size v a ∧ w.grownBy w' (some D)
theorem DEnd.l {w w' : World} {D : Nat} {wh ms : Int} {ks : List Nat} {r : Ls × An} {e : Ending} {l : Ls} {a : An} (h : DEnd w D wh ms ks r e w') (hr : r = (l, a)) : LEnd w D wh ms l a e w' := by
  subst hr
  obtain ⟨v, ks', b, h0, h1, h2, h3, h4, h5, h6⟩ := h
  exact ⟨v, ks', h0, h1, h5.up h4, h6⟩
theorem on_is (w : World) (D : Nat) (wh ms : Int) (l : Ls) (ks : List Nat) (h : Dsk w D wh ms l ks) (hl : LOk ms l) (hms : ms ≤ 65535) (k : Int) (hk : 0 ≤ k ∧ k ≤ 255) (fs : List Int) (u : Value) (hu : Ints w u fs) (hcap : ∀ a n c, u = .slice a n c → n ≤ c) (hlen : fs.length ≤ 9223372036854775807) (now : Int) {l' : Ls} {a : An} (hr : onS wh ms l k fs now = (l', a)) : Calls Try.prog 18 #[dP D, .agg #[.int .u8 k, u], .int .i64 now] w (LEnd w D wh ms l' a) :=
  (on_any w D wh ms l ks h hl hms k hk fs u hu hcap hlen now).mono fun _ _ hq => hq.l hr
theorem tick_is (w : World) (D : Nat) (wh ms : Int) (l : Ls) (ks : List Nat) (h : Dsk w D wh ms l ks) (hl : LOk ms l) (now : Int) (hn : I64 now) {l' : Ls} {a : An} (hr : tickS wh l now = (l', a)) : Calls Try.prog 17 #[dP D, .int .i64 now] w (LEnd w D wh ms l' a) :=
  (tick_any w D wh ms l ks h hl now hn).mono fun _ _ hq => hq.l hr
theorem keep_is (w : World) (D : Nat) (wh ms : Int) (l : Ls) (ks : List Nat) (h : Dsk w D wh ms l ks) (r : Int) {l' : Ls} {a : An} (hr : keepS wh l r = (l', a)) : Calls Try.prog 26 #[dP D, .int .i64 r] w (LEnd w D wh ms l' a) :=
  (keep_any w D wh ms l ks h r).mono fun _ _ hq => hq.l hr
theorem ready_is (w : World) (D : Nat) (wh ms : Int) (l : Ls) (ks : List Nat) (h : Dsk w D wh ms l ks) (hl : LOk ms l) (hms : ms ≤ 65535) {b : Bool} {L : List (List Int)} (hb : rdB l = b) (hL : rdL l = L) : Calls Try.prog 20 #[dP D] w fun e w' => ∃ v, e = .returned (.tuple #[v, .bool b]) ∧ OwnL w' w.heap.size v L ∧ Below w.heap.size w w' := by
  have := readyD_any w D wh ms l ks h hl hms
  rw [hb, hL] at this
  exact this
theorem OwnL.grown {w w' : World} {base : Nat} {v : Value} {L : List (List Int)} {D : Nat} (h : OwnL w base v L) (hg : w.grownBy w' (some D)) (hD : D < base) : OwnL w' base v L := by
  obtain ⟨us, h1, h2⟩ := h
  have key : ∀ u : Value, (∀ k, u.ownBlock = some k → base ≤ k) → u.ownBlock = none ∨ u.ownBlock ≠ some D := fun u hu => .inr fun e => by have := hu D e; omega
  exact ⟨us, World.ownsRow.kept h1 hg (key v fun k hk => (World.ownsRow.lt h1 k hk).1), h2.len, fun i u hu => World.ownsRow.kept (h2.row i u hu) hg (key u fun k hk => (World.ownsRow.lt (h2.row i u hu) k hk).1), h2.two⟩
theorem slice_cap {a : Option Addr} {n c : Nat} (h : n ≤ c) : ∀ a' n' c', Value.slice a n c = .slice a' n' c' → n' ≤ c' := by
  intro a' n' c' e; injection e with _ h2 h3; omega
theorem aw1 : onS 1 3 ls0 7 [1, 2] 10 = (⟨2, 10, 0, []⟩, some (8, 1, 0)) := by kernel_rfl
theorem aw2 : onS 1 3 ⟨2, 10, 0, []⟩ 9 [1, 0, 2, 5, 6, 7, 8] 10 = (⟨2, 10, 0, [[2, 5, 6, 7, 8]]⟩, some (8, 1, 1)) := by kernel_rfl
theorem aw3 : tickS 1 ⟨2, 10, 0, [[2, 5, 6, 7, 8]]⟩ 210 = (⟨2, 210, 1, [[2, 5, 6, 7, 8]]⟩, some (8, 1, 1)) := by kernel_rfl
theorem aw4 : onS 1 3 ⟨2, 210, 1, [[2, 5, 6, 7, 8]]⟩ 9 [1, 1, 4, 0, 0, 0, -1] 211 = (⟨2, 211, 0, [[2, 5, 6, 7, 8], [4, 0, 0, 0, -1]]⟩, none) := by kernel_rfl
theorem aw5 : keepS 1 ⟨2, 211, 0, [[2, 5, 6, 7, 8], [4, 0, 0, 0, -1]]⟩ 0 = (ls0, some (10, 1, 0)) := by kernel_rfl
theorem awk (l : Ls) (h0 : 0 ≤ l.cn ∧ l.cn ≤ 3) (h1 : l.hd ≤ l.cn) (h2 : 0 ≤ l.ag ∧ l.ag ≤ 5) (h3 : 0 ≤ l.he ∧ l.he ≤ 1000) (h4 : ∀ x ∈ l.rw, x.length = 5) : LOk 3 l := ⟨h0, h1, h2, by unfold I64; omega, h4⟩
theorem awk1 : LOk 3 ⟨2, 10, 0, []⟩ := awk _ (by decide) (by decide) (by decide) (by decide) (by decide)
theorem awk2 : LOk 3 ⟨2, 10, 0, [[2, 5, 6, 7, 8]]⟩ := awk _ (by decide) (by decide) (by decide) (by decide) (by decide)
theorem awk3 : LOk 3 ⟨2, 210, 1, [[2, 5, 6, 7, 8]]⟩ := awk _ (by decide) (by decide) (by decide) (by decide) (by decide)
theorem awk4 : LOk 3 ⟨2, 211, 0, [[2, 5, 6, 7, 8], [4, 0, 0, 0, -1]]⟩ := awk _ (by decide) (by decide) (by decide) (by decide) (by decide)
theorem two_len : ∀ i, i < [[(2 : Int), 5, 6, 7, 8], [4, 0, 0, 0, -1]].length → ([[(2 : Int), 5, 6, 7, 8], [4, 0, 0, 0, -1]].getD i []).length ≤ 4611686018427387904 := by
  intro i hi
  have hi : i = 0 ∨ i = 1 := by simp at hi; omega
  rcases hi with rfl | rfl
  · show (5 : Nat) ≤ 4611686018427387904; omega
  · show (5 : Nat) ≤ 4611686018427387904; omega
/-- two rows that are written out -/
theorem two_rows {w : World} {a b c : Nat} {ta tb tc : TypeId} {x0 x1 x2 x3 x4 y0 y1 y2 y3 y4 : Int} (hc : Blk w c #[.slice (some ⟨a, 0, none⟩) 5 5, .slice (some ⟨b, 0, none⟩) 5 5] tc) (ha : Blk w a #[.int .i64 x0, .int .i64 x1, .int .i64 x2, .int .i64 x3, .int .i64 x4] ta) (hb : Blk w b #[.int .i64 y0, .int .i64 y1, .int .i64 y2, .int .i64 y3, .int .i64 y4] tb) : Lsts w (.slice (some ⟨c, 0, none⟩) 2 2) [[x0, x1, x2, x3, x4], [y0, y1, y2, y3, y4]] := by
  refine ⟨_, 2, rfl, fun _ => ⟨c, 0, rfl, hc.lt, fun i hi => ?_⟩⟩
  have hi : i = 0 ∨ i = 1 := by simp at hi; omega
  rcases hi with rfl | rfl
  · exact ⟨_, hc.cell 0 rfl, ints_row (l := [x0, x1, x2, x3, x4]) ha 5 5 rfl⟩
  · exact ⟨_, hc.cell 1 rfl, ints_row (l := [y0, y1, y2, y3, y4]) hb 5 5 rfl⟩
end Go.Proofs.Ytimkfipiebppiaa
