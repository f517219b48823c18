/- Package store: move. -/
import Derived.Test.YtcjahdgppnmdkaaSo8
import Derived.Test.YtcjahdgppnmdkaaSo7s
set_option maxRecDepth 100000
namespace Go.Proofs.Ytcjahdgppnmdkaa
open Go.RowKit Go.Great

theorem Kept.drew1 {R : Nat} {w w1 : World} (h : Kept R w.drew w1) : Kept R w w1 := Kept.trans (Kept.drew (Kept.refl R w)) h
theorem Kep2.over {R S N : Nat} {w wc w4 : World} (h : Kep2 R S w wc) (g : Kep2 R N wc w4) (hN : w.heap.size ≤ N) : Kep2 R S w w4 :=
  ⟨g.os.trans h.os, g.tape.trans h.tape, g.output.trans h.output, Nat.le_trans h.size g.size, fun k hk h1 h2 => (g.block k (Nat.lt_of_lt_of_le hk h.size) h1 (by omega)).trans (h.block k hk h1 h2)⟩
/-- what a step leaves of a flash and its store -/
def StEnd (x : St × Option Sv) (s : Sv) (S R : Nat) (w : World) (e : Ending) (w' : World) : Prop :=
  ∃ (ok : Bool) (τ : St) (s' : Sv), e = .returned (.int .i64 (if ok then 0 else 60)) ∧ x = (τ, if ok then some s' else none) ∧ Fl w' R τ ∧ (if ok then So w' S (fp R) s'.ac s'.tu s'.en s'.k else So w' S (fp R) s.ac s.tu s.en s.k) ∧ Kep2 R S w w'
structure NextMid (w : World) (R : Nat) (ac tu : Nat) (v : Value) (wx : World) (B N : Nat) : Prop where
  v : v = fp B
  b : wx.heap[B]? = some (.cells #[fp N] 24 (0, 0))
  n : So wx N (fp R) ((1 - ac : Nat) : Int) ((folN tu : Nat) : Int) 1 kz
  g : w.heap.size ≤ N
  l : Below w.heap.size w wx
theorem so_new (w : World) (p : Value) (ac tu : Int) : So (w.alloc (.cells #[p, .int .i64 ac, .int .i64 tu, .int .i64 1, .bool false, .int .i64 0, .int .i64 0, .bool false, .int .i64 0, .int .i64 0, .bool false, .int .i64 0, .int .i64 0] 108)) w.heap.size p ac tu 1 kz := ⟨heap_alloc_new _ _⟩
theorem box_pre {w wx w2 : World} {o : Obj} (b2 : Below wx.heap.size wx w2) (hx : wx.heap = (w.alloc o).heap) : w2.heap[w.heap.size]? = some o := by
  have h1 : wx.heap[w.heap.size]? = some o := by rw [hx]; exact heap_alloc_new _ _
  rw [b2.block _ (lt_of_block h1), h1]
theorem sz1 (w : World) (o : Obj) : (w.alloc o).heap.size = w.heap.size + 1 := Array.size_push _
theorem next_a {w w2 : World} {R ac tu sp fo : Nat} (h1 : 1 - ac = sp) (h2 : folN tu = fo) (KB : Below w.heap.size w w2) : NextMid w R ac tu (fp (w2.heap.size + 1)) ((w2.alloc (.cells #[fp R, .int .i64 (sp : Int), .int .i64 (fo : Int), .int .i64 1, .bool false, .int .i64 0, .int .i64 0, .bool false, .int .i64 0, .int .i64 0, .bool false, .int .i64 0, .int .i64 0] 108)).alloc (.cells #[fp w2.heap.size] 24)) (w2.heap.size + 1) w2.heap.size := by
  subst h1 h2
  refine ⟨rfl, ?_, (so_new w2 _ _ _).below (below_alloc _ _), KB.size, (KB.alloc KB.size _).alloc (Nat.le_trans KB.size (below_alloc _ _).size) _⟩
  rw [← sz1 w2 (.cells #[fp R, .int .i64 ((1 - ac : Nat) : Int), .int .i64 ((folN tu : Nat) : Int), .int .i64 1, .bool false, .int .i64 0, .int .i64 0, .bool false, .int .i64 0, .int .i64 0, .bool false, .int .i64 0, .int .i64 0] 108)]
  exact heap_alloc_new _ _
theorem next_b {w w2 : World} {R ac tu sp fo : Nat} (h1 : 1 - ac = sp) (h2 : folN tu = fo) (KB : Below w.heap.size w w2) : NextMid w R ac tu (fp w2.heap.size) ((w2.alloc (.cells #[fp (w2.heap.size + 1)] 24)).alloc (.cells #[fp R, .int .i64 (sp : Int), .int .i64 (fo : Int), .int .i64 1, .bool false, .int .i64 0, .int .i64 0, .bool false, .int .i64 0, .int .i64 0, .bool false, .int .i64 0, .int .i64 0] 108)) w2.heap.size (w2.heap.size + 1) := by
  subst h1 h2
  refine ⟨rfl, ?_, ?_, Nat.le_trans KB.size (Nat.le_succ _), (KB.alloc KB.size _).alloc (Nat.le_trans KB.size (below_alloc _ _).size) _⟩
  · rw [(below_alloc _ _).block _ (by rw [sz1]; omega)]
    exact heap_alloc_new _ _
  · have := so_new (w2.alloc (.cells #[fp (w2.heap.size + 1)] 24)) (fp R) ((1 - ac : Nat) : Int) ((folN tu : Nat) : Int)
    rw [sz1] at this
    exact this
theorem next_c {w w2 : World} {R ac tu sp fo : Nat} (h1 : 1 - ac = sp) (h2 : folN tu = fo) (KB : Below w.heap.size w w2) (z2 : w2.heap[w.heap.size]? = some (.cells #[.pointer none] 24 (0, 0))) : NextMid w R ac tu (fp w.heap.size) ((w2.setCell ⟨w.heap.size, 0, none⟩ (fp w2.heap.size)).alloc (.cells #[fp R, .int .i64 (sp : Int), .int .i64 (fo : Int), .int .i64 1, .bool false, .int .i64 0, .int .i64 0, .bool false, .int .i64 0, .int .i64 0, .bool false, .int .i64 0, .int .i64 0] 108)) w.heap.size w2.heap.size := by
  subst h1 h2
  have hz : (w2.setCell ⟨w.heap.size, 0, none⟩ (fp w2.heap.size)).heap.size = w2.heap.size := by simp [World.setCell]
  have hb : Below w.heap.size w (w2.setCell ⟨w.heap.size, 0, none⟩ (fp w2.heap.size)) := KB.setCell (p := ⟨w.heap.size, 0, none⟩) (Nat.le_refl _) _
  refine ⟨rfl, ?_, ?_, KB.size, hb.alloc hb.size _⟩
  · rw [(below_alloc _ _).block _ (by rw [hz]; exact lt_of_block z2)]
    have h1 : w2.heap[w.heap.size]? = some (.cells [Value.pointer none].toArray 24 (0, 0)) := z2
    rw [set_list h1]
    rfl
  · have := so_new (w2.setCell ⟨w.heap.size, 0, none⟩ (fp w2.heap.size)) (fp R) ((1 - ac : Nat) : Int) ((folN tu : Nat) : Int)
    rw [hz] at this
    exact this
theorem eachS_on (ac : Nat) (k : Kp) (id : Int) (v : List UInt8) : ∀ (n i : Nat) (m : Mv), On m.σ → (eachS ac k id v i n m).2 = true → On (eachS ac k id v i n m).1.σ := by
  intro n
  induction n with
  | zero => intro i m h _; exact h
  | succ n ih =>
    intro i m h h2
    rw [eachS] at h2 ⊢
    by_cases hc : (step1 ac k id v i m).2 = true
    · rw [if_pos hc] at h2 ⊢
      refine ih _ _ ?_ h2
      unfold step1 at hc ⊢
      split
      · exact h
      · rename_i t heq
        rw [heq] at hc
        exact (addS_ok h hc).1
    · rw [if_neg hc] at h2; cases h2
theorem So.all {w : World} {S : Nat} {q : Value} {a t e : Int} {k' : Kp} (h : So w S q a t e k') (p : Value) (ac tu en : Int) (k : Kp) : So (((((((((((((w.setCell ⟨S, 0, none⟩ p).setCell ⟨S, 1, none⟩ (.int .i64 ac)).setCell ⟨S, 2, none⟩ (.int .i64 tu)).setCell ⟨S, 3, none⟩ (.int .i64 en)).setCell ⟨S, 4, none⟩ (.bool (k 0).th)).setCell ⟨S, 5, none⟩ (.int .i64 (k 0).lo)).setCell ⟨S, 6, none⟩ (.int .i64 (k 0).n)).setCell ⟨S, 7, none⟩ (.bool (k 1).th)).setCell ⟨S, 8, none⟩ (.int .i64 (k 1).lo)).setCell ⟨S, 9, none⟩ (.int .i64 (k 1).n)).setCell ⟨S, 10, none⟩ (.bool (k 2).th)).setCell ⟨S, 11, none⟩ (.int .i64 (k 2).lo)).setCell ⟨S, 12, none⟩ (.int .i64 (k 2).n)) S p ac tu en k := by
  refine ⟨?_⟩
  rw [set_list (set_list (set_list (set_list (set_list (set_list (set_list (set_list (set_list (set_list (set_list (set_list (set_list h.blk _) _) _) _) _) _) _) _) _) _) _) _) _]
  rfl
theorem Kept.all13 {w0 w : World} {S : Nat} (h : Kept S w0 w) (x0 x1 x2 x3 x4 x5 x6 x7 x8 x9 x10 x11 x12 : Value) : Kept S w0 (((((((((((((w.setCell ⟨S, 0, none⟩ x0).setCell ⟨S, 1, none⟩ x1).setCell ⟨S, 2, none⟩ x2).setCell ⟨S, 3, none⟩ x3).setCell ⟨S, 4, none⟩ x4).setCell ⟨S, 5, none⟩ x5).setCell ⟨S, 6, none⟩ x6).setCell ⟨S, 7, none⟩ x7).setCell ⟨S, 8, none⟩ x8).setCell ⟨S, 9, none⟩ x9).setCell ⟨S, 10, none⟩ x10).setCell ⟨S, 11, none⟩ x11).setCell ⟨S, 12, none⟩ x12) := (((((((((((((h.set _ _).set _ _).set _ _).set _ _).set _ _).set _ _).set _ _).set _ _).set _ _).set _ _).set _ _).set _ _).set _ _)
end Go.Proofs.Ytcjahdgppnmdkaa
