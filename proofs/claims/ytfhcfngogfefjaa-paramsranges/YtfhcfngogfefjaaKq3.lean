/- Lists that share no memory: what the marks are, and what an append leaves. -/
import Derived.Test.YtfhcfngogfefjaaKq2
import Derived.Test.YtfhcfngogfefjaaPa4
import Derived.ArgAppend
namespace Go.Proofs.Ytfhcfngogfefjaa
open Go.RowKit Go.Great

/-- 'append' onto a row of the call's own: in its place, or in a new one, and then the old one is as it was -/
theorem wpList_append_two {P : Program} {w : World} {ops : Array Oper} {rest : List Oper} {o : Oper} {a : Act} {Q : Exit → Act → World → Prop} (hgd : o.guard = none) (s x : Operand) (t : TypeId)
    (ho : o.op = .call { callee := .builtin .append, args := #[s, x], argTypes := #[t, t] })
    (base : Nat) (e : TypeId) (i : TypeInfo) (z : Value) (size bytes : Nat) (ht : P.underlying t = some (.slice e)) (hi : P.info? e = some i) (hz : i.zero = some z)
    (hsize : i.size = size) (hby : i.bytes = bytes) (hzs : z.cells.size = size) (hsz : 0 < size)
    (v : Value) (n : Nat) (xs : List Value) (hs : a.eval s = v) (hown : w.ownsRow base e size v n xs)
    (ad : Addr) (m c : Nat) (news : List Value) (hx : a.eval x = .slice (some ad) m c) (hl : news.length = m * size) (hnews : ∀ j u, news[j]? = some u → w.cell? (ad.add j) = some u) (h1 : ∀ u ∈ news, u.oneCell' = true)
    (h63 : n + m ≤ maxLen) (hbytes : (n + m) * bytes ≤ 140737488355328) (hbase : base ≤ w.heap.size)
    (h : ∀ v' w', w'.ownsRow base e size v' (n + m) (xs ++ news) → w.grownBy w' v.ownBlock → ((v'.ownBlock = v.ownBlock ∧ v.ownBlock ≠ none) ∨ (w.grownBy w' none ∧ ∀ k, v'.ownBlock = some k → w.heap.size ≤ k)) → wpList P ops Q rest (a.put o.dst v') w') : wpList P ops Q (o :: rest) a w := by
  have hown0 := hown
  rcases hown.2 with ⟨rfl, rfl⟩ | ⟨g, cap, cur, rfl, hb, hh, hnc, _⟩
  · refine wpList_append_own w hgd s x t ho w.heap.size e i z size bytes ht hi hz hsize hby hzs hsz (.slice none 0 0) 0 xs hs ⟨hown.1, .inl ⟨rfl, rfl⟩⟩ ad m c news hx hl hnews h1 h63 hbytes (Nat.le_refl _) fun v' w' o' g' _ => ?_
    refine h v' w' ?_ g' (.inr ⟨g', fun k hk => (o'.lt k hk).1⟩)
    refine ⟨o'.1, ?_⟩
    rcases o'.2 with q | ⟨g2, cap2, cur2, q1, q2, q3⟩
    · exact .inl q
    · exact .inr ⟨g2, cap2, cur2, q1, Nat.le_trans hbase q2, q3⟩
  · by_cases hr : n + m ≤ cap
    · exact wpList_append_fits w hgd s x t ho base e i size ht hi hsize g n cap xs hs hown0 ad m c news hx hl hnews h1 hr fun w' o' g' => h _ w' o' g' (.inl ⟨rfl, by simp [Value.ownBlock]⟩)
    · refine wpList_plain hgd fun K hK' => ?_
      obtain ⟨v', w', hrun, r1, r2⟩ := run_append_arg_grows (P := P) w t o.type e i z size bytes ht hi hz hsize hby hzs hsz ⟨g, 0, none⟩ n cap xs hown0.1 (hown0.cells (g := g) rfl) ad m c news hl hnews (by omega) h63 hbytes
      unfold Oper.wp
      simp [execOp, ho, resolve, invoke, builtin, hs, hx, hrun, Result.andThen]
      refine hK' _ _ (h v' w' ?_ ⟨r2.os, r2.tape, r2.output, r2.size, fun k hk _ => r2.block k hk (by simp)⟩ (.inr ⟨r2, fun k hk => (r1.lt k hk).1⟩))
      refine ⟨r1.1, ?_⟩
      rcases r1.2 with q | ⟨g2, cap2, cur2, q1, q2, q3⟩
      · exact .inl q
      · exact .inr ⟨g2, cap2, cur2, q1, Nat.le_trans hbase q2, q3⟩
/-- the marks in a list, and behind it -/
def mkM (j n : Nat) : List Int := (List.range n).map fun (k : Nat) => (j : Int) * 1000003 + (k : Int)
def mkN (j t : Nat) : List Int := (List.range t).map fun (k : Nat) => -(j : Int) * 1000003 - (k : Int) - 1
theorem mkM_len (j n : Nat) : (mkM j n).length = n := by simp [mkM]
theorem mkN_len (j n : Nat) : (mkN j n).length = n := by simp [mkN]
theorem mkM_at (j n k : Nat) (h : k < n) : (mkM j n).getD k 0 = (j : Int) * 1000003 + (k : Int) := by
  simp [mkM, List.getD, h]
theorem mkN_succ (j t : Nat) : mkN j (t + 1) = mkN j t ++ [-(j : Int) * 1000003 - (t : Int) - 1] := by
  simp [mkN, List.range_succ]
theorem mkMN_at (j n t k : Nat) : (k < n → (mkM j n ++ mkN j t).getD k 0 = (j : Int) * 1000003 + (k : Int)) ∧ (k < t → (mkM j n ++ mkN j t).getD (n + k) 0 = -(j : Int) * 1000003 - (k : Int) - 1) := by
  simp only [List.getD]
  constructor
  · intro h
    rw [List.getElem?_append_left (by rw [mkM_len]; exact h)]
    exact mkM_at j n k h
  · intro h
    rw [List.getElem?_append_right (by rw [mkM_len]; omega), mkM_len, Nat.add_sub_cancel_left]
    simp [mkN, h]
/-- a block of two lists -/
def Two2 (w : World) (L : Nat) (x y : Value) : Prop := w.heap[L]? = some (.cells #[x, y] 22 (0, 0))
theorem Two2.at {w : World} {L : Nat} {f : Nat → Value} (h : Two2 w L (f 0) (f 1)) (i : Nat) (hi : i < 2) : w.cell? ⟨L, i, none⟩ = some (f i) := by
  unfold Two2 at h
  have : i = 0 ∨ i = 1 := by omega
  rcases this with rfl | rfl <;> simp [World.cell?, h]
theorem Two2.fz {w : World} {L : Nat} {x y : Value} (h : Two2 w L x y) (i : Nat) : w.frozen? ⟨L, i, none⟩ = false := by
  unfold Two2 at h; simp [World.frozen?, h]
theorem Two2.lt {w : World} {L : Nat} {x y : Value} (h : Two2 w L x y) : L < w.heap.size := lt_of_block h
/-- a row of ints is no block of lists -/
theorem IRow.ne2 {w : World} {base L : Nat} {v : Value} {l : List Int} {x y : Value} (h : IRow w base v l) (h2 : Two2 w L x y) : v.ownBlock ≠ some L := by
  intro e
  rcases h.2 with ⟨rfl, _⟩ | ⟨g, cap, cur, rfl, _, hh, _⟩
  · cases e
  · simp [Value.ownBlock] at e
    subst e
    unfold Two2 at h2
    rw [hh] at h2
    simp at h2
def updF (f : Nat → Value) (i : Nat) (x : Value) : Nat → Value := fun j => if j = i then x else f j
theorem Two2.set {w : World} {L : Nat} {f : Nat → Value} (h : Two2 w L (f 0) (f 1)) (i : Nat) (hi : i < 2) (x : Value) : Two2 (w.setCell ⟨L, i, none⟩ x) L (updF f i x 0) (updF f i x 1) := by
  have := heap_set h i x
  have hc : i = 0 ∨ i = 1 := by omega
  rcases hc with rfl | rfl <;> simpa [Two2, updF] using this
theorem Two2.grown {w w' : World} {L : Nat} {x y : Value} {row : Option Nat} (h : Two2 w L x y) (g : w.grownBy w' row) (hr : row ≠ some L) : Two2 w' L x y := by
  unfold Two2 at h ⊢; rw [g.block L (lt_of_block h) (fun e => hr e.symm), h]
theorem grown_set (w : World) (g k : Nat) (x : Value) : w.grownBy (w.setCell ⟨g, k, none⟩ x) (some g) := by
  refine ⟨rfl, rfl, rfl, by simp [World.setCell], fun j hj hne => Below.heap_setCell _ _ _ _ ?_⟩
  intro e; exact hne (by rw [e])
theorem IRow.grown {w w' : World} {base : Nat} {v : Value} {l : List Int} {row : Option Nat} (h : IRow w base v l) (g : w.grownBy w' row) (hne : row = none ∨ v.ownBlock ≠ row) : IRow w' base v l := by
  refine World.ownsRow.kept h g ?_
  rcases hne with e | e
  · rw [e]; cases v.ownBlock <;> simp
  · exact .inr e
theorem Ints.grown {w w' : World} {v : Value} {l : List Int} {row : Option Nat} (h : Ints w v l) (g : w.grownBy w' row) (hne : row = none ∨ v.ownBlock ≠ row) : Ints w' v l := by
  obtain ⟨a, cap, rfl, h1⟩ := h
  refine ⟨a, cap, rfl, fun h0 => ?_⟩
  obtain ⟨b, o, rfl, hb, hc⟩ := h1 h0
  refine ⟨b, o, rfl, Nat.lt_of_lt_of_le hb g.size, fun i hi => ?_⟩
  rw [World.cell?_of_block (a := ⟨b, o + i, none⟩) (g.block b hb ?_)]
  · exact hc i hi
  · rcases hne with e | e
    · rw [e]; simp
    · intro e2; exact e (by rw [← e2]; rfl)
end Go.Proofs.Ytfhcfngogfefjaa
