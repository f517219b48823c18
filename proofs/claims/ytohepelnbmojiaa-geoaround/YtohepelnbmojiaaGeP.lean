/- Polygons that came in, and polygons that are lent. -/
import Derived.Test.YtohepelnbmojiaaGeO
import Derived.Laws.AppendOwnNone
namespace Go.Proofs.Ytohepelnbmojiaa
open Go.RowKit Go.Great Go.Deep Go.WideShapes Go.ChangeShapes

theorem plain_of {w : World} {a : Addr} {v : Value} (h : w.cell? a = some v) : a = ⟨a.block, a.off, none⟩ ∧ a.block < w.heap.size := by
  obtain ⟨b, o, s⟩ := a
  have hb : b < w.heap.size := by
    refine Decidable.byContradiction fun hn => ?_
    unfold World.cell? at h
    rw [Array.getElem?_eq_none (by simpa using hn)] at h
    simp at h
  cases s with
  | none => exact ⟨rfl, hb⟩
  | some q =>
    exfalso
    unfold World.cell? at h
    split at h
    · simp at h
    · cases h
theorem cells2 {w : World} {a : Addr} {cs : List Value} (h : w.cells? 0 a 2 = some cs) : ∃ x y, cs = [x, y] ∧ w.cell? (a.add 0) = some x ∧ w.cell? (a.add 1) = some y := by
  unfold World.cells? at h
  rw [if_pos (Nat.zero_le _)] at h
  simp [List.range_succ] at h
  cases h0 : w.cell? (a.add 0) with
  | none => simp [h0] at h
  | some x =>
    cases h1 : w.cell? (a.add 1) with
    | none => simp [h0, h1] at h
    | some y =>
      simp [h0, h1] at h
      exact ⟨x, y, h.symm, rfl, rfl⟩
theorem add_add' (a : Addr) (i j : Nat) : ((⟨a.block, a.off, none⟩ : Addr).add i).add j = ⟨a.block, a.off + i + j, none⟩ := by rw [add_plain', add_plain']
/-- a polygon that came in -/
def PtsIn (w : World) (u : Value) (l : List Pt) : Prop := Pts w u l ∧ (∀ n c, u = .slice none n c → c = 0) ∧ l.length * 16 + 64 ≤ 140737488355328
set_option maxRecDepth 100000 in
theorem open_points {H : Type} {enc : TypeId × Value → H} {W : World} {v : Value} {d : DataW H} {p : List MemPlace} {r : Reach} {b0 : Nat} (hok : Value.okWide Try.prog W r b0 35 v) (h : DataW.Trod enc Try.prog W 0 (fun _ => true) true 35 v d p) (hw : ∀ q ∈ d.weights Try.prog 35, q ≤ reachBytes) : ∃ l, PtsIn W v l := by
  obtain ⟨ad, ln, cp, rfl⟩ := okWide_slice Try.underlying35 hok
  obtain ⟨fuel, hf⟩ := h
  have e1 : (Value.slice ad ln cp).cells.toList = [.slice ad ln cp] := rfl
  rw [e1] at hf
  have hb16 : Try.prog.bytesOf 23 = 16 := by kernel_rfl
  rcases open_slice Try.underlying35 hf with ⟨hcs, _⟩ | ⟨a, len, cap, m, n, D, Pl, hcs, hb, hl, hmax, hm, hx, hel⟩
  · injection hcs with hcs _
    injection hcs with h1 h2 h3
    subst h1 h2 h3
    exact ⟨[], ⟨none, 0, rfl, fun h => absurd h (by simp)⟩, fun n c e => by injection e with _ _ e; exact e.symm, by simp⟩
  · injection hcs with hcs _
    injection hcs with h1 h2 h3
    subst h1 h2 h3
    simp only [if_true] at hm
    subst hm
    have hwt := hw ((ln + (m - ln)) * 16) (by
      have hx' : d = _ := congrArg Prod.fst hx
      rw [hx']; simp [DataW.weights, Try.underlying35, hb16])
    have hwt' : m * 16 ≤ 140737488351232 := by
      have : (ln + (m - ln)) = m := by omega
      rw [this] at hwt
      exact hwt
    have each : ∀ i, i < ln → ∃ f : Pt, W.cell? ((a.add (i * 2)).add 0) = some (.int .i64 f.1) ∧ W.cell? ((a.add (i * 2)).add 1) = some (.int .i64 f.2) := by
      intro i hi
      obtain ⟨cs, hc1, hc2⟩ := hel i (by omega)
      rw [cells_pt] at hc1
      obtain ⟨x, y, rfl, c0, c1⟩ := cells2 hc1
      obtain ⟨q, rfl, rfl⟩ := open_pair hc2
      exact ⟨q, c0, c1⟩
    obtain ⟨F, hF⟩ := choose_lt each
    refine ⟨(List.range ln).map F, ⟨some a, m, by rw [List.length_map, List.length_range], ?_⟩, fun n c e => (by injection e with e; cases e), by rw [List.length_map, List.length_range]; omega⟩
    intro h0
    rw [List.length_map, List.length_range] at h0
    have hp := hF 0 h0
    have ha : a.add (0 * 2) = a := by simp [Addr.add]
    have ha0 : a.add 0 = a := by simp [Addr.add]
    rw [ha, ha0] at hp
    obtain ⟨e, hbl⟩ := plain_of hp.1
    refine ⟨a.block, a.off, by rw [← e], hbl, fun i hi => ?_⟩
    rw [List.length_map, List.length_range] at hi
    have hq := hF i hi
    rw [e, add_add', add_add', Nat.add_zero] at hq
    rw [hq.1, hq.2]
    simp [hi]
/-- points as cells -/
def ptC (l : List Pt) : List Value := l.flatMap fun p => [.int .i64 p.1, .int .i64 p.2]
theorem ptC_app (a b : List Pt) : ptC (a ++ b) = ptC a ++ ptC b := by simp [ptC]
theorem ptC_len (l : List Pt) : (ptC l).length = l.length * 2 := by
  induction l with
  | nil => rfl
  | cons p l ih => simp [ptC] at *; omega
theorem ptC_one (l : List Pt) : ∀ u ∈ ptC l, u.oneCell' = true := by
  intro u hu
  simp [ptC] at hu
  obtain ⟨a, b, _, h | h⟩ := hu <;> subst h <;> rfl
theorem ptC_at (l : List Pt) : ∀ i, i < l.length → (ptC l)[i * 2]? = some (.int .i64 (l.getD i (0, 0)).1) ∧ (ptC l)[i * 2 + 1]? = some (.int .i64 (l.getD i (0, 0)).2) := by
  induction l with
  | nil => intro i h; simp at h
  | cons p l ih =>
    intro i h
    cases i with
    | zero => simp [ptC]
    | succ i =>
      have := ih i (by simpa using h)
      rw [show (i + 1) * 2 = i * 2 + 1 + 1 by omega]
      simpa [ptC] using this
/-- a slice of points of the call's own -/
def PRow (w : World) (base : Nat) (v : Value) (l : List Pt) : Prop := w.ownsRow base 23 2 v l.length (ptC l)
theorem PRow.pts {w : World} {base : Nat} {v : Value} {l : List Pt} (h : PRow w base v l) : Pts w v l := by
  have h0 := h
  rcases h.2 with ⟨h1, h2⟩ | ⟨g, cap, cur, h1, hb, hh, _⟩
  · have : l = [] := List.eq_nil_of_length_eq_zero h2
    subst this h1
    exact ⟨none, 0, rfl, fun h => absurd h (by simp)⟩
  · subst h1
    refine ⟨_, cap, rfl, fun _ => ⟨g, 0, rfl, lt_of_block hh, fun i hi => ?_⟩⟩
    have hc := ptC_at l i hi
    have e1 : w.cell? ⟨g, i * 2, none⟩ = (ptC l)[i * 2]? := World.ownsRow.cellAt h0 (i * 2) (by omega)
    have e2 : w.cell? ⟨g, i * 2 + 1, none⟩ = (ptC l)[i * 2 + 1]? := World.ownsRow.cellAt h0 (i * 2 + 1) (by omega)
    rw [Nat.zero_add, e1, e2]
    exact hc
theorem pts_news {w : World} {ao : Option Addr} {l : List Pt} {cap : Nat} (h : Pts w (.slice ao l.length cap) l) : ∀ ad, ao = some ad → ∀ j u, (ptC l)[j]? = some u → w.cell? (ad.add j) = some u := by
  intro ad had j u hu
  obtain ⟨a, c, e, hc⟩ := h
  have hj : j < l.length * 2 := by
    have := (List.getElem?_eq_some_iff.1 hu).1
    rwa [ptC_len] at this
  obtain ⟨g, o, e2, hg, hcc⟩ := hc (by omega)
  injection e with e3 _ _
  rw [had, e2] at e3
  injection e3 with e4
  subst e4
  rw [add_plain']
  have hd := hcc (j / 2) (by omega)
  have hp := ptC_at l (j / 2) (by omega)
  rcases Nat.mod_two_eq_zero_or_one j with e | e
  · rw [show j / 2 * 2 = j by omega] at hd hp
    rw [hd.1, ← hp.1, hu]
  · rw [show o + j / 2 * 2 + 1 = o + j by omega] at hd
    rw [show j / 2 * 2 + 1 = j by omega] at hp
    rw [hd.2, ← hp.2, hu]
theorem info_pt : (Try.prog.info? 23).map (fun i => (i.zero, i.size, i.bytes)) = some (some (.agg #[.int .i64 0, .int .i64 0]), 2, 16) := by kernel_rfl
/-- 'append' onto a row of the call's own of another row, nil or not -/
theorem wpList_append_any {P : Program} {w : World} {ops : Array Oper} {rest : List Oper} {o : Oper} {a : Act} {Q : Exit → Act → World → Prop} (hgd : o.guard = none) (s x : Operand) (t : TypeId)
    (ho : o.op = .call { callee := .builtin .append, args := #[s, x], argTypes := #[t, t] })
    (base : Nat) (e : TypeId) (i : TypeInfo) (z : Value) (size bytes : Nat) (ht : P.underlying t = some (.slice e)) (hi : P.info? e = some i) (hz : i.zero = some z)
    (hsize : i.size = size) (hby : i.bytes = bytes) (hzs : z.cells.size = size) (hsz : 0 < size)
    (v : Value) (n : Nat) (xs : List Value) (hs : a.eval s = v) (hown : w.ownsRow base e size v n xs)
    (ao : Option Addr) (m c : Nat) (news : List Value) (hx : a.eval x = .slice ao m c) (hl : news.length = m * size) (hnone : ao = none → m = 0 ∧ c = 0) (hnews : ∀ ad, ao = some ad → ∀ j u, news[j]? = some u → w.cell? (ad.add j) = some u) (h1 : ∀ u ∈ news, u.oneCell' = true)
    (h63 : n + m ≤ maxLen) (hbytes : (n + m) * bytes ≤ 140737488355328) (hbase : base ≤ w.heap.size)
    (h : ∀ v' w', w'.ownsRow base e size v' (n + m) (xs ++ news) → w.grownBy w' v.ownBlock → wpList P ops Q rest (a.put o.dst v') w') : wpList P ops Q (o :: rest) a w := by
  cases ao with
  | some ad => exact wpList_append_own w hgd s x t ho base e i z size bytes ht hi hz hsize hby hzs hsz v n xs hs hown ad m c news hx hl (hnews ad rfl) h1 h63 hbytes hbase fun v' w' h2 h3 _ => h v' w' h2 h3
  | none =>
    obtain ⟨rfl, rfl⟩ := hnone rfl
    have hn : news = [] := List.eq_nil_of_length_eq_zero (by simpa using hl)
    subst hn
    exact wpList_append_own_none hgd s x t ho base e i size ht hi v n xs hs hown hx (h v w (by simpa using hown) (World.grownBy.refl _ _))
theorem new_cell2 (w : World) (g : Nat) (hg : g = w.heap.size) (a b : Value) (t : TypeId) : ∀ j u, [a, b][j]? = some u → (w.alloc (.cells #[a, b] t)).cell? ((⟨g, 0, none⟩ : Addr).add j) = some u := by
  subst hg
  intro j u hu
  rw [show (Addr.add ⟨w.heap.size, 0, none⟩ j) = ⟨w.heap.size, j, none⟩ by simp [Addr.add]; exact fun h => h.symm, World.cell?_alloc_new]
  simpa using hu
theorem PRow.shape {w : World} {base : Nat} {v : Value} {l : List Pt} (h : PRow w base v l) (h0 : 0 < l.length) : ∃ g cap, v = .slice (some ⟨g, 0, none⟩) l.length cap ∧ base ≤ g ∧ g < w.heap.size ∧ l.length ≤ cap := by
  rcases h.2 with ⟨h1, h2⟩ | ⟨g, cap, cur, h1, hb, hh, h3⟩
  · omega
  · exact ⟨g, cap, h1, hb, lt_of_block hh, h3.1⟩
theorem Pts.take {w : World} {g o n cap : Nat} {l : List Pt} (h : Pts w (.slice (some ⟨g, o, none⟩) n cap) l) (k c : Nat) (hk : k ≤ l.length) : Pts w (.slice (some ⟨g, o, none⟩) k c) (l.take k) := by
  obtain ⟨a, c', e, hc⟩ := h
  injection e with e1 e2 e3
  have hl : (l.take k).length = k := by simp; omega
  refine ⟨some ⟨g, o, none⟩, c, by rw [hl], fun h0 => ?_⟩
  rw [hl] at h0
  obtain ⟨g', o', e4, hg, hcc⟩ := hc (by omega)
  rw [← e1] at e4
  injection e4 with e5
  injection e5 with e6 e7 _
  subst e6 e7
  refine ⟨_, _, rfl, hg, fun i hi => ?_⟩
  rw [hl] at hi
  have : (l.take k).getD i (0, 0) = l.getD i (0, 0) := by rw [List.getD, List.getD, List.getElem?_take_of_lt hi]
  rw [this]
  exact hcc i (by omega)
def mark : Pt := (-77, -77)
set_option maxHeartbeats 2000000 in
theorem lent_any (l : List Pt) (v : Value) (w : World) (hv : PtsIn w v l) : Calls Try.prog 21 #[v] w fun e w' => ∃ g cap, e = .returned (.slice (some ⟨g, 0, none⟩) l.length cap) ∧ Pts w' (.slice (some ⟨g, 0, none⟩) (l.length + 1) cap) (l ++ [mark]) ∧ l.length + 1 ≤ cap ∧ Below w.heap.size w w' := by
  obtain ⟨hv, hnil, hlen⟩ := hv
  obtain ⟨i0, hi, hz0, hz1, hz2⟩ := info_parts info_pt
  have HV := hide hv
  obtain ⟨a, cap, rfl, hc0⟩ := hv
  have HNIL : Hid (a = none → l.length = 0 ∧ cap = 0) := by
    intro e
    subst e
    refine ⟨?_, hnil _ _ rfl⟩
    refine Decidable.byContradiction fun h => ?_
    obtain ⟨g, o, e, _⟩ := hc0 (by omega)
    cases e
  obtain ⟨n, hn⟩ : ∃ n, l.length = n := ⟨_, rfl⟩
  have HN := hide hn
  rw [hn] at hlen HNIL ⊢
  clear hn hc0 hnil
  go_enter Try.func21, Try.ntmps21
  go_wp2_with (at_builtin; refine wpList_append_any rfl (.tmp 4) (.tmp 5) 35 rfl w.heap.size 23 i0 _ 2 16 Try.underlying35 hi hz0 hz1 hz2 rfl (by decide) (.slice none 0 0) 0 [] rfl (World.ownsRow_nil _ _ _ _) a n cap (ptC l) rfl ?a1 HNIL.out ?a2 (ptC_one l) ?a3 ?a4 (Nat.le_refl _) ?_)
  case a1 => rw [ptC_len, HN.out]
  case a2 => exact pts_news (by rw [HN.out]; exact (HN.out ▸ HV.out))
  case a3 => unfold maxLen; omega
  case a4 => omega
  intro v1 w1 hown1 hgrow1
  have HB1 : Hid (Below w.heap.size w w1) := (Below.refl w.heap.size w).grown hgrow1 (Nat.le_refl _) (fun k e => by cases e)
  obtain ⟨ao1, c1, rfl⟩ : ∃ ao c, v1 = .slice ao n c := by
    rcases hown1.2 with ⟨e1, e2⟩ | ⟨g, cp, cur, e1, _⟩
    · exact ⟨none, 0, by rw [e1, show n = 0 by omega]⟩
    · exact ⟨some ⟨g, 0, none⟩, cp, e1⟩
  have HO1 : Hid ((w1.alloc (.cells #[.int .i64 (-77), .int .i64 (-77)] 23)).ownsRow w.heap.size 23 2 (.slice ao1 n c1) n (ptC l)) := by
    have h := World.ownsRow.kept hown1 (grown_below (below_alloc w1 (.cells #[.int .i64 (-77), .int .i64 (-77)] 23)) none) (by cases ao1 <;> simp [Value.ownBlock])
    exact h
  have hs1 := HB1.out.size
  clear hown1 hgrow1 HNIL HV
  go_wp2_with (at_builtin; refine wpList_append_any rfl (.tmp 7) (.tmp 9) 35 rfl w.heap.size 23 i0 _ 2 16 Try.underlying35 hi hz0 hz1 hz2 rfl (by decide) (.slice ao1 n c1) n (ptC l) rfl HO1.out (some ⟨w1.heap.size, 0, none⟩) 1 1 [.int .i64 (-77), .int .i64 (-77)] rfl rfl (fun e => by cases e) ?b2 ?b5 ?b3 ?b4 ?b6 ?_)
  case b2 =>
    intro ad e
    injection e with e
    subst e
    exact new_cell2 w1 _ rfl _ _ _
  case b5 => intro u hu; simp at hu; subst hu; rfl
  case b3 => unfold maxLen; omega
  case b4 => omega
  case b6 => rw [size_alloc]; omega
  intro v2 w2 hown2 hgrow2
  have hR : PRow w2 w.heap.size v2 (l ++ [mark]) := by
    show World.ownsRow _ _ _ _ _ _ _
    rw [List.length_append, HN.out, ptC_app]
    exact hown2
  have HB2 : Hid (Below w.heap.size w w2) := (HB1.out.alloc hs1 _).grown hgrow2 (by rw [size_alloc]; omega) (fun k e => (HO1.out.lt k e).1)
  obtain ⟨g2, cap2, rfl, hg2, hg3, hc2⟩ := hR.shape (by simp)
  have HP := hide hR.pts
  rw [List.length_append, HN.out] at hc2 HP ⊢
  simp only [List.length_cons, List.length_nil, Nat.zero_add] at hc2 HP ⊢
  clear hown2 hgrow2 HO1 hR hi hz0 hz1 hz2 hg2 hg3
  have hc3 : n ≤ cap2 := by omega
  go_wp2_with fail
  go_ret
  exact ⟨g2, cap2, rfl, HP.out, hc2, HB2.out⟩
end Go.Proofs.Ytohepelnbmojiaa
