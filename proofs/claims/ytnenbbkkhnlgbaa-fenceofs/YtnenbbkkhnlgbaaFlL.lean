/- Lists of lists of ints: that came in, that were lent, that are the same. -/
import Derived.Test.YtnenbbkkhnlgbaaFlW
import Derived.Test.YtnenbbkkhnlgbaaFf7
import Derived.Test.YtnenbbkkhnlgbaaFl3
import Derived.Test.YtnenbbkkhnlgbaaKr1
namespace Go.Proofs.Ytnenbbkkhnlgbaa
open Go.RowKit Go.Great Go.Deep Go.WideShapes Go.ChangeShapes

/-! ### lists of lists that came in -/
def IntsIn (w : World) (u : Value) (ns : List Int) : Prop := Ints w u ns ∧ (∀ n c, u = .slice none n c → c = 0) ∧ ns.length * 8 + 32 ≤ 140737488355328
theorem cells1 {w : World} {a : Addr} {cs : List Value} (h : w.cells? 0 a 1 = some cs) : ∃ x, cs = [x] ∧ w.cell? (a.add 0) = some x := by
  unfold World.cells? at h
  rw [if_pos (Nat.zero_le _)] at h
  simp [List.range_succ] at h
  cases h0 : w.cell? (a.add 0) with
  | none => simp [h0] at h
  | some x =>
    simp [h0] at h
    exact ⟨x, h.symm, rfl⟩
theorem weightsAll_mem {H : Type} {P : Program} {e : TypeId} {q : Nat} {d : DataW H} : ∀ {l : List (DataW H)}, d ∈ l → q ∈ d.weights P e → q ∈ DataW.weightsAll P e l
  | [], h, _ => by simp at h
  | x :: r, h, hq => by
    simp only [DataW.weightsAll, List.mem_append]
    rcases List.mem_cons.1 h with rfl | h
    · exact .inl hq
    · exact .inr (weightsAll_mem h hq)
set_option maxRecDepth 100000 in
theorem open_ints {H : Type} {enc : TypeId × Value → H} {W : World} {u : Value} {y : DataW H × List MemPlace} {n : Nat} (h : DataW.trod enc Try.prog W 0 (fun _ => true) true n 53 [u] = some y) (hw : ∀ q ∈ y.1.weights Try.prog 53, q ≤ reachBytes) : ∃ ns, IntsIn W u ns := by
  have hC : Try.prog.cellsOf 3 = 1 := by kernel_rfl
  have hb8 : Try.prog.bytesOf 3 = 8 := by kernel_rfl
  rcases open_slice Try.underlying53 h with ⟨hcs, _⟩ | ⟨a, len, cap, m, n, D, Pl, hcs, hb, hl, hmax, hm, hx, hel⟩
  · injection hcs with hcs _
    subst hcs
    exact ⟨[], Ints.nil _, fun n c e => by injection e with _ _ e; exact e.symm, by simp⟩
  · injection hcs with hcs _
    subst hcs
    simp only [if_true] at hm
    subst hm
    have hwt := hw ((len + (m - len)) * 8) (by rw [hx]; simp [DataW.weights, Try.underlying53, hb8])
    have hwt' : m * 8 ≤ 140737488351232 := by
      have : (len + (m - len)) = m := by omega
      rw [this] at hwt
      exact hwt
    have each : ∀ i, i < len → ∃ x : Int, W.cell? ((a.add (i * 1)).add 0) = some (.int .i64 x) := by
      intro i hi
      obtain ⟨cs, hc1, hc2⟩ := hel i (by omega)
      rw [hC] at hc1
      obtain ⟨x, rfl, c0⟩ := cells1 hc1
      obtain ⟨u0, q0, _, _⟩ := DataW.trod_int Try.underlying3 hc2
      simp at q0
      subst q0
      exact ⟨u0, c0⟩
    obtain ⟨F, hF⟩ := choose_lt each
    refine ⟨(List.range len).map F, ⟨some a, m, by rw [List.length_map, List.length_range], ?_⟩, fun n c e => (by injection e with e; cases e), by rw [List.length_map, List.length_range]; omega⟩
    intro h0
    rw [List.length_map, List.length_range] at h0
    have hp := hF 0 h0
    have ha : a.add (0 * 1) = a := by simp [Addr.add]
    have ha0 : a.add 0 = a := by simp [Addr.add]
    rw [ha, ha0] at hp
    obtain ⟨e, hbl⟩ := plain_of hp
    refine ⟨a.block, a.off, by rw [← e], hbl, fun i hi => ?_⟩
    rw [List.length_map, List.length_range] at hi
    have hq := hF i hi
    rw [e, add_add', Nat.mul_one, Nat.add_zero] at hq
    rw [hq]
    simp [hi]
/-- a list of lists that came in -/
def LstsIn (w : World) (v : Value) (L : List (List Int)) : Prop :=
  L.length * 24 + 64 ≤ 140737488355328 ∧ ∃ a cap, v = .slice a L.length cap ∧ (0 < L.length → ∃ g o, a = some ⟨g, o, none⟩ ∧ g < w.heap.size ∧ ∀ i, i < L.length → ∃ u, w.cell? ⟨g, o + i, none⟩ = some u ∧ IntsIn w u (L.getD i []))
theorem LstsIn.lsts {w : World} {v : Value} {L : List (List Int)} (h : LstsIn w v L) : Lsts w v L := by
  obtain ⟨_, a, cap, e, hc⟩ := h
  refine ⟨a, cap, e, fun h0 => ?_⟩
  obtain ⟨g, o, e2, hg, hcc⟩ := hc h0
  refine ⟨g, o, e2, hg, fun i hi => ?_⟩
  obtain ⟨u, hu, hI⟩ := hcc i hi
  exact ⟨u, hu, hI.1⟩
set_option maxRecDepth 100000 in
theorem open_lists {H : Type} {enc : TypeId × Value → H} {W : World} {v : Value} {d : DataW H} {p : List MemPlace} {r : Reach} {b0 : Nat} (hok : Value.okWide Try.prog W r b0 52 v) (h : DataW.Trod enc Try.prog W 0 (fun _ => true) true 52 v d p) (hw : ∀ q ∈ d.weights Try.prog 52, q ≤ reachBytes) : ∃ L, LstsIn W v L := by
  obtain ⟨ad, ln, cp, rfl⟩ := okWide_slice Try.underlying52 hok
  obtain ⟨fuel, hf⟩ := h
  have e1 : (Value.slice ad ln cp).cells.toList = [.slice ad ln cp] := rfl
  rw [e1] at hf
  have hC : Try.prog.cellsOf 53 = 1 := by kernel_rfl
  have hb24 : Try.prog.bytesOf 53 = 24 := by kernel_rfl
  rcases open_slice Try.underlying52 hf with ⟨hcs, _⟩ | ⟨a, len, cap, m, n, D, Pl, hcs, hb, hl, hmax, hm, hx, hel⟩
  · injection hcs with hcs _
    injection hcs with h1 h2 h3
    subst h1 h2 h3
    exact ⟨[], by simp, none, 0, rfl, fun h => absurd h (by simp)⟩
  · injection hcs with hcs _
    injection hcs with h1 h2 h3
    subst h1 h2 h3
    simp only [if_true] at hm
    have hd : d = .slice ((List.range ln).map D) ((List.range (m - ln)).map fun j => D (ln + j)) := congrArg Prod.fst hx
    have hwt := hw ((ln + (m - ln)) * 24) (by rw [hd]; simp [DataW.weights, Try.underlying52, hb24])
    have hwt' : m * 24 ≤ 140737488351232 := by
      have : (ln + (m - ln)) = m := by omega
      rw [this] at hwt
      exact hwt
    have each : ∀ i, i < ln → ∃ f : Value × List Int, W.cell? ((a.add (i * 1)).add 0) = some f.1 ∧ IntsIn W f.1 f.2 := by
      intro i hi
      obtain ⟨cs, hc1, hc2⟩ := hel i (by omega)
      rw [hC] at hc1
      obtain ⟨x, rfl, c0⟩ := cells1 hc1
      obtain ⟨ns, hns⟩ := open_ints hc2 (fun q hq => hw q (by
        rw [hd]
        simp only [DataW.weights, Try.underlying52]
        refine List.mem_cons_of_mem _ (List.mem_append.2 (.inl (weightsAll_mem (d := D i) (List.mem_map.2 ⟨i, List.mem_range.2 hi, rfl⟩) ?_)))
        exact hq))
      exact ⟨(x, ns), c0, hns⟩
    obtain ⟨F, hF⟩ := choose_lt each
    refine ⟨(List.range ln).map fun i => (F i).2, ?_, some a, cp, ?_, ?_⟩
    · rw [List.length_map, List.length_range]; omega
    · rw [List.length_map, List.length_range]
    · intro h0
      rw [List.length_map, List.length_range] at h0
      have hp := (hF 0 h0).1
      have ha : a.add (0 * 1) = a := by simp [Addr.add]
      have ha0 : a.add 0 = a := by simp [Addr.add]
      rw [ha, ha0] at hp
      obtain ⟨e, hbl⟩ := plain_of hp
      refine ⟨a.block, a.off, by rw [← e], hbl, fun i hi => ?_⟩
      rw [List.length_map, List.length_range] at hi
      have hq := hF i hi
      rw [e, add_add', Nat.mul_one, Nat.add_zero] at hq
      refine ⟨(F i).1, hq.1, ?_⟩
      have eg : ((List.range ln).map fun i => (F i).2).getD i [] = (F i).2 := by simp [hi]
      rw [eg]
      exact hq.2
/-! ### lists that were lent, in a row of the call's own -/
def lenV (q : Nat) (l : List Int) : Value := .slice (some ⟨q, 0, none⟩) l.length (l.length + 4)
def LRow (w : World) (q : Nat) (l : List Int) : Prop := IRow w 0 (.slice (some ⟨q, 0, none⟩) (l.length + 4) (l.length + 4)) (mk4 l 4)
theorem LRow.blk {w : World} {q : Nat} {l : List Int} (h : LRow w q l) : ∃ cs, Blk w q cs 3 := by
  rcases h.2 with ⟨e, _⟩ | ⟨g, cap, cur, e, _, hh, _⟩
  · cases e
  · injection e with e _ _
    injection e with e
    injection e with e _
    subst e
    exact ⟨cur, hh⟩
theorem LRow.of {w : World} {base q : Nat} {l : List Int} (h : IRow w base (.slice (some ⟨q, 0, none⟩) (l.length + 4) (l.length + 4)) (mk4 l 4)) : LRow w q l := by
  refine ⟨h.1, ?_⟩
  rcases h.2 with e | ⟨g, cap, cur, e, _, r⟩
  · exact .inl e
  · exact .inr ⟨g, cap, cur, e, Nat.zero_le _, r⟩
theorem LRow.grown {w w' : World} {base q n : Nat} {v : Value} {us : List Value} {l : List Int} (h : LRow w q l) (ho : w.ownsRow base 53 1 v n us) (g : w.grownBy w' v.ownBlock) : LRow w' q l := by
  obtain ⟨cs, hb⟩ := h.blk
  refine World.ownsRow.kept h g (Or.inr ?_)
  intro e
  exact blk_apart ho hb (by decide) e.symm
theorem LRow.below {w w' : World} {q : Nat} {l : List Int} (h : LRow w q l) (hb : Below w.heap.size w w') : LRow w' q l := IRow.below h hb
def Own (w : World) (base : Nat) (v : Value) (L : List (List Int)) : Prop :=
  ∃ us : List Value, w.ownsRow base 53 1 v us.length us ∧ us.length = L.length ∧ ∀ i, i < L.length → ∃ q, us.getD i undef = lenV q (L.getD i []) ∧ LRow w q (L.getD i [])
theorem Own.nil (w : World) (base : Nat) : Own w base (.slice none 0 0) [] := ⟨[], World.ownsRow_nil _ _ _ _, rfl, fun i h => absurd h (by simp)⟩
theorem Own.below {w w' : World} {base : Nat} {v : Value} {L : List (List Int)} (h : Own w base v L) (hb : Below w.heap.size w w') : Own w' base v L := by
  obtain ⟨us, h1, h2, h3⟩ := h
  refine ⟨us, World.ownsRow.kept h1 (grown_below hb none) (by cases v.ownBlock <;> simp), h2, fun i hi => ?_⟩
  obtain ⟨q, a, b⟩ := h3 i hi
  exact ⟨q, a, b.below hb⟩
theorem Own.form {w : World} {base : Nat} {v : Value} {L : List (List Int)} (h : Own w base v L) : ∃ a cap, v = .slice a L.length cap := by
  obtain ⟨us, h1, h2, _⟩ := h
  rw [← h2]
  exact owns_form h1
theorem Own.more {w w' : World} {base q : Nat} {v v' : Value} {us : List Value} {L : List (List Int)} {l : List Int} (h1 : w.ownsRow base 53 1 v us.length us) (h2 : us.length = L.length) (h3 : ∀ i, i < L.length → ∃ q, us.getD i undef = lenV q (L.getD i []) ∧ LRow w q (L.getD i [])) (hl : LRow w q l) (ho : w'.ownsRow base 53 1 v' (us.length + 1) (us ++ [lenV q l])) (hg : w.grownBy w' v.ownBlock) : Own w' base v' (L ++ [l]) := by
  refine ⟨us ++ [lenV q l], by rw [List.length_append]; exact ho, by rw [List.length_append, List.length_append, h2]; rfl, fun i hi => ?_⟩
  rw [List.length_append] at hi
  simp only [List.length_cons, List.length_nil] at hi
  by_cases e : i < L.length
  · obtain ⟨q2, a, b⟩ := h3 i e
    refine ⟨q2, ?_, ?_⟩
    · have e1 : (us ++ [lenV q l]).getD i undef = us.getD i undef := by rw [List.getD, List.getD, List.getElem?_append_left (by omega)]
      have e2 : (L ++ [l]).getD i [] = L.getD i [] := by rw [List.getD, List.getD, List.getElem?_append_left e]
      rw [e1, e2]; exact a
    · have e2 : (L ++ [l]).getD i [] = L.getD i [] := by rw [List.getD, List.getD, List.getElem?_append_left e]
      rw [e2]
      exact b.grown h1 hg
  · have ei : i = L.length := by omega
    subst ei
    have e1 : (us ++ [lenV q l]).getD L.length undef = lenV q l := by rw [List.getD, List.getElem?_append_right (by omega), h2, Nat.sub_self]; rfl
    have e2 : (L ++ [l]).getD L.length [] = l := by rw [List.getD, List.getElem?_append_right (Nat.le_refl _), Nat.sub_self]; rfl
    exact ⟨q, by rw [e1, e2], by rw [e2]; exact hl.grown h1 hg⟩
theorem Own.cells {w : World} {base : Nat} {v : Value} {L : List (List Int)} (h : Own w base v L) : ∃ a cap, v = .slice a L.length cap ∧ (0 < L.length → ∃ g, a = some ⟨g, 0, none⟩ ∧ g < w.heap.size ∧ ∀ i, i < L.length → ∃ q, w.cell? ⟨g, i, none⟩ = some (lenV q (L.getD i [])) ∧ LRow w q (L.getD i [])) := by
  obtain ⟨us, h1, h2, h3⟩ := h
  have h0 := h1
  rcases h1.2 with ⟨e1, e2⟩ | ⟨g, cap, cur, e1, _, hh, _⟩
  · exact ⟨none, 0, by rw [e1]; congr 1; omega, fun h => by omega⟩
  · subst e1
    refine ⟨_, cap, by rw [h2], fun _ => ⟨g, rfl, lt_of_block hh, fun i hi => ?_⟩⟩
    obtain ⟨q, a, b⟩ := h3 i hi
    refine ⟨q, ?_, b⟩
    have := World.ownsRow.cells h0 (g := g) rfl i (us.getD i undef) (by rw [List.getD, List.getElem?_eq_getElem (by omega)]; rfl)
    rw [a, add_plain', Nat.zero_add] at this
    exact this
theorem LRow.ints {w : World} {q : Nat} {l : List Int} (h : LRow w q l) : Ints w (lenV q l) l := lent_ints h
theorem Own.lsts {w : World} {base : Nat} {v : Value} {L : List (List Int)} (h : Own w base v L) : Lsts w v L := by
  obtain ⟨a, cap, e, hc⟩ := h.cells
  refine ⟨a, cap, e, fun h0 => ?_⟩
  obtain ⟨g, e2, hg, hcc⟩ := hc h0
  refine ⟨g, 0, e2, hg, fun i hi => ?_⟩
  obtain ⟨q, a, b⟩ := hcc i hi
  exact ⟨_, by rw [Nat.zero_add]; exact a, b.ints⟩
theorem sameInts_below (l : List Int) (v u : Value) (w : World) (hv : Ints w v l) (hu : Ints w u l) (hl : l.length ≤ 4611686018427387904) : Calls Try.prog 68 #[v, u] w fun e w' => e = .returned (.bool true) ∧ Below w.heap.size w w' :=
  (sameInts_true l v u w hv hu hl).mono fun _ _ ⟨h1, n, h2⟩ => ⟨h1, h2 ▸ below_drewN (Below.refl _ _) n⟩
theorem kept_below (l : List Int) (v : Value) (w : World) (q : Nat) (hR : LRow w q l) (hv : Ints w v l) (hl : l.length ≤ 4611686018427387904) : Calls Try.prog 36 #[lenV q l, v] w fun e w' => e = .returned (.bool true) ∧ Below w.heap.size w w' :=
  (kept_true l v w 0 q hR hv hl).mono fun _ _ ⟨h1, n, h2⟩ => ⟨h1, h2 ▸ below_drewN (Below.refl _ _) n⟩
set_option maxRecDepth 100000 in
set_option maxHeartbeats 4000000 in
theorem sameLists_true (L : List (List Int)) (v u : Value) (w : World) (hv : Lsts w v L) (hu : Lsts w u L) (hl : L.length ≤ 4611686018427387904) (hll : ∀ i, i < L.length → (L.getD i []).length ≤ 4611686018427387904) : Calls Try.prog 37 #[v, u] w fun e w' => e = .returned (.bool true) ∧ Below w.heap.size w w' := by
  obtain ⟨a, c, rfl, hc⟩ := hv
  obtain ⟨b, d, rfl, hd⟩ := hu
  have HC := hide hc
  have HD := hide hd
  have HLL := hide hll
  generalize L.length = m at *
  clear hc hd hll
  go_enter Try.func37, Try.ntmps37
  go_wp2_with fail
  go_loopw [5] (fun i wx => ∃ k : Nat, k ≤ m ∧ i = .int .i64 k ∧ Hid (Below w.heap.size w wx)) (fun i _ => m - (intOf i).toNat)
  case atStart => exact ⟨0, by omega, rfl, hide (Below.refl _ _)⟩
  case round =>
    obtain ⟨k, hk, rfl, hb⟩ := hrel
    have gs := hb.out.size
    by_cases hlt : k < m
    · obtain ⟨ga, oa, rfl, hga, hca⟩ := HC.out (by omega)
      obtain ⟨gb, ob, rfl, hgb, hcb⟩ := HD.out (by omega)
      obtain ⟨x, hx, hxi⟩ := hca k hlt
      obtain ⟨y, hy, hyi⟩ := hcb k hlt
      have c0 := fun z : BelowW wr => z.cell ((hb.out.cell (p := ⟨ga, oa + k, none⟩) hga).trans hx) (by omega)
      have c1 := fun z : BelowW wr => z.cell ((hb.out.cell (p := ⟨gb, ob + k, none⟩) hgb).trans hy) (by omega)
      have hne : Nonempty (BelowW wr) := ⟨⟨wr, Below.refl _ _⟩⟩
      have SI := fun z : BelowW wr => sameInts_below (L.getD k []) x y z.q ((hxi.below hb.out).below z.h) ((hyi.below hb.out).below z.h) (HLL.out k hlt)
      obtain ⟨x1, x2, rfl⟩ : ∃ a c, x = .slice a (L.getD k []).length c := by obtain ⟨a, c, e, _⟩ := hxi; exact ⟨a, c, e⟩
      obtain ⟨y1, y2, rfl⟩ : ∃ a c, y = .slice a (L.getD k []).length c := by obtain ⟨a, c, e, _⟩ := hyi; exact ⟨a, c, e⟩
      generalize (L.getD k []).length = xl at *
      clear hca hcb hx hy hxi hyi
      go_wp2_with fail
      refine wp_region_calm (by kernel_rfl) (by kernel_rfl) ?_
      repeat (go_big_quiet_step (first | (go_at_call 68; exact calm_of (SI _))))
      refine wpQuiet_nil ?_
      rintro w5 ⟨⟨q3, hq⟩, e3⟩
      have e4 : w5 = q3 := e3
      clear e3
      subst e4
      have hb5 := below_next hb.out (Nat.le_refl _) hq
      clear c0 c1 hne SI
      go_wp2_with fail
      go_roundw
      case rel => exact ⟨k + 1, by omega, by go_num, hide hb5⟩
      case measure => simp [intOf]; omega
    · go_wp2_with fail
      go_ret
      exact ⟨rfl, hb.out⟩
end Go.Proofs.Ytnenbbkkhnlgbaa
