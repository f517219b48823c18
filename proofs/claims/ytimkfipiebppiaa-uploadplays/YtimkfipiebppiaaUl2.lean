/- Lists as new memory; copied, item, row of the statements of layer 21. -/
import Derived.Test.YtimkfipiebppiaaUl1
import Derived.Laws.AppendOwnNone
namespace Go.Proofs.Ytimkfipiebppiaa
open Go.RowKit Go.Great

theorem wpList_append_any {P : Program} {w : World} {ops : Array Oper} {rest : List Oper} {o : Oper} {a : Act} {Q : Exit → Act → World → Prop} (hgd : o.guard = none) (s x : Operand) (t : TypeId)
    (ho : o.op = .call { callee := .builtin .append, args := #[s, x], argTypes := #[t, t] })
    (base : Nat) (e : TypeId) (i : TypeInfo) (z : Value) (size bytes : Nat) (ht : P.underlying t = some (.slice e)) (hi : P.info? e = some i) (hz : i.zero = some z)
    (hsize : i.size = size) (hby : i.bytes = bytes) (hzs : z.cells.size = size) (hsz : 0 < size)
    (v : Value) (n : Nat) (xs : List Value) (hs : a.eval s = v) (hown : w.ownsRow base e size v n xs)
    (ao : Option Addr) (m c : Nat) (news : List Value) (hx : a.eval x = .slice ao m c) (hl : news.length = m * size) (hnone : ao = none → m = 0 ∧ c = 0) (hnews : ∀ ad, ao = some ad → ∀ j u, news[j]? = some u → w.cell? (ad.add j) = some u) (h1 : ∀ u ∈ news, u.oneCell' = true)
    (h63 : n + m ≤ maxLen) (hbytes : (n + m) * bytes ≤ 140737488355328) (hbase : base ≤ w.heap.size)
    (h : ∀ v' w', w'.ownsRow base e size v' (n + m) (xs ++ news) → w.grownBy w' v.ownBlock → wpList P ops Q rest (a.put o.dst v') w') : wpList P ops Q (o :: rest) a w := by
  cases ao with
  | some ad => exact wpList_append_own w hgd s x t ho base e i z size bytes ht hi hz hsize hby hzs hsz v n xs hs hown ad m c news hx hl (hnews ad rfl) h1 h63 hbytes hbase fun v' w' h2 h3 _ => h v' w' h2 h3
  | none =>
    obtain ⟨rfl, rfl⟩ := hnone rfl
    have hn : news = [] := List.eq_nil_of_length_eq_zero (by simpa using hl)
    subst hn
    exact wpList_append_own_none hgd s x t ho base e i size ht hi v n xs hs hown hx (h v w (by simpa using hown) (World.grownBy.refl _ _))
set_option maxHeartbeats 1000000 in
theorem rintsL_any (l : List Int) (v : Value) (w : World) (hv : Ints w v l) (hnil : ∀ n c, v = .slice none n c → c = 0) (hlen : l.length * 8 + 32 ≤ 140737488355328) : Calls Try.prog 19 #[v] w fun e w' => ∃ u, e = .returned u ∧ IRow w' w.heap.size u l ∧ Below w.heap.size w w' := by
  obtain ⟨i0, hi, hz0, hz1, hz2⟩ := info_parts info_int
  have HV := hide hv
  obtain ⟨a, cap, rfl, hc0⟩ := hv
  have HNIL : Hid (a = none → l.length = 0 ∧ cap = 0) := hide (by
    intro e
    subst e
    refine ⟨?_, hnil _ _ rfl⟩
    refine Decidable.byContradiction fun h => ?_
    obtain ⟨g, o, e, _⟩ := hc0 (by omega)
    cases e)
  obtain ⟨n, hn⟩ : ∃ n, Hid (l.length = n) := ⟨_, hide rfl⟩
  rw [hn.out] at hlen HNIL HV ⊢
  clear hc0 hnil
  go_enter Try.func19, Try.ntmps19
  go_wp2_with (at_builtin; refine wpList_append_any rfl (.tmp 4) (.tmp 5) 36 rfl w.heap.size 3 i0 _ 1 8 Try.underlying36 hi hz0 hz1 hz2 rfl (by decide) (.slice none 0 0) 0 [] rfl (IRow.nil w w.heap.size) a n cap (l.map (Value.int .i64)) rfl ?c0 HNIL.out ?c1 ?c2 ?c3 ?c4 ?c5 ?_)
  case c0 => rw [List.length_map, hn.out]; omega
  case c1 => exact ints_news (w := w) (ao := a) (cap := cap) (by rw [hn.out]; exact HV.out)
  case c2 => exact map_one l
  case c3 => unfold maxLen; omega
  case c4 => omega
  case c5 => exact Nat.le_refl _
  intro v' w5 hown5 hgrow5
  have HR5 : Hid (IRow w5 w.heap.size v' l) := hide (by
    show World.ownsRow _ _ _ _ _ _ _
    rw [hn.out]; simpa using hown5)
  have HB5 : Hid (Below w.heap.size w w5) := hide ((Below.refl _ _).grown hgrow5 (Nat.le_refl _) (fun j e => by cases e))
  clear hown5 hgrow5 hi hz0 hz1 hz2
  obtain ⟨ao5, cap5, rfl⟩ := HR5.out.shape
  go_wp2_with fail
  go_ret
  exact ⟨_, rfl, HR5.out, HB5.out⟩
theorem IRow.cap {w : World} {base : Nat} {u : Value} {l : List Int} (h : IRow w base u l) : ∀ a n c, u = .slice a n c → n ≤ c := by
  intro a n c e
  rcases h.2 with ⟨e1, e2⟩ | ⟨g, cap, cur, e1, _, _, hc, _⟩
  · rw [e1] at e; injection e with _ h2 h3; omega
  · rw [e1] at e; injection e with _ h2 h3; omega
set_option maxHeartbeats 1000000 in
theorem copied_any (k : Int) (l : List Int) (v : Value) (w : World) (hv : Ints w v l) (hnil : ∀ n c, v = .slice none n c → c = 0) (hlen : l.length * 8 + 32 ≤ 140737488355328) : Calls Try.prog 15 #[.agg #[.int .u8 k, v]] w fun e w' => ∃ u, e = .returned (.agg #[.int .u8 k, u]) ∧ IRow w' w.heap.size u l ∧ Below w.heap.size w w' := by
  have RI := hide (fun W (hb : Below w.heap.size w W) => rintsL_any l v W (hv.below hb) hnil hlen)
  obtain ⟨a, cap, rfl, _⟩ := hv
  obtain ⟨n, hn⟩ : ∃ n, Hid (l.length = n) := ⟨_, hide rfl⟩
  rw [hn.out] at RI ⊢
  clear hnil hlen
  obtain ⟨W2, HW2, hb2, hB1, hB2, hz2⟩ := two_boxes w #[.int .u8 k, .slice a n cap] #[.int .u8 0, .slice none 0 0] 38 38
  have Hb := hide hb2
  have H1 := hide hB1
  have H2 := hide hB2
  have HZ := hide hz2
  clear hb2 hB1 hB2 hz2
  go_enter Try.func15, Try.ntmps15
  go_upto_region 1 with fail
  clear HW2
  have HS : Hid (∀ W, Below W2.heap.size W2 W → W.cell? ⟨w.heap.size, 0, none⟩ = some (.int .u8 k) ∧ W.cell? ⟨w.heap.size, 1, none⟩ = some (.slice a n cap)) := hide (fun W hb => ⟨(H1.out.after hb).cell 0 rfl, (H1.out.after hb).cell 1 rfl⟩)
  refine wp_region_held_drew (S := fun wx => wx.cell? ⟨w.heap.size, 0, none⟩ = some (.int .u8 k) ∧ wx.cell? ⟨w.heap.size, 1, none⟩ = some (.slice a n cap)) (by kernel_rfl) (HS.out W2 (Below.refl _ _)) (fun hHeld => ?_)
  refine take_at (i := 0) (v := .pointer (some ⟨w.heap.size, 0, none⟩)) (d := some 3) rfl rfl (by kernel_rfl) (by kernel_rfl) (by kernel_rfl) (fun _ _ _ h => h) (Or.inl ⟨by rfl, fun wS ⟨hS0, hS1⟩ => by go_simp; all_goals (rw [IntKind.wrap_i64]; omega)⟩) (by assumption) ?_
  simp only [Act.put, List.setIfInBounds_toArray, List.set_cons_zero, List.set_cons_succ]
  refine take_at (i := 1) (v := .int .u8 k) (d := some 4) rfl rfl (by kernel_rfl) (by kernel_rfl) (by kernel_rfl) (fun _ _ _ h => h) (Or.inl ⟨by rfl, fun wS ⟨hS0, hS1⟩ => by go_simp; all_goals (rw [IntKind.wrap_i64]; omega)⟩) (by assumption) ?_
  simp only [Act.put, List.setIfInBounds_toArray, List.set_cons_zero, List.set_cons_succ]
  refine take_at (i := 2) (v := .pointer (some ⟨w.heap.size, 1, none⟩)) (d := some 5) rfl rfl (by kernel_rfl) (by kernel_rfl) (by kernel_rfl) (fun _ _ _ h => h) (Or.inl ⟨by rfl, fun wS ⟨hS0, hS1⟩ => by go_simp; all_goals (rw [IntKind.wrap_i64]; omega)⟩) (by assumption) ?_
  simp only [Act.put, List.setIfInBounds_toArray, List.set_cons_zero, List.set_cons_succ]
  refine take_at (i := 3) (v := .slice a n cap) (d := some 6) rfl rfl (by kernel_rfl) (by kernel_rfl) (by kernel_rfl) (fun _ _ _ h => h) (Or.inl ⟨by rfl, fun wS ⟨hS0, hS1⟩ => by go_simp; all_goals (rw [IntKind.wrap_i64]; omega)⟩) (by assumption) ?_
  simp only [Act.put, List.setIfInBounds_toArray, List.set_cons_zero, List.set_cons_succ]
  clear hHeld
  refine wpAnyH_ready (rs := [4]) (by kernel_rfl) (by simp) ?_
  refine AllReadyH.cons rfl (fun K hK => ?_) AllReadyH.nil
  go_simp
  refine (RI.out W2.drew Hb.out.drew).mono ?_
  rintro e w3 ⟨u', rfl, hI, hb3⟩
  have hb3 := below_undrew hb3
  have HI : Hid (IRow w3 (w.heap.size + 2) u' l) := hide (by have := HZ.out; rw [← this]; exact hI)
  have Hb3 := hide hb3
  have K2 := hide (H2.out.after hb3)
  obtain ⟨ao, co, rfl⟩ := hI.shape
  rw [hn.out] at HI ⊢
  clear hI hb3 RI
  refine hK.out _ _ (HS.out _ Hb3.out) (fun hHeld => ?_)
  clear hK K
  refine take_at (i := 5) (v := .agg #[.int .u8 k, .slice ao n co]) (d := some 8) rfl rfl (by kernel_rfl) (by kernel_rfl) (by kernel_rfl) (fun _ _ _ h => h) (Or.inl ⟨by rfl, fun wS ⟨hS0, hS1⟩ => by go_simp; all_goals (rw [IntKind.wrap_i64]; omega)⟩) (by assumption) ?_
  simp only [Act.put, List.setIfInBounds_toArray, List.set_cons_zero, List.set_cons_succ]
  clear hHeld
  have b0 := K2.out.cell 0 rfl
  have b1 := K2.out.cell 1 rfl
  have f0 := K2.out.frozen 0
  have f1 := K2.out.frozen 1
  have HR := hide (K2.out.set2 (.int .u8 k) (.slice ao n co))
  have HG : Hid (w3.grownBy ((w3.setCell ⟨w.heap.size + 1, 0, none⟩ (.int .u8 k)).setCell ⟨w.heap.size + 1, 1, none⟩ (.slice ao n co)) (some (w.heap.size + 1))) := hide (grown_more (grown_set _ _ _ _) (grown_set _ _ _ _))
  have hlt := K2.out.lt
  have K1 := hide (((H1.out.after Hb3.out).grown HG.out (fun e => by injection e with e; omega)))
  refine wpAnyH_ready (rs := [6]) (by kernel_rfl) (by simp) ?_
  refine AllReadyH.cons rfl (fun K hK => ?_) AllReadyH.nil
  go_simp
  refine hK.out _ _ ⟨K1.out.cell 0 rfl, K1.out.cell 1 rfl⟩ (fun hHeld => ?_)
  clear hK K hHeld
  refine wpAnyH_done (by kernel_rfl) ?_ _
  go_simp
  go_wp2_with fail
  refine bodyPost_ret (res_back Try.results15 Try.underlying38 (by kernel_rfl) _ _ (w.heap.size + 1) rfl HR.out) rfl ?_
  refine ⟨_, rfl, ?_, ?_⟩
  · refine (HI.out.grown2 HG.out ?_).low (by omega)
    intro e
    have := (World.ownsRow.lt HI.out _ e).1
    omega
  · exact (below_next Hb.out (Nat.le_refl _) Hb3.out).grown HG.out (by omega) (fun k e => by injection e with e; omega)
/-- an Item's fields -/
abbrev itL (i r0 r1 r2 r3 r4 : Int) : List Int := [2, i, r0, r1, r2, r3, r4]
abbrev itA (i r0 r1 r2 r3 r4 : Int) : Array Value := #[.int .i64 2, .int .i64 i, .int .i64 r0, .int .i64 r1, .int .i64 r2, .int .i64 r3, .int .i64 r4]
set_option maxHeartbeats 1000000 in
theorem itemL_any (i r0 r1 r2 r3 r4 : Int) (g cap : Nat) (w : World) (t : TypeId) (hB : Blk w g #[.int .i64 r0, .int .i64 r1, .int .i64 r2, .int .i64 r3, .int .i64 r4] t) : Calls Try.prog 25 #[.int .i64 i, .slice (some ⟨g, 0, none⟩) 5 cap] w fun e w' => ∃ B, e = .returned (.agg #[.int .u8 9, .slice (some ⟨B, 0, none⟩) 7 7]) ∧ Blk w' B (itA i r0 r1 r2 r3 r4) 3 ∧ w.heap.size ≤ B ∧ Below w.heap.size w w' := by
  have H0 := hide (Blk.new w #[.int .u8 0, .slice none 0 0] 38)
  have Hb0 := hide (below_alloc w (.cells #[.int .u8 0, .slice none 0 0] 38))
  have HB := hide (hB.alloc (.cells #[.int .u8 0, .slice none 0 0] 38))
  have hlt := hB.lt
  clear hB
  go_enter Try.func25, Try.ntmps25
  go_upto_region 1 with fail
  have hz : (w.alloc (.cells #[.int .u8 0, .slice none 0 0] 38)).heap.size = w.heap.size + 1 := size_alloc _ _
  have HZ := hide hz
  clear hz
  generalize w.alloc (.cells #[.int .u8 0, .slice none 0 0] 38) = W1 at *
  have HS : Hid (∀ W, Below W1.heap.size W1 W → W.cell? ⟨g, 0, none⟩ = some (.int .i64 r0) ∧ W.cell? ⟨g, 1, none⟩ = some (.int .i64 r1) ∧ W.cell? ⟨g, 2, none⟩ = some (.int .i64 r2) ∧ W.cell? ⟨g, 3, none⟩ = some (.int .i64 r3) ∧ W.cell? ⟨g, 4, none⟩ = some (.int .i64 r4)) := hide (fun W hb => ⟨(HB.out.after hb).cell 0 rfl, (HB.out.after hb).cell 1 rfl, (HB.out.after hb).cell 2 rfl, (HB.out.after hb).cell 3 rfl, (HB.out.after hb).cell 4 rfl⟩)
  refine wp_region_held_drew (S := fun wx => wx.cell? ⟨g, 0, none⟩ = some (.int .i64 r0) ∧ wx.cell? ⟨g, 1, none⟩ = some (.int .i64 r1) ∧ wx.cell? ⟨g, 2, none⟩ = some (.int .i64 r2) ∧ wx.cell? ⟨g, 3, none⟩ = some (.int .i64 r3) ∧ wx.cell? ⟨g, 4, none⟩ = some (.int .i64 r4)) (by kernel_rfl) (HS.out W1 (Below.refl _ _)) (fun hHeld => ?_)
  refine take_at (i := 0) (v := .int .i64 i) (d := some 5) rfl rfl (by kernel_rfl) (by kernel_rfl) (by kernel_rfl) (fun _ _ _ h => h) (Or.inl ⟨by rfl, fun wS ⟨hS0, hS1, hS2, hS3, hS4⟩ => by go_simp; all_goals (rw [IntKind.wrap_i64]; omega)⟩) (by assumption) ?_
  simp only [Act.put, List.setIfInBounds_toArray, List.set_cons_zero, List.set_cons_succ]
  refine take_at (i := 1) (v := .slice (some ⟨g, 0, none⟩) 5 cap) (d := some 6) rfl rfl (by kernel_rfl) (by kernel_rfl) (by kernel_rfl) (fun _ _ _ h => h) (Or.inl ⟨by rfl, fun wS ⟨hS0, hS1, hS2, hS3, hS4⟩ => by go_simp; all_goals (rw [IntKind.wrap_i64]; omega)⟩) (by assumption) ?_
  simp only [Act.put, List.setIfInBounds_toArray, List.set_cons_zero, List.set_cons_succ]
  refine take_at (i := 2) (v := .pointer (some ⟨g, 0, none⟩)) (d := some 7) rfl rfl (by kernel_rfl) (by kernel_rfl) (by kernel_rfl) (fun _ _ _ h => h) (Or.inl ⟨by rfl, fun wS ⟨hS0, hS1, hS2, hS3, hS4⟩ => by go_simp; all_goals (rw [IntKind.wrap_i64]; omega)⟩) (by assumption) ?_
  simp only [Act.put, List.setIfInBounds_toArray, List.set_cons_zero, List.set_cons_succ]
  refine take_at (i := 3) (v := .int .i64 r0) (d := some 8) rfl rfl (by kernel_rfl) (by kernel_rfl) (by kernel_rfl) (fun _ _ _ h => h) (Or.inl ⟨by rfl, fun wS ⟨hS0, hS1, hS2, hS3, hS4⟩ => by go_simp; all_goals (rw [IntKind.wrap_i64]; omega)⟩) (by assumption) ?_
  simp only [Act.put, List.setIfInBounds_toArray, List.set_cons_zero, List.set_cons_succ]
  refine take_at (i := 4) (v := .slice (some ⟨g, 0, none⟩) 5 cap) (d := some 9) rfl rfl (by kernel_rfl) (by kernel_rfl) (by kernel_rfl) (fun _ _ _ h => h) (Or.inl ⟨by rfl, fun wS ⟨hS0, hS1, hS2, hS3, hS4⟩ => by go_simp; all_goals (rw [IntKind.wrap_i64]; omega)⟩) (by assumption) ?_
  simp only [Act.put, List.setIfInBounds_toArray, List.set_cons_zero, List.set_cons_succ]
  refine take_at (i := 5) (v := .pointer (some ⟨g, 1, none⟩)) (d := some 10) rfl rfl (by kernel_rfl) (by kernel_rfl) (by kernel_rfl) (fun _ _ _ h => h) (Or.inl ⟨by rfl, fun wS ⟨hS0, hS1, hS2, hS3, hS4⟩ => by go_simp; all_goals (rw [IntKind.wrap_i64]; omega)⟩) (by assumption) ?_
  simp only [Act.put, List.setIfInBounds_toArray, List.set_cons_zero, List.set_cons_succ]
  refine take_at (i := 6) (v := .int .i64 r1) (d := some 11) rfl rfl (by kernel_rfl) (by kernel_rfl) (by kernel_rfl) (fun _ _ _ h => h) (Or.inl ⟨by rfl, fun wS ⟨hS0, hS1, hS2, hS3, hS4⟩ => by go_simp; all_goals (rw [IntKind.wrap_i64]; omega)⟩) (by assumption) ?_
  simp only [Act.put, List.setIfInBounds_toArray, List.set_cons_zero, List.set_cons_succ]
  refine take_at (i := 7) (v := .slice (some ⟨g, 0, none⟩) 5 cap) (d := some 12) rfl rfl (by kernel_rfl) (by kernel_rfl) (by kernel_rfl) (fun _ _ _ h => h) (Or.inl ⟨by rfl, fun wS ⟨hS0, hS1, hS2, hS3, hS4⟩ => by go_simp; all_goals (rw [IntKind.wrap_i64]; omega)⟩) (by assumption) ?_
  simp only [Act.put, List.setIfInBounds_toArray, List.set_cons_zero, List.set_cons_succ]
  refine take_at (i := 8) (v := .pointer (some ⟨g, 2, none⟩)) (d := some 13) rfl rfl (by kernel_rfl) (by kernel_rfl) (by kernel_rfl) (fun _ _ _ h => h) (Or.inl ⟨by rfl, fun wS ⟨hS0, hS1, hS2, hS3, hS4⟩ => by go_simp; all_goals (rw [IntKind.wrap_i64]; omega)⟩) (by assumption) ?_
  simp only [Act.put, List.setIfInBounds_toArray, List.set_cons_zero, List.set_cons_succ]
  refine take_at (i := 9) (v := .int .i64 r2) (d := some 14) rfl rfl (by kernel_rfl) (by kernel_rfl) (by kernel_rfl) (fun _ _ _ h => h) (Or.inl ⟨by rfl, fun wS ⟨hS0, hS1, hS2, hS3, hS4⟩ => by go_simp; all_goals (rw [IntKind.wrap_i64]; omega)⟩) (by assumption) ?_
  simp only [Act.put, List.setIfInBounds_toArray, List.set_cons_zero, List.set_cons_succ]
  refine take_at (i := 10) (v := .slice (some ⟨g, 0, none⟩) 5 cap) (d := some 15) rfl rfl (by kernel_rfl) (by kernel_rfl) (by kernel_rfl) (fun _ _ _ h => h) (Or.inl ⟨by rfl, fun wS ⟨hS0, hS1, hS2, hS3, hS4⟩ => by go_simp; all_goals (rw [IntKind.wrap_i64]; omega)⟩) (by assumption) ?_
  simp only [Act.put, List.setIfInBounds_toArray, List.set_cons_zero, List.set_cons_succ]
  refine take_at (i := 11) (v := .pointer (some ⟨g, 3, none⟩)) (d := some 16) rfl rfl (by kernel_rfl) (by kernel_rfl) (by kernel_rfl) (fun _ _ _ h => h) (Or.inl ⟨by rfl, fun wS ⟨hS0, hS1, hS2, hS3, hS4⟩ => by go_simp; all_goals (rw [IntKind.wrap_i64]; omega)⟩) (by assumption) ?_
  simp only [Act.put, List.setIfInBounds_toArray, List.set_cons_zero, List.set_cons_succ]
  refine take_at (i := 12) (v := .int .i64 r3) (d := some 17) rfl rfl (by kernel_rfl) (by kernel_rfl) (by kernel_rfl) (fun _ _ _ h => h) (Or.inl ⟨by rfl, fun wS ⟨hS0, hS1, hS2, hS3, hS4⟩ => by go_simp; all_goals (rw [IntKind.wrap_i64]; omega)⟩) (by assumption) ?_
  simp only [Act.put, List.setIfInBounds_toArray, List.set_cons_zero, List.set_cons_succ]
  refine take_at (i := 13) (v := .slice (some ⟨g, 0, none⟩) 5 cap) (d := some 18) rfl rfl (by kernel_rfl) (by kernel_rfl) (by kernel_rfl) (fun _ _ _ h => h) (Or.inl ⟨by rfl, fun wS ⟨hS0, hS1, hS2, hS3, hS4⟩ => by go_simp; all_goals (rw [IntKind.wrap_i64]; omega)⟩) (by assumption) ?_
  simp only [Act.put, List.setIfInBounds_toArray, List.set_cons_zero, List.set_cons_succ]
  refine take_at (i := 14) (v := .pointer (some ⟨g, 4, none⟩)) (d := some 19) rfl rfl (by kernel_rfl) (by kernel_rfl) (by kernel_rfl) (fun _ _ _ h => h) (Or.inl ⟨by rfl, fun wS ⟨hS0, hS1, hS2, hS3, hS4⟩ => by go_simp; all_goals (rw [IntKind.wrap_i64]; omega)⟩) (by assumption) ?_
  simp only [Act.put, List.setIfInBounds_toArray, List.set_cons_zero, List.set_cons_succ]
  refine take_at (i := 15) (v := .int .i64 r4) (d := some 20) rfl rfl (by kernel_rfl) (by kernel_rfl) (by kernel_rfl) (fun _ _ _ h => h) (Or.inl ⟨by rfl, fun wS ⟨hS0, hS1, hS2, hS3, hS4⟩ => by go_simp; all_goals (rw [IntKind.wrap_i64]; omega)⟩) (by assumption) ?_
  simp only [Act.put, List.setIfInBounds_toArray, List.set_cons_zero, List.set_cons_succ]
  clear hHeld
  refine wpAnyH_ready (rs := [16]) (by kernel_rfl) (by simp) ?_
  refine AllReadyH.cons rfl (fun K hK => ?_) AllReadyH.nil
  go_simp
  have HI := hide (Blk.new W1 (itA i r0 r1 r2 r3 r4) 3)
  have Hb2 := hide (below_alloc W1 (.cells (itA i r0 r1 r2 r3 r4) 3))
  have H2 := hide (H0.out.alloc (.cells (itA i r0 r1 r2 r3 r4) 3))
  refine hK.out _ _ (HS.out _ Hb2.out.drew) (fun hHeld => ?_)
  clear hK K hHeld
  refine wpAnyH_ready (rs := [17]) (by kernel_rfl) (by simp) ?_
  refine AllReadyH.cons rfl (fun K hK => ?_) AllReadyH.nil
  go_simp
  refine (sayL_any 9 (some ⟨W1.heap.size, 0, none⟩) 7 7 _).mono ?_
  rintro e w3 ⟨rfl, hb3⟩
  have Hb3 : Hid (Below W1.heap.size W1 w3) := hide (below_next Hb2.out.drew (Nat.le_refl _) hb3)
  have H3 : Hid (Blk w3 w.heap.size #[.int .u8 0, .slice none 0 0] 38) := hide (Blk.after (W := (W1.alloc (.cells (itA i r0 r1 r2 r3 r4) 3)).drew) H2.out hb3)
  have HI3 : Hid (Blk w3 W1.heap.size (itA i r0 r1 r2 r3 r4) 3) := hide (Blk.after (W := (W1.alloc (.cells (itA i r0 r1 r2 r3 r4) 3)).drew) HI.out hb3)
  clear hb3 HI H2 Hb2
  refine hK.out _ _ (HS.out _ Hb3.out) (fun hHeld => ?_)
  clear hK K hHeld
  have b0 := H3.out.cell 0 rfl
  have b1 := H3.out.cell 1 rfl
  have f0 := H3.out.frozen 0
  have f1 := H3.out.frozen 1
  have HR := hide (H3.out.set2 (.int .u8 9) (.slice (some ⟨W1.heap.size, 0, none⟩) 7 7))
  have HG : Hid (w3.grownBy ((w3.setCell ⟨w.heap.size, 0, none⟩ (.int .u8 9)).setCell ⟨w.heap.size, 1, none⟩ (.slice (some ⟨W1.heap.size, 0, none⟩) 7 7)) (some w.heap.size)) := hide (grown_more (grown_set _ _ _ _) (grown_set _ _ _ _))
  have KB := hide ((HB.out.after Hb3.out).grown HG.out (fun e => by injection e with e; omega))
  refine wpAnyH_ready (rs := [18]) (by kernel_rfl) (by simp) ?_
  refine AllReadyH.cons rfl (fun K hK => ?_) AllReadyH.nil
  go_simp
  refine hK.out _ _ ⟨KB.out.cell 0 rfl, KB.out.cell 1 rfl, KB.out.cell 2 rfl, KB.out.cell 3 rfl, KB.out.cell 4 rfl⟩ (fun hHeld => ?_)
  clear hK K hHeld
  refine wpAnyH_done (by kernel_rfl) ?_ _
  go_simp
  go_wp2_with fail
  refine bodyPost_ret (res_back Try.results25 Try.underlying38 (by kernel_rfl) _ _ w.heap.size rfl HR.out) rfl ?_
  have := HZ.out
  refine ⟨W1.heap.size, rfl, HI3.out.grown HG.out (fun e => by injection e with e; omega), by omega, ?_⟩
  exact (below_next Hb0.out (Nat.le_refl _) Hb3.out).grown HG.out (by have := Hb3.out.size; omega) (fun k e => by injection e with e; omega)
end Go.Proofs.Ytimkfipiebppiaa
