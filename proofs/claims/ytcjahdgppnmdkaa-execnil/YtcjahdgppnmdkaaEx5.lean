/- Package exec: a turn comes to a queue, and leaves it. -/
import Derived.Test.YtcjahdgppnmdkaaEx4
set_option maxRecDepth 100000
namespace Go.Proofs.Ytcjahdgppnmdkaa
open Go.RowKit Go.Great

abbrev tuI (t : Tu) : Value := .iface 148 (tuV t)
theorem assert_two (x0 x1 x2 x3 : Int) (u : TypeId) (w : World) : (Instr.typeAssert (.iface 148 (.agg #[.int .i64 x0, .int .i64 x1, .int .i64 x2, .int .i64 x3])) u 148 true).run Try.prog w = .ok (.tuple #[.agg #[.int .i64 x0, .int .i64 x1, .int .i64 x2, .int .i64 x3], .bool true]) w := by kernel_rfl
theorem assert_one (x0 x1 x2 x3 : Int) (u : TypeId) (w : World) : (Instr.typeAssert (.iface 148 (.agg #[.int .i64 x0, .int .i64 x1, .int .i64 x2, .int .i64 x3])) u 148 false).run Try.prog w = .ok (.agg #[.int .i64 x0, .int .i64 x1, .int .i64 x2, .int .i64 x3]) w := by kernel_rfl
theorem own_shape {w : World} {b n : Nat} {v : Value} {xs : List Value} (h : w.ownsRow b 148 4 v n xs) : ∃ a cap, v = slQ a n cap := by
  rcases h.2 with ⟨rfl, rfl⟩ | ⟨g, cap, _, hv, _⟩
  · exact ⟨none, 0, rfl⟩
  · exact ⟨_, cap, hv⟩
theorem ownsRow_set_other {w : World} {base : Nat} {e t : TypeId} {size : Nat} {v : Value} {n : Nat} {xs : List Value} {Q : Nat} {cs : Array Value} (hR : w.ownsRow base e size v n xs) (hG : Blk w Q cs t) (hne : e ≠ t) (k : Nat) (x : Value) : (w.setCell ⟨Q, k, none⟩ x).ownsRow base e size v n xs :=
  World.ownsRow.kept hR (grown_set w Q k x) (.inr (blk_apart hR hG hne))
theorem new_cell4 (w : World) (g : Nat) (hg : g = w.heap.size) (x0 x1 x2 x3 : Value) (t : TypeId) : ∀ j u, [x0, x1, x2, x3][j]? = some u → (w.alloc (.cells #[x0, x1, x2, x3] t)).cell? ((⟨g, 0, none⟩ : Addr).add j) = some u := by
  intro j u h
  subst hg
  have : j < 4 := by
    have := (List.getElem?_eq_some_iff.1 h).1
    simpa using this
  have hB := Blk.new w #[x0, x1, x2, x3] t
  have hc := hB.cell j (v := u) (by simpa using h)
  rw [add_plain', Nat.zero_add]
  exact hc
theorem row_tb {w : World} {b n : Nat} {v : Value} {xs : List Value} (h : w.ownsRow b 148 4 v n xs) {k : Nat} (e : v.ownBlock = some k) : TB w k := by
  rcases h.2 with ⟨rfl, _⟩ | ⟨g, cap, cur, rfl, _, hh, _⟩
  · cases e
  · simp [Value.ownBlock] at e
    subst e
    exact TB.of hh
set_option maxHeartbeats 1000000 in
theorem pushM_any (w : World) (b Q o : Nat) (pre : List Value) (ty : TypeId) (a : Option Addr) (cap : Nat) (l : List Tu) (x : Tu) (h : Qu w b Q o pre ty a cap l) (hl : l.length ≤ 64) (hx : TOk x) : Calls Try.prog 138 #[qP Q o, tuI x] w fun e w' => ∃ a2 cap2, QEnd w b Q o pre ty a2 cap2 (l ++ [x]) (.tuple #[]) e w' := by
  obtain ⟨i0, hi, hz0, hz1, hz2⟩ := info_parts info_tu
  have HX2 : Hid (tusC (l ++ [x]) = tusC l ++ [.int .i64 x.tk, .int .i64 x.rk, .int .i64 x.nu, .int .i64 x.pe]) := hide (by rw [tusC_app]; simp [tusC, tuC])
  have HOK : Hid (∀ t ∈ l ++ [x], TOk t) := hide (fun t ht => by
    rcases List.mem_append.1 ht with ht | ht
    · exact h.ok t ht
    · rw [List.mem_singleton.1 ht]; exact hx)
  have HLn : Hid ((l ++ [x]).length = l.length + 1) := hide (by simp)
  clear hx
  generalize l ++ [x] = l2 at *
  obtain ⟨x0, x1, x2, x3⟩ := x
  have A2 := assert_two x0 x1 x2 x3
  have hbs := h.bs
  have hlt : Q < w.heap.size := h.box.lt
  have Hpo := hide h.po
  have Hht := hide h.ht
  have HBx := hide h.box
  obtain ⟨W1, hW1⟩ : ∃ W1, w.alloc (.cells #[.int .i64 x0, .int .i64 x1, .int .i64 x2, .int .i64 x3] 148) = W1 := ⟨_, rfl⟩
  have hz : W1.heap.size = w.heap.size + 1 := by rw [← hW1, size_alloc]
  have BX : Hid (Blk W1 w.heap.size #[.int .i64 x0, .int .i64 x1, .int .i64 x2, .int .i64 x3] 148) := hide (by rw [← hW1]; exact Blk.new _ _ _)
  have HB1 : Hid (Below w.heap.size w W1) := hide (by rw [← hW1]; exact below_alloc _ _)
  have CQ : Hid (W1.drew.cell? ⟨Q, o, none⟩ = some (slQ a l.length cap)) := hide (h.after HB1.out).cellQ
  have HO : Hid ((W1.alloc (.cells #[.int .i64 x0, .int .i64 x1, .int .i64 x2, .int .i64 x3] 148)).drew.ownsRow b 148 4 (slQ a l.length cap) l.length (tusC l)) := hide (((h.after HB1.out).after (below_alloc W1 (.cells #[.int .i64 x0, .int .i64 x1, .int .i64 x2, .int .i64 x3] 148))).own)
  have HLt : Hid (∀ k, (slQ a l.length cap).ownBlock = some k → k < w.heap.size) := hide (fun k e => (h.own.lt k e).2)
  obtain ⟨n, hn⟩ : ∃ n, Hid (l.length = n) := ⟨_, hide rfl⟩
  rw [hn.out] at hl HLt CQ HO HLn HBx
  clear h
  go_enter Try.func138, Try.ntmps138
  go_wp2_with fail
  refine reg_last_held (fun wx => wx.cell? ⟨Q, o, none⟩ = some (slQ a n cap) ∧ wx.cell? ⟨w.heap.size, 0, none⟩ = some (.int .i64 x0) ∧ wx.cell? ⟨w.heap.size, 1, none⟩ = some (.int .i64 x1) ∧ wx.cell? ⟨w.heap.size, 2, none⟩ = some (.int .i64 x2) ∧ wx.cell? ⟨w.heap.size, 3, none⟩ = some (.int .i64 x3)) 8 rfl rfl _ rfl (by kernel_rfl) (by kernel_rfl) ⟨CQ.out, BX.out.cell 0 rfl, BX.out.cell 1 rfl, BX.out.cell 2 rfl, BX.out.cell 3 rfl⟩ (fun hHeld => ?_)
  simp only [List.take_succ_cons, List.take_zero]
  refine take_at (i := 0) (v := qP Q o) (d := some 12) rfl rfl (by kernel_rfl) (by kernel_rfl) (by kernel_rfl) (fun _ _ _ h => h) (Or.inl ⟨by rfl, fun wS ⟨hS0, hS1, hS2, hS3, hS4⟩ => by go_simp; all_goals (rw [IntKind.wrap_i64]; omega)⟩) (by assumption) ?_
  simp only [Act.put, List.setIfInBounds_toArray, List.set_cons_zero, List.set_cons_succ]
  refine take_at (i := 1) (v := qP Q o) (d := some 13) rfl rfl (by kernel_rfl) (by kernel_rfl) (by kernel_rfl) (fun _ _ _ h => h) (Or.inl ⟨by rfl, fun wS ⟨hS0, hS1, hS2, hS3, hS4⟩ => by go_simp; all_goals (rw [IntKind.wrap_i64]; omega)⟩) (by assumption) ?_
  simp only [Act.put, List.setIfInBounds_toArray, List.set_cons_zero, List.set_cons_succ]
  refine take_at (i := 2) (v := qP Q o) (d := some 14) rfl rfl (by kernel_rfl) (by kernel_rfl) (by kernel_rfl) (fun _ _ _ h => h) (Or.inl ⟨by rfl, fun wS ⟨hS0, hS1, hS2, hS3, hS4⟩ => by go_simp; all_goals (rw [IntKind.wrap_i64]; omega)⟩) (by assumption) ?_
  simp only [Act.put, List.setIfInBounds_toArray, List.set_cons_zero, List.set_cons_succ]
  refine take_at (i := 3) (v := slQ a n cap) (d := some 15) rfl rfl (by kernel_rfl) (by kernel_rfl) (by kernel_rfl) (fun _ _ _ h => h) (Or.inl ⟨by rfl, fun wS ⟨hS0, hS1, hS2, hS3, hS4⟩ => by go_simp; all_goals (rw [IntKind.wrap_i64]; omega)⟩) (by assumption) ?_
  simp only [Act.put, List.setIfInBounds_toArray, List.set_cons_zero, List.set_cons_succ]
  refine take_at (i := 4) (v := .agg #[.int .i64 x0, .int .i64 x1, .int .i64 x2, .int .i64 x3]) (d := some 16) rfl rfl (by kernel_rfl) (by kernel_rfl) (by kernel_rfl) (fun _ _ _ h => h) (Or.inl ⟨by rfl, fun wS ⟨hS0, hS1, hS2, hS3, hS4⟩ => by go_simp; all_goals (rw [IntKind.wrap_i64]; omega)⟩) (by assumption) ?_
  simp only [Act.put, List.setIfInBounds_toArray, List.set_cons_zero, List.set_cons_succ]
  clear hHeld
  refine wpAnyH_ready (rs := [5]) (by kernel_rfl) (by simp) ?_
  refine AllReadyH.cons rfl (fun K hK => ?_) AllReadyH.nil
  go_simp
  have CQ2 : Hid ((W1.drew.alloc (.cells #[.int .i64 x0, .int .i64 x1, .int .i64 x2, .int .i64 x3] 148)).cell? ⟨Q, o, none⟩ = some (slQ a n cap)) := hide (by rw [(below_alloc W1.drew _).cell (p := ⟨Q, o, none⟩) (by show Q < W1.heap.size; omega)]; exact CQ.out)
  have BX2 := hide ((blk_drew BX.out).alloc (.cells #[.int .i64 x0, .int .i64 x1, .int .i64 x2, .int .i64 x3] 148))
  refine hK.out _ _ ⟨CQ2.out, BX2.out.cell 0 rfl, BX2.out.cell 1 rfl, BX2.out.cell 2 rfl, BX2.out.cell 3 rfl⟩ (fun hHeld => ?_)
  clear hK K hHeld
  refine wpAnyH_ready (rs := [6]) (by kernel_rfl) (by simp) ?_
  refine AllReadyH.cons rfl (fun K hK => ?_) AllReadyH.nil
  rw [if_pos (by rfl)]
  obtain ⟨v', w5, hrun, hown5, hgrow5⟩ := run_append_one (P := Try.prog) (W1.alloc (.cells #[.int .i64 x0, .int .i64 x1, .int .i64 x2, .int .i64 x3] 148)).drew 118 118 b 148 i0 _ 4 32 Try.underlying118 hi hz0 hz1 hz2 rfl (by decide) (slQ a n cap) n (tusC l) HO.out ⟨w.heap.size + 1, 0, none⟩ 1 [.int .i64 x0, .int .i64 x1, .int .i64 x2, .int .i64 x3] rfl (new_cell4 W1 _ hz.symm _ _ _ _ _) (by intro u hu; simp at hu; rcases hu with rfl | rfl | rfl | rfl <;> rfl) (by omega) (by omega) (by show b ≤ (W1.alloc _).heap.size; rw [size_alloc]; omega)
  refine wp_append_run (.tmp 15) (.tmp 17) 118 rfl _ _ _ rfl rfl hrun ?_
  obtain ⟨a2, cap2, rfl⟩ := own_shape hown5
  have HG : Hid (Below w.heap.size w (W1.alloc (.cells #[.int .i64 x0, .int .i64 x1, .int .i64 x2, .int .i64 x3] 148)).drew) := hide ((HB1.out.alloc (by omega) _).drew)
  have HBQ : Hid (Blk w5 Q (pre ++ [slQ a n cap]).toArray ty) := hide (blk_grown HO.out (HBx.out.after HG.out) Hht.out hgrow5)
  have HBT : Hid (Blk w5 w.heap.size #[.int .i64 x0, .int .i64 x1, .int .i64 x2, .int .i64 x3] 148) := hide ((blk_drew (BX.out.alloc _)).grown hgrow5 (fun e => Nat.lt_irrefl _ (HLt.out _ e)))
  have HKB : Hid (KB b Q w w5) := hide ((KB.of_below HG.out hbs).trans (KB.of_grown hgrow5 (by show b ≤ (W1.alloc _).heap.size; rw [size_alloc]; omega) (fun k e => .inr ⟨(HO.out.lt k e).1, row_tb HO.out e⟩)))
  have HR5 := hide hown5
  clear hown5 hgrow5 hrun hi hz0 hz1 hz2 HO BX HBx HLt CQ CQ2 BX2
  refine hK.out _ _ ⟨HBQ.out.cell o (by rw [← Hpo.out]; simp), HBT.out.cell 0 rfl, HBT.out.cell 1 rfl, HBT.out.cell 2 rfl, HBT.out.cell 3 rfl⟩ (fun hHeld => ?_)
  clear hK K
  simp only [Act.put, List.setIfInBounds_toArray]
  refine take_at (i := 7) (v := qP Q o) (d := some 19) rfl rfl (by kernel_rfl) (by kernel_rfl) (by kernel_rfl) (fun _ _ _ h => h) (Or.inl ⟨by rfl, fun wS ⟨hS0, hS1, hS2, hS3, hS4⟩ => by go_simp; all_goals (rw [IntKind.wrap_i64]; omega)⟩) (by assumption) ?_
  simp only [Act.put]
  refine wpAnyH_done (by kernel_rfl) (then_last ?_) _
  have c5 : w5.cell? ⟨Q, o, none⟩ = some (slQ a n cap) := HBQ.out.cell o (by rw [← Hpo.out]; simp)
  have f5 := HBQ.out.frozen o
  clear hHeld
  go_simp
  go_wp2_with fail
  go_end0
  refine ⟨a2, cap2, rfl, ⟨Hpo.out, ?_, ?_, ?_, HOK.out, Hht.out⟩, HKB.out.set Q o _ (.inl rfl)⟩
  · rw [setCell_size]; exact Nat.le_trans hbs HKB.out.size
  · rw [HLn.out, ← arr_set_last pre (slQ a n cap), Hpo.out]; exact HBQ.out.set o _
  · rw [HLn.out, HX2.out]
    exact ownsRow_set_other HR5.out HBQ.out Hht.out o _
set_option maxHeartbeats 1000000 in
theorem popM_any (w : World) (b Q o : Nat) (pre : List Value) (ty : TypeId) (a : Option Addr) (cap n : Nat) (l : List Tu) (h : Qu w b Q o pre ty a cap l) (hl : l.length = n + 1) (hn : n ≤ 64) : Calls Try.prog 137 #[qP Q o] w (QEnd w b Q o pre ty a cap (l.take n) (tuI (te l n))) := by
  have cq := h.cellQ
  have fq := h.box.frozen o
  obtain ⟨g, cur, rfl, _, _, _, _, _⟩ := h.row (by omega)
  obtain ⟨c0, c1, c2, c3⟩ := h.at n (by omega)
  have hcp := h.cap_in
  have hlt := h.box.lt
  have HK : Hid (∀ o1, Qu ((w.setCell ⟨Q, o, none⟩ (.slice (some ⟨g, 0, none⟩) n cap)).alloc o1) b Q o pre ty (some ⟨g, 0, none⟩) cap (l.take n)) := hide (fun o1 => (h.less hl).after (below_alloc _ o1))
  have Hb : Hid (∀ o1, KB b Q w ((w.setCell ⟨Q, o, none⟩ (.slice (some ⟨g, 0, none⟩) n cap)).alloc o1)) := hide (fun o1 => ((KB.refl b Q w).set Q o _ (.inl rfl)).trans (KB.of_below (below_alloc _ o1) (by rw [setCell_size]; exact h.bs)))
  obtain ⟨N, hN⟩ : ∃ N, l.length = N := ⟨_, rfl⟩
  rw [hN] at cq hcp hl
  have e1 : (N : Int) - 1 = (n : Int) := by omega
  have hnc : n ≤ cap := by omega
  generalize te l n = x at *
  obtain ⟨x0, x1, x2, x3⟩ := x
  generalize l.take n = m at *
  clear h hN
  go_enter Try.func137, Try.ntmps137
  go_wp2_with fail
  go_ret
  exact ⟨rfl, HK.out _, Hb.out _⟩
end Go.Proofs.Ytcjahdgppnmdkaa
