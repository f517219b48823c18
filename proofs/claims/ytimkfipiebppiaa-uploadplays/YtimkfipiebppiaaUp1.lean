/- Package upload: its small functions, walked. -/
import Derived.Test.YtimkfipiebppiaaUpM
import Derived.Laws.Cover3
namespace Go.Proofs.Ytimkfipiebppiaa
open Go.RowKit Go.Great

theorem taken_any (c h a g : Int) (p : Value) (w : World) : Calls Try.prog 38 #[.agg #[.int .i64 c, .int .i64 h, p, .int .i64 a, .int .i64 g]] w fun e w' => e = .returned (.bool (decide (h < c))) ∧ Below w.heap.size w w' := by
  have Hb := hide (below_alloc w (.cells #[.int .i64 c, .int .i64 h, p, .int .i64 a, .int .i64 g] 66))
  go_enter Try.func38, Try.ntmps38
  go_wp2_with fail
  go_ret
  exact ⟨rfl, Hb.out⟩
theorem listready_any (c h a g : Int) (p : Value) (w : World) : Calls Try.prog 42 #[.agg #[.int .i64 c, .int .i64 h, p, .int .i64 a, .int .i64 g]] w fun e w' => e = .returned (.bool (decide (0 < c) && (h == c))) ∧ Below w.heap.size w w' := by
  have Hb := hide (below_alloc w (.cells #[.int .i64 c, .int .i64 h, p, .int .i64 a, .int .i64 g] 66))
  by_cases hc : 0 < c
  · go_enter Try.func42, Try.ntmps42
    go_wp2_with fail
    go_ret
    exact ⟨ret_bool (by simp [hc]), Hb.out⟩
  · go_enter Try.func42, Try.ntmps42
    go_wp2_with fail
    go_ret
    have hd : decide (0 < c) = false := by simpa using hc
    exact ⟨ret_bool (by rw [hd]; rfl), Hb.out⟩
theorem late_any (he now : Int) (h1 : I64 he) (h2 : I64 now) (w : World) : Calls Try.prog 39 #[.int .i64 he, .int .i64 now] w fun e w' => e = .returned (.bool (ltB he now)) ∧ w' = w := by
  unfold I64 at h1 h2
  by_cases hc : he ≤ now
  · have hd : decide (he ≤ now) = true := by simp [hc]
    have hz : 0 ≤ now - he := by omega
    have hx : IntKind.u64.wrap (IntKind.u64.wrap now - IntKind.u64.wrap he) = now - he := by
      unfold IntKind.wrap
      simp [IntKind.bits, IntKind.signed]
      omega
    go_enter Try.func39, Try.ntmps39
    go_wp2_with fail
    go_ret
    refine ⟨ret_bool ?_, rfl⟩
    rfl
  · go_enter Try.func39, Try.ntmps39
    go_wp2_with fail
    go_ret
    refine ⟨ret_bool ?_, rfl⟩
    unfold ltB
    symm
    simp
    omega
theorem say_any (w : World) (D : Nat) (cs : Array Value) (wh : Int) (hD : Blk w D cs 68) (h0 : cs[0]? = some (.int .i64 wh)) (k x : Int) : Calls Try.prog 59 #[dP D, .int .u8 k, .int .i64 x] w fun e w' => ∃ v, e = .returned v ∧ Ans w' w.heap.size v (some (k, wh, x)) ∧ Below w.heap.size w w' := by
  have c0 := hD.cell 0 h0
  obtain ⟨W2, HW2, hb2, hB1, hB2, hz2⟩ := two_boxes w #[.int .i64 wh, .int .i64 x] #[.int .u8 k, .slice (some ⟨w.heap.size, 0, none⟩) 2 2] 3 38
  have Hb := hide hb2
  have H1 := hide hB1
  have H2 := hide hB2
  clear hD h0 hb2 hB1 hB2 hz2
  go_enter Try.func59, Try.ntmps59
  go_wp2_with fail
  go_ret
  exact ⟨_, rfl, ⟨w.heap.size, w.heap.size + 1, Nat.le_refl _, by omega, by omega, rfl, H2.out, H1.out⟩, Hb.out⟩
theorem eql_nilI (a : Option Addr) (l c : Nat) (w : World) : (binOp .eql 36 (.slice a l c) (.slice none 0 0)).run Try.prog w = .ok (.bool a.isNone) w := by
  simp only [binOp]
  simp [run_equal_slice_nil w 36 _ a l c Try.underlying36]
set_option maxHeartbeats 1000000 in
theorem clone_any (l : List Int) (v : Value) (w : World) (hv : Ints w v l) (h0 : 0 < l.length) (hl : l.length * 8 ≤ 140737488355328) : Calls Try.prog 63 #[v] w fun e w' => ∃ u, e = .returned u ∧ IRow w' w.heap.size u l ∧ Below w.heap.size w w' := by
  obtain ⟨i0, hi, hz0, hz1, hz2⟩ := info_parts info_int
  obtain ⟨a, cap, rfl, hc⟩ := hv
  obtain ⟨g, o, rfl, hg, hc⟩ := hc h0
  have HC := hide hc
  have hG := hg
  obtain ⟨n, eN⟩ : ∃ n, Hid (l.length = n) := ⟨_, hide rfl⟩
  rw [eN.out] at h0 hl ⊢
  clear hc
  have EQ := eql_nilI (some ⟨g, o, none⟩) n cap
  have HO : Hid ((w.alloc (.cells #[] 3)).ownsRow w.heap.size 3 1 (.slice (some ⟨w.heap.size, 0, none⟩) 0 0) 0 []) := hide ⟨rfl, .inr ⟨w.heap.size, 0, #[], rfl, Nat.le_refl _, heap_alloc_new _ _, Nat.le_refl _, by unfold maxLen; omega, rfl, rfl⟩⟩
  go_enter Try.func63, Try.ntmps63
  go_wp2_with (at_builtin; refine wpList_append_own _ rfl (.tmp 5) (.tmp 6) 36 rfl w.heap.size 3 i0 _ 1 8 Try.underlying36 hi hz0 hz1 hz2 rfl (by decide) _ _ _ rfl HO.out ⟨g, o, none⟩ n cap (l.map (Value.int .i64)) rfl ?c0 ?c1 ?c2 ?c3 ?c4 ?c5 ?_)
  case c0 => rw [List.length_map, eN.out]; omega
  case c1 =>
    intro j u hu
    have hj : j < l.length := by have := (List.getElem?_eq_some_iff.1 hu).1; simpa using this
    rw [add_plain', ((below_alloc w _).cell (p := ⟨g, o + j, none⟩) hG), HC.out j hj]
    rw [List.getElem?_map, List.getElem?_eq_getElem hj] at hu
    rw [List.getD, List.getElem?_eq_getElem hj]
    exact hu
  case c2 =>
    intro u hu
    obtain ⟨x, _, rfl⟩ := List.mem_map.1 hu
    rfl
  case c3 => unfold maxLen; omega
  case c4 => omega
  case c5 => rw [size_alloc]; omega
  intro v' w5 hown5 hgrow5 _
  have HR5 : Hid (IRow w5 w.heap.size v' l) := by
    show World.ownsRow _ _ _ _ _ _ _
    rw [eN.out]
    simpa using hown5
  have HB5 : Hid (Below w.heap.size w w5) := hide ((below_alloc w _).grown hgrow5 (by rw [size_alloc]; omega) (fun j e => (HO.out.lt j e).1))
  clear hown5 hgrow5 HO hi hz0 hz1 hz2
  obtain ⟨ao5, cap5, rfl⟩ := HR5.out.shape
  go_wp2_with fail
  go_ret
  exact ⟨_, rfl, HR5.out, HB5.out⟩
end Go.Proofs.Ytimkfipiebppiaa
