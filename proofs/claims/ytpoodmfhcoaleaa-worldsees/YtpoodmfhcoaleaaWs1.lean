/- What units see: pure; lists that came in with their bounds; package world's truth. -/
import Derived.Test.YtpoodmfhcoaleaaWdO
import Derived.Test.YtpoodmfhcoaleaaOp0
import Derived.Test.YtpoodmfhcoaleaaKrX
import Derived.Test.YtpoodmfhcoaleaaGn4
namespace Go.Proofs.Ytpoodmfhcoaleaa
open Go.RowKit Go.Great Go.Deep Go.WideShapes Go.ChangeShapes

/-- what a unit tells that is not off -/
def seeT (o : Wo) (s : Int) : List Int := if s = 1 then [o.h / 16, o.r, 0, 0] else if s = 2 then [o.p2 / 6400, o.v2] else if s = 3 then [o.p0 / 6400, o.p1 / 6400, o.v0, o.v1] else []
/-- the first i numbers are off -/
def addN (t f : List Int) (i : Nat) : List Int := (List.range t.length).map fun j => if j < i then sat (t.getD j 0 + f.getD j 0) else t.getD j 0
theorem addN_len (t f : List Int) (i : Nat) : (addN t f i).length = t.length := by simp [addN]
theorem addN_at (t f : List Int) (i j : Nat) (h : j < t.length) : (addN t f i).getD j 0 = if j < i then sat (t.getD j 0 + f.getD j 0) else t.getD j 0 := by
  unfold addN
  rw [List.getD, List.getElem?_map, List.getElem?_range h]
  rfl
theorem list_extS {a b : List Int} (hl : a.length = b.length) (h : ∀ i, i < a.length → a.getD i 0 = b.getD i 0) : a = b := list_ext0 hl h
theorem addN_zero (t f : List Int) : addN t f 0 = t := by
  refine list_extS (addN_len t f 0) fun i hi => ?_
  rw [addN_len] at hi
  rw [addN_at t f 0 i hi, if_neg (by omega)]
theorem addN_step (t f : List Int) (i : Nat) (h : i < t.length) : (addN t f i).set i (sat (t.getD i 0 + f.getD i 0)) = addN t f (i + 1) := by
  refine list_extS (by rw [List.length_set, addN_len, addN_len]) fun j hj => ?_
  rw [List.length_set, addN_len] at hj
  rw [addN_at t f (i + 1) j hj]
  by_cases e : j = i
  · subst e
    rw [List.getD, List.getElem?_set_self (by rw [addN_len]; exact h), if_pos (by omega)]
    rfl
  · rw [List.getD, List.getElem?_set_ne (fun q => e q.symm)]
    have := addN_at t f i j hj
    rw [List.getD] at this
    rw [this]
    by_cases q : j < i
    · rw [if_pos q, if_pos (by omega)]
    · rw [if_neg q, if_neg (by omega)]
/-- what a unit tells -/
def seeO (o : Wo) (s : Int) (f : List Int) : List Int := if s = 1 then (addN (seeT o s) f (min (seeT o s).length f.length)).set 0 ((addN (seeT o s) f (min (seeT o s).length f.length)).getD 0 0 % 65536) else addN (seeT o s) f (min (seeT o s).length f.length)
theorem seeT_len (o : Wo) (s : Int) : (seeT o s).length ≤ 4 ∧ (s = 1 → (seeT o s).length = 4) := by
  unfold seeT
  split
  · exact ⟨by simp, fun _ => rfl⟩
  · rename_i h
    refine ⟨?_, fun e => absurd e h⟩
    split
    · simp
    · split <;> simp
theorem seeO_len (o : Wo) (s : Int) (f : List Int) : (seeO o s f).length ≤ 4 := by
  have := (seeT_len o s).1
  unfold seeO
  split
  · rw [List.length_set, addN_len]; exact this
  · rw [addN_len]; exact this
theorem seeT_ok {o : Wo} (ho : WOk o) (s : Int) : ∀ j, I64 ((seeT o s).getD j 0) := by
  have d16 : ∀ x : Int, I64 x → I64 (x / 16) := fun x hx => by unfold I64 at hx ⊢; omega
  have d64 : ∀ x : Int, I64 x → I64 (x / 6400) := fun x hx => by unfold I64 at hx ⊢; omega
  intro j
  unfold seeT
  split
  · match j with
    | 0 => exact d16 _ ho.h
    | 1 => exact ho.r
    | 2 => exact i64_0
    | 3 => exact i64_0
    | _ + 4 => exact i64_0
  · split
    · match j with
      | 0 => exact d64 _ ho.p2
      | 1 => exact ho.v2
      | _ + 2 => exact i64_0
    · split
      · match j with
        | 0 => exact d64 _ ho.p0
        | 1 => exact d64 _ ho.p1
        | 2 => exact ho.v0
        | 3 => exact ho.v1
        | _ + 4 => exact i64_0
      · exact i64_0
/-- a list of ints in a new block, or none -/
def NewL (w : World) (base : Nat) (v : Value) (l : List Int) : Prop := (v = .slice none 0 0 ∧ l = []) ∨ ∃ g, v = .slice (some ⟨g, 0, none⟩) l.length l.length ∧ base ≤ g ∧ Blk w g (rowI l) 3
theorem rowI_set (l : List Int) (i : Nat) (x : Int) : (rowI l).setIfInBounds i (.int .i64 x) = rowI (l.set i x) := by
  unfold rowI
  rw [List.setIfInBounds_toArray, List.map_set]
theorem rowI_get (l : List Int) (i : Nat) (h : i < l.length) : (rowI l)[i]? = some (.int .i64 (l.getD i 0)) := by
  unfold rowI
  rw [List.getElem?_toArray, List.getElem?_map, List.getD, List.getElem?_eq_getElem h]
  rfl
theorem NewL.irow {w : World} {base : Nat} {v : Value} {l : List Int} (h : NewL w base v l) (hl : l.length ≤ 4) : IRow w base v l := by
  rcases h with ⟨rfl, rfl⟩ | ⟨g, rfl, hg, hB⟩
  · exact IRow.nil _ _
  · refine ⟨by simp, .inr ⟨g, l.length, rowI l, rfl, hg, hB, Nat.le_refl _, ?_, by simp [rowI], ?_⟩⟩
    · exact Nat.le_trans hl (by decide)
    · simp [rowI, List.take_of_length_le]
theorem NewL.shape {w : World} {base : Nat} {v : Value} {l : List Int} (h : NewL w base v l) : ∃ a, v = .slice a l.length l.length := by
  rcases h with ⟨rfl, rfl⟩ | ⟨g, rfl, _⟩
  · exact ⟨none, rfl⟩
  · exact ⟨_, rfl⟩
section
theorem one_off {H : Type} {enc : TypeId × Value → H} {W : World} (n : Nat) (cs : List Value) (y : DataW H × List MemPlace) (h : DataW.trod enc Try.prog W 0 (fun _ => true) true n 3 cs = some y) (_ : cs.length = 1) : ∃ x, I64 x ∧ cs = [Value.int .i64 x] := by
  obtain ⟨b, e1, _, w1⟩ := DataW.trod_int Try.underlying3 h
  exact ⟨b, wf_i64 w1, e1⟩
set_option maxRecDepth 100000 in
/-- a list that came in, its numbers ints -/
theorem open_offs {H : Type} {enc : TypeId × Value → H} {W : World} {v : Value} {d : DataW H} {p : List MemPlace} {r : Reach} {b0 : Nat} (hok : Value.okWide Try.prog W r b0 34 v) (h : DataW.Trod enc Try.prog W 0 (fun _ => true) true 34 v d p) (hw : ∀ q ∈ d.weights Try.prog 34, q ≤ reachBytes) : ∃ ns, (∀ j, I64 (ns.getD j 0)) ∧ IntsIn W v ns := by
  obtain ⟨ns, hI, hnil, hlen⟩ := open_list hok h hw
  obtain ⟨ad, ln, cp, rfl⟩ := okWide_slice Try.underlying34 hok
  obtain ⟨fuel, hf⟩ := h
  obtain ⟨L, h1, h2, _⟩ := open_rws (k := 1) (cel := fun x => [Value.int .i64 x]) (ok := I64) (by omega) (fun _ => rfl) Try.underlying34 (by kernel_rfl) (fun n cs y h hl => one_off n cs y h hl) hf
  obtain ⟨_, a, cap, e, hc⟩ := h2
  have hl : ns.length = L.length := by
    obtain ⟨_, _, e2, _⟩ := hI
    rw [e] at e2
    injection e2 with _ e2 _
    exact e2.symm
  refine ⟨L, fun j => ?_, ⟨a, cap, e, fun h0 => ?_⟩, hnil, by rw [← hl]; exact hlen⟩
  · by_cases hj : j < L.length
    · rw [List.getD, List.getElem?_eq_getElem hj]
      exact h1 _ (List.getElem_mem hj)
    · rw [List.getD, List.getElem?_eq_none (by omega)]
      exact i64_0
  · obtain ⟨g, of, ea, hg, hcx⟩ := hc h0
    refine ⟨g, of, ea, hg, fun i hi => ?_⟩
    have := hcx i L[i] (by simp [hi]) 0 (.int .i64 L[i]) rfl
    rw [Nat.mul_one, Nat.add_zero] at this
    rw [this, List.getD, List.getElem?_eq_getElem hi]
    rfl
end
theorem truth_none (o : Wo) (s : Int) (w : World) (h1 : ¬ s = 1) (h2 : ¬ s = 2) (h3 : ¬ s = 3) : Calls Try.prog 28 #[woV o, .int .u8 s] w fun e w' => ∃ v, e = .returned v ∧ NewL w' w.heap.size v (seeT o s) ∧ Below w.heap.size w w' := by
  have E : seeT o s = [] := by unfold seeT; rw [if_neg h1, if_neg h2, if_neg h3]
  rw [E]
  have e1 : (s == 1) = false := by simp [h1]
  have e2 : (s == 2) = false := by simp [h2]
  have e3 : (s == 3) = false := by simp [h3]
  clear h1 h2 h3 E
  have Hb := hide (below_alloc w (.cells (woA o) 24))
  go_enter Try.func28, Try.ntmps28
  go_wp2_with fail
  go_ret
  exact ⟨_, rfl, .inl ⟨rfl, rfl⟩, Hb.out⟩
set_option maxHeartbeats 1000000 in
theorem truth_one (o : Wo) (ho : WOk o) (w : World) : Calls Try.prog 28 #[woV o, .int .u8 1] w fun e w' => ∃ v, e = .returned v ∧ NewL w' w.heap.size v (seeT o 1) ∧ Below w.heap.size w w' := by
  have E : seeT o 1 = [o.h / 16, o.r, 0, 0] := by unfold seeT; simp
  rw [E]
  clear E
  have D0 := hide (fun W => overW_any o.h 16 W ho.h (by decide))
  generalize o.h / 16 = y0 at *
  have HA := hide (Blk.new w (woA o) 24)
  have Hb := hide (below_alloc w (.cells (woA o) 24))
  clear ho
  go_enter Try.func28, Try.ntmps28
  go_upto_region 1 with fail
  generalize w.alloc (.cells (woA o) 24) = W0 at *
  have c0 : W0.cell? ⟨w.heap.size, 6, none⟩ = some (.int .i64 o.h) := HA.out.cell 6 rfl
  have c1 : W0.cell? ⟨w.heap.size, 7, none⟩ = some (.int .i64 o.r) := HA.out.cell 7 rfl
  go_wp2_with fail
  refine reg_two 5 _ _ rfl rfl rfl rfl (by kernel_rfl) (by kernel_rfl) (by kernel_rfl) (by kernel_rfl) ?_
  simp only [List.take_succ_cons, List.take_zero]
  repeat (quiet_step (first | (go_at_call_of 32 (Value.int IntKind.i64 o.h); exact Calls.quiet_of_same (D0.out _))))
  refine wpQuiet_nil ?_
  intro nq
  go_simp
  go_wp2_with fail
  go_ret
  exact ⟨_, rfl, .inr ⟨_, rfl, by have := (below_drewN Hb.out nq).size; exact this, Blk.new _ _ _⟩, below_next (below_drewN Hb.out nq) (Nat.le_refl _) (below_alloc _ _)⟩
set_option maxHeartbeats 1000000 in
theorem truth_two (o : Wo) (ho : WOk o) (w : World) : Calls Try.prog 28 #[woV o, .int .u8 2] w fun e w' => ∃ v, e = .returned v ∧ NewL w' w.heap.size v (seeT o 2) ∧ Below w.heap.size w w' := by
  have E : seeT o 2 = [o.p2 / 6400, o.v2] := by unfold seeT; simp
  rw [E]
  clear E
  have D0 := hide (fun W => overW_any o.p2 6400 W ho.p2 (by decide))
  generalize o.p2 / 6400 = y0 at *
  have HA := hide (Blk.new w (woA o) 24)
  have Hb := hide (below_alloc w (.cells (woA o) 24))
  clear ho
  go_enter Try.func28, Try.ntmps28
  go_upto_region 1 with fail
  generalize w.alloc (.cells (woA o) 24) = W0 at *
  have c0 : W0.cell? ⟨w.heap.size, 2, none⟩ = some (.int .i64 o.p2) := HA.out.cell 2 rfl
  have c1 : W0.cell? ⟨w.heap.size, 5, none⟩ = some (.int .i64 o.v2) := HA.out.cell 5 rfl
  go_wp2_with fail
  refine reg_two 7 _ _ rfl rfl rfl rfl (by kernel_rfl) (by kernel_rfl) (by kernel_rfl) (by kernel_rfl) ?_
  simp only [List.take_succ_cons, List.take_zero]
  repeat (quiet_step (first | (go_at_call_of 32 (Value.int IntKind.i64 o.p2); exact Calls.quiet_of_same (D0.out _))))
  refine wpQuiet_nil ?_
  intro nq
  go_simp
  go_wp2_with fail
  go_ret
  exact ⟨_, rfl, .inr ⟨_, rfl, by have := (below_drewN Hb.out nq).size; exact this, Blk.new _ _ _⟩, below_next (below_drewN Hb.out nq) (Nat.le_refl _) (below_alloc _ _)⟩
set_option maxHeartbeats 1000000 in
theorem truth_three (o : Wo) (ho : WOk o) (w : World) : Calls Try.prog 28 #[woV o, .int .u8 3] w fun e w' => ∃ v, e = .returned v ∧ NewL w' w.heap.size v (seeT o 3) ∧ Below w.heap.size w w' := by
  have E : seeT o 3 = [o.p0 / 6400, o.p1 / 6400, o.v0, o.v1] := by unfold seeT; simp
  rw [E]
  clear E
  have D0 := hide (fun W => overW_any o.p0 6400 W ho.p0 (by decide))
  have D1 := hide (fun W => overW_any o.p1 6400 W ho.p1 (by decide))
  generalize o.p0 / 6400 = y0 at *
  generalize o.p1 / 6400 = y1 at *
  have HA := hide (Blk.new w (woA o) 24)
  have Hb := hide (below_alloc w (.cells (woA o) 24))
  clear ho
  go_enter Try.func28, Try.ntmps28
  go_upto_region 1 with fail
  generalize w.alloc (.cells (woA o) 24) = W0 at *
  have c0 : W0.cell? ⟨w.heap.size, 0, none⟩ = some (.int .i64 o.p0) := HA.out.cell 0 rfl
  have c1 : W0.cell? ⟨w.heap.size, 1, none⟩ = some (.int .i64 o.p1) := HA.out.cell 1 rfl
  have c2 : W0.cell? ⟨w.heap.size, 3, none⟩ = some (.int .i64 o.v0) := HA.out.cell 3 rfl
  have c3 : W0.cell? ⟨w.heap.size, 4, none⟩ = some (.int .i64 o.v1) := HA.out.cell 4 rfl
  go_wp2_with fail
  refine reg_two 14 _ _ rfl rfl rfl rfl (by kernel_rfl) (by kernel_rfl) (by kernel_rfl) (by kernel_rfl) ?_
  simp only [List.take_succ_cons, List.take_zero]
  repeat (quiet_step (first | (go_at_call_of 32 (Value.int IntKind.i64 o.p0); exact Calls.quiet_of_same (D0.out _)) | (go_at_call_of 32 (Value.int IntKind.i64 o.p1); exact Calls.quiet_of_same (D1.out _))))
  refine wpQuiet_nil ?_
  intro nq
  go_simp
  go_wp2_with fail
  go_ret
  exact ⟨_, rfl, .inr ⟨_, rfl, by have := (below_drewN Hb.out nq).size; exact this, Blk.new _ _ _⟩, below_next (below_drewN Hb.out nq) (Nat.le_refl _) (below_alloc _ _)⟩
theorem truth_any (o : Wo) (ho : WOk o) (s : Int) (w : World) : Calls Try.prog 28 #[woV o, .int .u8 s] w fun e w' => ∃ v, e = .returned v ∧ NewL w' w.heap.size v (seeT o s) ∧ Below w.heap.size w w' := by
  by_cases h1 : s = 1
  · subst h1; exact truth_one o ho w
  · by_cases h2 : s = 2
    · subst h2; exact truth_two o ho w
    · by_cases h3 : s = 3
      · subst h3; exact truth_three o ho w
      · exact truth_none o s w h1 h2 h3
end Go.Proofs.Ytpoodmfhcoaleaa
