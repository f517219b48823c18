/- Deeds that came in, opened; StoreKeeps. -/
import Derived.Test.YtcjahdgppnmdkaaLwKe
set_option maxRecDepth 100000
namespace Go.Proofs.Ytcjahdgppnmdkaa
open Go.RowKit Go.Great Go.Deep Go.WideShapes Go.ChangeShapes

theorem cells6 {w : World} {a : Addr} {cs : List Value} (h : w.cells? 0 a 6 = some cs) : ∃ x0 x1 x2 x3 x4 x5, cs = [x0, x1, x2, x3, x4, x5] ∧ w.cell? (a.add 0) = some x0 ∧ w.cell? (a.add 1) = some x1 ∧ w.cell? (a.add 2) = some x2 ∧ w.cell? (a.add 3) = some x3 ∧ w.cell? (a.add 4) = some x4 ∧ w.cell? (a.add 5) = some x5 := by
  unfold World.cells? at h
  rw [if_pos (Nat.zero_le _)] at h
  simp [List.range_succ] at h
  cases h0 : w.cell? (a.add 0) with
  | none => simp [h0] at h
  | some x0 =>
    cases h1 : w.cell? (a.add 1) with
    | none => simp [h0, h1] at h
    | some x1 =>
      cases h2 : w.cell? (a.add 2) with
      | none => simp [h0, h1, h2] at h
      | some x2 =>
        cases h3 : w.cell? (a.add 3) with
        | none => simp [h0, h1, h2, h3] at h
        | some x3 =>
          cases h4 : w.cell? (a.add 4) with
          | none => simp [h0, h1, h2, h3, h4] at h
          | some x4 =>
            cases h5 : w.cell? (a.add 5) with
            | none => simp [h0, h1, h2, h3, h4, h5] at h
            | some x5 =>
              simp [h0, h1, h2, h3, h4, h5] at h
              exact ⟨x0, x1, x2, x3, x4, x5, h.symm, rfl, rfl, rfl, rfl, rfl, rfl⟩
set_option maxRecDepth 100000 in
set_option maxHeartbeats 1000000 in
theorem open_deeds {H : Type} {enc : TypeId × Value → H} {W : World} {v : Value} {d : DataW H} {p : List MemPlace} {r : Reach} {b0 : Nat} (hok : Value.okWide Try.prog W r b0 36 v) (h : DataW.Trod enc Try.prog W 0 (fun _ => true) true 36 v d p) (hw : ∀ q ∈ d.weights Try.prog 36, q ≤ reachBytes) : ∃ ds, DeedsIn W v ds := by
  obtain ⟨ad, ln, cp, rfl⟩ := okWide_slice Try.underlying36 hok
  obtain ⟨fuel, hf⟩ := h
  have e1 : (Value.slice ad ln cp).cells.toList = [.slice ad ln cp] := rfl
  rw [e1] at hf
  have hC : Try.prog.cellsOf 47 = 6 := by kernel_rfl
  rcases open_slice Try.underlying36 hf with ⟨hcs, _⟩ | ⟨a, len, cap, m, n, D, Pl, hcs, hb, hl, hmax, hm, hx, hel⟩
  · injection hcs with hcs _
    injection hcs with h1 h2 h3
    subst h1 h2 h3
    exact ⟨[], by simp, ⟨none, 0, rfl, fun h => absurd h (by simp)⟩, fun i hi => absurd hi (by simp)⟩
  · injection hcs with hcs _
    injection hcs with h1 h2 h3
    subst h1 h2 h3
    simp only [if_true] at hm
    have hd : d = .slice ((List.range ln).map D) ((List.range (m - ln)).map fun j => D (ln + j)) := congrArg Prod.fst hx
    have each : ∀ i, i < ln → ∃ f : Dd, (W.cell? ((a.add (i * 6)).add 0) = some (.int .i64 f.id) ∧ W.cell? ((a.add (i * 6)).add 1) = some (.string f.val) ∧ W.cell? ((a.add (i * 6)).add 2) = some (.bool f.arm) ∧ W.cell? ((a.add (i * 6)).add 3) = some (.int .i64 f.lf) ∧ W.cell? ((a.add (i * 6)).add 4) = some (.string f.jk) ∧ W.cell? ((a.add (i * 6)).add 5) = some f.bv) ∧ f.val.size ≤ 140737488351232 ∧ f.jk.size ≤ 140737488351232 ∧ CutsIn W f.bv f.cs := by
      intro i hi
      obtain ⟨cs, hc1, hc2⟩ := hel i (by omega)
      rw [hC] at hc1
      obtain ⟨x0, x1, x2, x3, x4, x5, rfl, c0, c1, c2, c3, c4, c5⟩ := cells6 hc1
      have hDw : ∀ q ∈ (D i).weights Try.prog 47, q ≤ reachBytes := fun q hq => hw q (by
        rw [hd]
        simp only [DataW.weights, Try.underlying36]
        exact List.mem_cons_of_mem _ (List.mem_append.2 (.inl (weights_all (d := D i) (List.mem_map.2 ⟨i, List.mem_range.2 hi, rfl⟩) hq))))
      obtain ⟨xs, k, _, hxx, _, hlen, hff⟩ := DataW.trod_struct Try.underlying47 hc2
      obtain ⟨y0, y1, y2, y3, y4, rfl⟩ : ∃ y0 y1 y2 y3 y4, xs = [y0, y1, y2, y3, y4] := by
        have hlen5 : xs.length = 5 := hlen
        match xs, hlen5 with
        | [y0, y1, y2, y3, y4], _ => exact ⟨y0, y1, y2, y3, y4, rfl⟩
      have t0 : DataW.trod enc Try.prog W 0 (fun _ => true) true k 3 [x0] = some y0 := hff 0 _ rfl
      have t1 : DataW.trod enc Try.prog W 0 (fun _ => true) true k 9 [x1] = some y1 := hff 1 _ rfl
      have t2 : DataW.trod enc Try.prog W 0 (fun _ => true) true k 4 [x2] = some y2 := hff 2 _ rfl
      have t3 : DataW.trod enc Try.prog W 0 (fun _ => true) true k 44 [x3, x4] = some y3 := hff 3 _ rfl
      have t4 : DataW.trod enc Try.prog W 0 (fun _ => true) true k 45 [x5] = some y4 := hff 4 _ rfl
      obtain ⟨z0, z1, k2, hzz, _, s0, s1⟩ := trod_struct2 Try.underlying44 t3
      have s0' : DataW.trod enc Try.prog W 0 (fun _ => true) true k2 3 [x3] = some z0 := s0
      have s1' : DataW.trod enc Try.prog W 0 (fun _ => true) true k2 9 [x4] = some z1 := s1
      obtain ⟨u0, q0, _, _⟩ := DataW.trod_int Try.underlying3 t0
      obtain ⟨u1, q1, p1, _⟩ := DataW.trod_string Try.underlying9 t1
      obtain ⟨u2, q2, _⟩ := DataW.trod_bool Try.underlying4 t2
      obtain ⟨u3, q3, _, _⟩ := DataW.trod_int Try.underlying3 s0'
      obtain ⟨u4, q4, p4, _⟩ := DataW.trod_string Try.underlying9 s1'
      simp at q0 q1 q2 q3 q4
      subst q0 q1 q2 q3 q4
      have hD : D i = .agg [y0.1, y1.1, y2.1, y3.1, y4.1] := congrArg Prod.fst hxx
      have hy3 : y3.1 = .agg [z0.1, z1.1] := congrArg Prod.fst hzz
      have hz1 : u1.data.toList.length ≤ reachBytes := hDw _ (by
        rw [hD, p1]
        simp [DataW.weights, DataW.weightsEach, Try.underlying47])
      have hz4 : u4.data.toList.length ≤ reachBytes := hDw _ (by
        rw [hD, hy3, p4]
        simp [DataW.weights, DataW.weightsEach, Try.underlying47, Try.underlying44])
      obtain ⟨cs, hcs⟩ := open_cuts t4 (fun q hq => hDw q (by
        rw [hD]
        simp [DataW.weights, Try.underlying47]
        exact DataW.weights_mem_each (j := 4) rfl rfl q hq))
      rw [list_size] at hz1 hz4
      exact ⟨⟨u0, u1, u2, u3, u4, x5, cs⟩, ⟨c0, c1, c2, c3, c4, c5⟩, hz1, hz4, hcs⟩
    obtain ⟨F, hF⟩ := @choose_lt Dd ⟨ddz⟩ _ _ each
    have hget : ∀ i, i < ln → ((List.range ln).map F).getD i ddz = F i := fun i hi => by
      rw [List.getD, List.getElem?_map, List.getElem?_range hi]; rfl
    refine ⟨(List.range ln).map F, ?_, ⟨some a, cp, ?_, ?_⟩, ?_⟩
    · rw [List.length_map, List.length_range]; unfold maxLen at hmax; omega
    · rw [List.length_map, List.length_range]
    · intro h0
      rw [List.length_map, List.length_range] at h0
      have hp := hF 0 h0
      have ha : a.add (0 * 6) = a := by simp [Addr.add]
      have ha0 : a.add 0 = a := by simp [Addr.add]
      have hp0 := hp.1.1
      rw [ha, ha0] at hp0
      obtain ⟨e, hbl⟩ := plain_cell hp0
      refine ⟨a.block, a.off, by rw [← e], hbl, fun i hi => ?_⟩
      rw [List.length_map, List.length_range] at hi
      have hq := (hF i hi).1
      rw [e, add_two, add_two, add_two, add_two, add_two, add_two, Nat.add_zero] at hq
      rw [hget i hi]
      exact hq
    · intro i hi
      rw [List.length_map, List.length_range] at hi
      rw [hget i hi]
      exact (hF i hi).2
theorem StoreKeeps_walk (v : Value) (w : World) (h : ∃ ds, DeedsIn w v ds) : Calls Try.prog 4 #[v] w fun e w' => e = .returned (.bool true) ∧ Below w.heap.size w w' := by
  obtain ⟨ds, hd⟩ := h
  exact keeps_walk v ds w hd
end Go.Proofs.Ytcjahdgppnmdkaa
