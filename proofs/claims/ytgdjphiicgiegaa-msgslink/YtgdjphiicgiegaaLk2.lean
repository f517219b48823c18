/- A list of messages that came in, opened; two lists of messages that are the same. -/
import Derived.Test.YtgdjphiicgiegaaLk1
import Derived.Deep.DeepCutAuto
namespace Go.Proofs.Ytgdjphiicgiegaa
open Go.RowKit Go.Great Go.Deep Go.WideShapes Go.ChangeShapes

def kuL (ms : List (Int × Value × List Int)) : List (Int × Value) := ms.map fun m => (m.1, m.2.1)
theorem kuL_len (ms : List (Int × Value × List Int)) : (kuL ms).length = ms.length := by simp [kuL]
/-- a slice of messages that came in -/
def MsgsIn (w : World) (v : Value) (ms : List (Int × Value × List Int)) : Prop :=
  ms.length ≤ maxLen ∧ MsL w v (kuL ms) ∧ ∀ m ∈ ms, 0 ≤ m.1 ∧ m.1 ≤ 255 ∧ IntsIn w m.2.1 m.2.2
theorem weightsAll_mem {H : Type} {P : Program} {e : TypeId} {q : Nat} {d : DataW H} : ∀ {l : List (DataW H)}, d ∈ l → q ∈ d.weights P e → q ∈ DataW.weightsAll P e l
  | [], h, _ => by simp at h
  | x :: r, h, hq => by
    simp only [DataW.weightsAll, List.mem_append]
    rcases List.mem_cons.1 h with rfl | h
    · exact .inl hq
    · exact .inr (weightsAll_mem h hq)
theorem open_msgs {H : Type} {enc : TypeId × Value → H} {W : World} {v : Value} {d : DataW H} {p : List MemPlace} {r : Reach} {b0 : Nat} (hok : Value.okWide Try.prog W r b0 41 v) (h : DataW.Trod enc Try.prog W 0 (fun _ => true) true 41 v d p) (hw : ∀ q ∈ d.weights Try.prog 41, q ≤ reachBytes) : ∃ ms, MsgsIn W v ms := by
  obtain ⟨ad, ln, cp, rfl⟩ := okWide_slice Try.underlying41 hok
  obtain ⟨fuel, hf⟩ := h
  have e1 : (Value.slice ad ln cp).cells.toList = [.slice ad ln cp] := rfl
  rw [e1] at hf
  have hC : Try.prog.cellsOf 25 = 2 := by kernel_rfl
  rcases open_slice Try.underlying41 hf with ⟨hcs, _⟩ | ⟨a, len, cap, m, n, D, Pl, hcs, hb, hl, hmax, hm, hx, hel⟩
  · injection hcs with hcs _
    injection hcs with h1 h2 h3
    subst h1 h2 h3
    exact ⟨[], by simp, ⟨none, 0, rfl, fun h => absurd h (by simp [kuL])⟩, fun m hm => by simp at hm⟩
  · injection hcs with hcs _
    injection hcs with h1 h2 h3
    subst h1 h2 h3
    simp only [if_true] at hm
    have hd : d = .slice ((List.range ln).map D) ((List.range (m - ln)).map fun j => D (ln + j)) := congrArg Prod.fst hx
    have each : ∀ i, i < ln → ∃ f : Int × Value × List Int, W.cell? ((a.add (i * 2)).add 0) = some (.int .u8 f.1) ∧ W.cell? ((a.add (i * 2)).add 1) = some f.2.1 ∧ 0 ≤ f.1 ∧ f.1 ≤ 255 ∧ IntsIn W f.2.1 f.2.2 := by
      intro i hi
      obtain ⟨cs, hc1, hc2⟩ := hel i (by omega)
      rw [hC] at hc1
      obtain ⟨x, y, rfl, c0, c1⟩ := cells2 hc1
      obtain ⟨y0, y1, k, hxx, _, t0, t1⟩ := trod_struct2 Try.underlying25 hc2
      have t0' : DataW.trod enc Try.prog W 0 (fun _ => true) true k 22 [x] = some y0 := t0
      have t1' : DataW.trod enc Try.prog W 0 (fun _ => true) true k 23 [y] = some y1 := t1
      obtain ⟨u0, q0, _, w0⟩ := DataW.trod_int Try.underlying22 t0'
      simp at q0
      subst q0
      have hD : D i = .agg [y0.1, y1.1] := congrArg Prod.fst hxx
      obtain ⟨ns, hns⟩ := open_ints t1' (fun q hq => hw q (by
        rw [hd]
        simp only [DataW.weights, Try.underlying41]
        refine List.mem_cons_of_mem _ (List.mem_append.2 (.inl (weightsAll_mem (d := D i) (List.mem_map.2 ⟨i, List.mem_range.2 hi, rfl⟩) ?_)))
        rw [hD]
        simp [DataW.weights, DataW.weightsEach, Try.underlying25]
        exact .inr hq))
      obtain ⟨c, hk⟩ := wf_u8 w0
      have hcl := c.toNat_lt
      exact ⟨(u0, y, ns), c0, c1, by show 0 ≤ u0; omega, by show u0 ≤ 255; omega, hns⟩
    obtain ⟨F, hF⟩ := choose_lt each
    refine ⟨(List.range ln).map F, ?_, ⟨some a, cp, ?_, ?_⟩, ?_⟩
    · rw [List.length_map, List.length_range]; omega
    · rw [kuL_len, List.length_map, List.length_range]
    · intro h0
      rw [kuL_len, List.length_map, List.length_range] at h0
      have hp := hF 0 h0
      have ha : a.add (0 * 2) = a := by simp [Addr.add]
      have ha0 : a.add 0 = a := by simp [Addr.add]
      rw [ha, ha0] at hp
      obtain ⟨e, hbl⟩ := plain_of hp.1
      refine ⟨a.block, a.off, by rw [← e], hbl, fun i hi => ?_⟩
      rw [kuL_len, List.length_map, List.length_range] at hi
      have hq := hF i hi
      rw [e, add_add', add_add', Nat.add_zero] at hq
      simp only [kuL, List.getElem_map, List.getElem_range]
      exact ⟨hq.1, hq.2.1⟩
    · intro f hf
      rw [List.mem_map] at hf
      obtain ⟨i, hi, rfl⟩ := hf
      exact (hF i (List.mem_range.1 hi)).2.2
set_option maxHeartbeats 1000000 in
theorem samelist_true (A B : List (Int × Value)) (C : List (List Int)) (v u : Value) (w : World) (hA : MsL w v A) (hB : MsL w u B) (hAB : A.length = B.length) (hAC : A.length = C.length) (he : ∀ i (h : i < A.length), A[i].1 = (B[i]'(by omega)).1 ∧ Ints w A[i].2 (C[i]'(by omega)) ∧ Ints w (B[i]'(by omega)).2 (C[i]'(by omega)) ∧ (C[i]'(by omega)).length ≤ 7) (hl : A.length ≤ 4611686018427387904) : Calls Try.prog 21 #[v, u] w fun e w' => e = .returned (.bool true) ∧ Below w.heap.size w w' := by
  obtain ⟨a, ca, rfl, ha⟩ := hA
  obtain ⟨b, cb, rfl, hb⟩ := hB
  obtain ⟨n, hn⟩ : ∃ n, A.length = n := ⟨_, rfl⟩
  have HN := hide hn
  have HNB : Hid (B.length = n) := by show _ = _; omega
  rw [hn] at hl ⊢
  rw [HNB.out]
  have HA := hide ha
  have HB := hide hb
  have HE := hide he
  have hx2 : ((n : Int) != (n : Int)) = false := by simp
  clear ha hb hn he
  go_enter Try.func21, Try.ntmps21
  go_wp2_with fail
  go_loopw [5] (fun i wx => ∃ k : Nat, k ≤ n ∧ i = .int .i64 k ∧ Below w.heap.size w wx) (fun i _ => n - (intOf i).toNat)
  case atStart => exact ⟨0, by omega, rfl, Below.refl _ _⟩
  case round =>
    obtain ⟨k, hk, rfl, hBw⟩ := hrel
    by_cases hlt : k < n
    · obtain ⟨ga, oa, rfl, hga, hca⟩ := HA.out (by rw [HN.out]; omega)
      obtain ⟨gb, ob, rfl, hgb, hcb⟩ := HB.out (by rw [HNB.out]; omega)
      obtain ⟨f1, f2, f3, f4⟩ := HE.out k (by rw [HN.out]; exact hlt)
      have a0 := (hBw.cell (p := ⟨ga, oa + k * 2, none⟩) hga).trans (hca k (by rw [HN.out]; exact hlt)).1
      have a1 := (hBw.cell (p := ⟨ga, oa + k * 2 + 1, none⟩) hga).trans (hca k (by rw [HN.out]; exact hlt)).2
      have b0 := (hBw.cell (p := ⟨gb, ob + k * 2, none⟩) hgb).trans (hcb k (by rw [HNB.out]; exact hlt)).1
      have b1 := (hBw.cell (p := ⟨gb, ob + k * 2 + 1, none⟩) hgb).trans (hcb k (by rw [HNB.out]; exact hlt)).2
      rw [← f1] at b0
      have hsm := same_true5 (A[k]'(by rw [HN.out]; exact hlt)).1 (C[k]'(by rw [← hAC, HN.out]; exact hlt)) _ _ wr (f2.below hBw) (f3.below hBw) (by omega)
      have hsmd := fun q => same_true5 (A[k]'(by rw [HN.out]; exact hlt)).1 (C[k]'(by rw [← hAC, HN.out]; exact hlt)) _ _ (wr.drewN q) ((f2.below hBw).drewN q) ((f3.below hBw).drewN q) (by omega)
      obtain ⟨xa, ya, exa, _⟩ := f2
      obtain ⟨xb, yb, exb, _⟩ := f3
      generalize (A[k]'(by rw [HN.out]; exact hlt)).1 = kk at a0 b0 hsm hsmd
      rw [exa] at a1 hsm hsmd
      rw [exb] at b1 hsm hsmd
      generalize (C[k]'(by rw [← hAC, HN.out]; exact hlt)).length = ln at a1 b1 hsm hsmd
      have HBw := hide hBw
      have hga2 : ga < wr.heap.size := Nat.lt_of_lt_of_le hga hBw.size
      have hgb2 : gb < wr.heap.size := Nat.lt_of_lt_of_le hgb hBw.size
      clear hBw hca hcb HA HB HE f1 f4 exa exb
      have hk0 : (0 : Int) ≤ (k : Int) := by omega
      have hk1 : (k : Int) < (n : Int) := by omega
      go_wp2_with fail
      go_cut [26] (fun v wx => v = .bool false ∧ Below w.heap.size w wx)
      case first =>
        go_region_held3 (fun wx => wx.cell? ⟨ga, oa + k * 2, none⟩ = some (.int .u8 kk) ∧ wx.cell? ⟨ga, oa + k * 2 + 1, none⟩ = some (.slice xa ln ya) ∧ wx.cell? ⟨gb, ob + k * 2, none⟩ = some (.int .u8 kk) ∧ wx.cell? ⟨gb, ob + k * 2 + 1, none⟩ = some (.slice xb ln yb)) (go_keep) (first | (go_at_call 16; refine (hsmd 1).mono ?_; rintro e w1 ⟨rfl, hB1⟩; have HB1 : Hid (Below wr.heap.size wr w1) := below_undrew hB1; have r0 := (HB1.out.cell (p := ⟨ga, oa + k * 2, none⟩) hga2).trans a0; have r1 := (HB1.out.cell (p := ⟨ga, oa + k * 2 + 1, none⟩) hga2).trans a1; have r2 := (HB1.out.cell (p := ⟨gb, ob + k * 2, none⟩) hgb2).trans b0; have r3 := (HB1.out.cell (p := ⟨gb, ob + k * 2 + 1, none⟩) hgb2).trans b1; clear hB1))
        all_goals go_wp2_with fail
        all_goals go_meet
        all_goals exact ⟨rfl, below_next HBw.out (Nat.le_refl _) HB1.out⟩
      case rest =>
        obtain ⟨rfl, hBc⟩ := hcut
        have HBc := hide hBc
        clear hBc a0 a1 b0 b1 hsm hsmd
        go_wp2_with fail
        go_roundw
        case rel => exact ⟨k + 1, by omega, by go_num, HBc.out⟩
        case measure => simp [intOf]; omega
    · have HBw := hide hBw
      clear hBw
      go_wp2_with fail
      go_ret
      exact ⟨rfl, HBw.out⟩
end Go.Proofs.Ytgdjphiicgiegaa
