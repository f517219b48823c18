/- Lists that are lent, and whether they were kept. -/
import Derived.Test.YtpoodmfhcoaleaaIn0
import Derived.OwnWalk
namespace Go.Proofs.Ytpoodmfhcoaleaa
open Go.RowKit Go.Great

def mk4 (l : List Int) (t : Nat) : List Int := l ++ List.replicate t (-7770777)
theorem mk4_succ (l : List Int) (t : Nat) : mk4 l (t + 1) = mk4 l t ++ [-7770777] := by unfold mk4; rw [List.replicate_succ', List.append_assoc]
theorem mk4_len (l : List Int) (t : Nat) : (mk4 l t).length = l.length + t := by unfold mk4; simp
theorem ints_news {w : World} {ao : Option Addr} {l : List Int} {cap : Nat} (h : Ints w (.slice ao l.length cap) l) : ∀ ad, ao = some ad → ∀ j u, (l.map (Value.int .i64))[j]? = some u → w.cell? (ad.add j) = some u := by
  intro ad had j u hu
  obtain ⟨a, c, e, hc⟩ := h
  have hj : j < l.length := by
    have := (List.getElem?_eq_some_iff.1 hu).1
    simpa using this
  obtain ⟨g, o, e2, hg, hcc⟩ := hc (by omega)
  injection e with e3 _ _
  rw [had, e2] at e3
  injection e3 with e4
  subst e4
  rw [add_plain', hcc j hj]
  rw [List.getElem?_map, List.getElem?_eq_getElem hj] at hu
  rw [List.getD, List.getElem?_eq_getElem hj]
  exact hu
theorem map_one (l : List Int) : ∀ u ∈ l.map (Value.int .i64), u.oneCell' = true := by
  intro u hu
  rw [List.mem_map] at hu
  obtain ⟨x, _, rfl⟩ := hu
  rfl
set_option maxRecDepth 100000 in
set_option maxHeartbeats 1000000 in
theorem lentI_any (l : List Int) (v : Value) (w : World) (hv : Ints w v l) (hnil : ∀ n c, v = .slice none n c → c = 0) (hlen : l.length * 8 + 32 ≤ 140737488355328) : Calls Try.prog 10 #[v] w fun e w' => e = .returned (.slice (some ⟨w.heap.size, 0, none⟩) l.length (l.length + 4)) ∧ IRow w' w.heap.size (.slice (some ⟨w.heap.size, 0, none⟩) (l.length + 4) (l.length + 4)) (mk4 l 4) ∧ Below w.heap.size w w' := by
  obtain ⟨i0, hi, hz0, hz1, hz2⟩ := info_parts info_int
  have HV := hide hv
  obtain ⟨a, cap, rfl, hc0⟩ := hv
  have HNIL : Hid (a = none → l.length = 0 ∧ cap = 0) := by
    intro e
    subst e
    refine ⟨?_, hnil _ _ rfl⟩
    refine Decidable.byContradiction fun h => ?_
    obtain ⟨g, o, e, _⟩ := hc0 (by omega)
    cases e
  obtain ⟨n, hn⟩ : ∃ n, l.length = n := ⟨_, rfl⟩
  rw [hn] at hlen HNIL ⊢
  have HN := hide hn
  clear hn hc0 hnil
  have hw4 : IntKind.i64.wrap ((n : Int) + 4) = ((n + 4 : Nat) : Int) := by rw [IntKind.wrap_i64]; omega
  go_enter Try.func10, Try.ntmps10
  go_wp2_with (at_make; refine wpList_make_own _ rfl (.const (.int .i64 0)) (.tmp 7) 34 rfl w.heap.size 3 i0 _ 1 Try.underlying34 hi hz0 hz1 .i64 .i64 _ (n + 4) rfl rfl (by push_cast; rfl) ?b1 ?b2 ?b3 ?_)
  case b1 => rw [hz2]; omega
  case b2 => unfold maxLen; omega
  case b3 => exact Nat.le_refl _
  intro w1 hown1 hgrow1
  have HO1 := hide hown1
  have HB1 : Hid (Below w.heap.size w w1) := (Below.refl w.heap.size w).grown hgrow1 (Nat.le_refl _) (fun k e => by cases e)
  have HV1 : Hid (Ints w1 (.slice a l.length cap) l) := HV.out.below HB1.out
  rw [HN.out] at HV1
  clear hown1 hgrow1
  go_wp2_with (at_builtin; refine wpList_append_fits_any _ rfl (.tmp 9) (.tmp 10) 34 rfl w.heap.size 3 i0 1 Try.underlying34 hi hz1 w.heap.size 0 (n + 4) [] rfl HO1.out a n cap (l.map (Value.int .i64)) rfl ?a1 HNIL.out ?a2 (map_one l) ?a3 ?_)
  case a1 => rw [List.length_map, HN.out]; omega
  case a2 => exact ints_news (by rw [HN.out]; exact HV1.out)
  case a3 => omega
  intro w2 hown2 hgrow2
  have HB2 : Hid (Below w.heap.size w w2) := HB1.out.grown hgrow2 HB1.out.size (fun k e => by injection e with e; omega)
  have HO2 : Hid (IRow w2 w.heap.size (.slice (some ⟨w.heap.size, 0, none⟩) (n + 0) (n + 4)) (mk4 l 0)) := by
    show World.ownsRow _ _ _ _ _ _ _
    rw [mk4_len, HN.out]
    simpa [mk4] using hown2
  clear hown2 hgrow2 HV HV1 HNIL HO1 HB1
  go_wp2_with fail
  go_loopw [3, 4] (fun v i wx => ∃ t : Nat, t ≤ 4 ∧ i = .int .i64 t ∧ v = .slice (some ⟨w.heap.size, 0, none⟩) (n + t) (n + 4) ∧ IRow wx w.heap.size v (mk4 l t) ∧ Below w.heap.size w wx) (fun _ i _ => 4 - (intOf i).toNat)
  case atStart => exact ⟨0, by omega, rfl, rfl, HO2.out, HB2.out⟩
  case round =>
    obtain ⟨t, ht, rfl, rfl, hR, hB⟩ := hrel
    have HB := hide hB
    have HR := hide hR
    clear hR hB
    by_cases hlt : t < 4
    · have HO3 : Hid ((wr.alloc (.cells #[.int .i64 (-7770777)] 3)).ownsRow w.heap.size 3 1 (.slice (some ⟨w.heap.size, 0, none⟩) (n + t) (n + 4)) (n + t) ((mk4 l t).map (Value.int .i64))) := by
        have := HR.out.alloc (.cells #[.int .i64 (-7770777)] 3)
        unfold IRow at this
        rw [mk4_len, HN.out] at this
        exact this
      have hws := HB.out.size
      go_wp2_with (at_builtin; refine wpList_append_fits _ rfl (.tmp 16) (.tmp 17) 34 rfl w.heap.size 3 i0 1 Try.underlying34 hi hz1 w.heap.size (n + t) (n + 4) _ rfl HO3.out ⟨wr.heap.size, 0, none⟩ 1 1 [.int .i64 (-7770777)] rfl rfl ?c1 ?c2 ?c3 ?_)
      case c1 => exact new_cell1 _ _ rfl _ _
      case c2 => intro u hu; simp at hu; subst hu; rfl
      case c3 => omega
      intro w5 hown5 hgrow5
      have HR5 : Hid (IRow w5 w.heap.size (.slice (some ⟨w.heap.size, 0, none⟩) (n + t + 1) (n + 4)) (mk4 l (t + 1))) := by
        show World.ownsRow _ _ _ _ _ _ _
        rw [mk4_len, mk4_succ, HN.out, List.map_append]; exact hown5
      have HB5 : Hid (Below w.heap.size w w5) := (HB.out.alloc hws _).grown hgrow5 (by rw [size_alloc]; omega) (fun k e => by injection e with e; omega)
      clear hown5 hgrow5 HO3 hi hz0 hz1 hz2
      go_wp2_with fail
      go_roundw
      case rel => exact ⟨t + 1, by omega, by go_num, rfl, HR5.out, HB5.out⟩
      case measure => simp [intOf]; omega
    · obtain rfl : t = 4 := by omega
      clear hi hz0 hz1 hz2
      go_wp2_with fail
      go_ret
      exact ⟨rfl, HR.out, HB.out⟩
set_option maxHeartbeats 1000000 in
theorem sameInts_true (l : List Int) (v u : Value) (w : World) (hv : Ints w v l) (hu : Ints w u l) (hl : l.length ≤ 4611686018427387904) : Calls Try.prog 13 #[v, u] w fun e w' => e = .returned (.bool true) ∧ ∃ n, w' = w.drewN n := by
  obtain ⟨a, ca, rfl, ha⟩ := hv
  obtain ⟨b, cb, rfl, hb⟩ := hu
  obtain ⟨n, hn⟩ : ∃ n, l.length = n := ⟨_, rfl⟩
  rw [hn] at hl ha hb ⊢
  have HA := hide ha
  have HB := hide hb
  clear ha hb hn
  go_enter Try.func13, Try.ntmps13
  go_wp2_with fail
  go_loopw [5] (fun i wx => ∃ k q : Nat, k ≤ n ∧ i = .int .i64 k ∧ wx = w.drewN q) (fun i _ => n - (intOf i).toNat)
  case atStart => exact ⟨0, 0, by omega, rfl, rfl⟩
  case round =>
    obtain ⟨k, q, hk, rfl, hwr⟩ := hrel
    have HWR := hide hwr
    by_cases hlt : k < n
    · obtain ⟨ga, oa, rfl, _, hca⟩ := HA.out (by omega)
      obtain ⟨gb, ob, rfl, _, hcb⟩ := HB.out (by omega)
      have d1 : wr.cell? ⟨ga, oa + k, none⟩ = some (.int .i64 (l.getD k 0)) := by rw [hwr, drewN_cell]; exact hca k hlt
      have d2 : wr.cell? ⟨gb, ob + k, none⟩ = some (.int .i64 (l.getD k 0)) := by rw [hwr, drewN_cell]; exact hcb k hlt
      generalize l.getD k 0 = x at d1 d2
      have hx : (x != x) = false := by simp
      clear hca hcb HA HB hwr
      go_wp2_with fail
      go_quiet (fail)
      go_wp2_with fail
      go_roundw
      case rel => exact ⟨k + 1, q + nq, by omega, by go_num, by rw [HWR.out, drewN_drewN]⟩
      case measure => simp [intOf]; omega
    · clear hwr
      go_wp2_with fail
      go_ret
      exact ⟨rfl, q, HWR.out⟩
theorem mk4_at (l : List Int) (i : Nat) : (i < l.length → (mk4 l 4).getD i 0 = l.getD i 0) ∧ (l.length ≤ i → i < l.length + 4 → (mk4 l 4).getD i 0 = -7770777) := by
  unfold mk4
  simp only [List.getD]
  refine ⟨fun h => by rw [List.getElem?_append_left h], fun h1 h2 => ?_⟩
  rw [List.getElem?_append_right h1, List.getElem?_replicate, if_pos (by omega)]
  rfl
theorem IRow.cell {w : World} {base g n c : Nat} {l : List Int} (h : IRow w base (.slice (some ⟨g, 0, none⟩) n c) l) (i : Nat) (hi : i < l.length) : w.cell? ⟨g, i, none⟩ = some (.int .i64 (l.getD i 0)) := by
  have := World.ownsRow.cells h (g := g) rfl i (.int .i64 (l.getD i 0)) (by rw [List.getElem?_map, List.getElem?_eq_getElem hi, List.getD, List.getElem?_eq_getElem hi]; rfl)
  rw [add_plain', Nat.zero_add] at this
  exact this
theorem IRow.lt0 {w : World} {base g n c : Nat} {l : List Int} (h : IRow w base (.slice (some ⟨g, 0, none⟩) n c) l) : g < w.heap.size := (World.ownsRow.lt h g rfl).2
/-- a list that was lent reads as it did -/
theorem lent_ints {w : World} {base g c : Nat} {l : List Int} (h : IRow w base (.slice (some ⟨g, 0, none⟩) (l.length + 4) c) (mk4 l 4)) : Ints w (.slice (some ⟨g, 0, none⟩) l.length c) l := by
  refine ⟨_, c, rfl, fun _ => ⟨g, 0, rfl, h.lt0, fun i hi => ?_⟩⟩
  rw [Nat.zero_add, h.cell i (by rw [mk4_len]; omega), (mk4_at l i).1 hi]
theorem IRow.drewN {w : World} {base : Nat} {v : Value} {l : List Int} (h : IRow w base v l) (n : Nat) : IRow (w.drewN n) base v l := by
  induction n with
  | zero => exact h
  | succ n ih => exact ih
set_option maxHeartbeats 1000000 in
theorem kept_true (l : List Int) (v : Value) (w : World) (base g : Nat) (hR : IRow w base (.slice (some ⟨g, 0, none⟩) (l.length + 4) (l.length + 4)) (mk4 l 4)) (hv : Ints w v l) (hl : l.length ≤ 4611686018427387904) : Calls Try.prog 14 #[.slice (some ⟨g, 0, none⟩) l.length (l.length + 4), v] w fun e w' => e = .returned (.bool true) ∧ ∃ n, w' = w.drewN n := by
  have hS := sameInts_true l _ v w (lent_ints hR) hv hl
  have HC : Hid (∀ i, l.length ≤ i → i < l.length + 4 → w.cell? ⟨g, i, none⟩ = some (.int .i64 (-7770777))) := by
    intro i h1 h2
    rw [hR.cell i (by rw [mk4_len]; omega), (mk4_at l i).2 h1 h2]
  obtain ⟨a, cap, rfl, _⟩ := hv
  obtain ⟨n, hn⟩ : ∃ n, l.length = n := ⟨_, rfl⟩
  rw [hn] at hl hS HC ⊢
  clear hn hR
  have hw4 : IntKind.i64.wrap ((n : Int) + 4) = ((n + 4 : Nat) : Int) := by rw [IntKind.wrap_i64]; omega
  go_enter Try.func14, Try.ntmps14
  go_wp2_with fail
  refine hS.mono ?_
  rintro e w1 ⟨rfl, q, hw1⟩
  have HC1 : Hid (∀ i, n ≤ i → i < n + 4 → w1.cell? ⟨g, i, none⟩ = some (.int .i64 (-7770777))) := by
    intro i h1 h2
    rw [hw1, drewN_cell]; exact HC.out i h1 h2
  have HW := hide hw1
  clear hw1 hS HC
  go_wp2_with fail
  go_loopw [6] (fun i wx => ∃ k : Nat, n ≤ k ∧ k ≤ n + 4 ∧ i = .int .i64 k ∧ wx = w1) (fun i _ => n + 4 - (intOf i).toNat)
  case atStart => exact ⟨n, by omega, by omega, rfl, rfl⟩
  case round =>
    obtain ⟨k, hk0, hk, rfl, rfl⟩ := hrel
    by_cases hlt : k < n + 4
    · have d1 := HC1.out k hk0 hlt
      clear hw4
      go_wp2_with fail
      go_roundw
      case rel => exact ⟨k + 1, by omega, by omega, by go_num, trivial⟩
      case measure => simp [intOf]; omega
    · clear hw4
      go_wp2_with fail
      go_ret
      exact ⟨rfl, q, HW.out⟩
end Go.Proofs.Ytpoodmfhcoaleaa
