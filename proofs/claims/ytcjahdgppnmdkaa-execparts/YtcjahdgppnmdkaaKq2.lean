/- Lists that are the same; a list that was lent is as it was. -/
import Derived.Test.YtcjahdgppnmdkaaKq1
set_option maxRecDepth 100000
namespace Go.Proofs.Ytcjahdgppnmdkaa
open Go.RowKit Go.Great

set_option maxRecDepth 100000 in
set_option maxHeartbeats 1000000 in
theorem sameInts_true (l : List Int) (v u : Value) (w : World) (hv : Ints w v l) (hu : Ints w u l) (hl : l.length ≤ 4611686018427387904) : Calls Try.prog 33 #[v, u] w fun e w' => e = .returned (.bool true) ∧ ∃ n, w' = w.drewN n := by
  obtain ⟨a, ca, rfl, ha⟩ := hv
  obtain ⟨b, cb, rfl, hb⟩ := hu
  obtain ⟨n, hn⟩ : ∃ n, l.length = n := ⟨_, rfl⟩
  rw [hn] at hl ha hb ⊢
  have HA := hide ha
  have HB := hide hb
  clear ha hb hn
  go_enter Try.func33, Try.ntmps33
  go_wp2_with fail
  go_loopw [5] (fun i wx => ∃ k q : Nat, k ≤ n ∧ i = .int .i64 k ∧ wx = w.drewN q) (fun i _ => n - (intOf i).toNat)
  case atStart => exact ⟨0, 0, by omega, rfl, rfl⟩
  case round =>
    obtain ⟨k, q, hk, rfl, hwr⟩ := hrel
    have HWR := hide hwr
    by_cases hlt : k < n
    · obtain ⟨ga, oa, rfl, _, hca⟩ := HA.out (by omega)
      obtain ⟨gb, ob, rfl, _, hcb⟩ := HB.out (by omega)
      have d1 : wr.cell? ⟨ga, oa + k, none⟩ = some (.int .i64 (l.getD k 0)) := by rw [hwr, drewN_cell]; exact hca k hlt
      have d2 : wr.cell? ⟨gb, ob + k, none⟩ = some (.int .i64 (l.getD k 0)) := by rw [hwr, drewN_cell]; exact hcb k hlt
      generalize l.getD k 0 = x at d1 d2
      have hx : (x != x) = false := by simp
      clear hca hcb HA HB hwr
      go_wp2_with fail
      go_quiet (fail)
      go_wp2_with fail
      go_roundw
      case rel => exact ⟨k + 1, q + nq, by omega, by go_num, by rw [HWR.out, drewN_drewN]⟩
      case measure => simp [intOf]; omega
    · clear hwr
      go_wp2_with fail
      go_ret
      exact ⟨rfl, q, HWR.out⟩
theorem mk4_at (l : List Int) (i : Nat) : (i < l.length → (mk4 l 4).getD i 0 = l.getD i 0) ∧ (l.length ≤ i → i < l.length + 4 → (mk4 l 4).getD i 0 = -7770777) := by
  unfold mk4
  simp only [List.getD]
  refine ⟨fun h => by rw [List.getElem?_append_left h], fun h1 h2 => ?_⟩
  rw [List.getElem?_append_right h1, List.getElem?_replicate, if_pos (by omega)]
  rfl
theorem IRow.cell {w : World} {base g n c : Nat} {l : List Int} (h : IRow w base (.slice (some ⟨g, 0, none⟩) n c) l) (i : Nat) (hi : i < l.length) : w.cell? ⟨g, i, none⟩ = some (.int .i64 (l.getD i 0)) := by
  have := World.ownsRow.cells h (g := g) rfl i (.int .i64 (l.getD i 0)) (by rw [List.getElem?_map, List.getElem?_eq_getElem hi, List.getD, List.getElem?_eq_getElem hi]; rfl)
  rw [add_plain', Nat.zero_add] at this
  exact this
theorem IRow.lt0 {w : World} {base g n c : Nat} {l : List Int} (h : IRow w base (.slice (some ⟨g, 0, none⟩) n c) l) : g < w.heap.size := (World.ownsRow.lt h g rfl).2
/-- a list that was lent reads as it did -/
theorem lent_ints {w : World} {base g c : Nat} {l : List Int} (h : IRow w base (.slice (some ⟨g, 0, none⟩) (l.length + 4) c) (mk4 l 4)) : Ints w (.slice (some ⟨g, 0, none⟩) l.length c) l := by
  refine ⟨_, c, rfl, fun _ => ⟨g, 0, rfl, h.lt0, fun i hi => ?_⟩⟩
  rw [Nat.zero_add, h.cell i (by rw [mk4_len]; omega), (mk4_at l i).1 hi]
theorem IRow.drewN {w : World} {base : Nat} {v : Value} {l : List Int} (h : IRow w base v l) (n : Nat) : IRow (w.drewN n) base v l := by
  induction n with
  | zero => exact h
  | succ n ih => exact ih
end Go.Proofs.Ytcjahdgppnmdkaa
