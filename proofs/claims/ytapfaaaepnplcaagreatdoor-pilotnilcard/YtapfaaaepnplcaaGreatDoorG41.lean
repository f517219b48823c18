/- Pw4. -/
import Derived.Test.YtapfaaaepnplcaaGreatDoorG21
import Derived.Laws.CopyOwn
set_option maxRecDepth 100000
set_option maxHeartbeats 1000000
namespace Go.Proofs.YtapfaaaepnplcaaGreatDoor
open Go.RowKit Go.Great
/-- a new battery's cells, ahead of its parameters -/
def zC (d : Int) : Array Value := (List.replicate 24 (Value.int .i64 0) ++ [Value.int .i64 d, Value.int .i64 0, Value.int .i64 0, Value.bool false]).toArray
theorem zC_put (l : List Int) (hl : l.length = 24) : ((zC (drn l)).toList.take 0 ++ l.map (Value.int .i64) ++ (zC (drn l)).toList.drop (0 + (l.map (Value.int .i64)).length)).toArray = bC (bN l) := by
  rw [List.length_map, hl]
  rfl
theorem map_at (l : List Int) (j : Nat) (v : Value) (h : (l.map (Value.int .i64))[j]? = some v) : j < l.length ∧ v = .int .i64 (l.getD j 0) := by
  rw [List.getElem?_map] at h
  cases hj : l[j]? with
  | none => rw [hj] at h; cases h
  | some x =>
    rw [hj] at h
    refine ⟨(List.getElem?_eq_some_iff.1 hj).1, ?_⟩
    simp only [Option.map_some, Option.some.injEq] at h
    rw [← h, List.getD, hj]
    rfl
theorem newB_no (w : World) (l : List Int) (v : Value) (hv : Ints w v l) (hc : chk l ≠ 0) : Calls Tryz.prog 100 #[v] w fun e w' => e = .returned (.tuple #[.pointer none, .int .i64 (chk l)]) ∧ Below w.heap.size w w' := by
  have MA := hide (margins_any l v w hv)
  have hne : (chk l != 0) = true := by simp [hc]
  obtain ⟨a, cap, rfl, _⟩ := hv
  generalize l.length = n at *
  generalize chk l = c at *
  generalize marE l = m at *
  obtain ⟨m1, m2, m3, m4, m5, m6⟩ := m
  rw [show marV ⟨m1, m2, m3, m4, m5, m6⟩ = .agg #[.int .i64 m1, .int .i64 m2, .int .i64 m3, .int .i64 m4, .int .i64 m5, .int .i64 m6] from rfl] at MA
  go_enter Tryz.func100, Tryz.ntmps100
  go_wp2_with (go_at_call 89; refine MA.out.mono ?_; rintro e w1 ⟨rfl, hb1⟩)
  go_ret2
  exact ⟨rfl, below_next hb1 (Nat.le_refl _) (below_alloc _ _)⟩
theorem newB_any (w : World) (l : List Int) (v : Value) (hv : Ints w v l) (hs : Sound l) : Calls Tryz.prog 100 #[v] w fun e w' => ∃ B, e = .returned (.tuple #[bP B, .int .i64 0]) ∧ Bat w' B (bN l) ∧ Below w.heap.size w w' ∧ w.heap.size ≤ B := by
  have MA := hide (margins_any l v w hv)
  rw [hs.chk, show marE l = marL l by unfold marE; rw [if_pos hs.chk]] at MA
  obtain ⟨g, o, cap, rfl, hg, hc⟩ := hv.open24 hs.len
  have hdr : Hid ((marL l).drain = drn l) := hide rfl
  generalize marL l = m at *
  obtain ⟨m1, m2, m3, m4, m5, m6⟩ := m
  rw [show marV ⟨m1, m2, m3, m4, m5, m6⟩ = .agg #[.int .i64 m1, .int .i64 m2, .int .i64 m3, .int .i64 m4, .int .i64 m5, .int .i64 m6] from rfl] at MA
  simp only at hdr
  have HC := hide hc
  clear hv hc
  go_enter Tryz.func100, Tryz.ntmps100
  go_upto_region 4 with (go_at_call 89; refine MA.out.mono ?_; rintro e w1 ⟨rfl, hb1⟩)
  have HM := hide (Blk.new w1 #[.int .i64 m1, .int .i64 m2, .int .i64 m3, .int .i64 m4, .int .i64 m5, .int .i64 m6] 56)
  have Hb := hide (below_next hb1 (Nat.le_refl _) (below_alloc w1 (.cells #[.int .i64 m1, .int .i64 m2, .int .i64 m3, .int .i64 m4, .int .i64 m5, .int .i64 m6] 56)))
  clear hb1 MA
  generalize w1.heap.size = g1 at *
  generalize w1.alloc (.cells #[.int .i64 m1, .int .i64 m2, .int .i64 m3, .int .i64 m4, .int .i64 m5, .int .i64 m6] 56) = W1 at *
  have e5 : W1.cell? ⟨g1, 5, none⟩ = some (.int .i64 m6) := HM.out.cell 5 rfl
  go_upto_region 5 with fail
  have HZ : Hid (Blk (W1.alloc (.cells #[.int .i64 0, .int .i64 0, .int .i64 0, .int .i64 0, .int .i64 0, .int .i64 0, .int .i64 0, .int .i64 0, .int .i64 0, .int .i64 0, .int .i64 0, .int .i64 0, .int .i64 0, .int .i64 0, .int .i64 0, .int .i64 0, .int .i64 0, .int .i64 0, .int .i64 0, .int .i64 0, .int .i64 0, .int .i64 0, .int .i64 0, .int .i64 0, .int .i64 m6, .int .i64 0, .int .i64 0, .bool false] 172)) W1.heap.size (zC m6) 172) := hide (Blk.new W1 (zC m6) _)
  have Hb2 := hide (below_next Hb.out (Nat.le_refl _) (below_alloc W1 (.cells #[.int .i64 0, .int .i64 0, .int .i64 0, .int .i64 0, .int .i64 0, .int .i64 0, .int .i64 0, .int .i64 0, .int .i64 0, .int .i64 0, .int .i64 0, .int .i64 0, .int .i64 0, .int .i64 0, .int .i64 0, .int .i64 0, .int .i64 0, .int .i64 0, .int .i64 0, .int .i64 0, .int .i64 0, .int .i64 0, .int .i64 0, .int .i64 0, .int .i64 m6, .int .i64 0, .int .i64 0, .bool false] 172)))
  have hsz : W1.heap.size < (W1.alloc (.cells #[.int .i64 0, .int .i64 0, .int .i64 0, .int .i64 0, .int .i64 0, .int .i64 0, .int .i64 0, .int .i64 0, .int .i64 0, .int .i64 0, .int .i64 0, .int .i64 0, .int .i64 0, .int .i64 0, .int .i64 0, .int .i64 0, .int .i64 0, .int .i64 0, .int .i64 0, .int .i64 0, .int .i64 0, .int .i64 0, .int .i64 0, .int .i64 0, .int .i64 m6, .int .i64 0, .int .i64 0, .bool false] 172)).heap.size := HZ.out.lt
  have HC2 : Hid (∀ i, i < 24 → (W1.alloc (.cells #[.int .i64 0, .int .i64 0, .int .i64 0, .int .i64 0, .int .i64 0, .int .i64 0, .int .i64 0, .int .i64 0, .int .i64 0, .int .i64 0, .int .i64 0, .int .i64 0, .int .i64 0, .int .i64 0, .int .i64 0, .int .i64 0, .int .i64 0, .int .i64 0, .int .i64 0, .int .i64 0, .int .i64 0, .int .i64 0, .int .i64 0, .int .i64 0, .int .i64 m6, .int .i64 0, .int .i64 0, .bool false] 172)).cell? ⟨g, o + i, none⟩ = some (.int .i64 (l.getD i 0))) := hide (fun i hi => (Hb2.out.cell (p := ⟨g, o + i, none⟩) hg).trans (HC.out i hi))
  have hD := Hb.out.size
  generalize W1.alloc (.cells #[.int .i64 0, .int .i64 0, .int .i64 0, .int .i64 0, .int .i64 0, .int .i64 0, .int .i64 0, .int .i64 0, .int .i64 0, .int .i64 0, .int .i64 0, .int .i64 0, .int .i64 0, .int .i64 0, .int .i64 0, .int .i64 0, .int .i64 0, .int .i64 0, .int .i64 0, .int .i64 0, .int .i64 0, .int .i64 0, .int .i64 0, .int .i64 0, .int .i64 m6, .int .i64 0, .int .i64 0, .bool false] 172) = W2 at *
  generalize W1.heap.size = D at *
  rw [hdr.out] at HZ
  have hcp := run_copy_row Tryz.prog W2 48 48 3 3 D 0 24 24 ⟨g, o, none⟩ 24 cap (zC (drn l)) 172 (l.map (Value.int .i64)) Tryz.underlying48 (by kernel_rfl) HZ.out (by rw [List.length_map, hs.len]; rfl) (fun j v hj => by
    obtain ⟨h1, rfl⟩ := map_at l j v hj
    have := HC2.out j (by rw [← hs.len]; exact h1)
    rw [add_plain']
    exact this) (by rw [List.length_map, hs.len, show (zC (drn l)).size = 28 from rfl]; omega) (map_one l)
  rw [zC_put l hs.len] at hcp
  have HF : Hid (Bat (W2.setRow D (bC (bN l))) D (bN l)) := hide (by
    have := setRow_heap W2 D _ (bC (bN l)) _ _ HZ.out
    exact this)
  have HbF := hide (below_setRow Hb2.out hD (bC (bN l)))
  generalize W2.setRow D (bC (bN l)) = W3 at *
  go_wp2_with fail
  go_ret2
  exact ⟨D, rfl, HF.out, HbF.out, hD⟩
end Go.Proofs.YtapfaaaepnplcaaGreatDoor
