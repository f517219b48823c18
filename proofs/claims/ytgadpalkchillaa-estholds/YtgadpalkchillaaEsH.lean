/- Flights whose numbers are far from an int's ends: the statement's 'within'. -/
import Derived.Test.YtgadpalkchillaaEsO
namespace Go.Proofs.Ytgadpalkchillaa
open Go.RowKit Go.Great

/-- a step's numbers are within a flight's bounds -/
structure TIn (D EP EV : Int) (x : Tru) : Prop where
  a0 : -1048576 ≤ x.a
  a1 : x.a ≤ 1048576
  e0 : -D ≤ x.ex
  e1 : x.ex ≤ D
  p0 : -EP ≤ x.op
  p1 : x.op ≤ EP
  v0 : -EV ≤ x.ov
  v1 : x.ov ≤ EV
/-- a flight's numbers are within theirs -/
structure FIn (P V D EP EV : Int) (L : List Tru) : Prop where
  p0 : -1125899906842624 ≤ P
  p1 : P ≤ 1125899906842624
  v0 : -274877906944 ≤ V
  v1 : V ≤ 274877906944
  d0 : 0 ≤ D
  d1 : D ≤ 1048576
  ep0 : 0 ≤ EP
  ep1 : EP ≤ 1125899906842624
  ev0 : 0 ≤ EV
  ev1 : EV ≤ 1073741824
  n : L.length ≤ 2000
  all : ∀ x ∈ L, TIn D EP EV x
/-- what 'within' answers -/
def WEnd (w : World) (P V D EP EV : Int) (L : List Tru) (e : Ending) (w' : World) : Prop := (∃ b, e = .returned (.bool b) ∧ (b = true → FIn P V D EP EV L)) ∧ Below w.heap.size w w'
theorem WEnd.no {w w' : World} {P V D EP EV : Int} {L : List Tru} (h : Below w.heap.size w w') : WEnd w P V D EP EV L (.returned (.bool false)) w' := ⟨⟨false, rfl, fun h => by cases h⟩, h⟩
theorem WEnd.yes {w w' : World} {P V D EP EV : Int} {L : List Tru} (hf : FIn P V D EP EV L) (h : Below w.heap.size w w') : WEnd w P V D EP EV L (.returned (.bool true)) w' := ⟨⟨true, rfl, fun _ => hf⟩, h⟩
abbrev flC (P V D EP EV : Int) (tv : Value) : Array Value := #[.int .i64 P, .int .i64 V, .int .i64 D, .int .i64 EP, .int .i64 EV, tv]
set_option maxHeartbeats 4000000 in
set_option maxRecDepth 100000 in
theorem withinL_any (P V D EP EV : Int) (tv : Value) (L : List Tru) (w : World) (hT : Rws w tv 7 cTru L) : Calls Try.prog 18 #[.agg (flC P V D EP EV tv)] w (WEnd w P V D EP EV L) := by
  have HT := hide hT
  have hmax := hT.1
  unfold maxLen at hmax
  obtain ⟨_, ta, tc, rfl, _⟩ := hT
  obtain ⟨n, hn⟩ : ∃ n, Hid (L.length = n) := ⟨_, hide rfl⟩
  rw [hn.out] at hmax ⊢
  obtain ⟨W0, hW0⟩ : ∃ W0, w.alloc (.cells (flC P V D EP EV (.slice ta n tc)) 52) = W0 := ⟨_, rfl⟩
  have HF : Hid (Blk W0 w.heap.size (flC P V D EP EV (.slice ta n tc)) 52) := hide (by rw [← hW0]; exact Blk.new _ _ _)
  have Hb : Hid (Below w.heap.size w W0) := hide (by rw [← hW0]; exact below_alloc _ _)
  have c0 : W0.cell? ⟨w.heap.size, 0, none⟩ = some (.int .i64 P) := HF.out.cell 0 rfl
  have c1 : W0.cell? ⟨w.heap.size, 1, none⟩ = some (.int .i64 V) := HF.out.cell 1 rfl
  have c2 : W0.cell? ⟨w.heap.size, 2, none⟩ = some (.int .i64 D) := HF.out.cell 2 rfl
  have c3 : W0.cell? ⟨w.heap.size, 3, none⟩ = some (.int .i64 EP) := HF.out.cell 3 rfl
  have c4 : W0.cell? ⟨w.heap.size, 4, none⟩ = some (.int .i64 EV) := HF.out.cell 4 rfl
  have c5 : W0.cell? ⟨w.heap.size, 5, none⟩ = some (.slice ta n tc) := HF.out.cell 5 rfl
  go_enter Try.func18, Try.ntmps18

  go_upto_region 3 with fail
  all_goals try (go_ret; exact WEnd.no Hb.out)
  have q0 : -1125899906842624 ≤ P := by omega
  have q1 : P ≤ 1125899906842624 := by omega
  have q2 : -274877906944 ≤ V := by omega
  have q3 : V ≤ 274877906944 := by omega
  have q4 : 0 ≤ D := by omega
  have q5 : D ≤ 1048576 := by omega
  have q6 : 0 ≤ EP := by omega
  have q7 : EP ≤ 1125899906842624 := by omega
  have q8 : 0 ≤ EV := by omega
  have q9 : EV ≤ 1073741824 := by omega
  have qn : n ≤ 2000 := by omega
  have HQ := hide (And.intro q0 (And.intro q1 (And.intro q2 (And.intro q3 qn))))
  clear q0 q1 q2 q3
  clear c0 c1 c2 c3 c4 c5 hW0
  go_wp2_with fail
  go_loopw [3] (fun vi wr => ∃ i : Nat, vi = .int .i64 (i : Int) ∧ i ≤ n ∧ Below W0.heap.size W0 wr ∧ ∀ k x, k < i → L[k]? = some x → TIn D EP EV x) (fun v _ => n - (intOf v).toNat)
  case atStart => exact ⟨0, rfl, by omega, Below.refl _ _, fun k x hk => absurd hk (by omega)⟩
  case round =>
    obtain ⟨i, rfl, hi, hb, hall⟩ := hrel
    have Hb1 := hide hb
    have HA := hide hall
    have HF1 := hide (HF.out.after hb)
    clear hb hall
    have c5 : wr.cell? ⟨w.heap.size, 5, none⟩ = some (.slice ta n tc) := HF1.out.cell 5 rfl
    by_cases hlt : i < n
    · obtain ⟨g, o, cap, x, e1, hg, hx, hcell⟩ := HT.out.get i (by rw [hn.out]; exact hlt)
      injection e1 with e1 e2 e3
      subst e1 e3
      have HX0 := hide hx
      have HC := hide hcell
      clear e2 hx hcell hg
      obtain ⟨x0, x1, x2, x3, x4, x5, x6⟩ := x
      have hbw := hide (below_next Hb.out (Nat.le_refl _) Hb1.out)
      have k0 : wr.cell? ⟨g, o + i * 7, none⟩ = some (.int .i64 x0) := HC.out wr hbw.out 0 _ rfl
      have k1 : wr.cell? ⟨g, o + i * 7 + 1, none⟩ = some (.int .i64 x1) := HC.out wr hbw.out 1 _ rfl
      have k2 : wr.cell? ⟨g, o + i * 7 + 2, none⟩ = some (.bool x2) := HC.out wr hbw.out 2 _ rfl
      have k3 : wr.cell? ⟨g, o + i * 7 + 3, none⟩ = some (.int .i64 x3) := HC.out wr hbw.out 3 _ rfl
      have k4 : wr.cell? ⟨g, o + i * 7 + 4, none⟩ = some (.int .i64 x4) := HC.out wr hbw.out 4 _ rfl
      have k5 : wr.cell? ⟨g, o + i * 7 + 5, none⟩ = some (.bool x5) := HC.out wr hbw.out 5 _ rfl
      have k6 : wr.cell? ⟨g, o + i * 7 + 6, none⟩ = some (.bool x6) := HC.out wr hbw.out 6 _ rfl
      have hlF := HF1.out.lt
      go_upto_region 7 with fail
      have HX := hide (Blk.new wr #[.int .i64 x0, .int .i64 x1, .bool x2, .int .i64 x3, .int .i64 x4, .bool x5, .bool x6] 55)
      have HF2 := hide (HF1.out.alloc (.cells #[.int .i64 x0, .int .i64 x1, .bool x2, .int .i64 x3, .int .i64 x4, .bool x5, .bool x6] 55))
      have Hb2 := hide (below_next Hb1.out (Nat.le_refl _) (below_alloc wr (.cells #[.int .i64 x0, .int .i64 x1, .bool x2, .int .i64 x3, .int .i64 x4, .bool x5, .bool x6] 55)))
      clear k0 k1 k2 k3 k4 k5 k6 HC hbw c5 HF1 Hb1
      generalize wr.heap.size = d at *
      generalize wr.alloc (.cells #[.int .i64 x0, .int .i64 x1, .bool x2, .int .i64 x3, .int .i64 x4, .bool x5, .bool x6] 55) = W1 at *
      have k0 : W1.cell? ⟨d, 0, none⟩ = some (.int .i64 x0) := HX.out.cell 0 rfl
      have k1 : W1.cell? ⟨d, 1, none⟩ = some (.int .i64 x1) := HX.out.cell 1 rfl
      have k3 : W1.cell? ⟨d, 3, none⟩ = some (.int .i64 x3) := HX.out.cell 3 rfl
      have k4 : W1.cell? ⟨d, 4, none⟩ = some (.int .i64 x4) := HX.out.cell 4 rfl
      have c2 : W1.cell? ⟨w.heap.size, 2, none⟩ = some (.int .i64 D) := HF2.out.cell 2 rfl
      have c3 : W1.cell? ⟨w.heap.size, 3, none⟩ = some (.int .i64 EP) := HF2.out.cell 3 rfl
      have c4 : W1.cell? ⟨w.heap.size, 4, none⟩ = some (.int .i64 EV) := HF2.out.cell 4 rfl
      go_wp2_with fail
      all_goals try (go_ret; exact WEnd.no (below_next Hb.out (Nat.le_refl _) Hb2.out))
      have T1 : TIn D EP EV ⟨x0, x1, x2, x3, x4, x5, x6⟩ := ⟨by show -1048576 ≤ x0; omega, by show x0 ≤ 1048576; omega, by show -D ≤ x1; omega, by show x1 ≤ D; omega, by show -EP ≤ x3; omega, by show x3 ≤ EP; omega, by show -EV ≤ x4; omega, by show x4 ≤ EV; omega⟩
      refine ⟨⟨i + 1, by go_num, by omega, Hb2.out, fun k x hk hx => ?_⟩, by simp [intOf]; omega⟩
      by_cases e : k = i
      · subst e
        have h2 := HX0.out
        rw [hx] at h2
        injection h2 with h2
        rw [h2]
        exact T1
      · exact HA.out k x (by omega) hx
    · obtain rfl : i = n := by omega
      go_wp2_with fail
      go_ret
      obtain ⟨q0, q1, q2, q3, qn'⟩ := HQ.out
      refine WEnd.yes ⟨q0, q1, q2, q3, q4, q5, q6, q7, q8, q9, by rw [hn.out]; exact qn, fun x hx => ?_⟩ (below_next Hb.out (Nat.le_refl _) Hb1.out)
      obtain ⟨k, hk⟩ := List.mem_iff_getElem?.1 hx
      refine HA.out k x ?_ hk
      have := (List.getElem?_eq_some_iff.1 hk).1
      rw [hn.out] at this
      exact this
end Go.Proofs.Ytgadpalkchillaa
