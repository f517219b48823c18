/- The document's Same, where both are alike; the tour; the examples that each statement of layer 19 looks at ('awake'). -/
import Derived.Test.YtnekjfidobglmaaMiD
import Derived.Test.YtnekjfidobglmaaMi7
import Derived.Laws.StructEq
namespace Go.Proofs.Ytnekjfidobglmaa
open Go.RowKit Go.Great Go.Maps

theorem neq_it (k a b c : Int) (w : World) : (binOp .neq 48 (iV k a b c) (iV k a b c)).run Try.prog w = .ok (.bool false) w := by
  simp [go_sem]
set_option maxHeartbeats 2000000 in
theorem same_true (L : List It) (u v : Value) (w : World) (hu : Rws w u 4 itC L) (hv : Rws w v 4 itC L) : Calls Try.prog 21 #[u, v] w fun e w' => e = .returned (.bool true) ∧ Below w.heap.size w w' := by
  have HU := hide hu
  have HV := hide hv
  obtain ⟨mN, na, np, rfl, _⟩ := hu
  obtain ⟨_, nb, nr, rfl, _⟩ := hv
  obtain ⟨n, eN⟩ : ∃ n, Hid (L.length = n) := ⟨_, hide rfl⟩
  rw [eN.out] at mN ⊢
  unfold maxLen at mN
  go_enter Try.func21, Try.ntmps21
  go_wp2_with fail
  go_loopw [5] (fun vi wx => ∃ i : Nat, i ≤ n ∧ vi = .int .i64 (i : Int) ∧ Hid (Below w.heap.size w wx)) (fun vi _ => n - (intOf vi).toNat)
  case atStart => exact ⟨0, Nat.zero_le _, rfl, hide (Below.refl _ _)⟩
  case round =>
    obtain ⟨i, hi, rfl, Hb⟩ := hrel
    by_cases hl : i < n
    · obtain ⟨g, og, cap, x, e1, hg, hxl, cell⟩ := HU.out.get i (by rw [eN.out]; omega)
      obtain ⟨g', og', cap', x', e1', hg', hxl', cell'⟩ := HV.out.get i (by rw [eN.out]; omega)
      rw [hxl] at hxl'
      injection hxl' with hxl'
      subst hxl'
      injection e1 with e1 e2 e3
      subst e1 e3
      injection e1' with e1 e2 e3
      subst e1 e3
      have p0 : ∀ k, (wr.drewN k).cell? ⟨g, og + i * 4, none⟩ = some (.int .u8 x.k.toNat) := fun k => cell _ (below_drewN Hb.out k) 0 _ rfl
      have p1 : ∀ k, (wr.drewN k).cell? ⟨g, og + i * 4 + 1, none⟩ = some (.int .i64 x.a) := fun k => cell _ (below_drewN Hb.out k) 1 _ rfl
      have p2 : ∀ k, (wr.drewN k).cell? ⟨g, og + i * 4 + 2, none⟩ = some (.int .i64 x.b) := fun k => cell _ (below_drewN Hb.out k) 2 _ rfl
      have p3 : ∀ k, (wr.drewN k).cell? ⟨g, og + i * 4 + 3, none⟩ = some (.int .i64 x.c) := fun k => cell _ (below_drewN Hb.out k) 3 _ rfl
      have q0 : ∀ k, (wr.drewN k).cell? ⟨g', og' + i * 4, none⟩ = some (.int .u8 x.k.toNat) := fun k => cell' _ (below_drewN Hb.out k) 0 _ rfl
      have q1 : ∀ k, (wr.drewN k).cell? ⟨g', og' + i * 4 + 1, none⟩ = some (.int .i64 x.a) := fun k => cell' _ (below_drewN Hb.out k) 1 _ rfl
      have q2 : ∀ k, (wr.drewN k).cell? ⟨g', og' + i * 4 + 2, none⟩ = some (.int .i64 x.b) := fun k => cell' _ (below_drewN Hb.out k) 2 _ rfl
      have q3 : ∀ k, (wr.drewN k).cell? ⟨g', og' + i * 4 + 3, none⟩ = some (.int .i64 x.c) := fun k => cell' _ (below_drewN Hb.out k) 3 _ rfl
      have r0 := p0 0
      have r1 := p1 0
      have r2 := p2 0
      have r3 := p3 0
      have s0 := q0 0
      have s1 := q1 0
      have s2 := q2 0
      have s3 := q3 0
      simp only [World.drewN] at r0 r1 r2 r3 s0 s1 s2 s3
      have NE := neq_it x.k.toNat x.a x.b x.c
      clear cell cell' HU HV hxl
      go_upto_region 6 with fail
      go_quiet (fail)
      have Hb2 : Hid (Below w.heap.size w (wr.drewN nq)) := hide (below_drewN Hb.out nq)
      go_wp2_with fail
      go_roundw
      case rel => exact ⟨i + 1, by omega, by go_num, Hb2⟩
      case measure => simp [intOf]; omega
    · go_wp2_with fail
      go_ret
      exact ⟨rfl, Hb.out⟩
/-- the tour -/
def trL : List It := [⟨1, 2000, 0, 0⟩, ⟨2, 5000, 0, 2000⟩, ⟨4, 1, 2, 0⟩, ⟨6, 0, 0, 0⟩]
theorem tr_chk : chk trL = 0 := by decide +kernel
theorem mrow_new (w : World) (L : List It) (n : Nat) (cs : Array Value) (hn : L.length = n) (hc : cs.toList = itsC L) (h : n ≤ 1000) (base : Nat) (hb : base ≤ w.heap.size) : MRow (w.alloc (.cells cs 48)) base (.slice (some ⟨w.heap.size, 0, none⟩) n n) L := by
  subst hn
  refine ⟨itsC_len L, .inr ⟨w.heap.size, L.length, cs, rfl, hb, heap_alloc_new _ _, Nat.le_refl _, by unfold maxLen; omega, ?_, ?_⟩⟩
  · rw [← Array.length_toList, hc, itsC_len]
  · rw [hc, ← itsC_len, List.take_length]
set_option maxHeartbeats 1000000 in
theorem tour_any (w : World) : Calls Try.prog 35 #[] w fun e w' => ∃ v, e = .returned v ∧ MRow w' w.heap.size v trL ∧ Below w.heap.size w w' := by
  go_enter Try.func35, Try.ntmps35
  go_wp2_with fail
  go_ret
  exact ⟨_, rfl, mrow_new w trL 4 _ rfl rfl (by omega) _ (Nat.le_refl _), below_alloc _ _⟩
theorem eql_goal (k x y z s : Int) (w : World) : (binOp .eql 50 (gV k x y z s) (gV k x y z s)).run Try.prog w = .ok (.bool true) w := by
  simp [go_sem]
/-- the tour's first states -/
def tr1 : Rn := stp (rn0 16000 trL) true
def tr2 : Rn := stp tr1 true
def tr3 : Rn := stp tr2 false
theorem tr3_p : tr3.p = 1 ∧ tr3.L.length = 4 := by decide +kernel
theorem tr0_goal : goalC (rn0 16000 trL) = gC 1 0 0 2000 16000 := rfl
theorem one_chk : chk [⟨0, 0, 0, 0⟩] = 191 := by decide +kernel
theorem tr_enc : (encA trL).length = 53 := by decide +kernel
theorem tr_dec : decE (encA trL) = 0 ∧ decA (encA trL) = trL := by
  have h := its_enc tr_chk
  have e : encA trL = encL trL := by unfold encA; rw [if_pos tr_chk]
  rw [e]
  unfold decE decA
  rw [h.1, h.2]
  exact ⟨tr_chk, rfl⟩
end Go.Proofs.Ytnekjfidobglmaa
