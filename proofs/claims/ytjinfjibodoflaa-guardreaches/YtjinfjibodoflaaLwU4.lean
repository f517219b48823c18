/- What GuardReaches answers: true, at every case. -/
import Derived.Test.YtjinfjibodoflaaGs3
import Derived.Test.YtjinfjibodoflaaGuO
namespace Go.Proofs.Ytjinfjibodoflaa
open Go.RowKit Go.Great

set_option maxHeartbeats 4000000 in
theorem reaches_any (a b c : Ax) (x y z : Int) (m : Mg) (w : World) (ha : AOk a) (hb : AOk b) (hc : AOk c) (hx : I64 x) (hy : I64 y) (hz : I64 z) (hm : MgOk m) : Calls Try.prog 5 #[.agg (caC a b c x y z m)] w fun e w' => e = .returned (.bool true) ∧ Below w.heap.size w w' := by
  have R1 := hide (fun W => reach_any a b c x y z m W ha hb hc hx hy hz hm.br hm.jo)
  have R2 := hide (fun W => rReach_any a b c x y z m W ha hb hc hx hy hz hm.br hm.jo)
  have AW := hide awakeU
  clear ha hb hc hx hy hz hm
  generalize rlo a.pl a.vl x m.br m.jo / 6400 = l0 at *
  generalize upm (rhi a.ph a.vh x m.br m.jo) = h0 at *
  generalize rlo b.pl b.vl y m.br m.jo / 6400 = l1 at *
  generalize upm (rhi b.ph b.vh y m.br m.jo) = h1 at *
  generalize max (upm (rhi c.ph c.vh z m.br m.jo)) 0 = h2 at *
  obtain ⟨a0, a1, a2, a3⟩ := a
  obtain ⟨b0, b1, b2, b3⟩ := b
  obtain ⟨c0, c1, c2, c3⟩ := c
  obtain ⟨br, dr, jo, fa, la, dn⟩ := m
  have EQ := eqlBx l0 h0 l1 h1 0 h2
  unfold bxV at R1 R2
  obtain ⟨W0, hW0, bw, hA, zw⟩ := one_box w (caC ⟨a0, a1, a2, a3⟩ ⟨b0, b1, b2, b3⟩ ⟨c0, c1, c2, c3⟩ x y z ⟨br, dr, jo, fa, la, dn⟩) 34
  have Hb := hide bw
  have k0 : ∀ zz : BelowW W0, zz.q.cell? ⟨w.heap.size, 0, none⟩ = some (.int .i64 a0) := hA.at 0 rfl
  have k1 : ∀ zz : BelowW W0, zz.q.cell? ⟨w.heap.size, 1, none⟩ = some (.int .i64 a1) := hA.at 1 rfl
  have k2 : ∀ zz : BelowW W0, zz.q.cell? ⟨w.heap.size, 2, none⟩ = some (.int .i64 a2) := hA.at 2 rfl
  have k3 : ∀ zz : BelowW W0, zz.q.cell? ⟨w.heap.size, 3, none⟩ = some (.int .i64 a3) := hA.at 3 rfl
  have k4 : ∀ zz : BelowW W0, zz.q.cell? ⟨w.heap.size, 4, none⟩ = some (.int .i64 b0) := hA.at 4 rfl
  have k5 : ∀ zz : BelowW W0, zz.q.cell? ⟨w.heap.size, 5, none⟩ = some (.int .i64 b1) := hA.at 5 rfl
  have k6 : ∀ zz : BelowW W0, zz.q.cell? ⟨w.heap.size, 6, none⟩ = some (.int .i64 b2) := hA.at 6 rfl
  have k7 : ∀ zz : BelowW W0, zz.q.cell? ⟨w.heap.size, 7, none⟩ = some (.int .i64 b3) := hA.at 7 rfl
  have k8 : ∀ zz : BelowW W0, zz.q.cell? ⟨w.heap.size, 8, none⟩ = some (.int .i64 c0) := hA.at 8 rfl
  have k9 : ∀ zz : BelowW W0, zz.q.cell? ⟨w.heap.size, 9, none⟩ = some (.int .i64 c1) := hA.at 9 rfl
  have k10 : ∀ zz : BelowW W0, zz.q.cell? ⟨w.heap.size, 10, none⟩ = some (.int .i64 c2) := hA.at 10 rfl
  have k11 : ∀ zz : BelowW W0, zz.q.cell? ⟨w.heap.size, 11, none⟩ = some (.int .i64 c3) := hA.at 11 rfl
  have k12 : ∀ zz : BelowW W0, zz.q.cell? ⟨w.heap.size, 12, none⟩ = some (.int .i64 x) := hA.at 12 rfl
  have k13 : ∀ zz : BelowW W0, zz.q.cell? ⟨w.heap.size, 13, none⟩ = some (.int .i64 y) := hA.at 13 rfl
  have k14 : ∀ zz : BelowW W0, zz.q.cell? ⟨w.heap.size, 14, none⟩ = some (.int .i64 z) := hA.at 14 rfl
  have k15 : ∀ zz : BelowW W0, zz.q.cell? ⟨w.heap.size, 15, none⟩ = some (.int .i64 br) := hA.at 15 rfl
  have k16 : ∀ zz : BelowW W0, zz.q.cell? ⟨w.heap.size, 16, none⟩ = some (.int .i64 dr) := hA.at 16 rfl
  have k17 : ∀ zz : BelowW W0, zz.q.cell? ⟨w.heap.size, 17, none⟩ = some (.int .i64 jo) := hA.at 17 rfl
  have k18 : ∀ zz : BelowW W0, zz.q.cell? ⟨w.heap.size, 18, none⟩ = some (.int .i64 fa) := hA.at 18 rfl
  have k19 : ∀ zz : BelowW W0, zz.q.cell? ⟨w.heap.size, 19, none⟩ = some (.int .i64 la) := hA.at 19 rfl
  have k20 : ∀ zz : BelowW W0, zz.q.cell? ⟨w.heap.size, 20, none⟩ = some (.int .i64 dn) := hA.at 20 rfl
  have hne : Nonempty (BelowW W0) := ⟨⟨W0, Below.refl _ _⟩⟩
  clear bw hA zw
  go_enter Try.func5, Try.ntmps5
  go_upto_region 1 with fail
  refine wp_region_calm (by kernel_rfl) (by kernel_rfl) ?_
  repeat (go_big_quiet_step (first
    | (go_at_call 13; exact calm_of (R1.out _))
    | (go_at_call 14; exact calm_of (R2.out _))
    | (go_at_call 12; exact calm_of (AW.out _))))
  refine wpQuiet_nil ?_
  rintro _ ⟨xx, rfl⟩
  replace Hb := hide (below_next Hb.out (Nat.le_refl _) xx.h)
  go_wp2_with fail
  go_ret
  exact ⟨rfl, Hb.out⟩
theorem GuardReaches_walk (v : Value) (w : World) (h : ∃ a b c x y z m, v = .agg (caC a b c x y z m) ∧ (AOk a ∧ AOk b ∧ AOk c) ∧ (I64 x ∧ I64 y ∧ I64 z) ∧ MgOk m) : Calls Try.prog 5 #[v] w fun e w' => e = .returned (.bool true) ∧ Below w.heap.size w w' := by
  obtain ⟨a, b, c, x, y, z, m, rfl, ⟨ha, hb, hc⟩, ⟨hx, hy, hz⟩, hm⟩ := h
  exact reaches_any a b c x y z m w ha hb hc hx hy hz hm
end Go.Proofs.Ytjinfjibodoflaa
