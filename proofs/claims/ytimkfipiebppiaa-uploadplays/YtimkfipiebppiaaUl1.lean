/- Messages and lists of rows that are the same; the small functions of the statements of layer 21. -/
import Derived.Test.YtimkfipiebppiaaUp8
import Derived.Test.YtimkfipiebppiaaKq2
namespace Go.Proofs.Ytimkfipiebppiaa
open Go.RowKit Go.Great

set_option maxRecDepth 100000 in
set_option maxHeartbeats 1000000 in
theorem same_true5 (k : Int) (l : List Int) (v u : Value) (w : World) (hv : Ints w v l) (hu : Ints w u l) (hl : l.length ≤ 4611686018427387904) : Calls Try.prog 46 #[.agg #[.int .u8 k, v], .agg #[.int .u8 k, u]] w fun e w' => e = .returned (.bool true) ∧ Below w.heap.size w w' := by
  have HV := hide hv
  have HU := hide hu
  obtain ⟨a, ca, rfl, _⟩ := hv
  obtain ⟨b, cb, rfl, _⟩ := hu
  obtain ⟨n, hn⟩ : ∃ n, l.length = n := ⟨_, rfl⟩
  rw [hn] at hl HV HU ⊢
  have HN := hide hn
  clear hn
  have hx : (k != k) = false := by simp
  have hx2 : ((n : Int) != (n : Int)) = false := by simp
  go_enter Try.func46, Try.ntmps46
  go_wp2_with fail
  have HB0 : Hid (Below w.heap.size w ((w.alloc (.cells #[.int .u8 k, .slice a n ca] 38)).alloc (.cells #[.int .u8 k, .slice b n cb] 38))) := below_next (below_alloc _ _) (Nat.le_refl _) (below_alloc _ _)
  have HM1 : Hid (Msg ((w.alloc (.cells #[.int .u8 k, .slice a n ca] 38)).alloc (.cells #[.int .u8 k, .slice b n cb] 38)) w.heap.size (.int .u8 k) (.slice a n ca)) := (msg_new w _ _).below (below_alloc _ _)
  have HM2 : Hid (Msg ((w.alloc (.cells #[.int .u8 k, .slice a n ca] 38)).alloc (.cells #[.int .u8 k, .slice b n cb] 38)) (w.heap.size + 1) (.int .u8 k) (.slice b n cb)) := heap_alloc_at _ _ _ (by rw [size_alloc])
  have HV0 := hide (HV.out.below HB0.out)
  have HU0 := hide (HU.out.below HB0.out)
  generalize ((w.alloc (.cells #[.int .u8 k, .slice a n ca] 38)).alloc (.cells #[.int .u8 k, .slice b n cb] 38)) = w0 at HB0 HM1 HM2 HV0 HU0 ⊢
  go_loopw [5] (fun i wx => ∃ k q : Nat, k ≤ n ∧ i = .int .i64 k ∧ wx = w0.drewN q) (fun i _ => n - (intOf i).toNat)
  case atStart => exact ⟨0, 0, by omega, rfl, rfl⟩
  case round =>
    obtain ⟨j, q, hj, rfl, hwr⟩ := hrel
    have HWR := hide hwr
    have m1 : wr.cell? ⟨w.heap.size, 1, none⟩ = some (.slice a n ca) := by rw [hwr, drewN_cell]; exact HM1.out.c1
    have m2 : wr.cell? ⟨w.heap.size + 1, 1, none⟩ = some (.slice b n cb) := by rw [hwr, drewN_cell]; exact HM2.out.c1
    by_cases hlt : j < n
    · obtain ⟨a', ca', ea, ha⟩ := HV0.out
      obtain ⟨b', cb', eb, hb⟩ := HU0.out
      rw [HN.out] at ea ha eb hb
      injection ea with ea1 _ ea3
      injection eb with eb1 _ eb3
      subst ea1 ea3 eb1 eb3
      obtain ⟨ga, oa, rfl, _, hca⟩ := ha (by omega)
      obtain ⟨gb, ob, rfl, _, hcb⟩ := hb (by omega)
      have d1 : wr.cell? ⟨ga, oa + j, none⟩ = some (.int .i64 (l.getD j 0)) := by rw [hwr, drewN_cell]; exact hca j hlt
      have d2 : wr.cell? ⟨gb, ob + j, none⟩ = some (.int .i64 (l.getD j 0)) := by rw [hwr, drewN_cell]; exact hcb j hlt
      generalize l.getD j 0 = x at d1 d2
      have hxx : (x != x) = false := by simp
      clear hca hcb HV0 HU0 HV HU hwr HM1 HM2 ha hb
      go_wp2_with fail
      go_quiet (fail)
      go_wp2_with fail
      go_roundw
      case rel => exact ⟨j + 1, q + nq, by omega, by go_num, by rw [HWR.out, drewN_drewN]⟩
      case measure => simp [intOf]; omega
    · clear hwr
      go_wp2_with fail
      go_ret
      exact ⟨rfl, by rw [HWR.out]; exact below_drewN HB0.out q⟩
/-- a slice of slices of ints, as it reads -/
def Lsts (w : World) (v : Value) (L : List (List Int)) : Prop :=
  ∃ a cap, v = .slice a L.length cap ∧ (0 < L.length → ∃ g o, a = some ⟨g, o, none⟩ ∧ g < w.heap.size ∧ ∀ i, i < L.length → ∃ u, w.cell? ⟨g, o + i, none⟩ = some u ∧ Ints w u (L.getD i []))
theorem Lsts.below {w w' : World} {v : Value} {L : List (List Int)} (h : Lsts w v L) (hb : Below w.heap.size w w') : Lsts w' v L := by
  obtain ⟨a, cap, e, h1⟩ := h
  refine ⟨a, cap, e, fun h0 => ?_⟩
  obtain ⟨g, o, e2, hg, hc⟩ := h1 h0
  have hs := hb.size
  refine ⟨g, o, e2, by omega, fun i hi => ?_⟩
  obtain ⟨u, hu, hi⟩ := hc i hi
  exact ⟨u, (hb.cell (p := ⟨g, o + i, none⟩) hg).trans hu, hi.below hb⟩
theorem sameInts_below (l : List Int) (v u : Value) (w : World) (hv : Ints w v l) (hu : Ints w u l) (hl : l.length ≤ 4611686018427387904) : Calls Try.prog 45 #[v, u] w fun e w' => e = .returned (.bool true) ∧ Below w.heap.size w w' :=
  (sameInts_true l v u w hv hu hl).mono fun _ _ ⟨h1, n, h2⟩ => ⟨h1, h2 ▸ below_drewN (Below.refl _ _) n⟩
set_option maxRecDepth 100000 in
set_option maxHeartbeats 4000000 in
theorem sameLists_true (L : List (List Int)) (v u : Value) (w : World) (hv : Lsts w v L) (hu : Lsts w u L) (hl : L.length ≤ 4611686018427387904) (hll : ∀ i, i < L.length → (L.getD i []).length ≤ 4611686018427387904) : Calls Try.prog 21 #[v, u] w fun e w' => e = .returned (.bool true) ∧ Below w.heap.size w w' := by
  obtain ⟨a, c, rfl, hc⟩ := hv
  obtain ⟨b, d, rfl, hd⟩ := hu
  have HC := hide hc
  have HD := hide hd
  have HLL := hide hll
  generalize L.length = m at *
  clear hc hd hll
  go_enter Try.func21, Try.ntmps21
  go_wp2_with fail
  go_loopw [5] (fun i wx => ∃ k : Nat, k ≤ m ∧ i = .int .i64 k ∧ Hid (Below w.heap.size w wx)) (fun i _ => m - (intOf i).toNat)
  case atStart => exact ⟨0, by omega, rfl, hide (Below.refl _ _)⟩
  case round =>
    obtain ⟨k, hk, rfl, hb⟩ := hrel
    have gs := hb.out.size
    by_cases hlt : k < m
    · obtain ⟨ga, oa, rfl, hga, hca⟩ := HC.out (by omega)
      obtain ⟨gb, ob, rfl, hgb, hcb⟩ := HD.out (by omega)
      obtain ⟨x, hx, hxi⟩ := hca k hlt
      obtain ⟨y, hy, hyi⟩ := hcb k hlt
      have c0 := fun z : BelowW wr => z.cell ((hb.out.cell (p := ⟨ga, oa + k, none⟩) hga).trans hx) (by omega)
      have c1 := fun z : BelowW wr => z.cell ((hb.out.cell (p := ⟨gb, ob + k, none⟩) hgb).trans hy) (by omega)
      have hne : Nonempty (BelowW wr) := ⟨⟨wr, Below.refl _ _⟩⟩
      have SI := fun z : BelowW wr => sameInts_below (L.getD k []) x y z.q ((hxi.below hb.out).below z.h) ((hyi.below hb.out).below z.h) (HLL.out k hlt)
      obtain ⟨x1, x2, rfl⟩ : ∃ a c, x = .slice a (L.getD k []).length c := by obtain ⟨a, c, e, _⟩ := hxi; exact ⟨a, c, e⟩
      obtain ⟨y1, y2, rfl⟩ : ∃ a c, y = .slice a (L.getD k []).length c := by obtain ⟨a, c, e, _⟩ := hyi; exact ⟨a, c, e⟩
      generalize (L.getD k []).length = xl at *
      clear hca hcb hx hy hxi hyi
      go_wp2_with fail
      refine wp_region_calm (by kernel_rfl) (by kernel_rfl) ?_
      repeat (go_big_quiet_step (first | (go_at_call 45; exact calm_of (SI _))))
      refine wpQuiet_nil ?_
      rintro w5 ⟨⟨q3, hq⟩, e3⟩
      have e4 : w5 = q3 := e3
      clear e3
      subst e4
      have hb5 := below_next hb.out (Nat.le_refl _) hq
      clear c0 c1 hne SI
      go_wp2_with fail
      go_roundw
      case rel => exact ⟨k + 1, by omega, by go_num, hide hb5⟩
      case measure => simp [intOf]; omega
    · go_wp2_with fail
      go_ret
      exact ⟨rfl, hb.out⟩
/-- a list of rows of the call's own, as it reads -/
theorem OwnL.lsts {w : World} {base : Nat} {v : Value} {L : List (List Int)} (h : OwnL w base v L) : Lsts w v L := by
  obtain ⟨us, h1, h2⟩ := h
  have hl := h2.len
  have h0 := h1
  rcases h1.2 with ⟨e1, e2⟩ | ⟨g, cap, cur, e1, _, hh, _⟩
  · exact ⟨none, 0, by rw [e1]; congr 1; omega, fun h => by omega⟩
  · subst e1
    refine ⟨_, cap, by rw [hl], fun _ => ⟨g, 0, rfl, lt_of_block hh, fun i hi => ?_⟩⟩
    obtain ⟨u, hu⟩ : ∃ u, us[i]? = some u := ⟨us[i]'(by omega), List.getElem?_eq_getElem (by omega)⟩
    refine ⟨u, ?_, (h2.row i u hu).ints⟩
    rw [Nat.zero_add, World.ownsRow.cellAt h0 i (by omega), hu]
theorem sayL_any (k : Int) (a : Option Addr) (n c : Nat) (w : World) : Calls Try.prog 23 #[.int .u8 k, .slice a n c] w fun e w' => e = .returned (.agg #[.int .u8 k, .slice a n c]) ∧ Below w.heap.size w w' := by
  have HB := hide (Blk.new w #[.int .u8 k, .slice a n c] 38)
  have Hb := hide (below_alloc w (.cells #[.int .u8 k, .slice a n c] 38))
  go_enter Try.func23, Try.ntmps23
  go_wp2_with fail
  refine bodyPost_ret (res_back Try.results23 Try.underlying38 (by kernel_rfl) _ _ w.heap.size rfl HB.out) rfl ?_
  exact ⟨rfl, Hb.out⟩
set_option maxHeartbeats 1000000 in
theorem told_true (k a b : Int) (v u : Value) (w : World) (n : Nat) (hv : Ans w n v (some (k, a, b))) (hu : Ints w u [a, b]) : Calls Try.prog 22 #[v, .agg #[.int .u8 k, u]] w fun e w' => e = .returned (.bool true) ∧ Below w.heap.size w w' := by
  obtain ⟨f, g, _, _, _, rfl, hg, hf⟩ := hv
  obtain ⟨ua, uc, rfl, hu2⟩ := id hu
  have BX := hide (Blk.new w #[.int .u8 k, .slice ua 2 uc] 38)
  have Hb := hide (below_alloc w (.cells #[.int .u8 k, .slice ua 2 uc] 38))
  have HIf : Ints w (.slice (some ⟨f, 0, none⟩) 2 2) [a, b] := ints_row (l := [a, b]) hf 2 2 rfl
  have SA := hide (fun W (hb : Below w.heap.size w W) => same_true5 k [a, b] (.slice (some ⟨f, 0, none⟩) 2 2) (.slice ua 2 uc) W (HIf.below hb) (hu.below hb) (by simp))
  have HG := hide (hg.alloc (.cells #[.int .u8 k, .slice ua 2 uc] 38))
  clear hf hu hu2 HIf hg
  simp only [List.length_cons, List.length_nil, Nat.reduceAdd] at *
  go_enter Try.func22, Try.ntmps22
  go_upto_region 1 with fail
  generalize w.alloc (.cells #[.int .u8 k, .slice ua 2 uc] 38) = W0 at *
  have e1 : ∀ x : BelowW W0, x.q.cell? ⟨g, 0, none⟩ = some (.int .u8 k) := HG.out.at 0 rfl
  have e2 : ∀ x : BelowW W0, x.q.cell? ⟨g, 1, none⟩ = some (.slice (some ⟨f, 0, none⟩) 2 2) := HG.out.at 1 rfl
  have e3 : ∀ x : BelowW W0, x.q.cell? ⟨w.heap.size, 0, none⟩ = some (.int .u8 k) := BX.out.at 0 rfl
  have e4 : ∀ x : BelowW W0, x.q.cell? ⟨w.heap.size, 1, none⟩ = some (.slice ua 2 uc) := BX.out.at 1 rfl
  have hne : Nonempty (BelowW W0) := ⟨⟨W0, Below.refl _ _⟩⟩
  refine wp_region_calm (by kernel_rfl) (by kernel_rfl) ?_
  repeat (go_big_quiet_step (first | (go_at_call 46; exact calm_of (SA.out _ (below_next Hb.out (Nat.le_refl _) (BelowW.h _))))))
  refine wpQuiet_nil ?_
  rintro _ ⟨z, rfl⟩
  have Zb := hide (below_next Hb.out (Nat.le_refl _) z.h)
  generalize z.q = W3 at *
  clear z e1 e2 e3 e4 hne
  go_wp2_with fail
  go_ret
  exact ⟨rfl, Zb.out⟩
end Go.Proofs.Ytimkfipiebppiaa
