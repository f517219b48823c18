/- The statements' own functions: kept; the document's Check; a plan of jobs. -/
import Derived.Test.YtcjahdgppnmdkaaExa
import Derived.Laws.StructEq
set_option maxRecDepth 100000
namespace Go.Proofs.Ytcjahdgppnmdkaa
open Go.RowKit Go.Great

theorem jbsC_cons (x : Jb) (r : List Jb) : jbsC (x :: r) = jbC x ++ jbsC r := by rw [jbsC, List.flatMap_cons, ← jbsC]
theorem jbsC_set (x : Jb) : ∀ (L : List Jb) (i : Nat), jbsC (L.set i x) = ((((jbsC L).set (i * 3) (.int .i64 x.pe)).set (i * 3 + 1) (.int .i64 x.ph)).set (i * 3 + 2) (.int .i64 x.rk))
  | [], i => by simp [jbsC]
  | y :: r, 0 => by simp [jbsC, jbC]
  | y :: r, i + 1 => by
    have e : ∀ (k : Nat) (l : List Value) (v : Value), (jbC y ++ l).set (3 + k) v = jbC y ++ l.set k v := fun k l v => by simp [jbC, show 3 + k = k + 1 + 1 + 1 by omega]
    have ih := jbsC_set x r i
    rw [List.set_cons_succ, jbsC_cons, ih, jbsC_cons]
    rw [show (i + 1) * 3 = 3 + i * 3 by omega, e, show 3 + i * 3 + 1 = 3 + (i * 3 + 1) by omega, e, show 3 + i * 3 + 2 = 3 + (i * 3 + 2) by omega, e]
/-- jobs of the call's own, n of them and room: one is written -/
theorem JRow.set {w : World} {base g n cap : Nat} {L : List Jb} (h : w.ownsRow base 80 3 (.slice (some ⟨g, 0, none⟩) n cap) n (jbsC L)) (hn : L.length = n) (i : Nat) (x : Jb) : (((w.setCell ⟨g, i * 3, none⟩ (.int .i64 x.pe)).setCell ⟨g, i * 3 + 1, none⟩ (.int .i64 x.ph)).setCell ⟨g, i * 3 + 2, none⟩ (.int .i64 x.rk)).ownsRow base 80 3 (.slice (some ⟨g, 0, none⟩) n cap) n (jbsC (L.set i x)) := by
  rcases h.2 with ⟨q, _⟩ | ⟨g', cap', cur, hv, hg, hh, hnc, hc, hs, ht⟩
  · cases q
  · injection hv with e1 _ e2
    injection e1 with e1
    injection e1 with e1
    subst e1 e2
    have hB : Blk w g cur 80 := hh
    refine ⟨by rw [jbsC_len, List.length_set, hn], .inr ⟨g, cap, _, rfl, hg, ((hB.set _ _).set _ _).set _ _, hnc, hc, by simp [hs], ?_⟩⟩
    rw [Array.toList_setIfInBounds, Array.toList_setIfInBounds, Array.toList_setIfInBounds, List.take_set, List.take_set, List.take_set, jbsC_set, ht]
theorem HQ.grownT {w w' : World} {b P o base size n : Nat} {e : TypeId} {pre : List Value} {ty : TypeId} {s : List Tu} {v : Value} {xs : List Value} (hQ : HQ w b P o pre ty s) (hR : w.ownsRow base e size v n xs) (he : e ≠ ty) (he2 : e ≠ 148) (hG : w.grownBy w' v.ownBlock) : HQ w' b P o pre ty s := by
  obtain ⟨a, cap, l, h1, h2, h3⟩ := hQ
  refine ⟨a, cap, l, ⟨h1.po, Nat.le_trans h1.bs hG.size, blk_grown hR h1.box he hG, World.ownsRow.kept h1.own hG ?_, h1.ok, h1.ht⟩, h2, h3⟩
  rcases h1.own.2 with ⟨q, _⟩ | ⟨g, c, cur, q1, q2, q3, _⟩
  · rw [q]; exact .inl rfl
  · rw [q1]
    exact .inr (fun e => blk_apart hR (show Blk w g cur 148 from q3) he2 e.symm)
theorem neq_jb (a b c : Int) (w : World) : (binOp .neq 80 (.agg #[.int .i64 a, .int .i64 b, .int .i64 c]) (.agg #[.int .i64 a, .int .i64 b, .int .i64 c])).run Try.prog w = .ok (.bool false) w := by
  simp [go_sem]
theorem eql_jb (a b c : Int) (w : World) : (binOp .eql 80 (.agg #[.int .i64 a, .int .i64 b, .int .i64 c]) (.agg #[.int .i64 a, .int .i64 b, .int .i64 c])).run Try.prog w = .ok (.bool true) w := by
  simp [go_sem]
set_option maxHeartbeats 4000000 in
theorem keptJ_any (L : List Jb) (u v : Value) (w : World) (base : Nat) (hu : Lnt w base u L) (hv : Rws w v 3 jbC L) : Calls Try.prog 58 #[u, v] w fun e w' => e = .returned (.bool true) ∧ Below w.heap.size w w' := by
  have HU := hide hu.rws
  have HV := hide hv
  obtain ⟨g, cap, rfl, hM⟩ := hu
  obtain ⟨m1, na, np, rfl, _⟩ := hv
  have hw := hM.rws
  obtain ⟨g', o', cap', x, e1, hg, hxl, cell⟩ := hw.get L.length (by rw [List.length_append]; simp)
  rw [List.getElem?_append_right (Nat.le_refl _), Nat.sub_self] at hxl
  injection hxl with hxl
  subst hxl
  injection e1 with e1 e2 e3
  injection e1 with e1
  injection e1 with e1 e4
  subst e1 e4 e3
  have HC := hide cell
  have hcap : L.length + 1 ≤ cap ∧ cap ≤ 9223372036854775807 := by
    rcases hM.2 with ⟨_, h2⟩ | ⟨g2, cap2, cur, e2, _, _, hc2, hc3, _⟩
    · simp at h2
    · injection e2 with _ _ e3
      rw [List.length_append] at hc2
      simp at hc2
      unfold maxLen at hc3
      omega
  obtain ⟨hcap, hcap2⟩ := hcap
  unfold maxLen at m1
  obtain ⟨n, hn⟩ : ∃ n, Hid (L.length = n) := ⟨_, hide rfl⟩
  rw [hn.out] at hcap m1 HC ⊢
  have hwr : wrap64 ((n : Int) + 1) = n + 1 := by unfold wrap64; omega
  clear hM hw cell e2
  go_enter Try.func58, Try.ntmps58
  go_wp2_with fail
  go_loopw [5] (fun v5 wr => ∃ i : Nat, v5 = .int .i64 (i : Int) ∧ i ≤ n ∧ Hid (Below w.heap.size w wr)) (fun v5 _ => n - (intOf v5).toNat)
  case atStart => exact ⟨0, rfl, by omega, hide (Below.refl _ _)⟩
  case round =>
    obtain ⟨i, rfl, hi, Hb⟩ := hrel
    by_cases hin : i < n
    · obtain ⟨g1, o1, eg1, _, hc1⟩ := jb_at HU.out i (by rw [hn.out]; exact hin)
      injection eg1 with eg1
      injection eg1 with eg1 eo1
      subst eg1 eo1
      obtain ⟨g2, o2, rfl, _, hc2⟩ := jb_at HV.out i (by rw [hn.out]; exact hin)
      obtain ⟨a0, a1, a2⟩ := hc1 wr Hb.out
      obtain ⟨b0, b1, b2⟩ := hc2 wr Hb.out
      rw [Nat.zero_add] at a0 a1 a2
      have NE := neq_jb (jbA L i).pe (jbA L i).ph (jbA L i).rk
      generalize (jbA L i).pe = x0 at *
      generalize (jbA L i).ph = x1 at *
      generalize (jbA L i).rk = x2 at *
      have hic : (i : Int) < cap := by omega
      clear hc1 hc2
      go_wp2_with fail
      go_quiet (fail)
      go_wp2_with fail
      go_roundw
      case rel => exact ⟨i + 1, by simp, by omega, hide (below_drewN Hb.out _)⟩
      case measure => simp [intOf]; omega
    · have e1 : i = n := by omega
      have p0 : wr.cell? ⟨g, 0 + n * 3, none⟩ = some (.int .i64 (-77)) := HC.out wr Hb.out 0 _ rfl
      have p1 : wr.cell? ⟨g, 0 + n * 3 + 1, none⟩ = some (.int .i64 0) := HC.out wr Hb.out 1 _ rfl
      have p2 : wr.cell? ⟨g, 0 + n * 3 + 2, none⟩ = some (.int .i64 0) := HC.out wr Hb.out 2 _ rfl
      rw [Nat.zero_add] at p0 p1 p2
      have EQ := eql_jb (-77) 0 0
      have hlt1 : (n : Int) < n + 1 := by omega
      clear HC
      subst e1
      go_wp2_with fail
      go_ret
      exact ⟨rfl, Hb.out⟩
set_option maxHeartbeats 2000000 in
theorem refCheck_any (L : List Jb) (v : Value) (w : World) (hR : Rws w v 3 jbC L) : Calls Try.prog 57 #[v] w fun e w' => e = .returned (.int .i64 (chkJ L)) ∧ w' = w := by
  have HR := hide hR
  have hl := hR.1
  unfold maxLen at hl
  obtain ⟨_, na, np, rfl, _⟩ := hR
  obtain ⟨n, hn⟩ : ∃ n, Hid (L.length = n) := ⟨_, hide rfl⟩
  obtain ⟨c, hc⟩ : ∃ c, Hid (chkJ L = c) := ⟨_, hide rfl⟩
  rw [hn.out] at hl ⊢
  rw [hc.out]
  by_cases h64 : 64 < n
  · have hc4 : c = 4 := by rw [← hc.out]; unfold chkJ; rw [if_pos (by rw [hn.out]; exact h64)]
    subst hc4
    have h64' : decide ((64 : Int) < (n : Int)) = true := by simp; omega
    go_enter Try.func57, Try.ntmps57
    go_wp2_with fail
    go_ret
    exact ⟨rfl, rfl⟩
  · have h64' : decide ((64 : Int) < (n : Int)) = false := by simp; omega
    have hcb : Hid (c = if L.any bad then 1 else 0) := hide (by rw [← hc.out]; unfold chkJ; rw [if_neg (by rw [hn.out]; exact h64)])
    go_enter Try.func57, Try.ntmps57
    go_wp2_with fail
    go_loopw [3] (fun v3 wr => ∃ i : Nat, v3 = .int .i64 (i : Int) ∧ i ≤ n ∧ wr = w ∧ Hid (∀ j : Nat, j < i → bad (jbA L j) = false)) (fun v3 _ => n - (intOf v3).toNat)
    case atStart => exact ⟨0, rfl, by omega, rfl, hide (fun j hj => by omega)⟩
    case round =>
      obtain ⟨i, rfl, hi, rfl, HB⟩ := hrel
      by_cases hin : i < n
      · obtain ⟨g, o, rfl, hg, hcc⟩ := jb_at HR.out i (by rw [hn.out]; exact hin)
        obtain ⟨c0, c1, c2⟩ := hcc wr (Below.refl _ _)
        obtain ⟨bb, hbb⟩ : ∃ bb, Hid (bad (jbA L i) = bb) := ⟨_, hide rfl⟩
        have HD : Hid (bb = (decide ((jbA L i).pe < 1) || decide ((jbA L i).ph < 0))) := hide (by rw [← hbb.out]; rfl)
        have HT : Hid (bb = true → L.any bad = true) := hide (fun e => List.any_eq_true.2 ⟨jbA L i, jbA_in (by rw [hn.out]; exact hin), by rw [hbb.out, e]⟩)
        generalize (jbA L i).pe = x0 at *
        generalize (jbA L i).ph = x1 at *
        generalize (jbA L i).rk = x2 at *
        clear hcc
        by_cases h0 : x0 < 1
        · have hc1 : c = 1 := by
            have e1 := HD.out
            rw [decide_eq_true h0, Bool.true_or] at e1
            rw [hcb.out, HT.out e1]
            rfl
          subst hc1
          clear HB HT HD
          go_wp2_with fail
          go_ret
          exact ⟨rfl, rfl⟩
        · by_cases h1 : x1 < 0
          · have hc1 : c = 1 := by
              have e1 := HD.out
              rw [decide_eq_false h0, decide_eq_true h1] at e1
              rw [hcb.out, HT.out e1]
              rfl
            subst hc1
            clear HB HT HD
            go_wp2_with fail
            go_ret
            exact ⟨rfl, rfl⟩
          · have HB2 : Hid (∀ j : Nat, j < i + 1 → bad (jbA L j) = false) := hide (fun j hj => by
              by_cases e : j = i
              · rw [e, hbb.out, HD.out, decide_eq_false h0, decide_eq_false h1]; rfl
              · exact HB.out j (by omega))
            clear HB HT HD
            go_wp2_with fail
            go_roundw
            case rel => exact ⟨i + 1, by simp, by omega, by trivial, HB2⟩
            case measure => simp [intOf]; omega
      · have hc0 : c = 0 := by
          have e1 : L.any bad = false := by
            rw [List.any_eq_false]
            intro x hx
            obtain ⟨j, hj, e⟩ := List.getElem_of_mem hx
            have := HB.out j (by rw [hn.out] at hj; omega)
            unfold jbA at this
            rw [List.getD, List.getElem?_eq_getElem hj] at this
            simpa [e] using this
          rw [hcb.out, e1]
          rfl
        subst hc0
        clear HB
        go_wp2_with fail
        go_ret
        exact ⟨rfl, rfl⟩
end Go.Proofs.Ytcjahdgppnmdkaa
