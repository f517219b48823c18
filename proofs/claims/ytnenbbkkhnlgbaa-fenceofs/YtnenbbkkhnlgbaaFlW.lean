/- Four lists of points that share no memory: owns. -/
import Derived.Test.YtnenbbkkhnlgbaaFlA
import Derived.Deep.DeepCutAuto
namespace Go.Proofs.Ytnenbbkkhnlgbaa
open Go.RowKit Go.Great

theorem info_pts : (Try.prog.info? 22).map (fun i => (i.zero, i.size, i.bytes)) = some (some (.slice none 0 0), 1, 24) := by kernel_rfl
theorem made_four {w : World} {base g : Nat} (h : w.ownsRow base 22 1 (.slice (some ⟨g, 0, none⟩) 4 4) 4 (madeCells #[.slice none 0 0] 4).toList) : Four w g (fun _ => .slice none 0 0) := by
  rcases h.2 with ⟨e, _⟩ | ⟨g2, cap, cur, e, _, hh, _, _, hs, ht⟩
  · cases e
  · injection e with e1 _ e3
    injection e1 with e4
    injection e4 with e5
    subst e5 e3
    rw [toList_madeCells_one] at ht
    have hl : cur.toList.length = 4 := by simpa using hs
    rw [List.take_of_length_le (by omega)] at ht
    have : cur = #[.slice none 0 0, .slice none 0 0, .slice none 0 0, .slice none 0 0] := by
      apply Array.ext'
      rw [ht]; rfl
    rw [this] at hh
    exact hh
theorem upd_next (N : Nat → Nat) (j : Nat) : updN (fun q => if q < j then N q else 0) j (N j) = (fun q => if q < j + 1 then N q else 0) := by
  funext q
  unfold updN
  by_cases e : q = j
  · rw [if_pos e, if_pos (by omega), e]
  · rw [if_neg e]
    show (if q < j then N q else 0) = _
    by_cases e2 : q < j
    · rw [if_pos e2, if_pos (by omega)]
    · rw [if_neg e2, if_neg (by omega)]
theorem upd_zero (N : Nat → Nat) (j : Nat) : updN (fun q => if q < j then N q else 0) j 0 = (fun q => if q < j then N q else 0) := by
  funext q
  unfold updN
  split
  · rename_i e; rw [e]; simp
  · rfl
theorem upd_upd (f : Nat → Nat) (j a b : Nat) : updN (updN f j a) j b = updN f j b := by
  funext q; unfold updN; split <;> rfl
theorem owns_form {w : World} {base n size : Nat} {e : TypeId} {v : Value} {xs : List Value} (h : w.ownsRow base e size v n xs) : ∃ a cap, v = .slice a n cap := by
  rcases h.2 with ⟨h1, h2⟩ | ⟨g, cap, cur, h1, _⟩
  · exact ⟨none, 0, by rw [h1, h2]⟩
  · exact ⟨_, cap, h1⟩
theorem wp_append_two {P : Program} {w : World} {o : Oper} {a : Act} {K : Act → World → Prop} {Q : Exit → Act → World → Prop} (s x : Operand) (t : TypeId)
    (ho : o.op = .call { callee := .builtin .append, args := #[s, x], argTypes := #[t, t] })
    (base : Nat) (e : TypeId) (i : TypeInfo) (z : Value) (size bytes : Nat) (ht : P.underlying t = some (.slice e)) (hi : P.info? e = some i) (hz : i.zero = some z)
    (hsize : i.size = size) (hby : i.bytes = bytes) (hzs : z.cells.size = size) (hsz : 0 < size)
    (v : Value) (n : Nat) (xs : List Value) (hs : a.eval s = v) (hown : w.ownsRow base e size v n xs)
    (ad : Addr) (m c : Nat) (news : List Value) (hx : a.eval x = .slice (some ad) m c) (hl : news.length = m * size) (hnews : ∀ j u, news[j]? = some u → w.cell? (ad.add j) = some u) (h1 : ∀ u ∈ news, u.oneCell' = true)
    (h63 : n + m ≤ maxLen) (hbytes : (n + m) * bytes ≤ 140737488355328) (hbase : base ≤ w.heap.size)
    (h : ∀ v' w', w'.ownsRow base e size v' (n + m) (xs ++ news) → w.grownBy w' v.ownBlock → ((v'.ownBlock = v.ownBlock ∧ v.ownBlock ≠ none) ∨ (w.grownBy w' none ∧ ∀ k, v'.ownBlock = some k → w.heap.size ≤ k)) → K (a.put o.dst v') w') : o.wp P a w K Q := by
  have hown0 := hown
  rcases hown.2 with ⟨rfl, rfl⟩ | ⟨g, cap, cur, rfl, hb, hh, hnc, _⟩
  · refine wp_append_own w s x t ho w.heap.size e i z size bytes ht hi hz hsize hby hzs hsz (.slice none 0 0) 0 xs hs ⟨hown.1, .inl ⟨rfl, rfl⟩⟩ ad m c news hx hl hnews h1 h63 hbytes (Nat.le_refl _) fun v' w' o' g' _ => ?_
    refine h v' w' ?_ g' (.inr ⟨g', fun k hk => (o'.lt k hk).1⟩)
    refine ⟨o'.1, ?_⟩
    rcases o'.2 with q | ⟨g2, cap2, cur2, q1, q2, q3⟩
    · exact .inl q
    · exact .inr ⟨g2, cap2, cur2, q1, Nat.le_trans hbase q2, q3⟩
  · by_cases hr : n + m ≤ cap
    · obtain ⟨w', hrun, r1, r2⟩ := run_append_fits (P := P) w base t o.type e i size ht hi hsize g n cap xs hown0 ad m c news hl hnews h1 hr
      unfold Oper.wp
      simp [execOp, ho, resolve, invoke, builtin, hs, hx, hrun, Result.andThen]
      exact h _ w' r1 r2 (.inl ⟨rfl, by simp [Value.ownBlock]⟩)
    · obtain ⟨v', w', hrun, r1, r2⟩ := run_append_arg_grows (P := P) w t o.type e i z size bytes ht hi hz hsize hby hzs hsz ⟨g, 0, none⟩ n cap xs hown0.1 (hown0.cells (g := g) rfl) ad m c news hl hnews (by omega) h63 hbytes
      unfold Oper.wp
      simp [execOp, ho, resolve, invoke, builtin, hs, hx, hrun, Result.andThen]
      refine h v' w' ?_ ⟨r2.os, r2.tape, r2.output, r2.size, fun k hk _ => r2.block k hk (by simp)⟩ (.inr ⟨r2, fun k hk => (r1.lt k hk).1⟩)
      refine ⟨r1.1, ?_⟩
      rcases r1.2 with q | ⟨g2, cap2, cur2, q1, q2, q3⟩
      · exact .inl q
      · exact .inr ⟨g2, cap2, cur2, q1, Nat.le_trans hbase q2, q3⟩
set_option maxHeartbeats 8000000 in
set_option maxRecDepth 100000 in
theorem owns_true (N : Nat → Nat) (hN : ∀ j, j < 4 → N j ≤ 255) (vv : Nat → Value) (fl ce fl' ce' : Int) (w : World) (base : Nat) (hrows : ∀ j, j < 4 → ∃ l, PRow w base (vv j) l ∧ l.length = N j) (hap : ∀ i j, i < 4 → j < 4 → i ≠ j → ∀ g, (vv i).ownBlock = some g → (vv j).ownBlock ≠ some g) (hb : base ≤ w.heap.size) : Calls Try.prog 32 #[fV (vv 0) fl ce (vv 1), fV (vv 2) fl' ce' (vv 3)] w fun e w' => e = .returned (.bool true) ∧ Below base w w' := by
  obtain ⟨i0, hi, hz0, hz1, hz2⟩ := info_parts info_pt
  obtain ⟨j0, gi, gz0, gz1, gz2⟩ := info_parts info_pts
  have HF : Hid (∀ j, j < 4 → ∃ a c, vv j = .slice a (N j) c) := fun j hj => by
    obtain ⟨l, hR, hl⟩ := hrows j hj
    obtain ⟨a, c, e⟩ := hR.form
    exact ⟨a, c, by rw [e, hl]⟩
  have HS1 : Hid (∀ w1 L, Below w.heap.size w w1 → Four w1 L vv → w.heap.size ≤ L → Ap1 w base N L vv (fun _ => 0) w1) := by
    intro w1 L hb1 hL hLb
    refine ⟨fun j hj => ?_, hap, hL, hb1.mono hb, by omega⟩
    obtain ⟨l, hR, hl⟩ := hrows j hj
    exact ⟨l, hR.below hb1, hl, fun t ht => absurd ht (by omega)⟩
  have HNN := hide hN
  obtain ⟨a0, k0, e0⟩ := HF.out 0 (by omega)
  obtain ⟨a1, k1, e1⟩ := HF.out 1 (by omega)
  obtain ⟨a2, k2, e2⟩ := HF.out 2 (by omega)
  obtain ⟨a3, k3, e3⟩ := HF.out 3 (by omega)
  have HFV : Hid (#[vv 0, vv 1, vv 2, vv 3] = #[.slice a0 (N 0) k0, .slice a1 (N 1) k1, .slice a2 (N 2) k2, .slice a3 (N 3) k3]) := hide (by rw [e0, e1, e2, e3])
  rw [e0, e1, e2, e3]
  clear e0 e1 e2 e3 hap hrows hN
  simp only [fV]
  go_enter Try.func32, Try.ntmps32
  generalize N 0 = n0 at *
  generalize N 1 = n1 at *
  generalize N 2 = n2 at *
  generalize N 3 = n3 at *
  go_wp2_with fail
  obtain ⟨V0, hV0, hBv, _, _, hzv⟩ := two_boxes w #[.slice a0 n0 k0, .int .i64 fl, .int .i64 ce, .slice a1 n1 k1] #[.slice a2 n2 k2, .int .i64 fl', .int .i64 ce', .slice a3 n3 k3] 24 24
  rw [hV0]
  have hL1 : Four (V0.alloc (.cells #[.slice a0 n0 k0, .slice a1 n1 k1, .slice a2 n2 k2, .slice a3 n3 k3] 22)) V0.heap.size vv := by
    unfold Four
    rw [HFV.out]
    exact Blk.new _ _ _
  have HA0 := hide (HS1.out _ _ (below_next hBv (Nat.le_refl _) (below_alloc V0 (.cells #[.slice a0 n0 k0, .slice a1 n1 k1, .slice a2 n2 k2, .slice a3 n3 k3] 22))) hL1 (by omega))
  have hVL : V0.heap.size = w.heap.size + 1 + 1 := by omega
  rw [hVL] at HA0
  obtain ⟨W1, hW1⟩ : ∃ W1, V0.alloc (.cells #[.slice a0 n0 k0, .slice a1 n1 k1, .slice a2 n2 k2, .slice a3 n3 k3] 22) = W1 := ⟨_, rfl⟩
  rw [hW1] at HA0 ⊢
  generalize hLL : w.heap.size + 1 + 1 = L at *
  clear hV0 hBv hzv hL1 hVL hW1 HS1 HFV hLL
  go_loopw [6] (fun i wx => ∃ j : Nat, j ≤ 4 ∧ i = .int .i64 j ∧ Ap1 w base N L vv (fun q => if q < j then N q else 0) wx) (fun i _ => 4 - (intOf i).toNat)
  case atStart => exact ⟨0, by omega, rfl, by simpa using HA0.out⟩
  case round =>
    clear HA0
    obtain ⟨j, hj, rfl, hA⟩ := hrel
    have HA := hide hA
    clear hA
    by_cases hlt : j < 4
    · have hj2 : (j : Int) < 4 := by omega
      go_wp2_with fail
      obtain ⟨nj, hnj⟩ : ∃ nj, N j = nj := ⟨_, rfl⟩
      have HNJ := hide hnj
      have hnb : nj ≤ 255 := by rw [← hnj]; exact HNN.out j hlt
      clear hnj
      go_loopw [7] (fun i wx => ∃ t : Nat, t ≤ nj ∧ i = .int .i64 t ∧ Ap1 w base N L vv (updN (fun q => if q < j then N q else 0) j t) wx) (fun i _ => nj - (intOf i).toNat)
      case atStart =>
        refine ⟨0, by omega, rfl, ?_⟩
        rw [upd_zero]; exact HA.out
      case round =>
        obtain ⟨t, ht, rfl, hA2⟩ := hrel
        have HA2 := hide hA2
        have d0 := hA2.lb.at j hlt
        obtain ⟨va, vc, hva⟩ := HF.out j hlt
        rw [hva, HNJ.out] at d0
        have HVA := hide hva
        have lL := hA2.lb.lt
        clear hA2 hva HA
        by_cases hlt2 : t < nj
        · have hKj : updN (fun q => if q < j then N q else 0) j t j = t := by simp [updN]
          obtain ⟨g, c, hv, _, _, _, _⟩ := HA2.out.mark j hlt (by rw [hKj, HNJ.out]; exact hlt2)
          rw [HVA.out] at hv
          injection hv with hv1 _ hv2
          subst hv1 hv2
          have ht2 : (t : Int) < (nj : Int) := by omega
          go_wp2_with fail
          refine wp_region_held_drew (S := fun wx => wx.cell? ⟨L, j, none⟩ = some (.slice (some ⟨g, 0, none⟩) nj vc)) (by kernel_rfl) (by exact d0) (fun hHeld => ?_)
          refine take_at (i := 0) (v := .slice (some ⟨L, 0, none⟩) 4 4) (d := some 38) rfl rfl (by kernel_rfl) (by kernel_rfl) (by kernel_rfl) (fun _ _ _ h => h) (Or.inl ⟨by rfl, fun wS hSw => by go_simp; all_goals (rw [IntKind.wrap_i64]; omega)⟩) (by assumption) ?_
          simp only [Act.put, List.setIfInBounds_toArray, List.set_cons_zero, List.set_cons_succ]
          refine take_at (i := 1) (v := .int .i64 (j : Int)) (d := some 39) rfl rfl (by kernel_rfl) (by kernel_rfl) (by kernel_rfl) (fun _ _ _ h => h) (Or.inl ⟨by rfl, fun wS hSw => by go_simp; all_goals (rw [IntKind.wrap_i64]; omega)⟩) (by assumption) ?_
          simp only [Act.put, List.setIfInBounds_toArray, List.set_cons_zero, List.set_cons_succ]
          refine take_at (i := 2) (v := .pointer (some ⟨L, j, none⟩)) (d := some 40) rfl rfl (by kernel_rfl) (by kernel_rfl) (by kernel_rfl) (fun _ _ _ h => h) (Or.inl ⟨by rfl, fun wS hSw => by go_simp; all_goals (rw [IntKind.wrap_i64]; omega)⟩) (by assumption) ?_
          simp only [Act.put, List.setIfInBounds_toArray, List.set_cons_zero, List.set_cons_succ]
          refine take_at (i := 3) (v := .slice (some ⟨g, 0, none⟩) nj vc) (d := some 41) rfl rfl (by kernel_rfl) (by kernel_rfl) (by kernel_rfl) (fun _ _ _ h => h) (Or.inl ⟨by rfl, fun wS hSw => by go_simp; all_goals (rw [IntKind.wrap_i64]; omega)⟩) (by assumption) ?_
          simp only [Act.put, List.setIfInBounds_toArray, List.set_cons_zero, List.set_cons_succ]
          refine take_at (i := 4) (v := .int .i64 (t : Int)) (d := some 42) rfl rfl (by kernel_rfl) (by kernel_rfl) (by kernel_rfl) (fun _ _ _ h => h) (Or.inl ⟨by rfl, fun wS hSw => by go_simp; all_goals (rw [IntKind.wrap_i64]; omega)⟩) (by assumption) ?_
          simp only [Act.put, List.setIfInBounds_toArray, List.set_cons_zero, List.set_cons_succ]
          refine take_at (i := 5) (v := .int .i64 (j : Int)) (d := some 43) rfl rfl (by kernel_rfl) (by kernel_rfl) (by kernel_rfl) (fun _ _ _ h => h) (Or.inl ⟨by rfl, fun wS hSw => by go_simp; all_goals (rw [IntKind.wrap_i64]; omega)⟩) (by assumption) ?_
          simp only [Act.put, List.setIfInBounds_toArray, List.set_cons_zero, List.set_cons_succ]
          refine take_at (i := 6) (v := .int .i64 (t : Int)) (d := some 44) rfl rfl (by kernel_rfl) (by kernel_rfl) (by kernel_rfl) (fun _ _ _ h => h) (Or.inl ⟨by rfl, fun wS hSw => by go_simp; all_goals (rw [IntKind.wrap_i64]; omega)⟩) (by assumption) ?_
          simp only [Act.put, List.setIfInBounds_toArray, List.set_cons_zero, List.set_cons_succ]
          refine wpAnyH_ready (rs := [7]) (by kernel_rfl) (by simp) ?_
          refine AllReadyH.cons rfl (fun K hK => ?_) AllReadyH.nil
          go_simp
          refine (atF_below _ _ _).mono ?_
          rintro e w5 ⟨rfl, hb5⟩
          have hb5' := below_undrew hb5
          have HA5 := hide (HA2.out.below hb5')
          obtain ⟨g', c', hv', ⟨x, y, q0, q1⟩, qf, ql, hnx⟩ := HA5.out.mark j hlt (by rw [hKj, HNJ.out]; exact hlt2)
          rw [hKj] at q0 q1 hnx
          rw [HVA.out] at hv'
          injection hv' with hv1' _ hv2'
          injection hv1' with hv1'
          injection hv1' with hv1'
          subst hv1' hv2'
          rw [upd_upd] at hnx
          have HNX := hide hnx
          have hsame : w5.cell? ⟨L, j, none⟩ = some (.slice (some ⟨g, 0, none⟩) nj vc) := by
            have := HA5.out.lb.at j hlt
            rw [HVA.out, HNJ.out] at this
            exact this
          have hsame2 : ((w5.setCell ⟨g, t * 2, none⟩ (.int .i64 (j : Int))).setCell ⟨g, t * 2 + 1, none⟩ (.int .i64 (t : Int))).cell? ⟨L, j, none⟩ = some (.slice (some ⟨g, 0, none⟩) nj vc) := by
            have := HNX.out.lb.at j hlt
            rw [HVA.out, HNJ.out] at this
            exact this
          have f0 := qf (t * 2)
          have f1 := qf (t * 2 + 1)
          clear hHeld hb5 hb5' HA5 hnx qf
          refine hK.out _ _ (hsame) (fun hHeld => ?_)
          clear hK K
          refine take_at (i := 8) (v := .pointer (some ⟨g, t * 2, none⟩)) (d := some 46) rfl rfl (by kernel_rfl) (by kernel_rfl) (by kernel_rfl) (fun _ _ _ h => h) (Or.inl ⟨by rfl, fun wS hSw => by go_simp; all_goals (rw [IntKind.wrap_i64]; omega)⟩) (by assumption) ?_
          simp only [Act.put, List.setIfInBounds_toArray, List.set_cons_zero, List.set_cons_succ]
          refine wpAnyH_ready (rs := [9]) (by kernel_rfl) (by simp) ?_
          refine AllReadyH.cons rfl (fun K hK => ?_) AllReadyH.nil
          go_simp
          clear hHeld
          refine hK.out _ _ (hsame2) (fun hHeld => ?_)
          clear hK K
          refine wpAnyH_done (by kernel_rfl) ?_ _
          clear hHeld
          go_wp2_with fail
          go_roundw
          case rel => exact ⟨t + 1, by omega, by go_num, HNX.out⟩
          case measure => simp [intOf]; omega
        · have HNX : Hid (Ap1 w base N L vv (fun q => if q < j + 1 then N q else 0) wr) := hide (by
            have := HA2.out
            have e : t = N j := by rw [HNJ.out]; omega
            rw [e, upd_next] at this
            exact this)
          clear HA2
          go_wp2_with fail
          go_roundw
          case rel => exact ⟨j + 1, by omega, by go_num, HNX.out⟩
          case measure => simp [intOf]; omega
    · have HD := hide (fun (wy : World) (gg : Nat → Value) (h1 : wr.grownBy wy none) (h2 : Four wy wr.heap.size gg) => HA.out.done (gg := gg) (fun q hq => by rw [if_pos (by omega)]; exact Nat.le_refl _) h1 h2 (Nat.le_refl _))
      have hd2 : decide ((j : Int) < 4) = false := by simp only [decide_eq_false_iff_not]; omega
      obtain ⟨w3, rfl⟩ : ∃ w3, w3 = wr := ⟨_, rfl⟩
      obtain ⟨jj, rfl⟩ : ∃ jj, jj = j := ⟨_, rfl⟩
      have hbs := HA.out.bl
      have hls := HA.out.lb.lt
      clear HA hj hlt
      go_wp2_with (at_make; refine wpList_make_full _ rfl (.tmp 48) (.tmp 48) 93 rfl w3.heap.size 22 j0 _ 1 Try.underlying93 gi gz0 gz1 .i64 .i64 _ _ 4 rfl rfl rfl rfl ?b1 ?b2 ?b3 ?_)
      case b1 => rw [gz2]; omega
      case b2 => unfold maxLen; omega
      case b3 => exact Nat.le_refl _
      intro w1 hown1 hgrow1
      have HA1 := hide (HD.out w1 _ hgrow1 (made_four hown1))
      have hgs : w3.heap.size < w1.heap.size := (made_four hown1).lt
      generalize hGG : w3.heap.size = G at *
      clear hown1 hgrow1 HD gi gz0 gz1 gz2 hGG
      go_wp2_with fail
      go_loopw [9] (fun i wx => ∃ (j : Nat) (ww gg : Nat → Value), j ≤ 4 ∧ i = .int .i64 j ∧ (∀ q, q < j → gg q = ww q) ∧ (∀ q, j ≤ q → ww q = vv q) ∧ Ap2 w base N L G vv ww gg (fun q => if q < j then 16 else 0) wx) (fun i _ => 4 - (intOf i).toNat)
      case atStart => exact ⟨0, vv, _, by omega, rfl, fun q hq => by omega, fun q _ => rfl, by simpa using HA1.out⟩
      case round =>
        clear HA1
        obtain ⟨j, ww, gg, hj, rfl, hu, huv, hA⟩ := hrel
        have HA := hide hA
        have HU := hide hu
        have HUV := hide huv
        clear hA hu huv
        by_cases hlt : j < 4
        · have hj2 : (j : Int) < 4 := by omega
          have d0 := HA.out.lb.at j hlt
          have b0 := HA.out.gb.at j hlt
          have bz := HA.out.gb.fz j
          obtain ⟨va, vc, hva⟩ := HF.out j hlt
          obtain ⟨nj, hnj⟩ : ∃ nj, N j = nj := ⟨_, rfl⟩
          have hnb : nj ≤ 255 := by rw [← hnj]; exact HNN.out j hlt
          rw [hnj] at hva
          rw [hva] at d0
          have HKP : Hid (Ap2 w base N L G vv ww (updF gg j (.slice va nj vc)) (updN (fun q => if q < j then 16 else 0) j 0) (wr.setCell ⟨G, j, none⟩ (.slice va nj vc))) := hide (by
            have := HA.out.keep j hlt (.slice va nj vc)
            have e : updN (fun q => if q < j then 16 else 0) j 0 = (fun q => if q < j then 16 else 0) := upd_zero (fun _ => 16) j
            rw [e]
            exact this)
          have HG1 : Hid (∀ q, q < j + 1 → updF gg j (.slice va nj vc) q = ww q) := fun q hq => by
            unfold updF
            by_cases e : q = j
            · rw [if_pos e, e, HUV.out j (Nat.le_refl _), hva]
            · rw [if_neg e]; exact HU.out q (by omega)
          have HG2 : Hid (∀ q, j + 1 ≤ q → ww q = vv q) := fun q hq => HUV.out q (by omega)
          have HNJ := hide hnj
          generalize gg j = ub at b0
          clear hva hnj HA HU HUV
          go_wp2_with fail
          clear d0 b0 bz
          go_loopw [10] (fun i wx => ∃ (t : Nat) (ww gg : Nat → Value), t ≤ 16 ∧ i = .int .i64 t ∧ (∀ q, q < j + 1 → gg q = ww q) ∧ (∀ q, j + 1 ≤ q → ww q = vv q) ∧ Ap2 w base N L G vv ww gg (updN (fun q => if q < j then 16 else 0) j t) wx) (fun i _ => 16 - (intOf i).toNat)
          case atStart => exact ⟨0, ww, _, by omega, rfl, HG1.out, HG2.out, HKP.out⟩
          case round =>
            clear HG1 HG2 HKP
            obtain ⟨t, ww, gg, ht, rfl, hu, huv, hA2⟩ := hrel
            have HA2 := hide hA2
            have HU := hide hu
            have HUV := hide huv
            clear hA2 hu huv
            by_cases hlt2 : t < 16
            · have hKj : updN (fun q => if q < j then 16 else 0) j t j = t := by simp [updN]
              have hR := HA2.out.rows j hlt
              rw [hKj, HNJ.out] at hR
              have d0 := HA2.out.gb.at j hlt
              rw [HU.out j (by omega)] at d0
              obtain ⟨ua, uc, hua⟩ := hR.form
              have hLn : (mkM j nj ++ mkN j t).length = nj + t := by rw [List.length_append, mkM_len, mkN_len]
              rw [hLn] at hua
              have HST := fun wy w' (hb : Below wr.heap.size wr wy) v' a b c => hide (HA2.out.step (w' := w') (wy := wy) j hlt hb v' a b c)
              rw [hKj, HNJ.out, hLn, hua] at HST
              rw [hua] at d0
              have d0G : gg j = .slice ua (nj + t) uc := by rw [HU.out j (by omega), hua]
              have hbs2 : base ≤ wr.heap.size := by have := HA2.out.lb.lt; omega
              have lG := HA2.out.gb.lt
              have HO : ∀ wy, Below wr.heap.size wr wy → Hid (wy.ownsRow base 39 2 (.slice ua (nj + t) uc) (nj + t) (ptC (mkM j nj ++ mkN j t))) := fun wy hb => hide (by
                have := hR.below hb
                unfold PRow at this
                rw [hLn, hua] at this
                exact this)
              obtain ⟨xs, HXS⟩ : ∃ xs, Hid (ptC (mkM j nj ++ mkN j t) = xs) := ⟨_, rfl⟩
              simp only [HXS.out, upd_upd] at HST HO
              have HG1 : Hid (∀ v' q, q < j + 1 → updF gg j v' q = updF ww j v' q) := fun v' q hq => by
                unfold updF
                split
                · rfl
                · exact HU.out q hq
              have HG2 : Hid (∀ v' q, j + 1 ≤ q → updF ww j v' q = vv q) := fun v' q hq => by
                unfold updF
                rw [if_neg (by omega)]
                exact HUV.out q hq
              clear hR hua hLn hKj HA2 HU HUV
              go_wp2_with fail
              refine wp_region_held_drew (S := fun _ => True) (by kernel_rfl) (trivial) (fun hHeld => ?_)
              refine take_at (i := 0) (v := .slice (some ⟨G, 0, none⟩) 4 4) (d := some 67) rfl rfl (by kernel_rfl) (by kernel_rfl) (by kernel_rfl) (fun _ _ _ h => h) (Or.inl ⟨by rfl, fun wS hSw => by go_simp; all_goals (rw [IntKind.wrap_i64]; omega)⟩) (by assumption) ?_
              simp only [Act.put, List.setIfInBounds_toArray, List.set_cons_zero, List.set_cons_succ]
              refine take_at (i := 1) (v := .int .i64 (j : Int)) (d := some 68) rfl rfl (by kernel_rfl) (by kernel_rfl) (by kernel_rfl) (fun _ _ _ h => h) (Or.inl ⟨by rfl, fun wS hSw => by go_simp; all_goals (rw [IntKind.wrap_i64]; omega)⟩) (by assumption) ?_
              simp only [Act.put, List.setIfInBounds_toArray, List.set_cons_zero, List.set_cons_succ]
              refine take_at (i := 2) (v := .slice (some ⟨G, 0, none⟩) 4 4) (d := some 69) rfl rfl (by kernel_rfl) (by kernel_rfl) (by kernel_rfl) (fun _ _ _ h => h) (Or.inl ⟨by rfl, fun wS hSw => by go_simp; all_goals (rw [IntKind.wrap_i64]; omega)⟩) (by assumption) ?_
              simp only [Act.put, List.setIfInBounds_toArray, List.set_cons_zero, List.set_cons_succ]
              refine take_at (i := 3) (v := .int .i64 (j : Int)) (d := some 70) rfl rfl (by kernel_rfl) (by kernel_rfl) (by kernel_rfl) (fun _ _ _ h => h) (Or.inl ⟨by rfl, fun wS hSw => by go_simp; all_goals (rw [IntKind.wrap_i64]; omega)⟩) (by assumption) ?_
              simp only [Act.put, List.setIfInBounds_toArray, List.set_cons_zero, List.set_cons_succ]
              refine take_at (i := 4) (v := .pointer (some ⟨G, j, none⟩)) (d := some 71) rfl rfl (by kernel_rfl) (by kernel_rfl) (by kernel_rfl) (fun _ _ _ h => h) (Or.inl ⟨by rfl, fun wS hSw => by go_simp; all_goals (rw [IntKind.wrap_i64]; omega)⟩) (by assumption) ?_
              simp only [Act.put, List.setIfInBounds_toArray, List.set_cons_zero, List.set_cons_succ]
              refine take_at (i := 6) (v := .int .i64 (j : Int)) (d := some 73) rfl rfl (by kernel_rfl) (by kernel_rfl) (by kernel_rfl) (fun _ _ _ h => h) (Or.inl ⟨by rfl, fun wS hSw => by go_simp; all_goals (rw [IntKind.wrap_i64]; omega)⟩) (by assumption) ?_
              simp only [Act.put, List.setIfInBounds_toArray, List.set_cons_zero, List.set_cons_succ]
              refine take_at (i := 7) (v := .int .i64 (-(j : Int))) (d := some 74) rfl rfl (by kernel_rfl) (by kernel_rfl) (by kernel_rfl) (fun _ _ _ h => h) (Or.inl ⟨by rfl, fun wS hSw => by go_simp; all_goals (rw [IntKind.wrap_i64]; omega)⟩) (by assumption) ?_
              simp only [Act.put, List.setIfInBounds_toArray, List.set_cons_zero, List.set_cons_succ]
              refine take_at (i := 8) (v := .int .i64 (-(j : Int) - 1)) (d := some 75) rfl rfl (by kernel_rfl) (by kernel_rfl) (by kernel_rfl) (fun _ _ _ h => h) (Or.inl ⟨by rfl, fun wS hSw => by go_simp; all_goals (rw [IntKind.wrap_i64]; omega)⟩) (by assumption) ?_
              simp only [Act.put, List.setIfInBounds_toArray, List.set_cons_zero, List.set_cons_succ]
              refine take_at (i := 9) (v := .int .i64 (t : Int)) (d := some 76) rfl rfl (by kernel_rfl) (by kernel_rfl) (by kernel_rfl) (fun _ _ _ h => h) (Or.inl ⟨by rfl, fun wS hSw => by go_simp; all_goals (rw [IntKind.wrap_i64]; omega)⟩) (by assumption) ?_
              simp only [Act.put, List.setIfInBounds_toArray, List.set_cons_zero, List.set_cons_succ]
              have d0d : wr.drew.cell? ⟨G, j, none⟩ = some (.slice ua (nj + t) uc) := d0
              clear hHeld
              refine wpAnyH_ready (rs := [5, 10]) (by kernel_rfl) (by simp) ?_
              refine AllReadyH.cons rfl (fun K hK => ?_) (AllReadyH.cons rfl (fun K hK => ?_) AllReadyH.nil)
              · go_simp
                refine hK.out _ _ (trivial) (fun hHeld => ?_)
                clear hK K
                clear hHeld
                refine wpAnyH_ready (rs := [10]) (by kernel_rfl) (by simp) ?_
                refine AllReadyH.cons rfl (fun K hK => ?_) AllReadyH.nil
                go_simp
                refine (atF_below _ _ _).mono ?_
                rintro e w5 ⟨rfl, hb5⟩
                have hb5' := below_undrew hb5
                have e5 := (hb5'.cell (p := ⟨G, j, none⟩) lG).trans d0
                clear hb5
                refine hK.out _ _ (trivial) (fun hHeld => ?_)
                clear hK K
                clear hHeld
                refine wpAnyH_ready (rs := [11]) (by kernel_rfl) (by simp) ?_
                refine AllReadyH.cons rfl (fun K hK => ?_) AllReadyH.nil
                go_simp
                have hX : Below w5.heap.size w5 (w5.alloc (.cells #[.int .i64 (-(j : Int) - 1), .int .i64 (t : Int)] 39)) := below_alloc w5 _
                have hb6 := below_next hb5' (Nat.le_refl _) hX
                have e6 := (hb6.cell (p := ⟨G, j, none⟩) lG).trans d0
                have HC2 := fun q u hu => new_cell2 w5 w5.heap.size rfl (.int .i64 (-(j : Int) - 1)) (.int .i64 (t : Int)) 39 q u hu
                obtain ⟨W6, hW6⟩ : ∃ W6, w5.alloc (.cells #[.int .i64 (-(j : Int) - 1), .int .i64 (t : Int)] 39) = W6 := ⟨_, rfl⟩
                rw [hW6] at hX hb6 e6 HC2 ⊢
                clear hW6 hX
                refine hK.out _ _ (trivial) (fun hHeld => ?_)
                clear hK K
                clear hHeld
                refine wpAnyH_ready (rs := [12]) (by kernel_rfl) (by simp) ?_
                refine AllReadyH.cons rfl (fun K hK => ?_) AllReadyH.nil
                rw [if_pos (by rfl)]
                refine wp_append_two (.tmp 72) (.tmp 78) 22 rfl base 39 i0 _ 2 16 Try.underlying22 hi hz0 hz1 hz2 rfl (by decide) (.slice ua (nj + t) uc) (nj + t) xs rfl (HO W6 hb6).out ⟨w5.heap.size, 0, none⟩ 1 1 [.int .i64 (-(j : Int) - 1), .int .i64 (t : Int)] rfl rfl ?c1 ?c2 ?c3 ?c4 ?c5 ?_
                case c1 => exact HC2
                case c2 => intro u hu; simp at hu; rcases hu with rfl | rfl <;> rfl
                case c3 => unfold maxLen; omega
                case c4 => omega
                case c5 => have := hb6.size; omega
                intro v9 w9 hown9 hgrow9 hor9
                obtain ⟨hF9, hNX⟩ := (HST W6 w9 hb6 v9 hown9 hgrow9 hor9).out
                have e9 := hF9.at j hlt
                have z9 := hF9.fz j
                have HNX := hide hNX
                obtain ⟨va9, vc9, e10⟩ := owns_form hown9
                subst e10
                generalize gg j = gj at e9
                clear hown9 hgrow9 hor9 hF9 hNX
                simp only [Act.put, List.setIfInBounds_toArray]
                refine hK.out _ _ (trivial) (fun hHeld => ?_)
                clear hK K
                clear hHeld
                have hHeld : True := trivial
                refine take_at (i := 13) (v := .pointer (some ⟨G, j, none⟩)) (d := some 80) rfl rfl (by kernel_rfl) (by kernel_rfl) (by kernel_rfl) (fun _ _ _ h => h) (Or.inl ⟨by rfl, fun wS hSw => by go_simp; all_goals (rw [IntKind.wrap_i64]; omega)⟩) (by assumption) ?_
                simp only [Act.put]
                refine wpAnyH_ready (rs := [14]) (by kernel_rfl) (by simp) ?_
                refine AllReadyH.cons rfl (fun K hK => ?_) AllReadyH.nil
                go_simp
                refine hK.out _ _ (trivial) (fun hHeld => ?_)
                clear hK K
                refine wpAnyH_done (by kernel_rfl) ?_ _
                clear hHeld
                go_wp2_with fail
                go_roundw
                case rel => exact ⟨t + 1, _, _, by omega, by go_num, HG1.out _, HG2.out _, HNX.out⟩
                case measure => simp [intOf]; omega
              · go_simp
                refine (atF_below _ _ _).mono ?_
                rintro e w5 ⟨rfl, hb5⟩
                have hb5' := below_undrew hb5
                have e5 := (hb5'.cell (p := ⟨G, j, none⟩) lG).trans d0
                clear hb5
                refine hK.out _ _ (trivial) (fun hHeld => ?_)
                clear hK K
                clear hHeld
                refine wpAnyH_ready (rs := [5, 11]) (by kernel_rfl) (by simp) ?_
                refine AllReadyH.cons rfl (fun K hK => ?_) (AllReadyH.cons rfl (fun K hK => ?_) AllReadyH.nil)
                · go_simp
                  refine hK.out _ _ (trivial) (fun hHeld => ?_)
                  clear hK K
                  clear hHeld
                  refine wpAnyH_ready (rs := [11]) (by kernel_rfl) (by simp) ?_
                  refine AllReadyH.cons rfl (fun K hK => ?_) AllReadyH.nil
                  go_simp
                  have hX : Below w5.heap.size w5 (w5.alloc (.cells #[.int .i64 (-(j : Int) - 1), .int .i64 (t : Int)] 39)) := below_alloc w5 _
                  have hb6 := below_next hb5' (Nat.le_refl _) hX
                  have e6 := (hb6.cell (p := ⟨G, j, none⟩) lG).trans d0
                  have HC2 := fun q u hu => new_cell2 w5 w5.heap.size rfl (.int .i64 (-(j : Int) - 1)) (.int .i64 (t : Int)) 39 q u hu
                  obtain ⟨W6, hW6⟩ : ∃ W6, w5.alloc (.cells #[.int .i64 (-(j : Int) - 1), .int .i64 (t : Int)] 39) = W6 := ⟨_, rfl⟩
                  rw [hW6] at hX hb6 e6 HC2 ⊢
                  clear hW6 hX
                  refine hK.out _ _ (trivial) (fun hHeld => ?_)
                  clear hK K
                  clear hHeld
                  refine wpAnyH_ready (rs := [12]) (by kernel_rfl) (by simp) ?_
                  refine AllReadyH.cons rfl (fun K hK => ?_) AllReadyH.nil
                  rw [if_pos (by rfl)]
                  refine wp_append_two (.tmp 72) (.tmp 78) 22 rfl base 39 i0 _ 2 16 Try.underlying22 hi hz0 hz1 hz2 rfl (by decide) (.slice ua (nj + t) uc) (nj + t) xs rfl (HO W6 hb6).out ⟨w5.heap.size, 0, none⟩ 1 1 [.int .i64 (-(j : Int) - 1), .int .i64 (t : Int)] rfl rfl ?c1 ?c2 ?c3 ?c4 ?c5 ?_
                  case c1 => exact HC2
                  case c2 => intro u hu; simp at hu; rcases hu with rfl | rfl <;> rfl
                  case c3 => unfold maxLen; omega
                  case c4 => omega
                  case c5 => have := hb6.size; omega
                  intro v9 w9 hown9 hgrow9 hor9
                  obtain ⟨hF9, hNX⟩ := (HST W6 w9 hb6 v9 hown9 hgrow9 hor9).out
                  have e9 := hF9.at j hlt
                  have z9 := hF9.fz j
                  have HNX := hide hNX
                  obtain ⟨va9, vc9, e10⟩ := owns_form hown9
                  subst e10
                  generalize gg j = gj at e9
                  clear hown9 hgrow9 hor9 hF9 hNX
                  simp only [Act.put, List.setIfInBounds_toArray]
                  refine hK.out _ _ (trivial) (fun hHeld => ?_)
                  clear hK K
                  clear hHeld
                  have hHeld : True := trivial
                  refine take_at (i := 13) (v := .pointer (some ⟨G, j, none⟩)) (d := some 80) rfl rfl (by kernel_rfl) (by kernel_rfl) (by kernel_rfl) (fun _ _ _ h => h) (Or.inl ⟨by rfl, fun wS hSw => by go_simp; all_goals (rw [IntKind.wrap_i64]; omega)⟩) (by assumption) ?_
                  simp only [Act.put]
                  refine wpAnyH_ready (rs := [14]) (by kernel_rfl) (by simp) ?_
                  refine AllReadyH.cons rfl (fun K hK => ?_) AllReadyH.nil
                  go_simp
                  refine hK.out _ _ (trivial) (fun hHeld => ?_)
                  clear hK K
                  refine wpAnyH_done (by kernel_rfl) ?_ _
                  clear hHeld
                  go_wp2_with fail
                  go_roundw
                  case rel => exact ⟨t + 1, _, _, by omega, by go_num, HG1.out _, HG2.out _, HNX.out⟩
                  case measure => simp [intOf]; omega
                · go_simp
                  have hX : Below w5.heap.size w5 (w5.alloc (.cells #[.int .i64 (-(j : Int) - 1), .int .i64 (t : Int)] 39)) := below_alloc w5 _
                  have hb6 := below_next hb5' (Nat.le_refl _) hX
                  have e6 := (hb6.cell (p := ⟨G, j, none⟩) lG).trans d0
                  have HC2 := fun q u hu => new_cell2 w5 w5.heap.size rfl (.int .i64 (-(j : Int) - 1)) (.int .i64 (t : Int)) 39 q u hu
                  obtain ⟨W6, hW6⟩ : ∃ W6, w5.alloc (.cells #[.int .i64 (-(j : Int) - 1), .int .i64 (t : Int)] 39) = W6 := ⟨_, rfl⟩
                  rw [hW6] at hX hb6 e6 HC2 ⊢
                  clear hW6 hX
                  refine hK.out _ _ (trivial) (fun hHeld => ?_)
                  clear hK K
                  clear hHeld
                  refine wpAnyH_ready (rs := [5]) (by kernel_rfl) (by simp) ?_
                  refine AllReadyH.cons rfl (fun K hK => ?_) AllReadyH.nil
                  go_simp
                  refine hK.out _ _ (trivial) (fun hHeld => ?_)
                  clear hK K
                  clear hHeld
                  refine wpAnyH_ready (rs := [12]) (by kernel_rfl) (by simp) ?_
                  refine AllReadyH.cons rfl (fun K hK => ?_) AllReadyH.nil
                  rw [if_pos (by rfl)]
                  refine wp_append_two (.tmp 72) (.tmp 78) 22 rfl base 39 i0 _ 2 16 Try.underlying22 hi hz0 hz1 hz2 rfl (by decide) (.slice ua (nj + t) uc) (nj + t) xs rfl (HO W6 hb6).out ⟨w5.heap.size, 0, none⟩ 1 1 [.int .i64 (-(j : Int) - 1), .int .i64 (t : Int)] rfl rfl ?c1 ?c2 ?c3 ?c4 ?c5 ?_
                  case c1 => exact HC2
                  case c2 => intro u hu; simp at hu; rcases hu with rfl | rfl <;> rfl
                  case c3 => unfold maxLen; omega
                  case c4 => omega
                  case c5 => have := hb6.size; omega
                  intro v9 w9 hown9 hgrow9 hor9
                  obtain ⟨hF9, hNX⟩ := (HST W6 w9 hb6 v9 hown9 hgrow9 hor9).out
                  have e9 := hF9.at j hlt
                  have z9 := hF9.fz j
                  have HNX := hide hNX
                  obtain ⟨va9, vc9, e10⟩ := owns_form hown9
                  subst e10
                  generalize gg j = gj at e9
                  clear hown9 hgrow9 hor9 hF9 hNX
                  simp only [Act.put, List.setIfInBounds_toArray]
                  refine hK.out _ _ (trivial) (fun hHeld => ?_)
                  clear hK K
                  clear hHeld
                  have hHeld : True := trivial
                  refine take_at (i := 13) (v := .pointer (some ⟨G, j, none⟩)) (d := some 80) rfl rfl (by kernel_rfl) (by kernel_rfl) (by kernel_rfl) (fun _ _ _ h => h) (Or.inl ⟨by rfl, fun wS hSw => by go_simp; all_goals (rw [IntKind.wrap_i64]; omega)⟩) (by assumption) ?_
                  simp only [Act.put]
                  refine wpAnyH_ready (rs := [14]) (by kernel_rfl) (by simp) ?_
                  refine AllReadyH.cons rfl (fun K hK => ?_) AllReadyH.nil
                  go_simp
                  refine hK.out _ _ (trivial) (fun hHeld => ?_)
                  clear hK K
                  refine wpAnyH_done (by kernel_rfl) ?_ _
                  clear hHeld
                  go_wp2_with fail
                  go_roundw
                  case rel => exact ⟨t + 1, _, _, by omega, by go_num, HG1.out _, HG2.out _, HNX.out⟩
                  case measure => simp [intOf]; omega
            · have HNX : Hid (Ap2 w base N L G vv ww gg (fun q => if q < j + 1 then 16 else 0) wr) := hide (by
                have := HA2.out
                have e : updN (fun q => if q < j then 16 else 0) j t = (fun q => if q < j + 1 then 16 else 0) := by
                  have e16 : t = 16 := by omega
                  rw [e16]
                  exact upd_next (fun _ => 16) j
                rw [e] at this
                exact this)
              clear HA2
              go_wp2_with fail
              go_roundw
              case rel => exact ⟨j + 1, _, _, by omega, by go_num, HU.out, HUV.out, HNX.out⟩
              case measure => simp [intOf]; omega
        · have hd3 : decide ((j : Int) < 4) = false := by simp only [decide_eq_false_iff_not]; omega
          have HV : Hid (∀ q, q < 4 → ∃ va vc, wr.cell? ⟨L, q, none⟩ = some (.slice va (N q) vc) ∧ (0 < N q → ∃ g o, va = some ⟨g, o, none⟩ ∧ g < wr.heap.size ∧ ∀ k, k < N q → wr.cell? ⟨g, o + k * 2, none⟩ = some (.int .i64 (q : Int)) ∧ wr.cell? ⟨g, o + k * 2 + 1, none⟩ = some (.int .i64 (k : Int)))) := by
            intro q hq
            obtain ⟨va, vc, e, hc⟩ := HA.out.pts q hq
            rw [mkM_len] at e hc
            refine ⟨va, vc, by rw [HA.out.lb.at q hq, e], fun h0 => ?_⟩
            obtain ⟨g, o, e2, hg, hcc⟩ := hc h0
            refine ⟨g, o, e2, hg, fun k hk => ?_⟩
            have := hcc k hk
            rw [mkM_at q (N q) k hk] at this
            exact this
          have HW : Hid (∀ q, q < 4 → ∃ g o uc, g < wr.heap.size ∧ wr.cell? ⟨G, q, none⟩ = some (.slice (some ⟨g, o, none⟩) (N q + 16) uc) ∧ ∀ k, k < 16 → wr.cell? ⟨g, o + (N q + k) * 2, none⟩ = some (.int .i64 (-(q : Int) - 1)) ∧ wr.cell? ⟨g, o + (N q + k) * 2 + 1, none⟩ = some (.int .i64 (k : Int))) := by
            intro q hq
            have hR := HA.out.rows q hq
            have hg := HA.out.gb.at q hq
            rw [HU.out q (by omega)] at hg
            simp only [show q < j by omega, if_true] at hR
            have hLn : (mkM q (N q) ++ mkN q 16).length = N q + 16 := by rw [List.length_append, mkM_len, mkN_len]
            obtain ⟨a, uc, e, hc⟩ := hR.pts
            rw [hLn] at e hc
            obtain ⟨g, o, e2, hgl, hcc⟩ := hc (by omega)
            rw [e, e2] at hg
            refine ⟨g, o, uc, hgl, hg, fun k hk => ?_⟩
            have := hcc (N q + k) (by omega)
            rw [mkMN_at q (N q) 16 k hk] at this
            exact this
          have HB := hide HA.out.bel
          have hbw : base ≤ wr.heap.size := by have := HA.out.lb.lt; omega
          have lL := HA.out.lb.lt
          have lG := HA.out.gb.lt
          obtain ⟨w4, rfl⟩ : ∃ w4, w4 = wr := ⟨_, rfl⟩
          obtain ⟨jk, rfl⟩ : ∃ jk, jk = j := ⟨_, rfl⟩
          clear HA HU HUV hi hz0 hz1 hz2 hj hlt
          go_wp2_with fail
          go_loopw [11] (fun i wx => ∃ j : Nat, j ≤ 4 ∧ i = .int .i64 j ∧ Hid (Below w4.heap.size w4 wx)) (fun i _ => 4 - (intOf i).toNat)
          case atStart => exact ⟨0, by omega, rfl, hide (Below.refl _ _)⟩
          case round =>
            obtain ⟨j, hj, rfl, hbx⟩ := hrel
            by_cases hlt : j < 4
            · have hj2 : (j : Int) < 4 := by omega
              obtain ⟨va, vc, hvc, hva⟩ := HV.out j hlt
              obtain ⟨g2, o2, uc, hg2, huc, hub⟩ := HW.out j hlt
              have HVA := hide hva
              have HUB := hide hub
              have hnb : N j ≤ 255 := HNN.out j hlt
              have d0 := (hbx.out.cell (p := ⟨L, j, none⟩) lL).trans hvc
              generalize N j = nj at *
              clear hva hub
              go_wp2_with fail
              clear d0
              go_loopw [12] (fun i wx => ∃ k : Nat, k ≤ nj ∧ i = .int .i64 k ∧ Hid (Below w4.heap.size w4 wx)) (fun i _ => nj - (intOf i).toNat)
              case atStart => exact ⟨0, by omega, rfl, hbx⟩
              case round =>
                clear hbx
                obtain ⟨k, hk, rfl, hbx⟩ := hrel
                have gs := hbx.out.size
                have d0 := (hbx.out.cell (p := ⟨L, j, none⟩) lL).trans hvc
                by_cases hlt2 : k < nj
                · obtain ⟨g, o, rfl, hg, hc⟩ := HVA.out (by omega)
                  have c0 := fun x : BelowW wr => x.cell ((hbx.out.cell (p := ⟨g, o + k * 2, none⟩) hg).trans (hc k hlt2).1) (by omega)
                  have c1 := fun x : BelowW wr => x.cell ((hbx.out.cell (p := ⟨g, o + k * 2 + 1, none⟩) hg).trans (hc k hlt2).2) (by omega)
                  have d1 := fun x : BelowW wr => x.cell d0 (by omega)
                  have hne : Nonempty (BelowW wr) := ⟨⟨wr, Below.refl _ _⟩⟩
                  have heq := fun wx => point_neq (j : Int) (k : Int) (j : Int) (k : Int) wx
                  simp only [decide_true, Bool.and_self, Bool.not_true] at heq
                  have hk2 : (k : Int) < (nj : Int) := by omega
                  clear hc
                  go_wp2_with fail
                  refine wp_region_calm (by kernel_rfl) (by kernel_rfl) ?_
                  repeat (go_big_quiet_step (first | (go_at_call 41; exact calm_of (atF_below _ _ _))))
                  refine wpQuiet_nil ?_
                  rintro w5 ⟨⟨q3, hq⟩, e3⟩
                  have e4 : w5 = q3 := e3
                  clear e3
                  subst e4
                  have hb5 := below_next hbx.out (Nat.le_refl _) hq
                  clear c0 c1 d1 hne heq d0
                  go_wp2_with fail
                  go_roundw
                  case rel => exact ⟨k + 1, by omega, by go_num, hide hb5⟩
                  case measure => simp [intOf]; omega
                · obtain ⟨kk, rfl⟩ : ∃ kk, kk = k := ⟨_, rfl⟩
                  clear hk
                  go_wp2_with fail
                  clear d0
                  go_loopw [13] (fun i wx => ∃ t : Nat, t ≤ 16 ∧ i = .int .i64 t ∧ Hid (Below w4.heap.size w4 wx)) (fun i _ => 16 - (intOf i).toNat)
                  case atStart => exact ⟨0, by omega, rfl, hbx⟩
                  case round =>
                    clear hbx gs
                    obtain ⟨t, ht, rfl, hbx⟩ := hrel
                    have gs := hbx.out.size
                    by_cases hlt3 : t < 16
                    · have ht2 : (t : Int) < 16 := by omega
                      have d0 := fun x : BelowW wr => x.cell ((hbx.out.cell (p := ⟨L, j, none⟩) lL).trans hvc) (by omega)
                      have d1 := fun x : BelowW wr => x.cell ((hbx.out.cell (p := ⟨G, j, none⟩) lG).trans huc) (by omega)
                      have c0 := fun x : BelowW wr => x.cell ((hbx.out.cell (p := ⟨g2, o2 + (nj + t) * 2, none⟩) hg2).trans (HUB.out t hlt3).1) (by omega)
                      have c1 := fun x : BelowW wr => x.cell ((hbx.out.cell (p := ⟨g2, o2 + (nj + t) * 2 + 1, none⟩) hg2).trans (HUB.out t hlt3).2) (by omega)
                      have hne : Nonempty (BelowW wr) := ⟨⟨wr, Below.refl _ _⟩⟩
                      have heq := fun wx => point_neq (-(j : Int) - 1) (t : Int) (-(j : Int) - 1) (t : Int) wx
                      simp only [decide_true, Bool.and_self, Bool.not_true] at heq
                      have hx1 : (0 : Int) ≤ (nj : Int) + (t : Int) := by omega
                      have hx2 : (nj : Int) + (t : Int) < ((nj + 16 : Nat) : Int) := by omega
                      go_wp2_with fail
                      refine wp_region_calm (by kernel_rfl) (by kernel_rfl) ?_
                      repeat (go_big_quiet_step (first | (go_at_call 41; exact calm_of (atF_below _ _ _))))
                      refine wpQuiet_nil ?_
                      rintro w5 ⟨⟨q3, hq⟩, e3⟩
                      have e4 : w5 = q3 := e3
                      clear e3
                      subst e4
                      have hb5 := below_next hbx.out (Nat.le_refl _) hq
                      clear c0 c1 d0 d1 hne heq
                      go_wp2_with fail
                      go_roundw
                      case rel => exact ⟨t + 1, by omega, by go_num, hide hb5⟩
                      case measure => simp [intOf]; omega
                    · go_wp2_with fail
                      go_roundw
                      case rel => exact ⟨j + 1, by omega, by go_num, hbx⟩
                      case measure => simp [intOf]; omega
            · go_wp2_with fail
              go_ret
              exact ⟨rfl, HB.out.trans (hbx.out.mono hbw)⟩
end Go.Proofs.Ytnenbbkkhnlgbaa
