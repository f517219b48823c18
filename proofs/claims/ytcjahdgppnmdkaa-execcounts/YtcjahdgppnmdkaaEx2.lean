/- Package exec: a queue's Less and Swap. -/
import Derived.Test.YtcjahdgppnmdkaaEx1
set_option maxRecDepth 100000
namespace Go.Proofs.Ytcjahdgppnmdkaa
open Go.RowKit Go.Great

theorem reg_three {P : Program} {Q : Exit → Act → World → Prop} {id : Nat} {a : Act} {w : World} {l : List Oper} (n : Nat) (o1 o2 o3 : Oper) (_g1 : (l.drop n).take 1 = [o1]) (_g2 : (l.drop (n + 1)).take 1 = [o2]) (_g3 : (l.drop (n + 2)).take 1 = [o3]) (hl : l.take n ++ [o1] ++ [o2] ++ [o3] = l) (hlen : (l.take n).length = n) (hm : P.follows .mixedOrders = true) (hB : Region.lexB .any (l.take n).toArray = true) (p1 : plainB2 .any (l.take n) o1 = true) (p2 : plainB2 .any (l.take n ++ [o1]) o2 = true) (p3 : plainB2 .any (l.take n ++ [o1] ++ [o2]) o3 = true)
    (h : wpQuiet P (l.take n).toArray (fun w' => ∃ k, w' = w.drewN k) (fun a' => ∀ k, o1.wp P a' (w.drewN k) (fun a1 w1 => o2.wp P a1 w1 (fun a2 w2 => o3.wp P a2 w2 (fun a3 w3 => Q .normal a3 w3) Q) (thenLast2 P o3 Q)) (thenLast2 P o2 (thenLast2 P o3 Q))) (l.take n) a) : (Code.region id l.toArray true).wp P Q a w :=
  reg_last3 n o1 o2 o3 hl hlen hm hB p1 p2 p3 h
set_option maxHeartbeats 1000000 in
theorem or_any (x y z : Int) (g : Nat) (w : World) (hB : Blk w g #[.int .i64 x, .int .i64 y, .int .i64 z] 3) : Calls Try.prog 134 #[.slice (some ⟨g, 0, none⟩) 3 3] w fun e w' => e = .returned (.int .i64 (if x ≠ 0 then x else if y ≠ 0 then y else z)) ∧ w' = w := by
  have c0 := hB.cell 0 rfl
  have c1 := hB.cell 1 rfl
  have c2 := hB.cell 2 rfl
  clear hB
  obtain ⟨R, hR⟩ : ∃ R, Hid ((if x ≠ 0 then x else if y ≠ 0 then y else z) = R) := ⟨_, hide rfl⟩
  rw [hR.out]
  obtain ⟨c, r0, r1, r2, hc⟩ : ∃ c : Nat → Int, Hid (c 0 = x) ∧ Hid (c 1 = y) ∧ Hid (c 2 = z) ∧ Hid (∀ j : Nat, j < 3 → w.cell? ⟨g, j, none⟩ = some (.int .i64 (c j))) := ⟨fun j => if j = 0 then x else if j = 1 then y else z, hide rfl, hide rfl, hide rfl, hide (fun j hj => by
    have : j = 0 ∨ j = 1 ∨ j = 2 := by omega
    rcases this with rfl | rfl | rfl <;> assumption)⟩
  clear c0 c1 c2
  go_enter Try.func134, Try.ntmps134
  go_wp2_with fail
  go_loopw [8] (fun v8 wr => ∃ j : Nat, v8 = .int .i64 (j : Int) ∧ j ≤ 3 ∧ wr = w ∧ Hid (∀ i : Nat, i < j → c i = 0)) (fun v8 _ => 3 - (intOf v8).toNat)
  case atStart => exact ⟨0, rfl, by omega, rfl, hide (fun i h => by omega)⟩
  case round =>
    obtain ⟨j, rfl, hj, rfl, h0⟩ := hrel
    by_cases hjl : j < 3
    · have cj := hc.out j hjl
      obtain ⟨e, he⟩ : ∃ e, Hid (c j = e) := ⟨_, hide rfl⟩
      rw [he.out] at cj
      by_cases hz : e = 0
      · subst hz
        go_wp2_with fail
        go_roundw
        case rel => exact ⟨j + 1, by simp, by omega, by trivial, hide (fun i hi => by
          rcases Nat.lt_or_ge i j with h | h
          · exact h0.out i h
          · obtain rfl : i = j := by omega
            exact he.out)⟩
        case measure => simp [intOf]; omega
      · have hb : (e != 0) = true := by simpa using hz
        go_wp2_with fail
        go_ret
        refine ⟨?_, rfl⟩
        suffices h : e = R by rw [← h]; rfl
        have h0 := h0.out
        have : j = 0 ∨ j = 1 ∨ j = 2 := by omega
        rcases this with rfl | rfl | rfl
        · rw [← hR.out, ← r0.out, he.out, if_pos hz]
        · rw [← hR.out, ← r0.out, h0 0 (by omega), ← r1.out, he.out, if_neg (by simp), if_pos hz]
        · rw [← hR.out, ← r0.out, h0 0 (by omega), ← r1.out, h0 1 (by omega), ← r2.out, he.out, if_neg (by simp), if_neg (by simp)]
    · have hR0 : R = 0 := by
        have h0 := h0.out
        rw [← hR.out, ← r0.out, h0 0 (by omega), ← r1.out, h0 1 (by omega), ← r2.out, h0 2 (by omega), if_neg (by simp), if_neg (by simp)]
      subst hR0
      go_wp2_with fail
      go_ret
      exact ⟨rfl, rfl⟩
set_option maxHeartbeats 1000000 in
theorem against_num (x0 x1 x2 x3 y0 y1 y2 y3 : Int) (w : World) : Calls Try.prog 133 #[.agg #[.int .i64 x0, .int .i64 x1, .int .i64 x2, .int .i64 x3], .agg #[.int .i64 y0, .int .i64 y1, .int .i64 y2, .int .i64 y3]] w fun e w' => e = .returned (.int .i64 (if cm x0 y0 ≠ 0 then cm x0 y0 else if cm x1 y1 ≠ 0 then cm x1 y1 else cm x2 y2)) ∧ Below w.heap.size w w' := by
  obtain ⟨W0, hW, hb0, B1, B2, hz⟩ := two_boxes w #[.int .i64 x0, .int .i64 x1, .int .i64 x2, .int .i64 x3] #[.int .i64 y0, .int .i64 y1, .int .i64 y2, .int .i64 y3] 148 148
  have a0 := B1.cell 0 rfl
  have a1 := B1.cell 1 rfl
  have a2 := B1.cell 2 rfl
  have d0 := B2.cell 0 rfl
  have d1 := B2.cell 1 rfl
  have d2 := B2.cell 2 rfl
  have C1 : Hid (∀ q, Calls Try.prog 135 #[.int .i64 x0, .int .i64 y0] q fun e w' => e = .returned (.int .i64 (cm x0 y0)) ∧ w' = q) := hide (fun q => cmp_any _ _ q)
  have C2 : Hid (∀ q, Calls Try.prog 135 #[.int .i64 x1, .int .i64 y1] q fun e w' => e = .returned (.int .i64 (cm x1 y1)) ∧ w' = q) := hide (fun q => cmp_any _ _ q)
  have C3 : Hid (∀ q, Calls Try.prog 135 #[.int .i64 x2, .int .i64 y2] q fun e w' => e = .returned (.int .i64 (cm x2 y2)) ∧ w' = q) := hide (fun q => cmp_any _ _ q)
  have O : Hid (∀ g q, Blk q g #[.int .i64 (cm x0 y0), .int .i64 (cm x1 y1), .int .i64 (cm x2 y2)] 3 → Calls Try.prog 134 #[.slice (some ⟨g, 0, none⟩) 3 3] q fun e w' => e = .returned (.int .i64 (if cm x0 y0 ≠ 0 then cm x0 y0 else if cm x1 y1 ≠ 0 then cm x1 y1 else cm x2 y2)) ∧ w' = q) := hide (fun g q h => or_any _ _ _ g q h)
  generalize (if cm x0 y0 ≠ 0 then cm x0 y0 else if cm x1 y1 ≠ 0 then cm x1 y1 else cm x2 y2) = A at *
  generalize cm x0 y0 = k1 at *
  generalize cm x1 y1 = k2 at *
  generalize cm x2 y2 = k3 at *
  have Hb := hide hb0
  clear hb0 B1 B2
  go_enter Try.func133, Try.ntmps133
  go_wp2_with fail
  refine reg_three 15 _ _ _ rfl rfl rfl rfl rfl (by kernel_rfl) (by kernel_rfl) (by kernel_rfl) (by kernel_rfl) (by kernel_rfl) ?_
  simp only [List.take_succ_cons, List.take_zero]
  repeat (quiet_step (first | (go_at_call_of 135 (Value.int .i64 x0); refine Calls.quiet_of_same (C1.out _)) | (go_at_call_of 135 (Value.int .i64 x1); refine Calls.quiet_of_same (C2.out _)) | (go_at_call_of 135 (Value.int .i64 x2); refine Calls.quiet_of_same (C3.out _))))
  refine wpQuiet_nil ?_
  intro k
  go_simp
  refine (O.out (w.heap.size + 2) _ (by have := Blk.new (W0.drewN k) #[Value.int .i64 k1, Value.int .i64 k2, Value.int .i64 k3] 3; rw [show (W0.drewN k).heap.size = w.heap.size + 2 from by simp [hz]] at this; exact this)).mono ?_
  rintro e w2 ⟨rfl, hw2⟩
  obtain rfl := hw2.symm
  go_wp2_with fail
  go_ret
  exact ⟨rfl, below_next Hb.out (Nat.le_refl _) (by exact (below_drewN (Below.refl _ _) k).trans ((below_alloc _ _).mono (by simp)))⟩
theorem against_any (x y : Tu) (w : World) : Calls Try.prog 133 #[tuV x, tuV y] w fun e w' => e = .returned (.int .i64 (ag x y)) ∧ Below w.heap.size w w' := against_num _ _ _ _ _ _ _ _ w
set_option maxHeartbeats 1000000 in
theorem less_any (w : World) (b Q o : Nat) (pre : List Value) (ty : TypeId) (a : Option Addr) (cap : Nat) (l : List Tu) (i j : Nat) (h : Qu w b Q o pre ty a cap l) (hi : i < l.length) (hj : j < l.length) : Calls Try.prog 131 #[slQ a l.length cap, .int .i64 i, .int .i64 j] w (QEnd w b Q o pre ty a cap l (.bool (decide (hg l i < hg l j)))) := by
  have HQ := hide h
  obtain ⟨g, cur, rfl, _, _, hlc, hcm, _⟩ := h.row (by omega)
  have hcp := h.cap_in
  have hs := hide h.bs
  obtain ⟨c0, c1, c2, c3⟩ := h.at i hi
  obtain ⟨d0, d1, d2, d3⟩ := h.at j hj
  have AG : Hid (∀ x : BelowW w, Calls Try.prog 133 #[.agg #[.int .i64 (te l i).tk, .int .i64 (te l i).rk, .int .i64 (te l i).nu, .int .i64 (te l i).pe], .agg #[.int .i64 (te l j).tk, .int .i64 (te l j).rk, .int .i64 (te l j).nu, .int .i64 (te l j).pe]] x.q fun e w' => e = .returned (.int .i64 (ag (te l i) (te l j))) ∧ Below x.q.heap.size x.q w') := hide (fun x => against_any _ _ _)
  have hlt : Hid (decide (ag (te l i) (te l j) < 0) = decide (hg l i < hg l j)) := hide (ag_lt (h.ok _ (te_mem hi)) (h.ok _ (te_mem hj)))
  have hag : ag (te l i) (te l j) ≤ 1 ∧ -1 ≤ ag (te l i) (te l j) := by
    unfold ag
    rcases cm_cases (te l i).tk (te l j).tk with ⟨_, e⟩ | ⟨_, e⟩ | ⟨_, e⟩ <;> rw [e]
    · simp
    · simp
    rcases cm_cases (te l i).rk (te l j).rk with ⟨_, e⟩ | ⟨_, e⟩ | ⟨_, e⟩ <;> rw [e]
    · simp
    · simp
    rcases cm_cases (te l i).nu (te l j).nu with ⟨_, e⟩ | ⟨_, e⟩ | ⟨_, e⟩ <;> rw [e] <;> simp
  rw [← hlt.out]
  generalize ag (te l i) (te l j) = A at *
  generalize (te l i).tk = x0 at *
  generalize (te l i).rk = x1 at *
  generalize (te l i).nu = x2 at *
  generalize (te l i).pe = x3 at *
  generalize (te l j).tk = y0 at *
  generalize (te l j).rk = y1 at *
  generalize (te l j).nu = y2 at *
  generalize (te l j).pe = y3 at *
  generalize l.length = n at *
  clear h hlt
  go_enter Try.func131, Try.ntmps131
  go_wp2_with fail
  refine reg_three 8 _ _ _ rfl rfl rfl rfl rfl (by kernel_rfl) (by kernel_rfl) (by kernel_rfl) (by kernel_rfl) (by kernel_rfl) ?_
  simp only [List.take_succ_cons, List.take_zero]
  repeat (quiet_step (fail))
  refine wpQuiet_nil ?_
  intro k
  go_simp
  refine (AG.out ⟨w.drewN k, below_drewN (Below.refl _ _) k⟩).mono ?_
  rintro e w2 ⟨rfl, hb2⟩
  have Hb : Hid (Below w.heap.size w w2) := hide ((below_drewN (Below.refl _ _) k).trans hb2)
  clear hb2 AG
  go_wp2_with fail
  go_ret
  exact ⟨rfl, HQ.out.after Hb.out, KB.of_below Hb.out hs.out⟩
set_option maxHeartbeats 1000000 in
theorem swap_any (w : World) (b Q o : Nat) (pre : List Value) (ty : TypeId) (a : Option Addr) (cap : Nat) (l : List Tu) (i j : Nat) (h : Qu w b Q o pre ty a cap l) (hi : i < l.length) (hj : j < l.length) : Calls Try.prog 132 #[slQ a l.length cap, .int .i64 i, .int .i64 j] w (QEnd w b Q o pre ty a cap (sw l i j) (.tuple #[])) := by
  have HQ := hide h
  obtain ⟨g, cur, rfl, hB, hbg, hlc, hcm, _⟩ := h.row (by omega)
  have hcp := h.cap_in
  have hs := hide h.bs
  have HS : Hid (∀ k, Qu (set4 (set4 (w.drewN k) g (i * 4) (te l j)) g (j * 4) (te l i)) b Q o pre ty (some ⟨g, 0, none⟩) cap (sw l i j)) := hide (fun k => (h.drewN k).sw i j hi hj)
  obtain ⟨c0, c1, c2, c3⟩ := h.at i hi
  obtain ⟨d0, d1, d2, d3⟩ := h.at j hj
  have f : ∀ k, w.frozen? ⟨g, k, none⟩ = false := fun k => hB.frozen k
  obtain ⟨z0, z1, z2, z3⟩ := (h.set i (te l j) hi (h.ok _ (te_mem hj))).at j (by simpa using hj)
  generalize te (l.set i (te l j)) j = z at *
  unfold set4 at HS z0 z1 z2 z3
  generalize (te l i).tk = x0 at *
  generalize (te l i).rk = x1 at *
  generalize (te l i).nu = x2 at *
  generalize (te l i).pe = x3 at *
  generalize (te l j).tk = y0 at *
  generalize (te l j).rk = y1 at *
  generalize (te l j).nu = y2 at *
  generalize (te l j).pe = y3 at *
  generalize sw l i j = m at *
  generalize l.length = n at *
  have hT := hide (TB.of hB)
  clear h hB
  go_enter Try.func132, Try.ntmps132
  go_wp2_with fail
  go_region
  all_goals go_wp2
  go_end0
  exact ⟨rfl, (HS.out 0).drewN 1, KB.drewN (((((((((KB.refl b Q w).set g _ _ (.inr ⟨hbg, hT.out⟩)).set g _ _ (.inr ⟨hbg, hT.out⟩)).set g _ _ (.inr ⟨hbg, hT.out⟩)).set g _ _ (.inr ⟨hbg, hT.out⟩)).set g _ _ (.inr ⟨hbg, hT.out⟩)).set g _ _ (.inr ⟨hbg, hT.out⟩)).set g _ _ (.inr ⟨hbg, hT.out⟩)).set g _ _ (.inr ⟨hbg, hT.out⟩)) 1⟩
end Go.Proofs.Ytcjahdgppnmdkaa
