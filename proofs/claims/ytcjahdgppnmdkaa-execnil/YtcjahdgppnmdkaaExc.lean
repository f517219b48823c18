/- The statements' plan: what New answers, and nothing is kept of what was lent. -/
import Derived.Test.YtcjahdgppnmdkaaExb
set_option maxRecDepth 100000
namespace Go.Proofs.Ytcjahdgppnmdkaa
open Go.RowKit Go.Great

theorem JbsN.below {w w' : World} {v : Value} {L : List Jb} (h : JbsN w v L) (hb : Below w.heap.size w w') : JbsN w' v L := ⟨⟨⟨h.1.1.1.below hb, h.1.1.2⟩, h.1.2⟩, h.2⟩
theorem PlanW.lower {w : World} {b b' P : Nat} {L : List Jb} {t : Int} (h : PlanW w b P L t) (hb : b' ≤ b) : PlanW w b' P L t := HQ.lower h hb
def jM : Jb := ⟨1, 0, 0⟩
/-- what the statements' 'plan' leaves -/
def PEnd (w : World) (L : List Jb) (e : Ending) (w' : World) : Prop := Below w.heap.size w w' ∧ ((chkJ L ≠ 0 ∧ e = .returned (.tuple #[.pointer none, .bool true])) ∨ (chkJ L = 0 ∧ ∃ P, e = .returned (.tuple #[pP P, .bool true]) ∧ w.heap.size ≤ P ∧ PlanW w' w.heap.size P L 0))
/-- is it a plan, as New answered? -/
def PIs (w : World) (b : Nat) (L : List Jb) (p : Option Addr) : Prop := (chkJ L ≠ 0 ∧ p = none) ∨ (chkJ L = 0 ∧ ∃ P, p = some ⟨P, 0, none⟩ ∧ b ≤ P ∧ PlanW w b P L 0)
theorem PIs.after {w w' : World} {b : Nat} {L : List Jb} {p : Option Addr} (h : PIs w b L p) (hb : Below w.heap.size w w') : PIs w' b L p := by
  rcases h with h | ⟨h1, P, h2, h3, h4⟩
  · exact .inl h
  · exact .inr ⟨h1, P, h2, h3, h4.after hb⟩
theorem PIs.grown {w w' : World} {b base size n : Nat} {L : List Jb} {p : Option Addr} {v : Value} {xs : List Value} (h : PIs w b L p) (hR : w.ownsRow base 80 size v n xs) (hG : w.grownBy w' v.ownBlock) : PIs w' b L p := by
  rcases h with h | ⟨h1, P, h2, h3, h4⟩
  · exact .inl h
  · exact .inr ⟨h1, P, h2, h3, HQ.grownT h4 hR (by decide) (by decide) hG⟩
theorem eql_ptr (P : Nat) (w : World) : (binOp .eql 69 (pP P) (.pointer none)).run Try.prog w = .ok (.bool false) w := by
  simp [go_sem]
theorem new_pis (L : List Jb) (v : Value) (w : World) (hR : Rws w v 3 jbC L) (hok : ∀ j ∈ L, JbOk j) : Calls Try.prog 36 #[v] w fun e w' => ∃ p, e = .returned (.tuple #[.pointer p, .int .i64 (chkJ L)]) ∧ PIs w' w.heap.size L p ∧ Below w.heap.size w w' := by
  refine (new_any L v w hR hok).mono ?_
  rintro e w1 ⟨hb, ⟨h1, rfl⟩ | ⟨h1, P, rfl, h2, h3⟩⟩
  · exact ⟨none, rfl, .inl ⟨h1, rfl⟩, hb⟩
  · exact ⟨some ⟨P, 0, none⟩, by rw [h1], .inr ⟨h1, P, rfl, h2, h3⟩, hb⟩
/-- a row of n jobs and a marked one, from i on as they were -/
def OwnJ (w : World) (base g n cap i : Nat) (L : List Jb) : Prop := ∃ M : List Jb, M.length = n + 1 ∧ (∀ j, i ≤ j → j < n → M[j]? = L[j]?) ∧ w.ownsRow base 80 3 (.slice (some ⟨g, 0, none⟩) (n + 1) cap) (n + 1) (jbsC M)
theorem OwnJ.below {w w' : World} {base g n cap i : Nat} {L : List Jb} (h : OwnJ w base g n cap i L) (hb : Below w.heap.size w w') : OwnJ w' base g n cap i L := by
  obtain ⟨M, h1, h2, h3⟩ := h
  exact ⟨M, h1, h2, World.ownsRow.kept h3 (grown_below hb none) (.inr (by simp [Value.ownBlock]))⟩
theorem OwnJ.at {w : World} {base g n cap i : Nat} {L : List Jb} (h : OwnJ w base g n cap i L) (hn : L.length = n) (hi : i < n) : w.cell? ⟨g, i * 3, none⟩ = some (.int .i64 (jbA L i).pe) ∧ w.cell? ⟨g, i * 3 + 1, none⟩ = some (.int .i64 (jbA L i).ph) ∧ w.cell? ⟨g, i * 3 + 2, none⟩ = some (.int .i64 (jbA L i).rk) := by
  obtain ⟨M, h1, h2, h3⟩ := h
  have hx : M[i]? = some (jbA L i) := by
    rw [h2 i (Nat.le_refl _) hi]
    unfold jbA
    rw [List.getD, List.getElem?_eq_getElem (by omega)]
    rfl
  have key : ∀ j u, (jbC (jbA L i))[j]? = some u → w.cell? ⟨g, i * 3 + j, none⟩ = some u := fun j u hu => by
    have := World.ownsRow.cells h3 (g := g) rfl (i * 3 + j) u (jbsC_get hu hx)
    rw [add_plain', Nat.zero_add] at this
    exact this
  exact ⟨key 0 _ rfl, key 1 _ rfl, key 2 _ rfl⟩
theorem OwnJ.facts {w : World} {base g n cap i : Nat} {L : List Jb} (h : OwnJ w base g n cap i L) : (∃ cur, Blk w g cur 80) ∧ base ≤ g ∧ n + 1 ≤ cap ∧ cap ≤ 9223372036854775807 := by
  obtain ⟨M, h1, h2, h3⟩ := h
  rcases h3.2 with ⟨q, _⟩ | ⟨g', cap', cur, hv, hg, hh, hnc, hc, _⟩
  · cases q
  · injection hv with e1 _ e2
    injection e1 with e1
    injection e1 with e1
    subst e1 e2
    exact ⟨⟨cur, hh⟩, hg, hnc, hc⟩
theorem OwnJ.set {w : World} {base g n cap i : Nat} {L : List Jb} (h : OwnJ w base g n cap i L) : OwnJ (((w.setCell ⟨g, i * 3, none⟩ (.int .i64 1)).setCell ⟨g, i * 3 + 1, none⟩ (.int .i64 0)).setCell ⟨g, i * 3 + 2, none⟩ (.int .i64 0)) base g n cap (i + 1) L := by
  obtain ⟨M, h1, h2, h3⟩ := h
  refine ⟨M.set i jM, by rw [List.length_set]; exact h1, fun j hj hn => ?_, JRow.set h3 h1 i jM⟩
  rw [List.getElem?_set_ne (by omega)]
  exact h2 j (by omega) hn
theorem Lnt.own {w : World} {base g n cap : Nat} {L : List Jb} (h : Lnt w base (.slice (some ⟨g, 0, none⟩) n cap) L) (hn : L.length = n) : OwnJ w base g n cap 0 L := by
  obtain ⟨g', cap', e, h⟩ := h
  injection e with e1 e2 e3
  injection e1 with e1
  injection e1 with e1
  subst e1 e3
  refine ⟨L ++ [mkJ], by simp [hn], fun j _ hj => List.getElem?_append_left (by omega), ?_⟩
  have h2 : World.ownsRow _ _ _ _ _ _ _ := h
  rw [List.length_append, hn] at h2
  exact h2
theorem grown_set3 (w : World) (g a b c : Nat) (x y z : Value) : w.grownBy (((w.setCell ⟨g, a, none⟩ x).setCell ⟨g, b, none⟩ y).setCell ⟨g, c, none⟩ z) (some g) := grown_more (grown_more (grown_set w g a x) (grown_set _ g b y)) (grown_set _ g c z)
set_option maxHeartbeats 4000000 in
theorem plan_any (L : List Jb) (v : Value) (w : World) (hv : JbsN w v L) : Calls Try.prog 29 #[v] w (PEnd w L) := by
  have HV := hide hv
  have LE := hide (lentJ_any L v w hv)
  have hl := hv.1.1.1.1
  unfold maxLen at hl
  have HOK := hide hv.1.1.2
  obtain ⟨_, na, np, rfl, _⟩ := hv.1.1.1
  obtain ⟨n, hn⟩ : ∃ n, Hid (L.length = n) := ⟨_, hide rfl⟩
  obtain ⟨c, hc⟩ : ∃ c, Hid (chkJ L = c) := ⟨_, hide rfl⟩
  rw [hn.out] at LE hl HV ⊢
  clear hv
  go_enter Try.func29, Try.ntmps29
  go_wp2_with fail
  refine LE.out.mono ?_
  rintro e w1 ⟨u, rfl, hu, hb1⟩
  have NW := hide (new_pis L u w1 hu.rws HOK.out)
  have HU := hide hu
  have Hb := hide hb1
  have hsw1 := hide hb1.size
  obtain ⟨g, cap, rfl, _⟩ := hu
  rw [hn.out, hc.out] at NW
  rw [hn.out] at HU ⊢
  have HO := hide (HU.out.own hn.out)
  clear hb1 LE HU
  go_upto_region 3 with (go_at_call 36; refine NW.out.mono ?_; rintro e w2 ⟨p, rfl, hp, hb2⟩; have HP := hide hp; have Hb2 := hide (below_next Hb.out (Nat.le_refl _) hb2); have HO2 := hide (HO.out.below hb2); clear hp hb2)
  have RC := hide (refCheck_any L (.slice na n np) w2 (by have := (HV.out.below Hb2.out).1.1.1; exact this))
  rw [hc.out] at RC
  clear NW Hb HO
  go_upto_region 4 with (go_at_call 57; refine RC.out.mono ?_; rintro e w3 ⟨rfl, hw3⟩; obtain rfl := hw3.symm)
  have HVr : Hid (∀ W, Below w.heap.size w W → Rws W (.slice na L.length np) 3 jbC L) := hide (fun W hb => by rw [hn.out]; exact (HV.out.below hb).1.1.1)
  clear RC
  have HB1 : Hid (w.heap.size ≤ w1.heap.size) := hide hsw1.out
  obtain ⟨b1, hb1⟩ : ∃ b1, Hid (w1.heap.size = b1) := ⟨_, hide rfl⟩
  rw [hb1.out] at HP
  go_wp2_with fail
  go_loopw [8] (fun v8 wr => ∃ i : Nat, v8 = .int .i64 (i : Int) ∧ i ≤ n ∧ Hid (OwnJ wr w.heap.size g n cap i L) ∧ Hid (PIs wr b1 L p) ∧ Hid (Below w.heap.size w wr)) (fun v8 _ => n - (intOf v8).toNat)
  case atStart => exact ⟨0, rfl, by omega, HO2, HP, Hb2⟩
  case round =>
    clear HO2 HP Hb2
    obtain ⟨i, rfl, hi, HO, HP, Hb⟩ := hrel
    obtain ⟨⟨cur, hB⟩, hgb, hcap, hcm⟩ := HO.out.facts
    by_cases hin : i < n
    · obtain ⟨a0, a1, a2⟩ := HO.out.at hn.out hin
      obtain ⟨g2, o2, rfl, _, hc2⟩ := jb_at (HVr.out wr Hb.out) i (by rw [hn.out]; exact hin)
      obtain ⟨b0, b1', b2⟩ := hc2 wr (Below.refl _ _)
      have NE := neq_jb (jbA L i).pe (jbA L i).ph (jbA L i).rk
      generalize (jbA L i).pe = x0 at *
      generalize (jbA L i).ph = x1 at *
      generalize (jbA L i).rk = x2 at *
      have hic : (i : Int) < cap := by omega
      have hin2 : (i : Int) < n := by omega
      have f0 := hB.frozen (i * 3)
      have f1 := hB.frozen (i * 3 + 1)
      have f2 := hB.frozen (i * 3 + 2)
      have HS : Hid (∀ k, OwnJ ((((wr.drewN k).setCell ⟨g, i * 3, none⟩ (.int .i64 1)).setCell ⟨g, i * 3 + 1, none⟩ (.int .i64 0)).setCell ⟨g, i * 3 + 2, none⟩ (.int .i64 0)) w.heap.size g n cap (i + 1) L) := hide (fun k => (HO.out.below (below_drewN (Below.refl _ _) k)).set)
      have HPS : Hid (∀ k, PIs ((((wr.drewN k).setCell ⟨g, i * 3, none⟩ (.int .i64 1)).setCell ⟨g, i * 3 + 1, none⟩ (.int .i64 0)).setCell ⟨g, i * 3 + 2, none⟩ (.int .i64 0)) b1 L p) := hide (fun k => by
        have h1 := HO.out.below (below_drewN (Below.refl _ _) k)
        obtain ⟨M, m1, m2, m3⟩ := h1
        exact (HP.out.after (below_drewN (Below.refl _ _) k)).grown m3 (grown_set3 _ g _ _ _ _ _ _))
      have HBS : Hid (∀ k, Below w.heap.size w ((((wr.drewN k).setCell ⟨g, i * 3, none⟩ (.int .i64 1)).setCell ⟨g, i * 3 + 1, none⟩ (.int .i64 0)).setCell ⟨g, i * 3 + 2, none⟩ (.int .i64 0))) := hide (fun k => (below_drewN Hb.out k).grown (grown_set3 _ g _ _ _ _ _ _) (by have := (below_drewN Hb.out k).size; exact this) (fun j e => by injection e with e; omega))
      clear hc2 HO HP Hb
      go_upto_region 7 with fail
      go_quiet (fail)
      go_wp2_with fail
      go_roundw
      case rel => exact ⟨i + 1, by simp, by omega, HS.out nq, HPS.out nq, HBS.out nq⟩
      case measure => simp [intOf]; omega
    · have LE2 := hide (lentJ_any L (.slice na n np) wr (HV.out.below Hb.out))
      have KE : Hid (∀ u W, Lnt W wr.heap.size u L → Below wr.heap.size wr W → Calls Try.prog 58 #[u, .slice na n np] W fun e w' => e = .returned (.bool true) ∧ Below W.heap.size W w') := hide (fun u W hu hb => keptJ_any L u (.slice na n np) W wr.heap.size hu ((HV.out.below (below_next Hb.out (Nat.le_refl _) hb)).1.1.1))
      have hb1s : Hid (w.heap.size ≤ b1) := hide (by rw [← hb1.out]; exact HB1.out)
      have e1 : i = n := by omega
      subst e1
      rcases HP.out with ⟨hc0, rfl⟩ | ⟨hc0, P, rfl, hP1, hP2⟩
      · have hcne : (c != 0) = true := by rw [hc.out] at hc0; simpa using hc0
        have HC0 := hide hc0
        clear hc0 HP HO hB
        go_wp2_with (first | (go_at_call 56; refine LE2.out.mono ?_; rintro e w5 ⟨u5, rfl, hu5, hb5⟩; have KE2 := hide (KE.out u5 w5 hu5 hb5); have Hb5 := hide (below_next Hb.out (Nat.le_refl _) hb5); obtain ⟨g5, cap5, rfl, _⟩ := hu5; rw [hn.out] at KE2; rw [hn.out]; clear hb5 KE LE2) | (go_at_call 58; refine KE2.out.mono ?_; rintro e w6 ⟨rfl, hb6⟩; have Hb6 := hide (below_next Hb5.out (Nat.le_refl _) hb6); clear hb6 KE2))
        go_ret2
        exact ⟨Hb6.out, .inl ⟨HC0.out, rfl⟩⟩
      · have hcz : c = 0 := by rw [← hc.out]; exact hc0
        subst hcz
        have EP := eql_ptr P
        have HPW := hide hP2
        have HP1 := hide hP1
        clear hc0 HP HO hB hP1 hP2
        go_wp2_with (first | (go_at_call 56; refine LE2.out.mono ?_; rintro e w5 ⟨u5, rfl, hu5, hb5⟩; have KE2 := hide (KE.out u5 w5 hu5 hb5); have HP5 := hide (HPW.out.after hb5); have Hb5 := hide (below_next Hb.out (Nat.le_refl _) hb5); obtain ⟨g5, cap5, rfl, _⟩ := hu5; rw [hn.out] at KE2; rw [hn.out]; clear hb5 KE LE2) | (go_at_call 58; refine KE2.out.mono ?_; rintro e w6 ⟨rfl, hb6⟩; have HP6 := hide (HP5.out.after hb6); have Hb6 := hide (below_next Hb5.out (Nat.le_refl _) hb6); clear hb6 KE2))
        go_ret2
        exact ⟨Hb6.out, .inr ⟨hc.out, P, rfl, Nat.le_trans hb1s.out HP1.out, HP6.out.lower hb1s.out⟩⟩
end Go.Proofs.Ytcjahdgppnmdkaa
