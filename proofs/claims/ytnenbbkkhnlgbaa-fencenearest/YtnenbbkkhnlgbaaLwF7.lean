/- FenceNearest. -/
import Derived.Test.YtnenbbkkhnlgbaaFlO
import Derived.Test.YtnenbbkkhnlgbaaFeP
namespace Go.Proofs.Ytnenbbkkhnlgbaa
open Go.RowKit Go.Great

/-- what is known of the rally point that is best so far -/
def RInv (P : List Pt) (p : Pt) (r : Int) (pre : List Pt) (s : Int × Int) : Prop :=
  (s.1 = -1 ∧ ∀ i, i < pre.length → laB P p (pre.getD i (0, 0)) r = false) ∨ ∃ n : Nat, s.1 = (n : Int) ∧ n < pre.length ∧ laB P p (pre.getD n (0, 0)) r = true ∧ s.2 = farI p (pre.getD n (0, 0)) ∧ ∀ i, i < pre.length → laB P p (pre.getD i (0, 0)) r = true → farI p (pre.getD n (0, 0)) < farI p (pre.getD i (0, 0)) ∨ (farI p (pre.getD i (0, 0)) = farI p (pre.getD n (0, 0)) ∧ n ≤ i)
theorem getD_left {l : List Pt} {q : Pt} {i : Nat} (h : i < l.length) : (l ++ [q]).getD i (0, 0) = l.getD i (0, 0) := by rw [List.getD, List.getD, List.getElem?_append_left h]
theorem getD_last (l : List Pt) (q : Pt) : (l ++ [q]).getD l.length (0, 0) = q := by rw [List.getD, List.getElem?_append_right (Nat.le_refl _)]; simp
theorem rinv_step {P : List Pt} {p : Pt} {r : Int} {pre : List Pt} {s : Int × Int} (q : Pt) (h : RInv P p r pre s) : RInv P p r (pre ++ [q]) (if ((decide (s.1 < 0) || decide (farI p q < s.2)) && laB P p q r) = true then (((pre.length : Nat) : Int), farI p q) else s) := by
  have hlen : (pre ++ [q]).length = pre.length + 1 := by simp
  split
  · rename_i hc
    simp only [Bool.and_eq_true, Bool.or_eq_true, decide_eq_true_eq] at hc
    obtain ⟨hc, hl⟩ := hc
    refine Or.inr ⟨pre.length, rfl, by omega, by rw [getD_last]; exact hl, by rw [getD_last], fun i hi hli => ?_⟩
    rw [getD_last]
    by_cases e : i = pre.length
    · subst e
      rw [getD_last]
      exact Or.inr ⟨rfl, Nat.le_refl _⟩
    · have hi' : i < pre.length := by omega
      rw [getD_left hi'] at hli ⊢
      rcases h with ⟨h1, h2⟩ | ⟨n, h1, h2, h3, h4, h5⟩
      · rw [h2 i hi'] at hli; cases hli
      · have hlt : farI p q < farI p (pre.getD n (0, 0)) := by
          rcases hc with hc | hc
          · rw [h1] at hc; omega
          · rw [h4] at hc; exact hc
        rcases h5 i hi' hli with h6 | h6
        · exact Or.inl (by omega)
        · exact Or.inl (by omega)
  · rename_i hc
    rcases h with ⟨h1, h2⟩ | ⟨n, h1, h2, h3, h4, h5⟩
    · refine Or.inl ⟨h1, fun i hi => ?_⟩
      by_cases e : i = pre.length
      · subst e
        rw [getD_last]
        cases hq : laB P p q r with
        | false => rfl
        | true => rw [hq, h1] at hc; simp at hc
      · rw [getD_left (by omega)]
        exact h2 i (by omega)
    · refine Or.inr ⟨n, h1, by omega, by rw [getD_left h2]; exact h3, by rw [getD_left h2]; exact h4, fun i hi hli => ?_⟩
      rw [getD_left h2]
      by_cases e : i = pre.length
      · subst e
        rw [getD_last] at hli ⊢
        rw [hli, h1, h4] at hc
        simp only [Bool.and_true, Bool.or_eq_true, decide_eq_true_eq, not_or] at hc
        by_cases e2 : farI p q = farI p (pre.getD n (0, 0))
        · exact Or.inr ⟨e2, by omega⟩
        · exact Or.inl (by omega)
      · rw [getD_left (by omega)] at hli ⊢
        exact h5 i (by omega) hli
theorem rinv_all (P : List Pt) (p : Pt) (r : Int) : ∀ (L pre : List Pt) (s : Int × Int), RInv P p r pre s → RInv P p r (pre ++ L) (ralR P p r L pre.length s)
  | [], pre, s, h => by rw [List.append_nil, ralR]; exact h
  | q :: L, pre, s, h => by
    have := rinv_all P p r L (pre ++ [q]) _ (rinv_step q h)
    rw [List.append_assoc, List.length_append] at this
    rw [ralR]
    exact this
theorem rinv_end (P : List Pt) (p : Pt) (r : Int) (R : List Pt) : RInv P p r R (ralR P p r R 0 (-1, 0)) := rinv_all P p r R [] (-1, 0) (Or.inl ⟨rfl, fun i hi => absurd hi (by simp)⟩)
theorem near_ok {P : List Pt} {fl ce : Int} {R : List Pt} {p : Pt} {r : Int} (h : wayE P fl ce R [p] r = 0) {k : Nat} (hk : k < R.length) : wayE P fl ce R [p, R.getD k (0, 0)] r = 0 ∧ lanI P fl ce R p (R.getD k (0, 0)) r = laB P p (R.getD k (0, 0)) r ∧ orE [p, R.getD k (0, 0)] = 0 := by
  obtain ⟨c, f, r0⟩ := way_ok h
  have f1 : fitB p = true := List.all_eq_true.1 f p (by simp)
  have f2 : fitB (R.getD k (0, 0)) = true := at_all (chk_fit c) hk
  have ha : [p, R.getD k (0, 0)].all fitB = true := by simp only [List.all_cons, List.all_nil, f1, f2]; rfl
  have e : wayE P fl ce R [p, R.getD k (0, 0)] r = 0 := by
    unfold wayE
    rw [if_pos c, if_pos ha, if_neg (by omega)]
  refine ⟨e, ?_, by unfold orE; rw [if_pos ha]⟩
  unfold lanI
  rw [e]
  rfl
set_option maxRecDepth 100000 in
set_option maxHeartbeats 8000000 in
theorem FenceNearest_walk (v : Value) (q0 q1 rm : Int) (w : World) (h : FenIn w v) : Calls Try.prog 13 #[v, .agg #[.int .i64 q0, .int .i64 q1], .int .i64 rm] w fun e w' => e = .returned (.bool true) ∧ Below w.heap.size w w' := by
  obtain ⟨P, R, fl, ce, p, r, rfl, hp, hr⟩ := h
  have hP := long_ok hp
  have hR := long_ok hr
  have AW := awakeF_any
  have LE := fun W (hb : Below w.heap.size w W) => lentF_any P R fl ce p r W ⟨hp.1.below hb, hp.2⟩ ⟨hr.1.below hb, hr.2⟩
  have C1 := fun W p' r' (h1 : Lnt W p' P) (h2 : Lnt W r' R) => rallyF_any P R fl ce p' r' (q0, q1) rm W h1.pts h2.pts hP hR
  have C2 := fun k W p' r' (h1 : Lnt W p' P) (h2 : Lnt W r' R) => laneF_any P R fl ce p' r' (q0, q1) (R.getD k (0, 0)) rm W h1.pts h2.pts hP hR
  have FA := fun k => far_any (q0, q1) (R.getD k (0, 0))
  have HOK : Hid (wayE P fl ce R [(q0, q1)] rm = 0 → ∀ k, k < R.length → wayE P fl ce R [(q0, q1), R.getD k (0, 0)] rm = 0 ∧ lanI P fl ce R (q0, q1) (R.getD k (0, 0)) rm = laB P (q0, q1) (R.getD k (0, 0)) rm ∧ orE [(q0, q1), R.getD k (0, 0)] = 0) := fun h k hk => near_ok h hk
  have HR8 : Hid (wayE P fl ce R [(q0, q1)] rm = 0 → R.length ≤ 8) := fun hs => (chk_ok (way_ok hs).1).2.2.2.2.2.1
  have HIN : Hid (wayE P fl ce R [(q0, q1)] rm = 0 → RInv P (q0, q1) rm R (ralI P fl ce R (q0, q1) rm, (ralR P (q0, q1) rm R 0 (-1, 0)).2)) := fun h => by
    have := rinv_end P (q0, q1) rm R
    unfold ralI
    rw [if_pos h]
    exact this
  have HNO : Hid (wayE P fl ce R [(q0, q1)] rm ≠ 0 → ralI P fl ce R (q0, q1) rm = 0) := fun h => by unfold ralI; rw [if_neg h]
  generalize ralI P fl ce R (q0, q1) rm = N at *
  generalize (ralR P (q0, q1) rm R 0 (-1, 0)).2 = N2 at *
  generalize wayE P fl ce R [(q0, q1)] rm = E at *
  obtain ⟨ap, cp, rfl, hcl⟩ := hp.1
  obtain ⟨ar, cr, rfl, hcl'⟩ := hr.1
  have HPT := hide hcl'
  clear hcl hcl' hp hr hP hR
  generalize hn1 : P.length = n1 at *
  generalize hn2 : R.length = n2 at *
  have HN1 := hide hn1
  have HN2 := hide hn2
  clear hn1 hn2
  simp only [fV, pV] at *
  go_enter Try.func13, Try.ntmps13
  go_wp2_with fail
  obtain ⟨W0, hW0, hB, B0, B1, hz⟩ := two_boxes w #[.slice ap n1 cp, .int .i64 fl, .int .i64 ce, .slice ar n2 cr] #[.int .i64 q0, .int .i64 q1] 24 39
  rw [hW0]
  clear hW0 hz
  refine wp_region_held_drew (S := fun wx => wx.cell? ⟨w.heap.size, 0, none⟩ = some (.slice ap n1 cp) ∧ wx.cell? ⟨w.heap.size, 1, none⟩ = some (.int .i64 fl) ∧ wx.cell? ⟨w.heap.size, 2, none⟩ = some (.int .i64 ce) ∧ wx.cell? ⟨w.heap.size, 3, none⟩ = some (.slice ar n2 cr) ∧ wx.cell? ⟨w.heap.size + 1, 0, none⟩ = some (.int .i64 q0) ∧ wx.cell? ⟨w.heap.size + 1, 1, none⟩ = some (.int .i64 q1)) (by kernel_rfl) (by exact ⟨(B0).cell 0 rfl, (B0).cell 1 rfl, (B0).cell 2 rfl, (B0).cell 3 rfl, (B1).cell 0 rfl, (B1).cell 1 rfl⟩) (fun hHeld => ?_)
  refine take_at (i := 0) (v := .agg #[.slice ap n1 cp, .int .i64 fl, .int .i64 ce, .slice ar n2 cr]) (d := some 17) rfl rfl (by kernel_rfl) (by kernel_rfl) (by kernel_rfl) (fun _ _ _ h => h) (Or.inl ⟨by rfl, fun wS ⟨hS0, hS1, hS2, hS3, hS4, hS5⟩ => by go_simp; all_goals (rw [IntKind.wrap_i64]; omega)⟩) (by assumption) ?_
  simp only [Act.put, List.setIfInBounds_toArray, List.set_cons_zero, List.set_cons_succ]
  refine take_at (i := 2) (v := .agg #[.int .i64 q0, .int .i64 q1]) (d := some 19) rfl rfl (by kernel_rfl) (by kernel_rfl) (by kernel_rfl) (fun _ _ _ h => h) (Or.inl ⟨by rfl, fun wS ⟨hS0, hS1, hS2, hS3, hS4, hS5⟩ => by go_simp; all_goals (rw [IntKind.wrap_i64]; omega)⟩) (by assumption) ?_
  simp only [Act.put, List.setIfInBounds_toArray, List.set_cons_zero, List.set_cons_succ]
  refine take_at (i := 3) (v := .int .i64 rm) (d := some 20) rfl rfl (by kernel_rfl) (by kernel_rfl) (by kernel_rfl) (fun _ _ _ h => h) (Or.inl ⟨by rfl, fun wS ⟨hS0, hS1, hS2, hS3, hS4, hS5⟩ => by go_simp; all_goals (rw [IntKind.wrap_i64]; omega)⟩) (by assumption) ?_
  simp only [Act.put, List.setIfInBounds_toArray, List.set_cons_zero, List.set_cons_succ]
  refine wpAnyH_ready (rs := [1]) (by kernel_rfl) (by simp) ?_
  refine AllReadyH.cons rfl (fun K hK => ?_) AllReadyH.nil
  go_simp
  refine (LE _ (hB).drew).mono ?_
  rintro e a1 ⟨p', r', rfl, h1, h2, hb1⟩
  replace hb1 := below_undrew hb1
  obtain ⟨g1, c1, e1⟩ := h1.slice
  obtain ⟨g2, c2, e2⟩ := h2.slice
  rw [HN1.out] at e1
  rw [HN2.out] at e2
  subst e1 e2
  clear hHeld
  refine hK.out _ _ (⟨(B0.after hb1).cell 0 rfl, (B0.after hb1).cell 1 rfl, (B0.after hb1).cell 2 rfl, (B0.after hb1).cell 3 rfl, (B1.after hb1).cell 0 rfl, (B1.after hb1).cell 1 rfl⟩) (fun hHeld => ?_)
  clear hK K
  refine wpAnyH_ready (rs := [4]) (by kernel_rfl) (by simp) ?_
  refine AllReadyH.cons rfl (fun K hK => ?_) AllReadyH.nil
  go_simp
  refine (C1 _ _ _ h1 h2).mono ?_
  rintro e a2 ⟨rfl, hb2⟩
  replace hb2 := below_next hb1 (Nat.le_refl _) hb2
  clear hHeld h1 h2 hb1
  refine hK.out _ _ (⟨(B0.after hb2).cell 0 rfl, (B0.after hb2).cell 1 rfl, (B0.after hb2).cell 2 rfl, (B0.after hb2).cell 3 rfl, (B1.after hb2).cell 0 rfl, (B1.after hb2).cell 1 rfl⟩) (fun hHeld => ?_)
  clear hK K
  refine take_at (i := 5) (v := .tuple #[.int .i64 N, .int .i64 E]) (d := some 16) rfl rfl (by kernel_rfl) (by kernel_rfl) (by kernel_rfl) (fun _ _ _ h => h) (Or.inl ⟨by rfl, fun wS ⟨hS0, hS1, hS2, hS3, hS4, hS5⟩ => by go_simp; all_goals (rw [IntKind.wrap_i64]; omega)⟩) (by assumption) ?_
  simp only [Act.put, List.setIfInBounds_toArray, List.set_cons_zero, List.set_cons_succ]
  refine take_at (i := 6) (v := .int .i64 N) (d := some 22) rfl rfl (by kernel_rfl) (by kernel_rfl) (by kernel_rfl) (fun _ _ _ h => h) (Or.inl ⟨by rfl, fun wS ⟨hS0, hS1, hS2, hS3, hS4, hS5⟩ => by go_simp; all_goals (rw [IntKind.wrap_i64]; omega)⟩) (by assumption) ?_
  simp only [Act.put, List.setIfInBounds_toArray, List.set_cons_zero, List.set_cons_succ]
  refine take_at (i := 7) (v := .int .i64 E) (d := some 23) rfl rfl (by kernel_rfl) (by kernel_rfl) (by kernel_rfl) (fun _ _ _ h => h) (Or.inl ⟨by rfl, fun wS ⟨hS0, hS1, hS2, hS3, hS4, hS5⟩ => by go_simp; all_goals (rw [IntKind.wrap_i64]; omega)⟩) (by assumption) ?_
  simp only [Act.put, List.setIfInBounds_toArray, List.set_cons_zero, List.set_cons_succ]
  refine take_at (i := 8) (v := .int .i64 N) (d := some 7) rfl rfl (by kernel_rfl) (by kernel_rfl) (by kernel_rfl) (fun _ _ _ h => h) (Or.inl ⟨by rfl, fun wS ⟨hS0, hS1, hS2, hS3, hS4, hS5⟩ => by go_simp; all_goals (rw [IntKind.wrap_i64]; omega)⟩) (by assumption) ?_
  simp only [Act.put, List.setIfInBounds_toArray, List.set_cons_zero, List.set_cons_succ]
  refine take_at (i := 9) (v := .int .i64 E) (d := some 8) rfl rfl (by kernel_rfl) (by kernel_rfl) (by kernel_rfl) (fun _ _ _ h => h) (Or.inl ⟨by rfl, fun wS ⟨hS0, hS1, hS2, hS3, hS4, hS5⟩ => by go_simp; all_goals (rw [IntKind.wrap_i64]; omega)⟩) (by assumption) ?_
  simp only [Act.put, List.setIfInBounds_toArray, List.set_cons_zero, List.set_cons_succ]
  refine wpAnyH_done (by kernel_rfl) ?_ _
  clear hHeld
  replace B0 := B0.after hb2
  replace B1 := B1.after hb2
  replace hB := below_next hB (Nat.le_refl _) hb2
  clear hb2
  clear C1
  by_cases hE : E = 0
  · subst hE
    have HOK2 := hide (HOK.out (by trivial))
    have h8 := HR8.out (by trivial)
    have HI2 := HIN.out (by trivial)
    clear HOK HR8 HIN HNO
    have j3 := B0.cell 3 rfl
    rcases HI2 with ⟨hN, hno⟩ | ⟨n, hN, hn, hln, _, hbest⟩
    · have hN' : N = -1 := hN
      subst hN'
      have HNA := hide hno
      clear hno hN
      go_wp2_with fail
      go_loopw [9] (fun i wx => ∃ k : Nat, k ≤ n2 ∧ i = .int .i64 k ∧ Hid (Below w.heap.size w wx) ∧ Hid (Blk wx w.heap.size #[.slice ap n1 cp, .int .i64 fl, .int .i64 ce, .slice ar n2 cr] 24) ∧ Hid (Blk wx (w.heap.size + 1) #[.int .i64 q0, .int .i64 q1] 39)) (fun i _ => n2 - (intOf i).toNat)
      case atStart => exact ⟨0, Nat.zero_le _, rfl, hide hB, hide B0, hide B1⟩
      case round =>
        clear j3 hB B0 B1
        obtain ⟨k, hk, rfl, hB', hB0, hB1⟩ := hrel
        have hB := hB'.out
        have B0 := hB0.out
        have B1 := hB1.out
        clear hB' hB0 hB1
        have gb := hB.size
        have j3 := B0.cell 3 rfl
        by_cases hlt : k < n2
        · obtain ⟨g, o, rfl, hg, hcc⟩ := HPT.out (by omega)
          have gw : g < wr.heap.size := by omega
          have p0 := (hB.cell (p := ⟨g, o + k * 2, none⟩) hg).trans (hcc k hlt).1
          have p1 := (hB.cell (p := ⟨g, o + k * 2 + 1, none⟩) hg).trans (hcc k hlt).2
          have hnl : ((k : Nat) : Int) < (n2 : Int) := by omega
          obtain ⟨e1, e2, e3⟩ := HOK2.out k hlt
          have CK := C2 k
          rw [e1, e2] at CK
          have hla : laB P (q0, q1) (R.getD k (0, 0)) rm = false := HNA.out k (by rw [HN2.out]; exact hlt)
          rw [hla] at CK
          generalize (R.getD k (0, 0)).1 = x at *
          generalize (R.getD k (0, 0)).2 = y at *
          clear e1 e2 e3 hla C2 FA hcc
          go_wp2_with fail
          clear j3
          refine wp_region_held_drew (S := fun wx => wx.cell? ⟨w.heap.size, 0, none⟩ = some (.slice ap n1 cp) ∧ wx.cell? ⟨w.heap.size, 1, none⟩ = some (.int .i64 fl) ∧ wx.cell? ⟨w.heap.size, 2, none⟩ = some (.int .i64 ce) ∧ wx.cell? ⟨w.heap.size, 3, none⟩ = some (.slice (some ⟨g, o, none⟩) n2 cr) ∧ wx.cell? ⟨w.heap.size + 1, 0, none⟩ = some (.int .i64 q0) ∧ wx.cell? ⟨w.heap.size + 1, 1, none⟩ = some (.int .i64 q1) ∧ wx.cell? ⟨g, o + k * 2, none⟩ = some (.int .i64 x) ∧ wx.cell? ⟨g, o + k * 2 + 1, none⟩ = some (.int .i64 y)) (by kernel_rfl) (by exact ⟨(B0).cell 0 rfl, (B0).cell 1 rfl, (B0).cell 2 rfl, (B0).cell 3 rfl, (B1).cell 0 rfl, (B1).cell 1 rfl, p0, p1⟩) (fun hHeld => ?_)
          refine take_at (i := 0) (v := .agg #[.slice ap n1 cp, .int .i64 fl, .int .i64 ce, .slice (some ⟨g, o, none⟩) n2 cr]) (d := some 48) rfl rfl (by kernel_rfl) (by kernel_rfl) (by kernel_rfl) (fun _ _ _ h => h) (Or.inl ⟨by rfl, fun wS ⟨hS0, hS1, hS2, hS3, hS4, hS5, hS6, hS7⟩ => by go_simp; all_goals (rw [IntKind.wrap_i64]; omega)⟩) (by assumption) ?_
          simp only [Act.put, List.setIfInBounds_toArray, List.set_cons_zero, List.set_cons_succ]
          refine take_at (i := 2) (v := .agg #[.int .i64 q0, .int .i64 q1]) (d := some 50) rfl rfl (by kernel_rfl) (by kernel_rfl) (by kernel_rfl) (fun _ _ _ h => h) (Or.inl ⟨by rfl, fun wS ⟨hS0, hS1, hS2, hS3, hS4, hS5, hS6, hS7⟩ => by go_simp; all_goals (rw [IntKind.wrap_i64]; omega)⟩) (by assumption) ?_
          simp only [Act.put, List.setIfInBounds_toArray, List.set_cons_zero, List.set_cons_succ]
          refine take_at (i := 3) (v := .pointer (some ⟨w.heap.size, 3, none⟩)) (d := some 51) rfl rfl (by kernel_rfl) (by kernel_rfl) (by kernel_rfl) (fun _ _ _ h => h) (Or.inl ⟨by rfl, fun wS ⟨hS0, hS1, hS2, hS3, hS4, hS5, hS6, hS7⟩ => by go_simp; all_goals (rw [IntKind.wrap_i64]; omega)⟩) (by assumption) ?_
          simp only [Act.put, List.setIfInBounds_toArray, List.set_cons_zero, List.set_cons_succ]
          refine take_at (i := 4) (v := .slice (some ⟨g, o, none⟩) n2 cr) (d := some 52) rfl rfl (by kernel_rfl) (by kernel_rfl) (by kernel_rfl) (fun _ _ _ h => h) (Or.inl ⟨by rfl, fun wS ⟨hS0, hS1, hS2, hS3, hS4, hS5, hS6, hS7⟩ => by go_simp; all_goals (rw [IntKind.wrap_i64]; omega)⟩) (by assumption) ?_
          simp only [Act.put, List.setIfInBounds_toArray, List.set_cons_zero, List.set_cons_succ]
          refine take_at (i := 5) (v := .int .i64 (k : Int)) (d := some 53) rfl rfl (by kernel_rfl) (by kernel_rfl) (by kernel_rfl) (fun _ _ _ h => h) (Or.inl ⟨by rfl, fun wS ⟨hS0, hS1, hS2, hS3, hS4, hS5, hS6, hS7⟩ => by go_simp; all_goals (rw [IntKind.wrap_i64]; omega)⟩) (by assumption) ?_
          simp only [Act.put, List.setIfInBounds_toArray, List.set_cons_zero, List.set_cons_succ]
          refine take_at (i := 6) (v := .pointer (some ⟨g, o + k * 2, none⟩)) (d := some 54) rfl rfl (by kernel_rfl) (by kernel_rfl) (by kernel_rfl) (fun _ _ _ h => h) (Or.inl ⟨by rfl, fun wS ⟨hS0, hS1, hS2, hS3, hS4, hS5, hS6, hS7⟩ => by go_simp; all_goals (rw [IntKind.wrap_i64]; omega)⟩) (by assumption) ?_
          simp only [Act.put, List.setIfInBounds_toArray, List.set_cons_zero, List.set_cons_succ]
          refine take_at (i := 7) (v := .agg #[.int .i64 x, .int .i64 y]) (d := some 55) rfl rfl (by kernel_rfl) (by kernel_rfl) (by kernel_rfl) (fun _ _ _ h => h) (Or.inl ⟨by rfl, fun wS ⟨hS0, hS1, hS2, hS3, hS4, hS5, hS6, hS7⟩ => by go_simp; all_goals (rw [IntKind.wrap_i64]; omega)⟩) (by assumption) ?_
          simp only [Act.put, List.setIfInBounds_toArray, List.set_cons_zero, List.set_cons_succ]
          refine take_at (i := 8) (v := .int .i64 rm) (d := some 56) rfl rfl (by kernel_rfl) (by kernel_rfl) (by kernel_rfl) (fun _ _ _ h => h) (Or.inl ⟨by rfl, fun wS ⟨hS0, hS1, hS2, hS3, hS4, hS5, hS6, hS7⟩ => by go_simp; all_goals (rw [IntKind.wrap_i64]; omega)⟩) (by assumption) ?_
          simp only [Act.put, List.setIfInBounds_toArray, List.set_cons_zero, List.set_cons_succ]
          refine wpAnyH_ready (rs := [1]) (by kernel_rfl) (by simp) ?_
          refine AllReadyH.cons rfl (fun K hK => ?_) AllReadyH.nil
          go_simp
          refine (LE _ (hB).drew).mono ?_
          rintro e b1 ⟨p', r', rfl, h1, h2, hb1⟩
          replace hb1 := below_undrew hb1
          obtain ⟨g1, c1, e1⟩ := h1.slice
          obtain ⟨g2, c2, e2⟩ := h2.slice
          rw [HN1.out] at e1
          rw [HN2.out] at e2
          subst e1 e2
          clear hHeld
          refine hK.out _ _ (⟨(B0.after hb1).cell 0 rfl, (B0.after hb1).cell 1 rfl, (B0.after hb1).cell 2 rfl, (B0.after hb1).cell 3 rfl, (B1.after hb1).cell 0 rfl, (B1.after hb1).cell 1 rfl, (hb1.cell (p := ⟨g, o + k * 2, none⟩) gw).trans p0, (hb1.cell (p := ⟨g, o + k * 2 + 1, none⟩) gw).trans p1⟩) (fun hHeld => ?_)
          clear hK K
          refine wpAnyH_ready (rs := [9]) (by kernel_rfl) (by simp) ?_
          refine AllReadyH.cons rfl (fun K hK => ?_) AllReadyH.nil
          go_simp
          refine (CK _ _ _ h1 h2).mono ?_
          rintro e b2 ⟨rfl, hb2⟩
          replace hb2 := below_next hb1 (Nat.le_refl _) hb2
          clear hHeld h1 h2 hb1
          refine hK.out _ _ (⟨(B0.after hb2).cell 0 rfl, (B0.after hb2).cell 1 rfl, (B0.after hb2).cell 2 rfl, (B0.after hb2).cell 3 rfl, (B1.after hb2).cell 0 rfl, (B1.after hb2).cell 1 rfl, (hb2.cell (p := ⟨g, o + k * 2, none⟩) gw).trans p0, (hb2.cell (p := ⟨g, o + k * 2 + 1, none⟩) gw).trans p1⟩) (fun hHeld => ?_)
          clear hK K
          refine take_at (i := 10) (v := .tuple #[.bool false, .int .i64 0]) (d := some 47) rfl rfl (by kernel_rfl) (by kernel_rfl) (by kernel_rfl) (fun _ _ _ h => h) (Or.inl ⟨by rfl, fun wS ⟨hS0, hS1, hS2, hS3, hS4, hS5, hS6, hS7⟩ => by go_simp; all_goals (rw [IntKind.wrap_i64]; omega)⟩) (by assumption) ?_
          simp only [Act.put, List.setIfInBounds_toArray, List.set_cons_zero, List.set_cons_succ]
          refine take_at (i := 11) (v := .bool false) (d := some 58) rfl rfl (by kernel_rfl) (by kernel_rfl) (by kernel_rfl) (fun _ _ _ h => h) (Or.inl ⟨by rfl, fun wS ⟨hS0, hS1, hS2, hS3, hS4, hS5, hS6, hS7⟩ => by go_simp; all_goals (rw [IntKind.wrap_i64]; omega)⟩) (by assumption) ?_
          simp only [Act.put, List.setIfInBounds_toArray, List.set_cons_zero, List.set_cons_succ]
          refine take_at (i := 12) (v := .int .i64 0) (d := some 59) rfl rfl (by kernel_rfl) (by kernel_rfl) (by kernel_rfl) (fun _ _ _ h => h) (Or.inl ⟨by rfl, fun wS ⟨hS0, hS1, hS2, hS3, hS4, hS5, hS6, hS7⟩ => by go_simp; all_goals (rw [IntKind.wrap_i64]; omega)⟩) (by assumption) ?_
          simp only [Act.put, List.setIfInBounds_toArray, List.set_cons_zero, List.set_cons_succ]
          refine take_at (i := 13) (v := .bool false) (d := some 10) rfl rfl (by kernel_rfl) (by kernel_rfl) (by kernel_rfl) (fun _ _ _ h => h) (Or.inl ⟨by rfl, fun wS ⟨hS0, hS1, hS2, hS3, hS4, hS5, hS6, hS7⟩ => by go_simp; all_goals (rw [IntKind.wrap_i64]; omega)⟩) (by assumption) ?_
          simp only [Act.put, List.setIfInBounds_toArray, List.set_cons_zero, List.set_cons_succ]
          refine take_at (i := 14) (v := .int .i64 0) (d := some 11) rfl rfl (by kernel_rfl) (by kernel_rfl) (by kernel_rfl) (fun _ _ _ h => h) (Or.inl ⟨by rfl, fun wS ⟨hS0, hS1, hS2, hS3, hS4, hS5, hS6, hS7⟩ => by go_simp; all_goals (rw [IntKind.wrap_i64]; omega)⟩) (by assumption) ?_
          simp only [Act.put, List.setIfInBounds_toArray, List.set_cons_zero, List.set_cons_succ]
          refine wpAnyH_done (by kernel_rfl) ?_ _
          clear hHeld
          replace B0 := B0.after hb2
          replace B1 := B1.after hb2
          replace hB := below_next hB (Nat.le_refl _) hb2
          clear hb2
          have hk1 : ((k : Int) == -1) = false := by simp
          go_wp2_with fail
          go_roundw
          case rel => exact ⟨k + 1, by omega, by go_num, hide hB, hide B0, hide B1⟩
          case measure => simp [intOf]; omega
        · go_wp2_with fail
          refine (AW _).mono ?_
          rintro e w9 ⟨rfl, hb⟩
          go_wp2_with fail
          go_ret
          exact ⟨rfl, below_next hB (Nat.le_refl _) hb⟩
    · have hN' : N = (n : Int) := hN
      subst hN'
      have HBE := hide hbest
      have HLN := hide hln
      clear hbest hN hln
      rw [HN2.out] at hn
      have hn2 : ((n : Nat) : Int) < (n2 : Int) := by omega
      go_wp2_with fail
      go_loopw [9] (fun i wx => ∃ k : Nat, k ≤ n2 ∧ i = .int .i64 k ∧ Hid (Below w.heap.size w wx) ∧ Hid (Blk wx w.heap.size #[.slice ap n1 cp, .int .i64 fl, .int .i64 ce, .slice ar n2 cr] 24) ∧ Hid (Blk wx (w.heap.size + 1) #[.int .i64 q0, .int .i64 q1] 39)) (fun i _ => n2 - (intOf i).toNat)
      case atStart => exact ⟨0, Nat.zero_le _, rfl, hide hB, hide B0, hide B1⟩
      case round =>
        clear j3 hB B0 B1
        obtain ⟨k, hk, rfl, hB', hB0, hB1⟩ := hrel
        have hB := hB'.out
        have B0 := hB0.out
        have B1 := hB1.out
        clear hB' hB0 hB1
        have gb := hB.size
        have j3 := B0.cell 3 rfl
        by_cases hlt : k < n2
        · obtain ⟨g, o, rfl, hg, hcc⟩ := HPT.out (by omega)
          have gw : g < wr.heap.size := by omega
          have p0 := (hB.cell (p := ⟨g, o + k * 2, none⟩) hg).trans (hcc k hlt).1
          have p1 := (hB.cell (p := ⟨g, o + k * 2 + 1, none⟩) hg).trans (hcc k hlt).2
          have hnl : ((k : Nat) : Int) < (n2 : Int) := by omega
          obtain ⟨e1, e2, e3⟩ := HOK2.out k hlt
          have CK := C2 k
          rw [e1, e2] at CK
          by_cases hkn0 : k = n
          · subst hkn0
            obtain ⟨_, _, e4⟩ := HOK2.out k hlt
            have FK := FA k
            rw [e4] at FK
            have hla : laB P (q0, q1) (R.getD k (0, 0)) rm = true := HLN.out
            rw [hla] at CK
            generalize farI (q0, q1) (R.getD k (0, 0)) = d at *
            generalize (R.getD k (0, 0)).1 = x at *
            generalize (R.getD k (0, 0)).2 = y at *
            clear e1 e2 e3 e4 C2 FA hcc HBE HLN hla
            have hkk : ((k : Int) == (k : Int)) = true := by simp
            have hd1 : decide (d < d) = false := by simp
            have hdd : (d == d) = true := by simp
            have hkl : decide ((k : Int) < (k : Int)) = false := by simp
            go_wp2_with fail
            clear j3
            refine wp_region_held_drew (S := fun wx => wx.cell? ⟨w.heap.size, 0, none⟩ = some (.slice ap n1 cp) ∧ wx.cell? ⟨w.heap.size, 1, none⟩ = some (.int .i64 fl) ∧ wx.cell? ⟨w.heap.size, 2, none⟩ = some (.int .i64 ce) ∧ wx.cell? ⟨w.heap.size, 3, none⟩ = some (.slice (some ⟨g, o, none⟩) n2 cr) ∧ wx.cell? ⟨w.heap.size + 1, 0, none⟩ = some (.int .i64 q0) ∧ wx.cell? ⟨w.heap.size + 1, 1, none⟩ = some (.int .i64 q1) ∧ wx.cell? ⟨g, o + k * 2, none⟩ = some (.int .i64 x) ∧ wx.cell? ⟨g, o + k * 2 + 1, none⟩ = some (.int .i64 y)) (by kernel_rfl) (by exact ⟨(B0).cell 0 rfl, (B0).cell 1 rfl, (B0).cell 2 rfl, (B0).cell 3 rfl, (B1).cell 0 rfl, (B1).cell 1 rfl, p0, p1⟩) (fun hHeld => ?_)
            refine take_at (i := 0) (v := .agg #[.slice ap n1 cp, .int .i64 fl, .int .i64 ce, .slice (some ⟨g, o, none⟩) n2 cr]) (d := some 48) rfl rfl (by kernel_rfl) (by kernel_rfl) (by kernel_rfl) (fun _ _ _ h => h) (Or.inl ⟨by rfl, fun wS ⟨hS0, hS1, hS2, hS3, hS4, hS5, hS6, hS7⟩ => by go_simp; all_goals (rw [IntKind.wrap_i64]; omega)⟩) (by assumption) ?_
            simp only [Act.put, List.setIfInBounds_toArray, List.set_cons_zero, List.set_cons_succ]
            refine take_at (i := 2) (v := .agg #[.int .i64 q0, .int .i64 q1]) (d := some 50) rfl rfl (by kernel_rfl) (by kernel_rfl) (by kernel_rfl) (fun _ _ _ h => h) (Or.inl ⟨by rfl, fun wS ⟨hS0, hS1, hS2, hS3, hS4, hS5, hS6, hS7⟩ => by go_simp; all_goals (rw [IntKind.wrap_i64]; omega)⟩) (by assumption) ?_
            simp only [Act.put, List.setIfInBounds_toArray, List.set_cons_zero, List.set_cons_succ]
            refine take_at (i := 3) (v := .pointer (some ⟨w.heap.size, 3, none⟩)) (d := some 51) rfl rfl (by kernel_rfl) (by kernel_rfl) (by kernel_rfl) (fun _ _ _ h => h) (Or.inl ⟨by rfl, fun wS ⟨hS0, hS1, hS2, hS3, hS4, hS5, hS6, hS7⟩ => by go_simp; all_goals (rw [IntKind.wrap_i64]; omega)⟩) (by assumption) ?_
            simp only [Act.put, List.setIfInBounds_toArray, List.set_cons_zero, List.set_cons_succ]
            refine take_at (i := 4) (v := .slice (some ⟨g, o, none⟩) n2 cr) (d := some 52) rfl rfl (by kernel_rfl) (by kernel_rfl) (by kernel_rfl) (fun _ _ _ h => h) (Or.inl ⟨by rfl, fun wS ⟨hS0, hS1, hS2, hS3, hS4, hS5, hS6, hS7⟩ => by go_simp; all_goals (rw [IntKind.wrap_i64]; omega)⟩) (by assumption) ?_
            simp only [Act.put, List.setIfInBounds_toArray, List.set_cons_zero, List.set_cons_succ]
            refine take_at (i := 5) (v := .int .i64 (k : Int)) (d := some 53) rfl rfl (by kernel_rfl) (by kernel_rfl) (by kernel_rfl) (fun _ _ _ h => h) (Or.inl ⟨by rfl, fun wS ⟨hS0, hS1, hS2, hS3, hS4, hS5, hS6, hS7⟩ => by go_simp; all_goals (rw [IntKind.wrap_i64]; omega)⟩) (by assumption) ?_
            simp only [Act.put, List.setIfInBounds_toArray, List.set_cons_zero, List.set_cons_succ]
            refine take_at (i := 6) (v := .pointer (some ⟨g, o + k * 2, none⟩)) (d := some 54) rfl rfl (by kernel_rfl) (by kernel_rfl) (by kernel_rfl) (fun _ _ _ h => h) (Or.inl ⟨by rfl, fun wS ⟨hS0, hS1, hS2, hS3, hS4, hS5, hS6, hS7⟩ => by go_simp; all_goals (rw [IntKind.wrap_i64]; omega)⟩) (by assumption) ?_
            simp only [Act.put, List.setIfInBounds_toArray, List.set_cons_zero, List.set_cons_succ]
            refine take_at (i := 7) (v := .agg #[.int .i64 x, .int .i64 y]) (d := some 55) rfl rfl (by kernel_rfl) (by kernel_rfl) (by kernel_rfl) (fun _ _ _ h => h) (Or.inl ⟨by rfl, fun wS ⟨hS0, hS1, hS2, hS3, hS4, hS5, hS6, hS7⟩ => by go_simp; all_goals (rw [IntKind.wrap_i64]; omega)⟩) (by assumption) ?_
            simp only [Act.put, List.setIfInBounds_toArray, List.set_cons_zero, List.set_cons_succ]
            refine take_at (i := 8) (v := .int .i64 rm) (d := some 56) rfl rfl (by kernel_rfl) (by kernel_rfl) (by kernel_rfl) (fun _ _ _ h => h) (Or.inl ⟨by rfl, fun wS ⟨hS0, hS1, hS2, hS3, hS4, hS5, hS6, hS7⟩ => by go_simp; all_goals (rw [IntKind.wrap_i64]; omega)⟩) (by assumption) ?_
            simp only [Act.put, List.setIfInBounds_toArray, List.set_cons_zero, List.set_cons_succ]
            refine wpAnyH_ready (rs := [1]) (by kernel_rfl) (by simp) ?_
            refine AllReadyH.cons rfl (fun K hK => ?_) AllReadyH.nil
            go_simp
            refine (LE _ (hB).drew).mono ?_
            rintro e b1 ⟨p', r', rfl, h1, h2, hb1⟩
            replace hb1 := below_undrew hb1
            obtain ⟨g1, c1, e1⟩ := h1.slice
            obtain ⟨g2, c2, e2⟩ := h2.slice
            rw [HN1.out] at e1
            rw [HN2.out] at e2
            subst e1 e2
            clear hHeld
            refine hK.out _ _ (⟨(B0.after hb1).cell 0 rfl, (B0.after hb1).cell 1 rfl, (B0.after hb1).cell 2 rfl, (B0.after hb1).cell 3 rfl, (B1.after hb1).cell 0 rfl, (B1.after hb1).cell 1 rfl, (hb1.cell (p := ⟨g, o + k * 2, none⟩) gw).trans p0, (hb1.cell (p := ⟨g, o + k * 2 + 1, none⟩) gw).trans p1⟩) (fun hHeld => ?_)
            clear hK K
            refine wpAnyH_ready (rs := [9]) (by kernel_rfl) (by simp) ?_
            refine AllReadyH.cons rfl (fun K hK => ?_) AllReadyH.nil
            go_simp
            refine (CK _ _ _ h1 h2).mono ?_
            rintro e b2 ⟨rfl, hb2⟩
            replace hb2 := below_next hb1 (Nat.le_refl _) hb2
            clear hHeld h1 h2 hb1
            refine hK.out _ _ (⟨(B0.after hb2).cell 0 rfl, (B0.after hb2).cell 1 rfl, (B0.after hb2).cell 2 rfl, (B0.after hb2).cell 3 rfl, (B1.after hb2).cell 0 rfl, (B1.after hb2).cell 1 rfl, (hb2.cell (p := ⟨g, o + k * 2, none⟩) gw).trans p0, (hb2.cell (p := ⟨g, o + k * 2 + 1, none⟩) gw).trans p1⟩) (fun hHeld => ?_)
            clear hK K
            refine take_at (i := 10) (v := .tuple #[.bool true, .int .i64 0]) (d := some 47) rfl rfl (by kernel_rfl) (by kernel_rfl) (by kernel_rfl) (fun _ _ _ h => h) (Or.inl ⟨by rfl, fun wS ⟨hS0, hS1, hS2, hS3, hS4, hS5, hS6, hS7⟩ => by go_simp; all_goals (rw [IntKind.wrap_i64]; omega)⟩) (by assumption) ?_
            simp only [Act.put, List.setIfInBounds_toArray, List.set_cons_zero, List.set_cons_succ]
            refine take_at (i := 11) (v := .bool true) (d := some 58) rfl rfl (by kernel_rfl) (by kernel_rfl) (by kernel_rfl) (fun _ _ _ h => h) (Or.inl ⟨by rfl, fun wS ⟨hS0, hS1, hS2, hS3, hS4, hS5, hS6, hS7⟩ => by go_simp; all_goals (rw [IntKind.wrap_i64]; omega)⟩) (by assumption) ?_
            simp only [Act.put, List.setIfInBounds_toArray, List.set_cons_zero, List.set_cons_succ]
            refine take_at (i := 12) (v := .int .i64 0) (d := some 59) rfl rfl (by kernel_rfl) (by kernel_rfl) (by kernel_rfl) (fun _ _ _ h => h) (Or.inl ⟨by rfl, fun wS ⟨hS0, hS1, hS2, hS3, hS4, hS5, hS6, hS7⟩ => by go_simp; all_goals (rw [IntKind.wrap_i64]; omega)⟩) (by assumption) ?_
            simp only [Act.put, List.setIfInBounds_toArray, List.set_cons_zero, List.set_cons_succ]
            refine take_at (i := 13) (v := .bool true) (d := some 10) rfl rfl (by kernel_rfl) (by kernel_rfl) (by kernel_rfl) (fun _ _ _ h => h) (Or.inl ⟨by rfl, fun wS ⟨hS0, hS1, hS2, hS3, hS4, hS5, hS6, hS7⟩ => by go_simp; all_goals (rw [IntKind.wrap_i64]; omega)⟩) (by assumption) ?_
            simp only [Act.put, List.setIfInBounds_toArray, List.set_cons_zero, List.set_cons_succ]
            refine take_at (i := 14) (v := .int .i64 0) (d := some 11) rfl rfl (by kernel_rfl) (by kernel_rfl) (by kernel_rfl) (fun _ _ _ h => h) (Or.inl ⟨by rfl, fun wS ⟨hS0, hS1, hS2, hS3, hS4, hS5, hS6, hS7⟩ => by go_simp; all_goals (rw [IntKind.wrap_i64]; omega)⟩) (by assumption) ?_
            simp only [Act.put, List.setIfInBounds_toArray, List.set_cons_zero, List.set_cons_succ]
            refine wpAnyH_done (by kernel_rfl) ?_ _
            clear hHeld
            replace B0 := B0.after hb2
            replace B1 := B1.after hb2
            have hbL := hb2
            replace hB := below_next hB (Nat.le_refl _) hb2
            clear hb2
            have gs := hB.size
            have p0' := fun z : BelowW b2 => z.cell ((hbL.cell (p := ⟨g, o + k * 2, none⟩) gw).trans p0) (by have := hbL.size; omega)
            have p1' := fun z : BelowW b2 => z.cell ((hbL.cell (p := ⟨g, o + k * 2 + 1, none⟩) gw).trans p1) (by have := hbL.size; omega)
            have a0 := B0.at 3 rfl
            have m0 := B1.at 0 rfl
            have m1 := B1.at 1 rfl
            have hne : Nonempty (BelowW b2) := ⟨⟨b2, Below.refl _ _⟩⟩
            go_wp2_with fail
            refine wp_region_calm (by kernel_rfl) (by kernel_rfl) ?_
            repeat (go_big_quiet_step (first | (go_at_call 42; exact calm_of (FK _))))
            refine wpQuiet_nil ?_
            rintro w6 ⟨⟨q3, hq⟩, e3⟩
            have e4 : w6 = q3 := e3
            clear e3
            subst e4
            have hbM := below_next hbL (Nat.le_refl _) hq
            replace hB := below_next hB (Nat.le_refl _) hq
            replace B0 := B0.after hq
            replace B1 := B1.after hq
            clear p0' p1' a0 m0 m1 hne hq
            have p2' := fun z : BelowW w6 => z.cell ((hbM.cell (p := ⟨g, o + k * 2, none⟩) gw).trans p0) (by have := hbM.size; omega)
            have p3' := fun z : BelowW w6 => z.cell ((hbM.cell (p := ⟨g, o + k * 2 + 1, none⟩) gw).trans p1) (by have := hbM.size; omega)
            have a0 := B0.at 3 rfl
            have m0 := B1.at 0 rfl
            have m1 := B1.at 1 rfl
            have hne : Nonempty (BelowW w6) := ⟨⟨w6, Below.refl _ _⟩⟩
            go_wp2_with fail
            refine wp_region_calm (by kernel_rfl) (by kernel_rfl) ?_
            repeat (go_big_quiet_step (first | (go_at_call 42; exact calm_of (FK _))))
            refine wpQuiet_nil ?_
            rintro w7 ⟨⟨q3, hq⟩, e3⟩
            have e4 : w7 = q3 := e3
            clear e3
            subst e4
            replace hB := below_next hB (Nat.le_refl _) hq
            replace B0 := B0.after hq
            replace B1 := B1.after hq
            clear p2' p3' a0 m0 m1 hne hq hbM hbL
            go_wp2_with fail
            all_goals go_roundw
            case rel => exact ⟨k + 1, by omega, by go_num, hide hB, hide B0, hide B1⟩
            case measure => simp [intOf]; omega
          · skip
            obtain ⟨_, _, e4⟩ := HOK2.out n hn
            have hkn : ((k : Int) == (n : Int)) = false := by simp; omega
            have p2 := (hB.cell (p := ⟨g, o + n * 2, none⟩) hg).trans (hcc n hn).1
            have p3 := (hB.cell (p := ⟨g, o + n * 2 + 1, none⟩) hg).trans (hcc n hn).2
            have FK := FA k
            have FN := FA n
            rw [e3] at FK
            rw [e4] at FN
            have HB1 := hide (HBE.out k (by rw [HN2.out]; exact hlt))
            generalize laB P (q0, q1) (R.getD k (0, 0)) rm = t at *
            generalize farI (q0, q1) (R.getD k (0, 0)) = d at *
            generalize farI (q0, q1) (R.getD n (0, 0)) = bd at *
            generalize (R.getD k (0, 0)).1 = x at *
            generalize (R.getD k (0, 0)).2 = y at *
            generalize (R.getD n (0, 0)).1 = nx at *
            generalize (R.getD n (0, 0)).2 = ny at *
            clear e1 e2 e3 e4 C2 FA hcc HBE HLN
            cases t
            · clear HB1
              go_wp2_with fail
              clear j3
              refine wp_region_held_drew (S := fun wx => wx.cell? ⟨w.heap.size, 0, none⟩ = some (.slice ap n1 cp) ∧ wx.cell? ⟨w.heap.size, 1, none⟩ = some (.int .i64 fl) ∧ wx.cell? ⟨w.heap.size, 2, none⟩ = some (.int .i64 ce) ∧ wx.cell? ⟨w.heap.size, 3, none⟩ = some (.slice (some ⟨g, o, none⟩) n2 cr) ∧ wx.cell? ⟨w.heap.size + 1, 0, none⟩ = some (.int .i64 q0) ∧ wx.cell? ⟨w.heap.size + 1, 1, none⟩ = some (.int .i64 q1) ∧ wx.cell? ⟨g, o + k * 2, none⟩ = some (.int .i64 x) ∧ wx.cell? ⟨g, o + k * 2 + 1, none⟩ = some (.int .i64 y)) (by kernel_rfl) (by exact ⟨(B0).cell 0 rfl, (B0).cell 1 rfl, (B0).cell 2 rfl, (B0).cell 3 rfl, (B1).cell 0 rfl, (B1).cell 1 rfl, p0, p1⟩) (fun hHeld => ?_)
              refine take_at (i := 0) (v := .agg #[.slice ap n1 cp, .int .i64 fl, .int .i64 ce, .slice (some ⟨g, o, none⟩) n2 cr]) (d := some 48) rfl rfl (by kernel_rfl) (by kernel_rfl) (by kernel_rfl) (fun _ _ _ h => h) (Or.inl ⟨by rfl, fun wS ⟨hS0, hS1, hS2, hS3, hS4, hS5, hS6, hS7⟩ => by go_simp; all_goals (rw [IntKind.wrap_i64]; omega)⟩) (by assumption) ?_
              simp only [Act.put, List.setIfInBounds_toArray, List.set_cons_zero, List.set_cons_succ]
              refine take_at (i := 2) (v := .agg #[.int .i64 q0, .int .i64 q1]) (d := some 50) rfl rfl (by kernel_rfl) (by kernel_rfl) (by kernel_rfl) (fun _ _ _ h => h) (Or.inl ⟨by rfl, fun wS ⟨hS0, hS1, hS2, hS3, hS4, hS5, hS6, hS7⟩ => by go_simp; all_goals (rw [IntKind.wrap_i64]; omega)⟩) (by assumption) ?_
              simp only [Act.put, List.setIfInBounds_toArray, List.set_cons_zero, List.set_cons_succ]
              refine take_at (i := 3) (v := .pointer (some ⟨w.heap.size, 3, none⟩)) (d := some 51) rfl rfl (by kernel_rfl) (by kernel_rfl) (by kernel_rfl) (fun _ _ _ h => h) (Or.inl ⟨by rfl, fun wS ⟨hS0, hS1, hS2, hS3, hS4, hS5, hS6, hS7⟩ => by go_simp; all_goals (rw [IntKind.wrap_i64]; omega)⟩) (by assumption) ?_
              simp only [Act.put, List.setIfInBounds_toArray, List.set_cons_zero, List.set_cons_succ]
              refine take_at (i := 4) (v := .slice (some ⟨g, o, none⟩) n2 cr) (d := some 52) rfl rfl (by kernel_rfl) (by kernel_rfl) (by kernel_rfl) (fun _ _ _ h => h) (Or.inl ⟨by rfl, fun wS ⟨hS0, hS1, hS2, hS3, hS4, hS5, hS6, hS7⟩ => by go_simp; all_goals (rw [IntKind.wrap_i64]; omega)⟩) (by assumption) ?_
              simp only [Act.put, List.setIfInBounds_toArray, List.set_cons_zero, List.set_cons_succ]
              refine take_at (i := 5) (v := .int .i64 (k : Int)) (d := some 53) rfl rfl (by kernel_rfl) (by kernel_rfl) (by kernel_rfl) (fun _ _ _ h => h) (Or.inl ⟨by rfl, fun wS ⟨hS0, hS1, hS2, hS3, hS4, hS5, hS6, hS7⟩ => by go_simp; all_goals (rw [IntKind.wrap_i64]; omega)⟩) (by assumption) ?_
              simp only [Act.put, List.setIfInBounds_toArray, List.set_cons_zero, List.set_cons_succ]
              refine take_at (i := 6) (v := .pointer (some ⟨g, o + k * 2, none⟩)) (d := some 54) rfl rfl (by kernel_rfl) (by kernel_rfl) (by kernel_rfl) (fun _ _ _ h => h) (Or.inl ⟨by rfl, fun wS ⟨hS0, hS1, hS2, hS3, hS4, hS5, hS6, hS7⟩ => by go_simp; all_goals (rw [IntKind.wrap_i64]; omega)⟩) (by assumption) ?_
              simp only [Act.put, List.setIfInBounds_toArray, List.set_cons_zero, List.set_cons_succ]
              refine take_at (i := 7) (v := .agg #[.int .i64 x, .int .i64 y]) (d := some 55) rfl rfl (by kernel_rfl) (by kernel_rfl) (by kernel_rfl) (fun _ _ _ h => h) (Or.inl ⟨by rfl, fun wS ⟨hS0, hS1, hS2, hS3, hS4, hS5, hS6, hS7⟩ => by go_simp; all_goals (rw [IntKind.wrap_i64]; omega)⟩) (by assumption) ?_
              simp only [Act.put, List.setIfInBounds_toArray, List.set_cons_zero, List.set_cons_succ]
              refine take_at (i := 8) (v := .int .i64 rm) (d := some 56) rfl rfl (by kernel_rfl) (by kernel_rfl) (by kernel_rfl) (fun _ _ _ h => h) (Or.inl ⟨by rfl, fun wS ⟨hS0, hS1, hS2, hS3, hS4, hS5, hS6, hS7⟩ => by go_simp; all_goals (rw [IntKind.wrap_i64]; omega)⟩) (by assumption) ?_
              simp only [Act.put, List.setIfInBounds_toArray, List.set_cons_zero, List.set_cons_succ]
              refine wpAnyH_ready (rs := [1]) (by kernel_rfl) (by simp) ?_
              refine AllReadyH.cons rfl (fun K hK => ?_) AllReadyH.nil
              go_simp
              refine (LE _ (hB).drew).mono ?_
              rintro e b1 ⟨p', r', rfl, h1, h2, hb1⟩
              replace hb1 := below_undrew hb1
              obtain ⟨g1, c1, e1⟩ := h1.slice
              obtain ⟨g2, c2, e2⟩ := h2.slice
              rw [HN1.out] at e1
              rw [HN2.out] at e2
              subst e1 e2
              clear hHeld
              refine hK.out _ _ (⟨(B0.after hb1).cell 0 rfl, (B0.after hb1).cell 1 rfl, (B0.after hb1).cell 2 rfl, (B0.after hb1).cell 3 rfl, (B1.after hb1).cell 0 rfl, (B1.after hb1).cell 1 rfl, (hb1.cell (p := ⟨g, o + k * 2, none⟩) gw).trans p0, (hb1.cell (p := ⟨g, o + k * 2 + 1, none⟩) gw).trans p1⟩) (fun hHeld => ?_)
              clear hK K
              refine wpAnyH_ready (rs := [9]) (by kernel_rfl) (by simp) ?_
              refine AllReadyH.cons rfl (fun K hK => ?_) AllReadyH.nil
              go_simp
              refine (CK _ _ _ h1 h2).mono ?_
              rintro e b2 ⟨rfl, hb2⟩
              replace hb2 := below_next hb1 (Nat.le_refl _) hb2
              clear hHeld h1 h2 hb1
              refine hK.out _ _ (⟨(B0.after hb2).cell 0 rfl, (B0.after hb2).cell 1 rfl, (B0.after hb2).cell 2 rfl, (B0.after hb2).cell 3 rfl, (B1.after hb2).cell 0 rfl, (B1.after hb2).cell 1 rfl, (hb2.cell (p := ⟨g, o + k * 2, none⟩) gw).trans p0, (hb2.cell (p := ⟨g, o + k * 2 + 1, none⟩) gw).trans p1⟩) (fun hHeld => ?_)
              clear hK K
              refine take_at (i := 10) (v := .tuple #[.bool false, .int .i64 0]) (d := some 47) rfl rfl (by kernel_rfl) (by kernel_rfl) (by kernel_rfl) (fun _ _ _ h => h) (Or.inl ⟨by rfl, fun wS ⟨hS0, hS1, hS2, hS3, hS4, hS5, hS6, hS7⟩ => by go_simp; all_goals (rw [IntKind.wrap_i64]; omega)⟩) (by assumption) ?_
              simp only [Act.put, List.setIfInBounds_toArray, List.set_cons_zero, List.set_cons_succ]
              refine take_at (i := 11) (v := .bool false) (d := some 58) rfl rfl (by kernel_rfl) (by kernel_rfl) (by kernel_rfl) (fun _ _ _ h => h) (Or.inl ⟨by rfl, fun wS ⟨hS0, hS1, hS2, hS3, hS4, hS5, hS6, hS7⟩ => by go_simp; all_goals (rw [IntKind.wrap_i64]; omega)⟩) (by assumption) ?_
              simp only [Act.put, List.setIfInBounds_toArray, List.set_cons_zero, List.set_cons_succ]
              refine take_at (i := 12) (v := .int .i64 0) (d := some 59) rfl rfl (by kernel_rfl) (by kernel_rfl) (by kernel_rfl) (fun _ _ _ h => h) (Or.inl ⟨by rfl, fun wS ⟨hS0, hS1, hS2, hS3, hS4, hS5, hS6, hS7⟩ => by go_simp; all_goals (rw [IntKind.wrap_i64]; omega)⟩) (by assumption) ?_
              simp only [Act.put, List.setIfInBounds_toArray, List.set_cons_zero, List.set_cons_succ]
              refine take_at (i := 13) (v := .bool false) (d := some 10) rfl rfl (by kernel_rfl) (by kernel_rfl) (by kernel_rfl) (fun _ _ _ h => h) (Or.inl ⟨by rfl, fun wS ⟨hS0, hS1, hS2, hS3, hS4, hS5, hS6, hS7⟩ => by go_simp; all_goals (rw [IntKind.wrap_i64]; omega)⟩) (by assumption) ?_
              simp only [Act.put, List.setIfInBounds_toArray, List.set_cons_zero, List.set_cons_succ]
              refine take_at (i := 14) (v := .int .i64 0) (d := some 11) rfl rfl (by kernel_rfl) (by kernel_rfl) (by kernel_rfl) (fun _ _ _ h => h) (Or.inl ⟨by rfl, fun wS ⟨hS0, hS1, hS2, hS3, hS4, hS5, hS6, hS7⟩ => by go_simp; all_goals (rw [IntKind.wrap_i64]; omega)⟩) (by assumption) ?_
              simp only [Act.put, List.setIfInBounds_toArray, List.set_cons_zero, List.set_cons_succ]
              refine wpAnyH_done (by kernel_rfl) ?_ _
              clear hHeld
              replace B0 := B0.after hb2
              replace B1 := B1.after hb2
              replace hB := below_next hB (Nat.le_refl _) hb2
              clear hb2
              go_wp2_with fail
              go_roundw
              case rel => exact ⟨k + 1, by omega, by go_num, hide hB, hide B0, hide B1⟩
              case measure => simp [intOf]; omega
            · have hbe := HB1.out (by trivial)
              have hd1 : decide (d < bd) = false := by simp; omega
              have hd2 : ((d == bd) && decide ((k : Int) < (n : Int))) = false := by
                by_cases e : d = bd
                · subst e; simp; omega
                · simp [e]
              have HBE := hide hbe
              clear HB1 hbe
              go_wp2_with fail
              clear j3
              refine wp_region_held_drew (S := fun wx => wx.cell? ⟨w.heap.size, 0, none⟩ = some (.slice ap n1 cp) ∧ wx.cell? ⟨w.heap.size, 1, none⟩ = some (.int .i64 fl) ∧ wx.cell? ⟨w.heap.size, 2, none⟩ = some (.int .i64 ce) ∧ wx.cell? ⟨w.heap.size, 3, none⟩ = some (.slice (some ⟨g, o, none⟩) n2 cr) ∧ wx.cell? ⟨w.heap.size + 1, 0, none⟩ = some (.int .i64 q0) ∧ wx.cell? ⟨w.heap.size + 1, 1, none⟩ = some (.int .i64 q1) ∧ wx.cell? ⟨g, o + k * 2, none⟩ = some (.int .i64 x) ∧ wx.cell? ⟨g, o + k * 2 + 1, none⟩ = some (.int .i64 y)) (by kernel_rfl) (by exact ⟨(B0).cell 0 rfl, (B0).cell 1 rfl, (B0).cell 2 rfl, (B0).cell 3 rfl, (B1).cell 0 rfl, (B1).cell 1 rfl, p0, p1⟩) (fun hHeld => ?_)
              refine take_at (i := 0) (v := .agg #[.slice ap n1 cp, .int .i64 fl, .int .i64 ce, .slice (some ⟨g, o, none⟩) n2 cr]) (d := some 48) rfl rfl (by kernel_rfl) (by kernel_rfl) (by kernel_rfl) (fun _ _ _ h => h) (Or.inl ⟨by rfl, fun wS ⟨hS0, hS1, hS2, hS3, hS4, hS5, hS6, hS7⟩ => by go_simp; all_goals (rw [IntKind.wrap_i64]; omega)⟩) (by assumption) ?_
              simp only [Act.put, List.setIfInBounds_toArray, List.set_cons_zero, List.set_cons_succ]
              refine take_at (i := 2) (v := .agg #[.int .i64 q0, .int .i64 q1]) (d := some 50) rfl rfl (by kernel_rfl) (by kernel_rfl) (by kernel_rfl) (fun _ _ _ h => h) (Or.inl ⟨by rfl, fun wS ⟨hS0, hS1, hS2, hS3, hS4, hS5, hS6, hS7⟩ => by go_simp; all_goals (rw [IntKind.wrap_i64]; omega)⟩) (by assumption) ?_
              simp only [Act.put, List.setIfInBounds_toArray, List.set_cons_zero, List.set_cons_succ]
              refine take_at (i := 3) (v := .pointer (some ⟨w.heap.size, 3, none⟩)) (d := some 51) rfl rfl (by kernel_rfl) (by kernel_rfl) (by kernel_rfl) (fun _ _ _ h => h) (Or.inl ⟨by rfl, fun wS ⟨hS0, hS1, hS2, hS3, hS4, hS5, hS6, hS7⟩ => by go_simp; all_goals (rw [IntKind.wrap_i64]; omega)⟩) (by assumption) ?_
              simp only [Act.put, List.setIfInBounds_toArray, List.set_cons_zero, List.set_cons_succ]
              refine take_at (i := 4) (v := .slice (some ⟨g, o, none⟩) n2 cr) (d := some 52) rfl rfl (by kernel_rfl) (by kernel_rfl) (by kernel_rfl) (fun _ _ _ h => h) (Or.inl ⟨by rfl, fun wS ⟨hS0, hS1, hS2, hS3, hS4, hS5, hS6, hS7⟩ => by go_simp; all_goals (rw [IntKind.wrap_i64]; omega)⟩) (by assumption) ?_
              simp only [Act.put, List.setIfInBounds_toArray, List.set_cons_zero, List.set_cons_succ]
              refine take_at (i := 5) (v := .int .i64 (k : Int)) (d := some 53) rfl rfl (by kernel_rfl) (by kernel_rfl) (by kernel_rfl) (fun _ _ _ h => h) (Or.inl ⟨by rfl, fun wS ⟨hS0, hS1, hS2, hS3, hS4, hS5, hS6, hS7⟩ => by go_simp; all_goals (rw [IntKind.wrap_i64]; omega)⟩) (by assumption) ?_
              simp only [Act.put, List.setIfInBounds_toArray, List.set_cons_zero, List.set_cons_succ]
              refine take_at (i := 6) (v := .pointer (some ⟨g, o + k * 2, none⟩)) (d := some 54) rfl rfl (by kernel_rfl) (by kernel_rfl) (by kernel_rfl) (fun _ _ _ h => h) (Or.inl ⟨by rfl, fun wS ⟨hS0, hS1, hS2, hS3, hS4, hS5, hS6, hS7⟩ => by go_simp; all_goals (rw [IntKind.wrap_i64]; omega)⟩) (by assumption) ?_
              simp only [Act.put, List.setIfInBounds_toArray, List.set_cons_zero, List.set_cons_succ]
              refine take_at (i := 7) (v := .agg #[.int .i64 x, .int .i64 y]) (d := some 55) rfl rfl (by kernel_rfl) (by kernel_rfl) (by kernel_rfl) (fun _ _ _ h => h) (Or.inl ⟨by rfl, fun wS ⟨hS0, hS1, hS2, hS3, hS4, hS5, hS6, hS7⟩ => by go_simp; all_goals (rw [IntKind.wrap_i64]; omega)⟩) (by assumption) ?_
              simp only [Act.put, List.setIfInBounds_toArray, List.set_cons_zero, List.set_cons_succ]
              refine take_at (i := 8) (v := .int .i64 rm) (d := some 56) rfl rfl (by kernel_rfl) (by kernel_rfl) (by kernel_rfl) (fun _ _ _ h => h) (Or.inl ⟨by rfl, fun wS ⟨hS0, hS1, hS2, hS3, hS4, hS5, hS6, hS7⟩ => by go_simp; all_goals (rw [IntKind.wrap_i64]; omega)⟩) (by assumption) ?_
              simp only [Act.put, List.setIfInBounds_toArray, List.set_cons_zero, List.set_cons_succ]
              refine wpAnyH_ready (rs := [1]) (by kernel_rfl) (by simp) ?_
              refine AllReadyH.cons rfl (fun K hK => ?_) AllReadyH.nil
              go_simp
              refine (LE _ (hB).drew).mono ?_
              rintro e b1 ⟨p', r', rfl, h1, h2, hb1⟩
              replace hb1 := below_undrew hb1
              obtain ⟨g1, c1, e1⟩ := h1.slice
              obtain ⟨g2, c2, e2⟩ := h2.slice
              rw [HN1.out] at e1
              rw [HN2.out] at e2
              subst e1 e2
              clear hHeld
              refine hK.out _ _ (⟨(B0.after hb1).cell 0 rfl, (B0.after hb1).cell 1 rfl, (B0.after hb1).cell 2 rfl, (B0.after hb1).cell 3 rfl, (B1.after hb1).cell 0 rfl, (B1.after hb1).cell 1 rfl, (hb1.cell (p := ⟨g, o + k * 2, none⟩) gw).trans p0, (hb1.cell (p := ⟨g, o + k * 2 + 1, none⟩) gw).trans p1⟩) (fun hHeld => ?_)
              clear hK K
              refine wpAnyH_ready (rs := [9]) (by kernel_rfl) (by simp) ?_
              refine AllReadyH.cons rfl (fun K hK => ?_) AllReadyH.nil
              go_simp
              refine (CK _ _ _ h1 h2).mono ?_
              rintro e b2 ⟨rfl, hb2⟩
              replace hb2 := below_next hb1 (Nat.le_refl _) hb2
              clear hHeld h1 h2 hb1
              refine hK.out _ _ (⟨(B0.after hb2).cell 0 rfl, (B0.after hb2).cell 1 rfl, (B0.after hb2).cell 2 rfl, (B0.after hb2).cell 3 rfl, (B1.after hb2).cell 0 rfl, (B1.after hb2).cell 1 rfl, (hb2.cell (p := ⟨g, o + k * 2, none⟩) gw).trans p0, (hb2.cell (p := ⟨g, o + k * 2 + 1, none⟩) gw).trans p1⟩) (fun hHeld => ?_)
              clear hK K
              refine take_at (i := 10) (v := .tuple #[.bool true, .int .i64 0]) (d := some 47) rfl rfl (by kernel_rfl) (by kernel_rfl) (by kernel_rfl) (fun _ _ _ h => h) (Or.inl ⟨by rfl, fun wS ⟨hS0, hS1, hS2, hS3, hS4, hS5, hS6, hS7⟩ => by go_simp; all_goals (rw [IntKind.wrap_i64]; omega)⟩) (by assumption) ?_
              simp only [Act.put, List.setIfInBounds_toArray, List.set_cons_zero, List.set_cons_succ]
              refine take_at (i := 11) (v := .bool true) (d := some 58) rfl rfl (by kernel_rfl) (by kernel_rfl) (by kernel_rfl) (fun _ _ _ h => h) (Or.inl ⟨by rfl, fun wS ⟨hS0, hS1, hS2, hS3, hS4, hS5, hS6, hS7⟩ => by go_simp; all_goals (rw [IntKind.wrap_i64]; omega)⟩) (by assumption) ?_
              simp only [Act.put, List.setIfInBounds_toArray, List.set_cons_zero, List.set_cons_succ]
              refine take_at (i := 12) (v := .int .i64 0) (d := some 59) rfl rfl (by kernel_rfl) (by kernel_rfl) (by kernel_rfl) (fun _ _ _ h => h) (Or.inl ⟨by rfl, fun wS ⟨hS0, hS1, hS2, hS3, hS4, hS5, hS6, hS7⟩ => by go_simp; all_goals (rw [IntKind.wrap_i64]; omega)⟩) (by assumption) ?_
              simp only [Act.put, List.setIfInBounds_toArray, List.set_cons_zero, List.set_cons_succ]
              refine take_at (i := 13) (v := .bool true) (d := some 10) rfl rfl (by kernel_rfl) (by kernel_rfl) (by kernel_rfl) (fun _ _ _ h => h) (Or.inl ⟨by rfl, fun wS ⟨hS0, hS1, hS2, hS3, hS4, hS5, hS6, hS7⟩ => by go_simp; all_goals (rw [IntKind.wrap_i64]; omega)⟩) (by assumption) ?_
              simp only [Act.put, List.setIfInBounds_toArray, List.set_cons_zero, List.set_cons_succ]
              refine take_at (i := 14) (v := .int .i64 0) (d := some 11) rfl rfl (by kernel_rfl) (by kernel_rfl) (by kernel_rfl) (fun _ _ _ h => h) (Or.inl ⟨by rfl, fun wS ⟨hS0, hS1, hS2, hS3, hS4, hS5, hS6, hS7⟩ => by go_simp; all_goals (rw [IntKind.wrap_i64]; omega)⟩) (by assumption) ?_
              simp only [Act.put, List.setIfInBounds_toArray, List.set_cons_zero, List.set_cons_succ]
              refine wpAnyH_done (by kernel_rfl) ?_ _
              clear hHeld
              replace B0 := B0.after hb2
              replace B1 := B1.after hb2
              have hbL := hb2
              replace hB := below_next hB (Nat.le_refl _) hb2
              clear hb2
              have gs := hB.size
              have p0' := fun z : BelowW b2 => z.cell ((hbL.cell (p := ⟨g, o + k * 2, none⟩) gw).trans p0) (by have := hbL.size; omega)
              have p1' := fun z : BelowW b2 => z.cell ((hbL.cell (p := ⟨g, o + k * 2 + 1, none⟩) gw).trans p1) (by have := hbL.size; omega)
              have a0 := B0.at 3 rfl
              have m0 := B1.at 0 rfl
              have m1 := B1.at 1 rfl
              have hne : Nonempty (BelowW b2) := ⟨⟨b2, Below.refl _ _⟩⟩
              go_wp2_with fail
              refine wp_region_calm (by kernel_rfl) (by kernel_rfl) ?_
              repeat (go_big_quiet_step (first | (go_at_call 42; exact calm_of (FK _))))
              refine wpQuiet_nil ?_
              rintro w6 ⟨⟨q3, hq⟩, e3⟩
              have e4 : w6 = q3 := e3
              clear e3
              subst e4
              have hbM := below_next hbL (Nat.le_refl _) hq
              replace hB := below_next hB (Nat.le_refl _) hq
              replace B0 := B0.after hq
              replace B1 := B1.after hq
              clear p0' p1' a0 m0 m1 hne hq
              have p2' := fun z : BelowW w6 => z.cell ((hbM.cell (p := ⟨g, o + n * 2, none⟩) gw).trans p2) (by have := hbM.size; omega)
              have p3' := fun z : BelowW w6 => z.cell ((hbM.cell (p := ⟨g, o + n * 2 + 1, none⟩) gw).trans p3) (by have := hbM.size; omega)
              have a0 := B0.at 3 rfl
              have m0 := B1.at 0 rfl
              have m1 := B1.at 1 rfl
              have hne : Nonempty (BelowW w6) := ⟨⟨w6, Below.refl _ _⟩⟩
              go_wp2_with fail
              refine wp_region_calm (by kernel_rfl) (by kernel_rfl) ?_
              repeat (go_big_quiet_step (first | (go_at_call 42; exact calm_of (FN _))))
              refine wpQuiet_nil ?_
              rintro w7 ⟨⟨q3, hq⟩, e3⟩
              have e4 : w7 = q3 := e3
              clear e3
              subst e4
              replace hB := below_next hB (Nat.le_refl _) hq
              replace B0 := B0.after hq
              replace B1 := B1.after hq
              clear p2' p3' a0 m0 m1 hne hq hbM hbL
              by_cases hdb : d = bd
              · have hkn2 : decide ((k : Int) < (n : Int)) = false := by
                  subst hdb
                  simpa using hd2
                have hdd : (d == bd) = true := by simp [hdb]
                have hkn4 : ¬ k < n := by
                  have := of_decide_eq_false hkn2
                  omega
                have hkn5 : decide (k < n) = false := by simpa using hkn4
                clear hd2
                go_wp2_with fail
                all_goals go_roundw
                case rel => exact ⟨k + 1, by omega, by go_num, hide hB, hide B0, hide B1⟩
                case measure => simp [intOf]; omega
              · have hdd : (d == bd) = false := by simp [hdb]
                clear hd2
                go_wp2_with fail
                all_goals go_roundw
                case rel => exact ⟨k + 1, by omega, by go_num, hide hB, hide B0, hide B1⟩
                case measure => simp [intOf]; omega
        · go_wp2_with fail
          refine (AW _).mono ?_
          rintro e w9 ⟨rfl, hb⟩
          go_wp2_with fail
          go_ret
          exact ⟨rfl, below_next hB (Nat.le_refl _) hb⟩
  · have hN : N = 0 := HNO.out hE
    subst hN
    clear HNO HIN HOK HR8
    go_wp2_with fail
    all_goals refine (AW _).mono ?_
    all_goals rintro e w9 ⟨rfl, hb⟩
    all_goals go_wp2_with fail
    all_goals go_ret
    all_goals exact ⟨by first | rfl | exact ret_bool (by simp), below_next hB (Nat.le_refl _) hb⟩
end Go.Proofs.Ytnenbbkkhnlgbaa
