/- The document's Simple. -/
import Derived.Test.YtohepelnbmojiaaGrD
namespace Go.Proofs.Ytohepelnbmojiaa
open Go.RowKit Go.Great

theorem nxt_succ {m k : Nat} (h : k + 1 < m) : nxt m k = k + 1 := Nat.mod_eq_of_lt h
theorem nxt_last {m k : Nat} (h : k + 1 = m) : nxt m k = 0 := by unfold nxt; rw [h]; exact Nat.mod_self m
theorem pair_or {l : List Pt} {m i j : Nat} (h3 : 3 ≤ m) (hij : i < j) (hj : j < m) : (pairB l m i j || pairB l m j i) = rtanB l m i j := by
  have hi1 : nxt m i = i + 1 := nxt_succ (by omega)
  have hjl := nxt_lt (m := m) (k := j) (by omega)
  have hjn : nxt m j = j + 1 ∨ (nxt m j = 0 ∧ j + 1 = m) := by
    by_cases h : j + 1 < m
    · exact .inl (nxt_succ h)
    · exact .inr ⟨nxt_last (by omega), by omega⟩
  by_cases e1 : j = i + 1
  · have p1 : pairB l m i j = (onB (pt l i) (pt l (nxt m i)) (pt l (nxt m j)) || onB (pt l j) (pt l (nxt m j)) (pt l i)) := by
      unfold pairB
      rw [if_neg (by omega), if_pos (by omega), on_flat, on_flat]
    have p2 : pairB l m j i = false := by unfold pairB; rw [if_pos (by omega)]
    rw [p1, p2, Bool.or_false]
    unfold rtanB
    rw [if_pos e1]
  · by_cases e2 : i = 0 ∧ j + 1 = m
    · have p1 : pairB l m i j = false := by unfold pairB; rw [if_pos (by omega)]
      have p2 : pairB l m j i = (onB (pt l j) (pt l (nxt m j)) (pt l (nxt m i)) || onB (pt l i) (pt l (nxt m i)) (pt l j)) := by
        unfold pairB
        rw [if_neg (by omega), if_pos (by omega), on_flat, on_flat]
      rw [p1, p2, Bool.false_or, Bool.or_comm]
      unfold rtanB
      rw [if_neg e1, if_pos e2]
    · have p1 : pairB l m i j = comB (pt l i) (pt l (nxt m i)) (pt l j) (pt l (nxt m j)) := by
        unfold pairB
        rw [if_neg (by omega), if_neg (by omega), meet_eq]
      have p2 : pairB l m j i = comB (pt l i) (pt l (nxt m i)) (pt l j) (pt l (nxt m j)) := by
        unfold pairB
        rw [if_neg (by omega), if_neg (by omega), ← meet_eq, Bool.eq_iff_iff, meetB_iff, meetB_iff]
        exact ⟨MeetP.swap, MeetP.swap⟩
      rw [p1, p2, Bool.or_self]
      unfold rtanB
      rw [if_neg e1, if_neg e2]
theorem pair_self (l : List Pt) (m i : Nat) : pairB l m i i = false := by unfold pairB; rw [if_pos (Or.inl rfl)]
theorem tang_of {l : List Pt} {m i j : Nat} (h3 : 3 ≤ m) (hij : i < j) (hj : j < m) (h : rtanB l m i j = true) : tangB l m = true := by
  rw [← pair_or h3 hij hj, Bool.or_eq_true] at h
  rcases h with h | h
  · exact List.any_eq_true.2 ⟨⟨i, by omega⟩, List.mem_finRange _, List.any_eq_true.2 ⟨⟨j, hj⟩, List.mem_finRange _, h⟩⟩
  · exact List.any_eq_true.2 ⟨⟨j, hj⟩, List.mem_finRange _, List.any_eq_true.2 ⟨⟨i, by omega⟩, List.mem_finRange _, h⟩⟩
theorem tang_no {l : List Pt} {m : Nat} (h3 : 3 ≤ m) (h : ∀ i j, i < j → j < m → rtanB l m i j = false) : tangB l m = false := by
  refine Bool.eq_false_iff.2 (fun e => ?_)
  obtain ⟨⟨i, hi⟩, _, e1⟩ := List.any_eq_true.1 e
  obtain ⟨⟨j, hj⟩, _, e2⟩ := List.any_eq_true.1 e1
  have e2 : pairB l m i j = true := e2
  rcases Nat.lt_trichotomy i j with k | k | k
  · have := h i j k hj
    rw [← pair_or h3 k hj, e2] at this
    simp at this
  · subst k; rw [pair_self] at e2; cases e2
  · have := h j i k hi
    rw [← pair_or h3 k hi, e2] at this
    simp at this
set_option maxRecDepth 100000 in
set_option maxHeartbeats 8000000 in
theorem rsimple_any (l : List Pt) (v : Value) (w : World) (hv : Pts w v l) (hl : l.length ≤ 4611686018427387904) : Calls Try.prog 25 #[v] w fun e w' => e = .returned (.int .i64 (simE l)) ∧ Below w.heap.size w w' := by
  obtain ⟨a, cap, rfl, hc⟩ := hv
  by_cases h1 : l.length < 3
  · have e : simE l = 90 := by unfold simE; rw [if_pos h1]
    rw [e]
    have h1' : (l.length : Int) < 3 := by omega
    generalize l.length = m at *
    go_enter Try.func25, Try.ntmps25
    go_wp2_with fail
    go_ret
    exact ⟨rfl, Below.refl _ _⟩
  by_cases h2 : 64 < l.length
  · have e : simE l = 4 := by unfold simE; rw [if_neg h1, if_pos h2]
    rw [e]
    have h1' : ¬ (l.length : Int) < 3 := by omega
    have h2' : (64 : Int) < l.length := by omega
    generalize l.length = m at *
    go_enter Try.func25, Try.ntmps25
    go_wp2_with fail
    go_ret
    exact ⟨rfl, Below.refl _ _⟩
  obtain ⟨g, o, rfl, hg, hcc⟩ := hc (by omega)
  have hpo : Poly w g o l.length cap l := poly_of (by omega) hl hg hcc
  have h1' : ¬ (l.length : Int) < 3 := by omega
  have h2' : ¬ (64 : Int) < l.length := by omega
  have H5 : Hid (l.all fitB = false → simE l = 5) := fun h => by unfold simE; rw [if_neg h1, if_neg h2, if_pos h]
  have H91 : Hid (l.all fitB = true → twinB l l.length = true → simE l = 91) := fun h k => by unfold simE; rw [if_neg h1, if_neg h2, if_neg (by rw [h]; simp), if_pos k]
  have H92 : Hid (l.all fitB = true → twinB l l.length = false → tangB l l.length = true → simE l = 92) := fun h k t => by unfold simE; rw [if_neg h1, if_neg h2, if_neg (by rw [h]; simp), if_neg (by rw [k]; simp), if_pos t]
  have H0 : Hid (l.all fitB = true → twinB l l.length = false → tangB l l.length = false → simE l = 0) := fun h k t => by unfold simE; rw [if_neg h1, if_neg h2, if_neg (by rw [h]; simp), if_neg (by rw [k]; simp), if_neg (by rw [t]; simp)]
  obtain ⟨E, hE⟩ : ∃ E, simE l = E := ⟨_, rfl⟩
  rw [hE] at H5 H91 H92 H0 ⊢
  clear hE hc hcc
  obtain ⟨m, hm⟩ : ∃ m, l.length = m := ⟨_, rfl⟩
  have HM := hide hm
  rw [hm] at H91 H92 H0 hpo h1 h2 h1' h2' hl ⊢
  clear hm
  have HPO := hide hpo
  clear hpo
  have hm3 : 3 ≤ m := by omega
  have hm64 : m ≤ 64 := by omega
  clear h1 h2
  go_enter Try.func25, Try.ntmps25
  go_wp2_with fail
  go_loopw [4] (fun i wx => ∃ k : Nat, k ≤ m ∧ i = .int .i64 k ∧ Hid (∀ j, j < k → fitB (pt l j) = true) ∧ Hid (Below w.heap.size w wx)) (fun i _ => m - (intOf i).toNat)
  case atStart => exact ⟨0, by omega, rfl, hide (by intro j h; omega), hide (Below.refl _ _)⟩
  case round =>
    obtain ⟨k, hk, rfl, hf, hb⟩ := hrel
    by_cases hlt : k < m
    · obtain ⟨c0, c1⟩ := (HPO.out.below hb.out).at' k hlt
      have FI := rfits_any (pt l k)
      obtain ⟨r, hr⟩ : ∃ r, fitB (pt l k) = r := ⟨_, rfl⟩
      rw [hr] at FI
      have HRr := hide hr
      clear hr
      simp only [pV, pt] at FI
      generalize ptx l k = x at FI c0
      generalize pty l k = y at FI c1
      cases r
      · go_wp2_with (go_at_call 36; refine (FI _).mono ?_; rintro e w1 ⟨rfl, hb1⟩)
        go_ret
        exact ⟨ret_int (H5.out (all_not (j := k) (by rw [HM.out]; exact hlt) HRr.out)).symm, below_next hb.out (Nat.le_refl _) hb1⟩
      · go_wp2_with (go_at_call 36; refine (FI _).mono ?_; rintro e w1 ⟨rfl, hb1⟩)
        go_roundw
        case rel => exact ⟨k + 1, by omega, by go_num, hide (fun j hj => by
            by_cases e : j = k
            · rw [e]; exact HRr.out
            · exact hf.out j (by omega)), hide (below_next hb.out (Nat.le_refl _) hb1)⟩
        case measure => simp [intOf]; omega
    · obtain ⟨HALL, hfit⟩ : Hid (l.all fitB = true) ∧ (∀ k, k < m → Fit (pt l k)) := by
        have : l.all fitB = true := all_at (fun j hj => hf.out j (by rw [HM.out] at hj; omega))
        exact ⟨hide this, fun k hk => fits_of this k (by rw [HM.out]; exact hk)⟩
      have HFit := hide hfit
      clear hfit hf
      obtain ⟨W1, hW1⟩ : ∃ W1, W1 = wr := ⟨_, rfl⟩
      subst hW1
      have HB1 := hb
      clear hb
      go_wp2_with fail
      go_loopw [5] (fun i wx => ∃ k : Nat, k ≤ m ∧ i = .int .i64 k ∧ Hid (∀ j, j < k → sameB l m j = false) ∧ Hid (Below W1.heap.size W1 wx)) (fun i _ => m - (intOf i).toNat)
      case atStart => exact ⟨0, by omega, rfl, hide (by intro j h; omega), hide (Below.refl _ _)⟩
      case round =>
        obtain ⟨k, hk, rfl, hf, hb⟩ := hrel
        by_cases hlt : k < m
        · have hpw := hide ((HPO.out.below HB1.out).below hb.out)
          have NXx := fun x : BelowW wr => rnext_any g o m cap k l x.q (hpw.out.below x.h) hlt
          obtain ⟨c0, c1⟩ := hpw.out.at' k hlt
          have C0 := fun x : BelowW wr => x.cell c0 hpw.out.lt
          have C1 := fun x : BelowW wr => x.cell c1 hpw.out.lt
          have heq := fun wx => point_eql (ptx l k) (pty l k) (ptx l (nxt m k)) (pty l (nxt m k)) wx
          have hsm : Hid (sameB l m k = (decide (ptx l k = ptx l (nxt m k)) && decide (pty l k = pty l (nxt m k)))) := rfl
          generalize (decide (ptx l k = ptx l (nxt m k)) && decide (pty l k = pty l (nxt m k))) = r0 at heq hsm
          generalize ptx l (nxt m k) = xb at *
          generalize pty l (nxt m k) = yb at *
          generalize ptx l k = xa at *
          generalize pty l k = ya at *
          have hne : Nonempty (BelowW wr) := ⟨⟨wr, Below.refl _ _⟩⟩
          clear c0 c1
          go_wp2_with fail
          refine wp_region_calm (by kernel_rfl) (by kernel_rfl) ?_
          repeat (go_big_quiet_step (first | (go_at_call 46; exact calm_of (NXx _))))
          refine wpQuiet_nil ?_
          rintro w5 ⟨⟨q3, hq⟩, e3⟩
          have e4 : w5 = q3 := e3
          clear e3
          subst e4
          have HB5 := hide (below_next hb.out (Nat.le_refl _) hq)
          clear C0 C1 hne NXx heq hq
          cases r0
          · go_wp2_with fail
            go_roundw
            case rel => exact ⟨k + 1, by omega, by go_num, hide (fun j hj => by
                by_cases e : j = k
                · rw [e]; exact hsm.out
                · exact hf.out j (by omega)), HB5⟩
            case measure => simp [intOf]; omega
          · go_wp2_with fail
            go_ret
            exact ⟨ret_int (H91.out HALL.out (List.any_eq_true.2 ⟨⟨k, hlt⟩, List.mem_finRange _, hsm.out⟩)).symm, below_next HB1.out (Nat.le_refl _) HB5.out⟩
        · have HTW : Hid (twinB l m = false) := by
            refine Bool.eq_false_iff.2 (fun e => ?_)
            obtain ⟨x, _, hx⟩ := List.any_eq_true.1 e
            rw [hf.out x.1 (by have := x.2; omega)] at hx
            cases hx
          obtain ⟨W2, hW2⟩ : ∃ W2, W2 = wr := ⟨_, rfl⟩
          subst hW2
          have HB2 := hide (below_next HB1.out (Nat.le_refl _) hb.out)
          clear hb hf HB1
          go_wp2_with fail
          go_loopw [6] (fun i wx => ∃ k : Nat, k ≤ m ∧ i = .int .i64 k ∧ Hid (∀ i j, i < k → i < j → j < m → rtanB l m i j = false) ∧ Hid (Below W2.heap.size W2 wx)) (fun i _ => m - (intOf i).toNat)
          case atStart => exact ⟨0, by omega, rfl, hide (by intro i j h; omega), hide (Below.refl _ _)⟩
          case round =>
            obtain ⟨i, hi, rfl, hf, hb⟩ := hrel
            by_cases hlt : i < m
            · obtain ⟨W3, hW3⟩ : ∃ W3, W3 = wr := ⟨_, rfl⟩
              subst hW3
              have HB3 := hb
              have HF3 := hf
              clear hb hf
              go_wp2_with fail
              go_loopw [7] (fun v wx => ∃ j : Nat, i < j ∧ j ≤ m ∧ v = .int .i64 j ∧ Hid (∀ j', i < j' → j' < j → rtanB l m i j' = false) ∧ Hid (Below W3.heap.size W3 wx)) (fun v _ => m - (intOf v).toNat)
              case atStart => exact ⟨i + 1, by omega, by omega, by go_num, hide (by intro j h h'; omega), hide (Below.refl _ _)⟩
              case round =>
                obtain ⟨j, hij, hjm, rfl, hf, hb⟩ := hrel
                by_cases hj : j < m
                · have TA := tangled_any g o m cap i j l HFit.out hij hj wr (((HPO.out.below HB2.out).below HB3.out).below hb.out)
                  obtain ⟨r, hr⟩ : ∃ r, rtanB l m i j = r := ⟨_, rfl⟩
                  rw [hr] at TA
                  have HRr := hide hr
                  clear hr
                  cases r
                  · go_wp2_with fail
                    refine TA.mono ?_
                    rintro e w6 ⟨rfl, hb6⟩
                    have HB6 := hide (below_next hb.out (Nat.le_refl _) hb6)
                    clear hb6 TA
                    go_wp2_with fail
                    go_roundw
                    case rel => exact ⟨j + 1, by omega, by omega, by go_num, hide (fun j' h1 h2 => by
                        by_cases e : j' = j
                        · rw [e]; exact HRr.out
                        · exact hf.out j' h1 (by omega)), HB6⟩
                    case measure => simp [intOf]; omega
                  · go_wp2_with fail
                    refine TA.mono ?_
                    rintro e w6 ⟨rfl, hb6⟩
                    go_wp2_with fail
                    go_ret
                    exact ⟨ret_int (H92.out HALL.out HTW.out (tang_of hm3 hij hj HRr.out)).symm, below_next (below_next (below_next HB2.out (Nat.le_refl _) HB3.out) (Nat.le_refl _) hb.out) (Nat.le_refl _) hb6⟩
                · have HBx := hide (below_next HB3.out (Nat.le_refl _) hb.out)
                  have HFx : Hid (∀ i' j, i' < i + 1 → i' < j → j < m → rtanB l m i' j = false) := fun i' j' h1 h2 h3 => by
                    by_cases e : i' = i
                    · subst e; exact hf.out j' h2 (by omega)
                    · exact HF3.out i' j' (by omega) h2 h3
                  clear hb hf HF3 HB3
                  go_wp2_with fail
                  go_roundw
                  case rel => exact ⟨i + 1, by omega, by go_num, HFx, HBx⟩
                  case measure => simp [intOf]; omega
            · go_wp2_with fail
              go_ret
              exact ⟨ret_int (H0.out HALL.out HTW.out (tang_no hm3 (fun i' j' h1 h2 => hf.out i' j' (by omega) h1 h2))).symm, below_next HB2.out (Nat.le_refl _) hb.out⟩
end Go.Proofs.Ytohepelnbmojiaa
