/- The document's layer 19: right, Check. -/
import Derived.Test.YtnekjfidobglmaaMi1
namespace Go.Proofs.Ytnekjfidobglmaa
open Go.RowKit Go.Great

set_option maxHeartbeats 8000000 in
set_option maxRecDepth 100000 in
theorem right_any (k a b c : Int) (w : World) : Calls Try.prog 34 #[iV k a b c] w fun e w' => e = .returned (.bool (okK k a b c)) ∧ Below w.heap.size w w' := by
  have B0 := Blk.new w (iC k a b c) 48
  have hb := below_alloc w (.cells (iC k a b c) 48)
  obtain ⟨R, HR⟩ : ∃ R, Hid (okK k a b c = R) := ⟨_, hide rfl⟩
  rw [HR.out]
  have Hb := hide hb
  have HB := hide B0
  clear B0 hb
  go_enter Try.func34, Try.ntmps34
  go_upto_region 1 with fail
  generalize w.alloc (.cells (iC k a b c) 48) = W0 at *
  obtain ⟨c0, c1, c2, c3⟩ := it_cells HB.out
  clear HB
  go_upto_region 3 with fail
  by_cases k1 : k = 1
  · subst k1
    have HE : Hid (R = (wi a 1 120000 && decide (b = 0) && decide (c = 0))) := hide HR.out.symm
    clear HR
    go_wp2_with fail
    all_goals go_ret
    all_goals refine ⟨ret_bool ?_, Hb.out⟩
    all_goals rw [HE.out]
    all_goals rw [Bool.eq_iff_iff]
    all_goals simp only [wi, Bool.and_eq_true, decide_eq_true_eq, beq_iff_eq, Bool.false_eq_true]
    all_goals (first | omega | (rw [false_iff]; omega))
  by_cases k2 : k = 2
  · subst k2
    have HE : Hid (R = (wi a (-536870912) 536870912 && wi b (-536870912) 536870912 && wi c 0 120000)) := hide HR.out.symm
    clear HR
    go_wp2_with fail
    all_goals go_ret
    all_goals refine ⟨ret_bool ?_, Hb.out⟩
    all_goals rw [HE.out]
    all_goals rw [Bool.eq_iff_iff]
    all_goals simp only [wi, Bool.and_eq_true, decide_eq_true_eq, Bool.false_eq_true]
    all_goals (first | omega | (rw [false_iff]; omega))
  by_cases k3 : k = 3
  · subst k3
    have HE : Hid (R = (wi a 0 1000000 && decide (b = 0) && decide (c = 0))) := hide HR.out.symm
    clear HR
    go_wp2_with fail
    all_goals go_ret
    all_goals refine ⟨ret_bool ?_, Hb.out⟩
    all_goals rw [HE.out]
    all_goals rw [Bool.eq_iff_iff]
    all_goals simp only [wi, Bool.and_eq_true, decide_eq_true_eq, beq_iff_eq, Bool.false_eq_true]
    all_goals (first | omega | (rw [false_iff]; omega))
  by_cases k4 : k = 4
  · subst k4
    have HE : Hid (R = (wi b 0 255 && decide (c = 0))) := hide HR.out.symm
    clear HR
    go_wp2_with fail
    all_goals go_ret
    all_goals refine ⟨ret_bool ?_, Hb.out⟩
    all_goals rw [HE.out]
    all_goals rw [Bool.eq_iff_iff]
    all_goals simp only [wi, Bool.and_eq_true, decide_eq_true_eq, beq_iff_eq, Bool.false_eq_true]
    all_goals (first | omega | (rw [false_iff]; omega))
  by_cases k5 : k = 5
  · subst k5
    have HE : Hid (R = (wi a 1600 64000 && decide (b = 0) && decide (c = 0))) := hide HR.out.symm
    clear HR
    go_wp2_with fail
    all_goals go_ret
    all_goals refine ⟨ret_bool ?_, Hb.out⟩
    all_goals rw [HE.out]
    all_goals rw [Bool.eq_iff_iff]
    all_goals simp only [wi, Bool.and_eq_true, decide_eq_true_eq, beq_iff_eq, Bool.false_eq_true]
    all_goals (first | omega | (rw [false_iff]; omega))
  by_cases k6 : k = 6
  · subst k6
    have HE : Hid (R = (decide (a = 0) && decide (b = 0) && decide (c = 0))) := hide HR.out.symm
    clear HR
    go_wp2_with fail
    all_goals go_ret
    all_goals refine ⟨ret_bool ?_, Hb.out⟩
    all_goals rw [HE.out]
    all_goals rw [Bool.eq_iff_iff]
    all_goals simp only [Bool.and_eq_true, decide_eq_true_eq, beq_iff_eq, Bool.false_eq_true]
    all_goals (first | omega | (rw [false_iff]; omega))
  by_cases k7 : k = 7
  · subst k7
    have HE : Hid (R = (decide (a = 0) && decide (b = 0) && decide (c = 0))) := hide HR.out.symm
    clear HR
    go_wp2_with fail
    all_goals go_ret
    all_goals refine ⟨ret_bool ?_, Hb.out⟩
    all_goals rw [HE.out]
    all_goals rw [Bool.eq_iff_iff]
    all_goals simp only [Bool.and_eq_true, decide_eq_true_eq, beq_iff_eq, Bool.false_eq_true]
    all_goals (first | omega | (rw [false_iff]; omega))
  have HE : Hid (R = false) := hide (by rw [← HR.out]; unfold okK; simp [*])
  clear HR
  go_wp2_with fail
  go_ret
  exact ⟨ret_bool HE.out.symm, Hb.out⟩
set_option maxHeartbeats 4000000 in
set_option maxRecDepth 100000 in
theorem rcheck_any (L : List It) (v : Value) (w : World) (hR : Rws w v 4 itC L) : Calls Try.prog 14 #[v] w fun e w' => e = .returned (.int .i64 (chk L)) ∧ Below w.heap.size w w' := by
  have HR := hide hR
  obtain ⟨mN, na, np, rfl, _⟩ := hR
  obtain ⟨n, eN⟩ : ∃ n, Hid (L.length = n) := ⟨_, hide rfl⟩
  obtain ⟨C, HC⟩ : ∃ C, Hid (chk L = C) := ⟨_, hide rfl⟩
  rw [HC.out, eN.out]
  rw [eN.out] at mN
  unfold maxLen at mN
  by_cases h64 : 64 < n
  · have HE : Hid (C = 4) := hide (by rw [← HC.out]; unfold chk; rw [if_pos (by rw [eN.out]; exact h64)])
    have hd : decide ((n : Int) > 64) = true := decide_eq_true (by omega)
    go_enter Try.func14, Try.ntmps14
    go_wp2_with fail
    go_ret
    exact ⟨ret_int HE.out.symm, Below.refl _ _⟩
  · have HE : Hid (C = chkG n L) := hide (by rw [← HC.out]; unfold chk; rw [if_neg (by rw [eN.out]; exact h64), eN.out])
    have MB := hide right_any
    clear HC
    go_enter Try.func14, Try.ntmps14
    go_wp2_with fail
    go_loopw [3] (fun vi wx => ∃ i : Nat, i ≤ n ∧ vi = .int .i64 (i : Int) ∧ Hid (C = chkG n (L.drop i)) ∧ Hid (Below w.heap.size w wx)) (fun vi _ => n - (intOf vi).toNat)
    case atStart => exact ⟨0, Nat.zero_le _, rfl, HE, hide (Below.refl _ _)⟩
    case round =>
      clear HE
      obtain ⟨i, hi, rfl, HE, Hb⟩ := hrel
      by_cases hl : i < n
      · obtain ⟨g, og, cap, x, e1, hg, hxl, cell⟩ := HR.out.get i (by rw [eN.out]; omega)
        injection e1 with e1 e2 e3
        subst e1 e3
        have HD : Hid (C = if oneE n x = 0 then chkG n (L.drop (i + 1)) else oneE n x) := hide (by rw [HE.out, drop_cons hxl]; rfl)
        have HO : Hid (oneE n x = if okK x.k.toNat x.a x.b x.c = false then 191 else if x.k.toNat = 4 ∧ ¬ (0 ≤ x.a ∧ x.a < n) then 190 else 0) := hide rfl
        have HCell := hide cell
        have p0 : wr.cell? ⟨g, og + i * 4, none⟩ = some (.int .u8 x.k.toNat) := cell wr Hb.out 0 _ rfl
        have p1 : wr.cell? ⟨g, og + i * 4 + 1, none⟩ = some (.int .i64 x.a) := cell wr Hb.out 1 _ rfl
        have p2 : wr.cell? ⟨g, og + i * 4 + 2, none⟩ = some (.int .i64 x.b) := cell wr Hb.out 2 _ rfl
        have p3 : wr.cell? ⟨g, og + i * 4 + 3, none⟩ = some (.int .i64 x.c) := cell wr Hb.out 3 _ rfl
        clear cell e2 hxl HE
        generalize oneE n x = o at *
        have MK := hide (MB.out x.k.toNat x.a x.b x.c)
        generalize hok : okK x.k.toNat x.a x.b x.c = ok at *
        go_wp2_with fail
        refine (MK.out _).mono ?_
        rintro e w2 ⟨rfl, hb2⟩
        replace Hb := hide (below_next Hb.out (Nat.le_refl _) hb2)
        clear p0 p1 p2 p3 hb2 MK MB hok HR
        have p0 : w2.cell? ⟨g, og + i * 4, none⟩ = some (.int .u8 x.k.toNat) := HCell.out w2 Hb.out 0 _ rfl
        have p1 : w2.cell? ⟨g, og + i * 4 + 1, none⟩ = some (.int .i64 x.a) := HCell.out w2 Hb.out 1 _ rfl
        clear HCell
        generalize x.k.toNat = K at *
        generalize x.a = a at *
        cases ok
        · have HC : Hid (C = 191) := hide (by have ho : o = 191 := HO.out; rw [HD.out, if_neg (by omega)]; exact ho)
          clear HD HO
          go_wp2_with fail
          go_ret
          exact ⟨ret_int HC.out.symm, Hb.out⟩
        · by_cases hK : (K : Int) = 4
          · by_cases h0 : 0 ≤ a ∧ a < n
            · have HC : Hid (C = chkG n (L.drop (i + 1))) := hide (by have ho : o = 0 := by { rw [HO.out, if_neg (by simp), if_neg (fun h => h.2 h0)] }; rw [HD.out, if_pos ho])
              obtain ⟨h1, h2⟩ := h0
              have q1 : ¬ (a < 0) := by omega
              have q2 : ¬ ((n : Int) ≤ a) := by omega
              clear HD HO
              go_wp2_with fail
              go_roundw
              case rel => exact ⟨i + 1, by omega, by go_num, HC, Hb⟩
              case measure => simp [intOf]; omega
            · have HC : Hid (C = 190) := hide (by have ho : o = 190 := by { rw [HO.out, if_neg (by simp), if_pos ⟨by omega, h0⟩] }; rw [HD.out, if_neg (by omega)]; exact ho)
              clear HD HO
              by_cases q1 : a < 0
              · go_wp2_with fail
                go_ret
                exact ⟨ret_int HC.out.symm, Hb.out⟩
              · have q2 : (n : Int) ≤ a := by omega
                go_wp2_with fail
                go_ret
                exact ⟨ret_int HC.out.symm, Hb.out⟩
          · have HC : Hid (C = chkG n (L.drop (i + 1))) := hide (by have ho : o = 0 := by { rw [HO.out, if_neg (by simp), if_neg (fun h => hK (by omega))] }; rw [HD.out, if_pos ho])
            clear HD HO
            go_wp2_with fail
            go_roundw
            case rel => exact ⟨i + 1, by omega, by go_num, HC, Hb⟩
            case measure => simp [intOf]; omega
      · have e0 : i = n := by omega
        have HC : Hid (C = 0) := hide (by rw [HE.out, e0, ← eN.out, List.drop_length]; rfl)
        clear MB HR HE
        go_wp2_with fail
        go_ret
        exact ⟨ret_int HC.out.symm, Hb.out⟩
end Go.Proofs.Ytnekjfidobglmaa
