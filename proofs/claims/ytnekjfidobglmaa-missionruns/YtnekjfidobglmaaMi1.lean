/- Package mission: within, mayBe, Check. -/
import Derived.Test.YtnekjfidobglmaaMiM
namespace Go.Proofs.Ytnekjfidobglmaa
open Go.RowKit Go.Great

set_option maxHeartbeats 1000000 in
theorem within_any (x lo hi : Int) (w : World) : Calls Try.prog 31 #[.int .i64 x, .int .i64 lo, .int .i64 hi] w fun e w' => e = .returned (.bool (wi x lo hi)) ∧ w' = w := by
  unfold wi
  by_cases h1 : lo ≤ x
  · go_enter Try.func31, Try.ntmps31
    go_wp2_with fail
    go_ret
    exact ⟨ret_bool (by simp [h1]), rfl⟩
  · go_enter Try.func31, Try.ntmps31
    go_wp2_with fail
    go_ret
    exact ⟨ret_bool (by simp; omega), rfl⟩
theorem beq_dec (c : Int) : (c == 0) = decide (c = 0) := by rw [Bool.eq_iff_iff]; simp
theorem it_cells {w : World} {g : Nat} {k a b c : Int} {t : TypeId} (h : Blk w g (iC k a b c) t) : w.cell? ⟨g, 0, none⟩ = some (.int .u8 k) ∧ w.cell? ⟨g, 1, none⟩ = some (.int .i64 a) ∧ w.cell? ⟨g, 2, none⟩ = some (.int .i64 b) ∧ w.cell? ⟨g, 3, none⟩ = some (.int .i64 c) := ⟨h.cell 0 rfl, h.cell 1 rfl, h.cell 2 rfl, h.cell 3 rfl⟩
set_option maxHeartbeats 4000000 in
set_option maxRecDepth 100000 in
theorem mayBe_any (k a b c : Int) (w : World) : Calls Try.prog 30 #[iV k a b c] w fun e w' => e = .returned (.bool (okK k a b c)) ∧ Below w.heap.size w w' := by
  have WI := hide within_any
  have B0 := Blk.new w (iC k a b c) 48
  have hb := below_alloc w (.cells (iC k a b c) 48)
  obtain ⟨W0, hW0⟩ : ∃ W0, w.alloc (.cells (iC k a b c) 48) = W0 := ⟨_, rfl⟩
  rw [hW0] at B0 hb
  obtain ⟨c0, c1, c2, c3⟩ := it_cells B0
  obtain ⟨R, HR⟩ : ∃ R, Hid (okK k a b c = R) := ⟨_, hide rfl⟩
  rw [HR.out]
  unfold iC at hW0
  have Hb := hide hb
  clear B0 hb
  go_enter Try.func30, Try.ntmps30
  go_upto_region 1 with fail
  clear hW0
  go_quiet (fail)
  have HW : ∀ n, Hid (Below w.heap.size w (W0.drewN n)) := fun n => hide (below_drewN Hb.out n)
  clear Hb
  go_upto_region 3 with fail
  clear c0 c1 c2 c3
  by_cases k1 : k = 1
  · subst k1
    have HE : Hid (R = (wi a 1 120000 && decide (b = 0) && decide (c = 0))) := hide HR.out.symm
    clear HR
    go_wp2_with (go_at_call 31; refine (WI.out _ _ _ _).mono ?_; rintro e w2 ⟨rfl, hw2⟩; obtain rfl := hw2.symm)
    all_goals go_ret
    all_goals refine ⟨ret_bool ?_, (HW _).out⟩
    all_goals rw [HE.out]
    all_goals simp [*, beq_dec]
  by_cases k2 : k = 2
  · subst k2
    have HE : Hid (R = (wi a (-536870912) 536870912 && wi b (-536870912) 536870912 && wi c 0 120000)) := hide HR.out.symm
    clear HR
    go_wp2_with (go_at_call 31; refine (WI.out _ _ _ _).mono ?_; rintro e w2 ⟨rfl, hw2⟩; obtain rfl := hw2.symm)
    all_goals go_ret
    all_goals refine ⟨ret_bool ?_, (HW _).out⟩
    all_goals rw [HE.out]
    all_goals simp [*]
  by_cases k3 : k = 3
  · subst k3
    have HE : Hid (R = (wi a 0 1000000 && decide (b = 0) && decide (c = 0))) := hide HR.out.symm
    clear HR
    go_wp2_with (go_at_call 31; refine (WI.out _ _ _ _).mono ?_; rintro e w2 ⟨rfl, hw2⟩; obtain rfl := hw2.symm)
    all_goals go_ret
    all_goals refine ⟨ret_bool ?_, (HW _).out⟩
    all_goals rw [HE.out]
    all_goals simp [*, beq_dec]
  by_cases k4 : k = 4
  · subst k4
    have HE : Hid (R = (wi b 0 255 && decide (c = 0))) := hide HR.out.symm
    clear HR
    go_wp2_with (go_at_call 31; refine (WI.out _ _ _ _).mono ?_; rintro e w2 ⟨rfl, hw2⟩; obtain rfl := hw2.symm)
    all_goals go_ret
    all_goals refine ⟨ret_bool ?_, (HW _).out⟩
    all_goals rw [HE.out]
    all_goals simp [*, beq_dec]
  by_cases k5 : k = 5
  · subst k5
    have HE : Hid (R = (wi a 1600 64000 && decide (b = 0) && decide (c = 0))) := hide HR.out.symm
    clear HR
    go_wp2_with (go_at_call 31; refine (WI.out _ _ _ _).mono ?_; rintro e w2 ⟨rfl, hw2⟩; obtain rfl := hw2.symm)
    all_goals go_ret
    all_goals refine ⟨ret_bool ?_, (HW _).out⟩
    all_goals rw [HE.out]
    all_goals simp [*, beq_dec]
  by_cases k6 : k = 6
  · subst k6
    have HE : Hid (R = (decide (a = 0) && decide (b = 0) && decide (c = 0))) := hide HR.out.symm
    clear HR
    go_wp2_with (go_at_call 31; refine (WI.out _ _ _ _).mono ?_; rintro e w2 ⟨rfl, hw2⟩; obtain rfl := hw2.symm)
    all_goals go_ret
    all_goals refine ⟨ret_bool ?_, (HW _).out⟩
    all_goals rw [HE.out]
    all_goals simp [*, beq_dec]
  by_cases k7 : k = 7
  · subst k7
    have HE : Hid (R = (decide (a = 0) && decide (b = 0) && decide (c = 0))) := hide HR.out.symm
    clear HR
    go_wp2_with (go_at_call 31; refine (WI.out _ _ _ _).mono ?_; rintro e w2 ⟨rfl, hw2⟩; obtain rfl := hw2.symm)
    all_goals go_ret
    all_goals refine ⟨ret_bool ?_, (HW _).out⟩
    all_goals rw [HE.out]
    all_goals simp [*, beq_dec]
  have HE : Hid (R = false) := hide (by rw [← HR.out]; unfold okK; simp [*])
  clear HR
  go_wp2_with fail
  go_ret
  exact ⟨ret_bool HE.out.symm, (HW _).out⟩
set_option maxHeartbeats 4000000 in
set_option maxRecDepth 100000 in
theorem check_any (L : List It) (v : Value) (w : World) (hR : Rws w v 4 itC L) : Calls Try.prog 11 #[v] w fun e w' => e = .returned (.int .i64 (chk L)) ∧ Below w.heap.size w w' := by
  have HR := hide hR
  obtain ⟨mN, na, np, rfl, _⟩ := hR
  obtain ⟨n, eN⟩ : ∃ n, Hid (L.length = n) := ⟨_, hide rfl⟩
  obtain ⟨C, HC⟩ : ∃ C, Hid (chk L = C) := ⟨_, hide rfl⟩
  rw [HC.out, eN.out]
  rw [eN.out] at mN
  unfold maxLen at mN
  by_cases h64 : 64 < n
  · have HE : Hid (C = 4) := hide (by rw [← HC.out]; unfold chk; rw [if_pos (by rw [eN.out]; exact h64)])
    have hd : decide ((n : Int) > 64) = true := decide_eq_true (by omega)
    go_enter Try.func11, Try.ntmps11
    go_wp2_with fail
    go_ret
    exact ⟨ret_int HE.out.symm, Below.refl _ _⟩
  · have HE : Hid (C = chkG n L) := hide (by rw [← HC.out]; unfold chk; rw [if_neg (by rw [eN.out]; exact h64), eN.out])
    have MB := hide mayBe_any
    have WI := hide within_any
    clear HC
    go_enter Try.func11, Try.ntmps11
    go_wp2_with fail
    go_loopw [10] (fun vi wx => ∃ i : Nat, i ≤ n ∧ vi = .int .i64 (i : Int) ∧ Hid (C = chkG n (L.drop i)) ∧ Hid (Below w.heap.size w wx)) (fun vi _ => n - (intOf vi).toNat)
    case atStart => exact ⟨0, Nat.zero_le _, rfl, HE, hide (Below.refl _ _)⟩
    case round =>
      clear HE
      obtain ⟨i, hi, rfl, HE, Hb⟩ := hrel
      by_cases hl : i < n
      · obtain ⟨g, og, cap, x, e1, hg, hxl, cell⟩ := HR.out.get i (by rw [eN.out]; omega)
        injection e1 with e1 e2 e3
        subst e1 e3
        have HD : Hid (C = if oneE n x = 0 then chkG n (L.drop (i + 1)) else oneE n x) := hide (by rw [HE.out, drop_cons hxl]; rfl)
        have HO : Hid (oneE n x = if okK x.k.toNat x.a x.b x.c = false then 191 else if x.k.toNat = 4 ∧ ¬ (0 ≤ x.a ∧ x.a < n) then 190 else 0) := hide rfl
        have p0 : wr.cell? ⟨g, og + i * 4, none⟩ = some (.int .u8 x.k.toNat) := cell wr Hb.out 0 _ rfl
        have p1 : wr.cell? ⟨g, og + i * 4 + 1, none⟩ = some (.int .i64 x.a) := cell wr Hb.out 1 _ rfl
        have p2 : wr.cell? ⟨g, og + i * 4 + 2, none⟩ = some (.int .i64 x.b) := cell wr Hb.out 2 _ rfl
        have p3 : wr.cell? ⟨g, og + i * 4 + 3, none⟩ = some (.int .i64 x.c) := cell wr Hb.out 3 _ rfl
        clear cell e2 hxl HE
        generalize oneE n x = o at *
        obtain ⟨k, a, b, c⟩ := x
        simp only at *
        generalize k.toNat = K at *
        have MK := hide (MB.out K a b c)
        generalize hok : okK K a b c = ok at *
        have HX := hide (Blk.new wr (iC K a b c) 48)
        replace Hb := hide (below_next Hb.out (Nat.le_refl _) (below_alloc wr (.cells (iC K a b c) 48)))
        go_upto_region 6 with fail
        generalize wr.heap.size = gx at *
        generalize wr.alloc (.cells (iC K a b c) 48) = W1 at *
        clear p0 p1 p2 p3
        obtain ⟨q0, q1, q2, q3⟩ := it_cells HX.out
        go_wp2_with fail
        refine (MK.out _).mono ?_
        rintro e w2 ⟨rfl, hb2⟩
        replace HX := hide (HX.out.after hb2)
        replace Hb := hide (below_next Hb.out (Nat.le_refl _) hb2)
        clear q0 q1 q2 q3 hb2 MK MB hok HR
        obtain ⟨q0, q1, q2, q3⟩ := it_cells HX.out
        cases ok
        · have HC : Hid (C = 191) := hide (by have ho : o = 191 := HO.out; rw [HD.out, if_neg (by omega)]; exact ho)
          clear HD HO WI
          go_wp2_with fail
          go_ret
          exact ⟨ret_int HC.out.symm, Hb.out⟩
        · by_cases hK : (K : Int) = 4
          · have hw : (wi a 0 ((n : Int) - 1) = true → 0 ≤ a ∧ a < n) := fun h => by have := wi_true h; omega
            have hw2 : (wi a 0 ((n : Int) - 1) = false → ¬ (0 ≤ a ∧ a < n)) := fun h h2 => by unfold wi at h; simp at h; omega
            have WX := hide (WI.out a 0 ((n : Int) - 1))
            have HW := hide hw
            have HW2 := hide hw2
            generalize wi a 0 ((n : Int) - 1) = z at *
            clear hw hw2
            cases z
            · have HC : Hid (C = 190) := hide (by have ho : o = 190 := by { rw [HO.out, if_neg (by simp), if_pos ⟨by omega, HW2.out rfl⟩] }; rw [HD.out, if_neg (by omega)]; exact ho)
              clear HD HO WI
              go_wp2_with (go_at_call 31; refine (WX.out _).mono ?_; rintro e w3 ⟨rfl, hw3⟩; obtain rfl := hw3.symm)
              go_ret
              exact ⟨ret_int HC.out.symm, Hb.out⟩
            · have HC : Hid (C = chkG n (L.drop (i + 1))) := hide (by have ho : o = 0 := by { rw [HO.out, if_neg (by simp), if_neg (fun h => h.2 (HW.out rfl))] }; rw [HD.out, if_pos ho])
              clear HD HO WI
              go_wp2_with (go_at_call 31; refine (WX.out _).mono ?_; rintro e w3 ⟨rfl, hw3⟩; obtain rfl := hw3.symm)
              go_roundw
              case rel => exact ⟨i + 1, by omega, by go_num, HC, Hb⟩
              case measure => simp [intOf]; omega
          · have HC : Hid (C = chkG n (L.drop (i + 1))) := hide (by have ho : o = 0 := by { rw [HO.out, if_neg (by simp), if_neg (fun h => hK (by omega))] }; rw [HD.out, if_pos ho])
            clear HD HO WI
            go_wp2_with fail
            go_roundw
            case rel => exact ⟨i + 1, by omega, by go_num, HC, Hb⟩
            case measure => simp [intOf]; omega
      · have e0 : i = n := by omega
        have HC : Hid (C = 0) := hide (by rw [HE.out, e0, ← eN.out, List.drop_length]; rfl)
        clear MB WI HR HE
        go_wp2_with fail
        go_ret
        exact ⟨ret_int HC.out.symm, Hb.out⟩
end Go.Proofs.Ytnekjfidobglmaa
