/- Package fence: Of. -/
import Derived.Test.YtnenbbkkhnlgbaaFeO
namespace Go.Proofs.Ytnenbbkkhnlgbaa
open Go.RowKit Go.Great

theorem ofS_bad {s : OSt} {x : List Int} (h : x.length ≠ 5 ∨ x.getD 3 0 ≠ 0 ∨ x.getD 4 0 ≠ 0 ∨ (x.getD 0 0 ≠ 1 ∧ x.getD 0 0 ≠ 2 ∧ (x.getD 0 0 ≠ 3 ∨ s.lim = true))) : ofS s x = none := by
  unfold ofS
  split
  · rename_i hc
    rcases h with h | h | h | ⟨h1, h2, h3⟩
    · exact absurd hc.1 h
    · exact absurd hc.2.1 h
    · exact absurd hc.2.2 h
    · rw [if_neg h1, if_neg h2, if_neg]
      rintro ⟨e1, e2⟩
      rcases h3 with h3 | h3
      · exact h3 e1
      · rw [h3] at e2; cases e2
  · rfl
theorem of_bad {L : List (List Int)} {k : Nat} {s : OSt} (hk : k < L.length) (h : ofL L os0 = ofL (L.drop k) s) (hb : ofS s (L.getD k []) = none) : ofE L = 191 ∧ ofA L = ⟨[], 0, 0, []⟩ := ofE_bad (Or.inl (by rw [h, ofL_at hk, hb]))
theorem of_next {L : List (List Int)} {k : Nat} {s t : OSt} (hk : k < L.length) (h : ofL L os0 = ofL (L.drop k) s) (hb : ofS s (L.getD k []) = some t) : ofL L os0 = ofL (L.drop (k + 1)) t := by rw [h, ofL_at hk, hb]
/-- two rows that share no memory -/
def Apt (p r : Value) : Prop := ∀ g, p.ownBlock = some g → r.ownBlock ≠ some g
set_option maxRecDepth 100000 in
set_option maxHeartbeats 8000000 in
theorem of_any (L : List (List Int)) (v : Value) (w : World) (hv : Lsts w v L) (hl : L.length * 24 + 64 ≤ 140737488355328) : Calls Try.prog 34 #[v] w fun e w' => ∃ p r, e = .returned (.tuple #[fV p (ofA L).fl (ofA L).ce r, .int .i64 (ofE L)]) ∧ PRow w' w.heap.size p (ofA L).P ∧ PRow w' w.heap.size r (ofA L).R ∧ Apt p r ∧ Below w.heap.size w w' := by
  obtain ⟨i0, hi, hz0, hz1, hz2⟩ := info_parts info_pt
  have HBAD : Hid (∀ k s, k < L.length → ofL L os0 = ofL (L.drop k) s → ofS s (L.getD k []) = none → ofE L = 191 ∧ ofA L = ⟨[], 0, 0, []⟩) := fun k s h1 h2 h3 => of_bad h1 h2 h3
  have HNEX : Hid (∀ k s t, k < L.length → ofL L os0 = ofL (L.drop k) s → ofS s (L.getD k []) = some t → ofL L os0 = ofL (L.drop (k + 1)) t) := fun k s t h1 h2 h3 => of_next h1 h2 h3
  have HEND : Hid (∀ k s, L.length ≤ k → ofL L os0 = ofL (L.drop k) s → ofL L os0 = some s) := fun k s h1 h2 => by rw [h2, ofL_end h1]
  have HSOM : Hid (∀ s, ofL L os0 = some s → s.lim = true → ofE L = chk s.P s.fl s.ce s.R ∧ (chk s.P s.fl s.ce s.R = 0 → ofA L = ⟨s.P, s.fl, s.ce, s.R⟩) ∧ (chk s.P s.fl s.ce s.R ≠ 0 → ofA L = ⟨[], 0, 0, []⟩)) := fun s h1 h2 => ofE_some h1 h2
  have HNON : Hid (∀ s, ofL L os0 = some s → s.lim = false → ofE L = 191 ∧ ofA L = ⟨[], 0, 0, []⟩) := fun s h1 h2 => ofE_bad (Or.inr ⟨s, h1, h2⟩)
  have HST : Hid (ofL L os0 = ofL (L.drop 0) ⟨[], [], 0, 0, false⟩) := rfl
  generalize ofL L os0 = OL at *
  generalize ofA L = A at *
  generalize ofE L = E at *
  obtain ⟨a, cap, rfl, hc⟩ := hv
  have HC := hide hc
  obtain ⟨n, hn⟩ : ∃ n, L.length = n := ⟨_, rfl⟩
  rw [hn] at hl HC HBAD HNEX HEND ⊢
  clear hn hc
  go_enter Try.func34, Try.ntmps34
  go_wp2_with fail
  obtain ⟨W0, hW0, hB, B0, B1, hz⟩ := two_boxes w #[.slice none 0 0, .int .i64 0, .int .i64 0, .slice none 0 0] #[.slice none 0 0, .int .i64 0, .int .i64 0, .slice none 0 0] 24 24
  rw [hW0]
  clear hW0
  go_loopw [5, 12] (fun lm i wx => ∃ (k : Nat) (P R : List Pt) (fl ce : Int) (lim : Bool) (p r : Value), k ≤ n ∧ i = .int .i64 k ∧ lm = .bool lim ∧ Hid (OL = ofL (L.drop k) ⟨P, R, fl, ce, lim⟩) ∧ Hid (P.length + R.length ≤ k) ∧ Hid (Blk wx w.heap.size #[.slice none 0 0, .int .i64 0, .int .i64 0, .slice none 0 0] 24) ∧ Hid (Blk wx (w.heap.size + 1) #[p, .int .i64 fl, .int .i64 ce, r] 24) ∧ Hid (PRow wx w.heap.size p P) ∧ Hid (PRow wx w.heap.size r R) ∧ Hid (Apt p r) ∧ Hid (Below w.heap.size w wx)) (fun _ i _ => n - (intOf i).toNat)
  case atStart => exact ⟨0, [], [], 0, 0, false, _, _, Nat.zero_le _, rfl, rfl, HST, hide (by simp), hide B0, hide B1, hide (PRow.nil _ _), hide (PRow.nil _ _), hide (fun g e => by cases e), hide hB⟩
  case round =>
    clear B0 B1 hB hz HST
    obtain ⟨k, P, R, fl, ce, lim, p, r, hk, rfl, rfl, hol, hlen, hV, hF, hP, hR, hA, hB⟩ := hrel
    have hs := hB.out.size
    have hsz := hF.out.lt
    by_cases hlt : k < n
    · obtain ⟨g, o, rfl, hg, hcc⟩ := HC.out (by omega)
      obtain ⟨u, hu, hI⟩ := hcc k hlt
      have d0 := (hB.out.cell (p := ⟨g, o + k, none⟩) hg).trans hu
      have HIB := hide (hI.below hB.out)
      obtain ⟨x, hx⟩ : ∃ x, L.getD k [] = x := ⟨_, rfl⟩
      have HB2 := hide (HBAD.out k ⟨P, R, fl, ce, lim⟩ hlt hol.out)
      have HN2 := hide (HNEX.out k ⟨P, R, fl, ce, lim⟩)
      rw [hx] at HIB HB2 HN2
      have HN3 := hide (fun t h => HN2.out t hlt hol.out h)
      clear hcc hu hI hx HN2
      obtain ⟨ua, uc, rfl, huc⟩ := HIB.out
      have m0 := hV.out.cell 0 rfl
      have m1 := hV.out.cell 1 rfl
      have m2 := hV.out.cell 2 rfl
      have m3 := hV.out.cell 3 rfl
      have fz := hV.out.frozen
      by_cases h5 : x.length = 5
      · obtain ⟨x0, x1, x2, x3, x4, rfl⟩ := five_of h5
        obtain ⟨ug, uo, rfl, hug, hucc⟩ := huc (by simp)
        have c0 := hucc 0 (by simp)
        have c1 := hucc 1 (by simp)
        have c2 := hucc 2 (by simp)
        have c3 := hucc 3 (by simp)
        have c4 := hucc 4 (by simp)
        simp only [List.length_cons, List.length_nil, Nat.add_zero, List.getD_cons_zero, List.getD_cons_succ, Nat.zero_add, Nat.reduceAdd] at c0 c1 c2 c3 c4 d0 HB2 HN3
        clear h5 huc hucc HIB
        by_cases h3 : x3 = 0
        · subst h3
          by_cases h4 : x4 = 0
          · subst h4
            go_wp2_with fail
            go_quiet (fail)
            have hbq : Below wr.heap.size wr (wr.drewN nq) := below_drewN (Below.refl _ _) nq
            replace hV := hide (hV.out.after hbq)
            replace hF := hide (hF.out.after hbq)
            replace hP := hide (hP.out.below hbq)
            replace hR := hide (hR.out.below hbq)
            replace hB := hide (below_next hB.out (Nat.le_refl _) hbq)
            have c0' := (hbq.cell (p := ⟨ug, uo, none⟩) hug).trans c0
            have hs' : w.heap.size ≤ (wr.drewN nq).heap.size := hB.out.size
            have hsz' := hF.out.lt
            obtain ⟨Wq, hWq⟩ : ∃ W, wr.drewN nq = W := ⟨_, rfl⟩
            rw [hWq] at hV hF hP hR hB c0' hs' hsz'
            clear c0 c1 c2 c3 c4 d0 m0 m1 m2 m3 fz hbq
            have hP' := hP.out
            obtain ⟨ap, cp, rfl⟩ := hP'.form
            obtain ⟨ar, cr, rfl⟩ := hR.out.form
            generalize hpl : P.length = pl at *
            generalize hrl : R.length = rl at *
            have HPL := hide hpl
            have HRL := hide hrl
            clear hP' hpl hrl
            have f0 := hF.out.cell 0 rfl
            have f1 := hF.out.cell 1 rfl
            have f2 := hF.out.cell 2 rfl
            have f3 := hF.out.cell 3 rfl
            have ffz := hF.out.frozen
            have m0 := hV.out.cell 0 rfl
            have m1 := hV.out.cell 1 rfl
            have m2 := hV.out.cell 2 rfl
            have m3 := hV.out.cell 3 rfl
            have fz := hV.out.frozen
            by_cases k1 : x0 = 1
            · subst k1
              have HNX := hide (HN3.out ⟨P ++ [(x1, x2)], R, fl, ce, lim⟩ (by simp [ofS]))
              clear HB2 HN3
              have HO : ∀ o, Hid ((Wq.alloc o).ownsRow w.heap.size 39 2 (.slice ap pl cp) pl (ptC P)) := fun o => hide (by
                have := hP.out.alloc o
                rw [HPL.out] at this
                exact this)
              go_wp2_with (at_builtin; refine wpList_append_two rfl (.tmp 45) (.tmp 49) 22 rfl w.heap.size 39 i0 _ 2 16 Try.underlying22 hi hz0 hz1 hz2 rfl (by decide) _ _ _ rfl (HO _).out ⟨Wq.heap.size, 0, none⟩ 1 1 [.int .i64 x1, .int .i64 x2] rfl rfl ?c1 ?c2 ?c3 ?c4 ?c5 ?_)
              case c1 => exact new_cell2 _ _ rfl _ _ _
              case c2 => intro u hu; simp at hu; rcases hu with rfl | rfl <;> rfl
              case c3 => have := hlen.out; unfold maxLen; omega
              case c4 => have := hlen.out; omega
              case c5 => rw [size_alloc]; omega
              intro v' w5 hown5 hgrow5 hway
              have hbA : Below Wq.heap.size Wq (Wq.alloc (.cells #[.int .i64 x1, .int .i64 x2] 39)) := below_alloc _ _
              have HP5 : Hid (PRow w5 w.heap.size v' (P ++ [(x1, x2)])) := by
                show World.ownsRow _ _ _ _ _ _ _
                rw [List.length_append, ptC_app, HPL.out]
                exact hown5
              have HR5 : Hid (PRow w5 w.heap.size (.slice ar rl cr) R) := hide ((hR.out.below hbA).grown hgrow5 (by
                cases har : (Value.slice ar rl cr).ownBlock with
                | none => exact Or.inl rfl
                | some q => exact Or.inr (fun e => hA.out q e.symm har)))
              have HA5 : Hid (Apt v' (.slice ar rl cr)) := hide (fun q h1 h2 => by
                rcases hway with ⟨e1, _⟩ | ⟨_, e2⟩
                · exact hA.out q (e1.symm.trans h1) h2
                · have q1 := e2 q h1
                  have q2 := (hR.out.lt q h2).2
                  omega)
              have HV5 := hide (blk_grown (HO _).out (hV.out.after hbA) (by decide) hgrow5)
              have HF5 := hide (blk_grown (HO _).out (hF.out.after hbA) (by decide) hgrow5)
              have HB5 : Hid (Below w.heap.size w w5) := hide ((hB.out.alloc hs' _).grown hgrow5 (by rw [size_alloc]; omega) (fun j e => ((HO (.cells #[] 5)).out.lt j e).1))
              have hs5 := HB5.out.size
              clear hown5 hgrow5 HO hway hbA f0 f1 f2 f3 ffz m0 m1 m2 m3 fz c0'
              obtain ⟨av, cv, e5⟩ := HP5.out.form
              rw [List.length_append, HPL.out] at e5
              have f0 := HF5.out.cell 0 rfl
              have ffz := HF5.out.frozen
              have G1 := grown_set w5 (w.heap.size + 1) 0 v'
              have HP6 := hide (HP5.out.grown G1 (HP5.out.noblk HF5.out (by decide)))
              have HR6 := hide (HR5.out.grown G1 (HR5.out.noblk HF5.out (by decide)))
              have HV6 := hide (HV5.out.grown G1 (by simp))
              have HF6 : Hid (Blk (w5.setCell ⟨w.heap.size + 1, 0, none⟩ v') (w.heap.size + 1) #[v', .int .i64 fl, .int .i64 ce, .slice ar rl cr] 24) := hide (heap_set HF5.out 0 _)
              have HB6 := hide (below_set HB5.out (w.heap.size + 1) 0 v' (by omega) hs5)
              subst e5
              clear G1 hi hz0 hz1 hz2
              go_wp2_with fail
              go_roundw
              case rel => exact ⟨k + 1, P ++ [(x1, x2)], R, fl, ce, lim, _, _, by omega, by go_num, rfl, HNX, hide (by have := hlen.out; rw [List.length_append, HPL.out, HRL.out]; simp only [List.length_cons, List.length_nil]; omega), HV6, HF6, HP6, HR6, HA5, HB6⟩
              case measure => simp [intOf]; omega
            · by_cases k2 : x0 = 2
              · subst k2
                have HNX := hide (HN3.out ⟨P, R ++ [(x1, x2)], fl, ce, lim⟩ (by simp [ofS]))
                clear HB2 HN3
                have HO : ∀ o, Hid ((Wq.alloc o).ownsRow w.heap.size 39 2 (.slice ar rl cr) rl (ptC R)) := fun o => hide (by
                  have := hR.out.alloc o
                  rw [HRL.out] at this
                  exact this)
                go_wp2_with (at_builtin; refine wpList_append_two rfl (.tmp 58) (.tmp 62) 22 rfl w.heap.size 39 i0 _ 2 16 Try.underlying22 hi hz0 hz1 hz2 rfl (by decide) _ _ _ rfl (HO _).out ⟨Wq.heap.size, 0, none⟩ 1 1 [.int .i64 x1, .int .i64 x2] rfl rfl ?c1 ?c2 ?c3 ?c4 ?c5 ?_)
                case c1 => exact new_cell2 _ _ rfl _ _ _
                case c2 => intro u hu; simp at hu; rcases hu with rfl | rfl <;> rfl
                case c3 => have := hlen.out; unfold maxLen; omega
                case c4 => have := hlen.out; omega
                case c5 => rw [size_alloc]; omega
                intro v' w5 hown5 hgrow5 hway
                have hbA : Below Wq.heap.size Wq (Wq.alloc (.cells #[.int .i64 x1, .int .i64 x2] 39)) := below_alloc _ _
                have HR5 : Hid (PRow w5 w.heap.size v' (R ++ [(x1, x2)])) := by
                  show World.ownsRow _ _ _ _ _ _ _
                  rw [List.length_append, ptC_app, HRL.out]
                  exact hown5
                have HP5 : Hid (PRow w5 w.heap.size (.slice ap pl cp) P) := hide ((hP.out.below hbA).grown hgrow5 (by
                  cases har : (Value.slice ap pl cp).ownBlock with
                  | none => exact Or.inl rfl
                  | some q => exact Or.inr (fun e => hA.out q har e.symm)))
                have HA5 : Hid (Apt (.slice ap pl cp) v') := hide (fun q h1 h2 => by
                  rcases hway with ⟨e1, _⟩ | ⟨_, e2⟩
                  · exact hA.out q h1 (e1.symm.trans h2)
                  · have q1 := e2 q h2
                    have q2 := (hP.out.lt q h1).2
                    omega)
                have HV5 := hide (blk_grown (HO _).out (hV.out.after hbA) (by decide) hgrow5)
                have HF5 := hide (blk_grown (HO _).out (hF.out.after hbA) (by decide) hgrow5)
                have HB5 : Hid (Below w.heap.size w w5) := hide ((hB.out.alloc hs' _).grown hgrow5 (by rw [size_alloc]; omega) (fun j e => ((HO (.cells #[] 5)).out.lt j e).1))
                have hs5 := HB5.out.size
                clear hown5 hgrow5 HO hway hbA f0 f1 f2 f3 ffz m0 m1 m2 m3 fz c0'
                obtain ⟨av, cv, e5⟩ := HR5.out.form
                rw [List.length_append, HRL.out] at e5
                have f3 := HF5.out.cell 3 rfl
                have ffz := HF5.out.frozen
                have G1 := grown_set w5 (w.heap.size + 1) 3 v'
                have HP6 := hide (HP5.out.grown G1 (HP5.out.noblk HF5.out (by decide)))
                have HR6 := hide (HR5.out.grown G1 (HR5.out.noblk HF5.out (by decide)))
                have HV6 := hide (HV5.out.grown G1 (by simp))
                have HF6 : Hid (Blk (w5.setCell ⟨w.heap.size + 1, 3, none⟩ v') (w.heap.size + 1) #[.slice ap pl cp, .int .i64 fl, .int .i64 ce, v'] 24) := hide (heap_set HF5.out 3 _)
                have HB6 := hide (below_set HB5.out (w.heap.size + 1) 3 v' (by omega) hs5)
                subst e5
                clear G1 hi hz0 hz1 hz2
                go_wp2_with fail
                go_roundw
                case rel => exact ⟨k + 1, P, R ++ [(x1, x2)], fl, ce, lim, _, _, by omega, by go_num, rfl, HNX, hide (by have := hlen.out; rw [List.length_append, HPL.out, HRL.out]; simp only [List.length_cons, List.length_nil]; omega), HV6, HF6, HP6, HR6, HA5, HB6⟩
                case measure => simp [intOf]; omega
              · by_cases k3 : x0 = 3 ∧ lim = false
                · obtain ⟨rfl, rfl⟩ := k3
                  have HNX := hide (HN3.out ⟨P, R, x1, x2, true⟩ (by simp [ofS]))
                  clear HB2 HN3
                  have G1 := grown_set Wq (w.heap.size + 1) 1 (.int .i64 x1)
                  have G2 := grown_then G1 (grown_set _ (w.heap.size + 1) 2 (.int .i64 x2)) (fun k e => by injection e with e; exact Or.inl e.symm)
                  have HP6 := hide (hP.out.grown G2 (hP.out.noblk hF.out (by decide)))
                  have HR6 := hide (hR.out.grown G2 (hR.out.noblk hF.out (by decide)))
                  have HV6 := hide (hV.out.grown G2 (by simp))
                  have HF6 : Hid (Blk ((Wq.setCell ⟨w.heap.size + 1, 1, none⟩ (.int .i64 x1)).setCell ⟨w.heap.size + 1, 2, none⟩ (.int .i64 x2)) (w.heap.size + 1) #[.slice ap pl cp, .int .i64 x1, .int .i64 x2, .slice ar rl cr] 24) := hide (heap_set (heap_set hF.out 1 _) 2 _)
                  have HB6 := hide (below_set (below_set hB.out (w.heap.size + 1) 1 (.int .i64 x1) (by omega) hs') (w.heap.size + 1) 2 (.int .i64 x2) (by omega) (by rw [setCell_size]; exact hs'))
                  clear G1 G2 hi hz0 hz1 hz2
                  go_wp2_with fail
                  go_roundw
                  case rel => exact ⟨k + 1, P, R, x1, x2, true, _, _, by omega, by go_num, rfl, HNX, hide (by have := hlen.out; rw [HPL.out, HRL.out]; omega), HV6, HF6, HP6, HR6, hA, HB6⟩
                  case measure => simp [intOf]; omega
                · have HB3 := hide (HB2.out (ofS_bad (Or.inr (Or.inr (Or.inr ⟨by simpa using k1, by simpa using k2, by
                    by_cases e3 : x0 = 3
                    · right
                      cases lim
                      · exact absurd ⟨e3, rfl⟩ k3
                      · rfl
                    · left; simpa using e3⟩)))))
                  clear HB2 HN3 hi hz0 hz1 hz2
                  have d1 : (x0 == 1) = false := by simpa using k1
                  have d2 : (x0 == 2) = false := by simpa using k2
                  by_cases e3 : x0 = 3
                  · subst e3
                    have hlim : lim = true := by
                      cases lim
                      · exact absurd ⟨rfl, rfl⟩ k3
                      · rfl
                    subst hlim
                    go_wp2_with fail
                    all_goals refine bodyPost_ret (fence_back Try.results34 _ _ w.heap.size _ _ _ _ _ rfl rfl (hV.out.set4 _ _ _ _)) rfl ?_
                    all_goals obtain ⟨e1, e2⟩ := HB3.out
                    all_goals rw [e1, e2]
                    all_goals exact ⟨_, _, rfl, PRow.nil _ _, PRow.nil _ _, (fun g h => by cases h), below_set4 hB.out _ _ _ _ _ (by omega) (by omega)⟩
                  · have d3 : (x0 == 3) = false := by simpa using e3
                    go_wp2_with fail
                    all_goals refine bodyPost_ret (fence_back Try.results34 _ _ w.heap.size _ _ _ _ _ rfl rfl (hV.out.set4 _ _ _ _)) rfl ?_
                    all_goals obtain ⟨e1, e2⟩ := HB3.out
                    all_goals rw [e1, e2]
                    all_goals exact ⟨_, _, rfl, PRow.nil _ _, PRow.nil _ _, (fun g h => by cases h), below_set4 hB.out _ _ _ _ _ (by omega) (by omega)⟩
          · have HB3 := hide (HB2.out (ofS_bad (Or.inr (Or.inr (Or.inl (by simpa using h4))))))
            clear HB2 HN3 hi hz0 hz1 hz2
            have d4 : (x4 != 0) = true := by simpa using h4
            go_wp2_with fail
            all_goals refine bodyPost_ret (fence_back Try.results34 _ _ w.heap.size _ _ _ _ _ rfl rfl (hV.out.set4 _ _ _ _)) rfl ?_
            all_goals obtain ⟨e1, e2⟩ := HB3.out
            all_goals rw [e1, e2]
            all_goals exact ⟨_, _, rfl, PRow.nil _ _, PRow.nil _ _, (fun g h => by cases h), below_set4 hB.out _ _ _ _ _ (by omega) (by omega)⟩
        · have HB3 := hide (HB2.out (ofS_bad (Or.inr (Or.inl (by simpa using h3)))))
          clear HB2 HN3 hi hz0 hz1 hz2
          have d3 : (x3 != 0) = true := by simpa using h3
          go_wp2_with fail
          all_goals refine bodyPost_ret (fence_back Try.results34 _ _ w.heap.size _ _ _ _ _ rfl rfl (hV.out.set4 _ _ _ _)) rfl ?_
          all_goals obtain ⟨e1, e2⟩ := HB3.out
          all_goals rw [e1, e2]
          all_goals exact ⟨_, _, rfl, PRow.nil _ _, PRow.nil _ _, (fun g h => by cases h), below_set4 hB.out _ _ _ _ _ (by omega) (by omega)⟩
      · have HB3 := hide (HB2.out (ofS_bad (Or.inl h5)))
        generalize hxl : x.length = xl at *
        have d5 : ((xl : Int) != 5) = true := by simp; omega
        clear HB2 HN3 hi hz0 hz1 hz2 huc HIB hxl
        go_wp2_with fail
        all_goals refine bodyPost_ret (fence_back Try.results34 _ _ w.heap.size _ _ _ _ _ rfl rfl (hV.out.set4 _ _ _ _)) rfl ?_
        all_goals obtain ⟨e1, e2⟩ := HB3.out
        all_goals rw [e1, e2]
        all_goals exact ⟨_, _, rfl, PRow.nil _ _, PRow.nil _ _, (fun g h => by cases h), below_set4 hB.out _ _ _ _ _ (by omega) (by omega)⟩
    · have HEN := hide (HEND.out k ⟨P, R, fl, ce, lim⟩ (by omega) hol.out)
      have m0 := hV.out.cell 0 rfl
      have m1 := hV.out.cell 1 rfl
      have m2 := hV.out.cell 2 rfl
      have m3 := hV.out.cell 3 rfl
      have fz := hV.out.frozen
      cases lim
      · have HB3 := hide (HNON.out _ HEN.out rfl)
        clear HBAD HNEX HEND HSOM HNON HEN hi hz0 hz1 hz2
        go_wp2_with fail
        all_goals refine bodyPost_ret (fence_back Try.results34 _ _ w.heap.size _ _ _ _ _ rfl rfl (hV.out.set4 _ _ _ _)) rfl ?_
        all_goals obtain ⟨e1, e2⟩ := HB3.out
        all_goals rw [e1, e2]
        all_goals exact ⟨_, _, rfl, PRow.nil _ _, PRow.nil _ _, (fun g h => by cases h), below_set4 hB.out _ _ _ _ _ (by omega) (by omega)⟩
      · obtain ⟨hE, hA0, hA1⟩ := HSOM.out _ HEN.out rfl
        simp only at hE hA0 hA1
        have SO := sound_any P R fl ce p r wr hP.out.pts hR.out.pts (by have := hlen.out; omega) (by have := hlen.out; omega)
        rw [← hE] at SO
        have HA0 : Hid (E = 0 → A = ⟨P, fl, ce, R⟩) := fun h => hA0 (by rw [← hE]; exact h)
        have HA1 : Hid (E ≠ 0 → A = ⟨[], 0, 0, []⟩) := fun h => hA1 (by rw [← hE]; exact h)
        obtain ⟨ap, cp, e1⟩ := hP.out.form
        obtain ⟨ar, cr, e2⟩ := hR.out.form
        have f0 := hF.out.cell 0 rfl
        have f1 := hF.out.cell 1 rfl
        have f2 := hF.out.cell 2 rfl
        have f3 := hF.out.cell 3 rfl
        clear hE hA0 hA1 HBAD HNEX HEND HSOM HNON HEN hi hz0 hz1 hz2
        subst e1 e2
        generalize P.length = pl at *
        generalize R.length = rl at *
        simp only [fV] at *
        go_wp2_with fail
        refine SO.mono ?_
        rintro e w7 ⟨rfl, hb7⟩
        have HV7 := hide (hV.out.after hb7)
        have HP7 := hide (hP.out.below hb7)
        have HR7 := hide (hR.out.below hb7)
        have HB7 := hide (below_next hB.out (Nat.le_refl _) hb7)
        have hz7 := HB7.out.size
        clear f0 f1 f2 f3 m0 m1 m2 m3 fz SO hb7
        have m0 := HV7.out.cell 0 rfl
        have m1 := HV7.out.cell 1 rfl
        have m2 := HV7.out.cell 2 rfl
        have m3 := HV7.out.cell 3 rfl
        have fz := HV7.out.frozen
        by_cases hE : E = 0
        · have HAA := hide (HA0.out hE)
          subst hE
          rw [sndV, if_pos rfl]
          simp only [fV]
          clear HA0 HA1
          go_wp2_with fail
          refine bodyPost_ret (fence_back Try.results34 _ _ w.heap.size _ _ _ _ _ rfl rfl (HV7.out.set4 _ _ _ _)) rfl ?_
          rw [HAA.out]
          exact ⟨_, _, rfl, HP7.out.grown (grown_set4 _ _ _ _ _ _) (HP7.out.noblk HV7.out (by decide)), HR7.out.grown (grown_set4 _ _ _ _ _ _) (HR7.out.noblk HV7.out (by decide)), hA.out, below_set4 HB7.out _ _ _ _ _ (by omega) (by omega)⟩
        · have HAA := hide (HA1.out hE)
          rw [sndV, if_neg hE]
          simp only [fV]
          clear HA0 HA1
          go_wp2_with fail
          refine bodyPost_ret (fence_back Try.results34 _ _ w.heap.size _ _ _ _ _ rfl rfl (HV7.out.set4 _ _ _ _)) rfl ?_
          rw [HAA.out]
          exact ⟨_, _, rfl, PRow.nil _ _, PRow.nil _ _, (fun g h => by cases h), below_set4 HB7.out _ _ _ _ _ (by omega) (by omega)⟩
end Go.Proofs.Ytnenbbkkhnlgbaa
