/- Multiplying digits: the walk of Times. -/
import Derived.Test.YtpoodmfhcoaleaaTimesM
import Derived.OwnWalk
import Derived.BigRegion
namespace Go.Proofs.Ytpoodmfhcoaleaa
open Go.RowKit

theorem tmem_start {w W w0 : World} {s t : Bool} {va vb : Value} {n : Nat} (hW : W = ((w.alloc (.cells #[.bool s, va] 67)).alloc (.cells #[.bool t, vb] 67)).alloc (.cells #[.bool false, .slice none 0 0] 67))
    (ho : w0.ownsRow (w.heap.size + 3) 3 1 (.slice (some ⟨W.heap.size, 0, none⟩) n n) n (madeCells (Value.int .i64 0).cells (n * 1)).toList) (hg : W.grownBy w0 none) :
    TMem w w0 s t va vb (w.heap.size + 3) n (List.replicate n 0) := by
  have hs : W.heap.size = w.heap.size + 3 := by rw [hW]; simp
  have hc (p : Addr) (hp : p.block < w.heap.size + 3) : w0.cell? p = W.cell? p := World.cell?_of_block (w := W) (hg.block p.block (by omega) (by simp))
  have hf (p : Addr) (hp : p.block < w.heap.size + 3) : w0.frozen? p = W.frozen? p := World.frozen?_of_block (w := W) (hg.block p.block (by omega) (by simp))
  rw [hs] at ho
  refine ⟨?_, ?_, ?_, ?_, ?_, ?_, ?_, ?_, ?_, ?_, Nat.le_refl _⟩
  · rw [hc _ (by show w.heap.size < _; omega), hW]; go_simp
  · rw [hc _ (by show w.heap.size < _; omega), hW]; go_simp
  · rw [hc _ (by show w.heap.size + 1 < _; omega), hW]; go_simp
  · rw [hc _ (by show w.heap.size + 1 < _; omega), hW]; go_simp
  · rw [hc _ (by show w.heap.size + 2 < _; omega), hW]; go_simp
  · rw [hc _ (by show w.heap.size + 2 < _; omega), hW]; go_simp
  · rw [hf _ (by show w.heap.size + 2 < _; omega), hW]; go_simp
  · rw [hf _ (by show w.heap.size + 2 < _; omega), hW]; go_simp
  · have e : (madeCells (Value.int .i64 0).cells (n * 1)).toList = (List.replicate n (0 : Int)).map (Value.int .i64) := by
      rw [Nat.mul_one, List.map_replicate]; exact toList_madeCells_one _ _
    rw [e] at ho
    exact ho
  · have hb : Below w.heap.size w W := by
      rw [hW]; exact (((Below.refl _ _).alloc (Nat.le_refl _) _).alloc (by simp) _).alloc (by simp <;> omega) _
    exact hb.grown hg (by omega) (fun k hk => by cases hk)

set_option maxHeartbeats 8000000 in
theorem times_digits (sa sb : Value) (da db : List Int) (s t : Bool) (w : World) (ra : Row w sa da) (rb : Row w sb db) (ga : Dig da) (gb : Dig db) (na : 0 < da.length) (nb : 0 < db.length) (la : da.length ≤ 100000) (lb : db.length ≤ 100000) :
    Calls Try.prog 49 #[.agg #[.bool s, sa], .agg #[.bool t, sb]] w fun e w' => ∃ v, e = .returned (.agg #[.bool (!(s == t)), v]) ∧ Below w.heap.size w w' ∧ Sum w' v (val da * val db) (da.length + db.length) := by
  obtain ⟨i0, hi, hz0, hz1, hz2⟩ := info_parts Try.inf3
  obtain ⟨pa, ca, rfl, hca, hma, h3a⟩ := ra
  obtain ⟨pb, cb, rfl, hcb, hmb, h3b⟩ := rb
  obtain ⟨b1, o1, rfl, hl1, hc1⟩ : ∃ b o, pa = some ⟨b, o, none⟩ ∧ b < w.heap.size ∧ ∀ i, i < da.length → w.cell? ⟨b, o + i, none⟩ = some (.int .i64 (da.getD i 0)) := by
    rcases h3a with ⟨_, _, e⟩ | ⟨b, o, h⟩
    · rw [e] at na; exact absurd na (by simp)
    · exact ⟨b, o, h⟩
  obtain ⟨b2, o2, rfl, hl2, hc2⟩ : ∃ b o, pb = some ⟨b, o, none⟩ ∧ b < w.heap.size ∧ ∀ i, i < db.length → w.cell? ⟨b, o + i, none⟩ = some (.int .i64 (db.getD i 0)) := by
    rcases h3b with ⟨_, _, e⟩ | ⟨b, o, h⟩
    · rw [e] at nb; exact absurd nb (by simp)
    · exact ⟨b, o, h⟩
  have HC1 := hide hc1
  have HC2 := hide hc2
  have GA := hide ga
  have GB := hide gb
  have e1 : ((da.length : Int) == 0) = false := by rw [beq_eq_false_iff_ne]; omega
  have e2 : ((db.length : Int) == 0) = false := by rw [beq_eq_false_iff_ne]; omega
  clear hc1 hc2 ga gb h3a h3b hca hcb hma hmb
  go_enter Try.func49, Try.ntmps49
  go_wp2_with (at_make; refine wpList_make_full _ rfl _ _ 34 rfl (w.heap.size + 3) 3 i0 (.int .i64 0) 1 Try.underlying34 hi hz0 hz1 .i64 .i64 _ _ (da.length + db.length) rfl rfl (by omega) (by omega) (by rw [hz2]; omega) (by unfold maxLen; omega) (by simp <;> omega) ?_; intro w0 hown0 hgrow0; have HM0 := hide (tmem_start rfl hown0 hgrow0); clear hown0 hgrow0)
  go_loopw [6] (fun i wr => ∃ (k : Nat) (os : List Int), k ≤ da.length ∧ i = .int .i64 k ∧ Hid (Outer os da db k) ∧ TMem w wr s t (.slice (some ⟨b1, o1, none⟩) da.length ca) (.slice (some ⟨b2, o2, none⟩) db.length cb) (w.heap.size + 3) (da.length + db.length) os) (fun i _ => da.length - (intOf i).toNat)
  case atStart => exact ⟨0, _, by omega, rfl, outer_start da db, HM0.out⟩
  case round =>
    clear HM0 w0
    obtain ⟨k, os, hk, rfl, HO, hm⟩ := hrel
    have HM := hide hm
    have a0 := hm.a0
    have a1 := hm.a1
    have c0 := hm.b0
    have c1 := hm.b1
    clear hm
    by_cases hlt : k < da.length
    · have g1 : w.cell? ⟨b1, o1 + k, none⟩ = some (.int .i64 (da.getD k 0)) := HC1.out k hlt
      have hp := GA.out.at k
      obtain ⟨p, HP⟩ : ∃ p, Hid (da.getD k 0 = p) := ⟨_, rfl⟩
      rw [HP.out] at g1 hp
      go_wp2_with fail
      go_loopw [7, 8] (fun c j wx => ∃ (k2 : Nat) (os2 : List Int) (x : Int), k2 ≤ db.length ∧ j = .int .i64 k2 ∧ c = .int .i64 x ∧ 0 ≤ x ∧ x ≤ 1073741823 ∧ Hid (Inner os os2 db k k2 p x) ∧ TMem w wx s t (.slice (some ⟨b1, o1, none⟩) da.length ca) (.slice (some ⟨b2, o2, none⟩) db.length cb) (w.heap.size + 3) (da.length + db.length) os2) (fun _ j _ => db.length - (intOf j).toNat)
      case atStart => exact ⟨0, os, 0, by omega, rfl, rfl, by omega, by omega, inner_start os db k p HO.out.2.1, HM.out⟩
      case round =>
        clear HM a0 a1 c0 c1
        obtain ⟨k2, os2, x, hk2, rfl, rfl, hx0, hx1, HI, hm2⟩ := hrel
        have HM2 := hide hm2
        have a0 := hm2.a0
        have a1 := hm2.a1
        have c0 := hm2.b0
        have c1 := hm2.b1
        have HL2 : Hid (os2.length = da.length + db.length) := HI.out.1.trans HO.out.1
        have q1 := (hm2.bel.cell (p := ⟨b1, o1 + k, none⟩) hl1).trans g1
        by_cases hlt2 : k2 < db.length
        · have q2 := (hm2.bel.cell (p := ⟨b2, o2 + k2, none⟩) hl2).trans (HC2.out k2 hlt2)
          have q3 := hm2.at HL2.out.symm (k + k2) (by omega)
          have q4 := hm2.own.frozenAt (k + k2)
          have hd := GB.out.at k2
          have ho := HI.out.2.1.at (k + k2)
          have hpd := dig_mul p (db.getD k2 0) hp.1 hp.2 hd.1 hd.2
          obtain ⟨d, HD⟩ : ∃ d, Hid (db.getD k2 0 = d) := ⟨_, rfl⟩
          obtain ⟨o, HOo⟩ : ∃ d, Hid (os2.getD (k + k2) 0 = d) := ⟨_, rfl⟩
          rw [HD.out] at q2 hd hpd
          rw [HOo.out] at q3 ho
          obtain ⟨I1, I2, I3⟩ := inner_step (s := o + p * d + x) HI.out (by have := HO.out.1; omega) hp.1 hp.2 GB.out (by rw [HD.out, HOo.out])
          have HI1 := hide I1
          have hsum : (k : Int) + k2 < ((da.length + db.length : Nat) : Int) := by omega
          clear hm2 I1
          go_wp2_with fail
          go_quiet (fail)
          go_wp2_with fail
          go_roundw
          case rel => exact ⟨k2 + 1, os2.set (k + k2) ((o + p * d + x) % 1073741824), (o + p * d + x) / 1073741824, by omega, by go_num, rfl, by omega, by omega, HI1.out, (HM2.out.drewN _).set _ _⟩
          case measure => simp [intOf]; omega
        · have he : k2 = db.length := by omega
          subst he
          have O1 := outer_step HO.out HI.out hlt HP.out.symm
          rw [Int.zero_add] at O1
          have q3 := hm2.at HL2.out.symm (k + db.length) (by omega)
          rw [O1.1] at q3
          have q4 := hm2.own.frozenAt (k + db.length)
          have HO1 := hide O1.2
          have hsum : (k : Int) + (db.length : Int) < ((da.length + db.length : Nat) : Int) := by omega
          clear hm2 O1 q1
          go_wp2_with fail
          go_region
          all_goals
            go_wp2_with fail
            go_roundw
            case rel => exact ⟨k + 1, os2.set (k + db.length) x, by omega, by go_num, HO1.out, (HM2.out.set _ _).drewN 1⟩
            case measure => simp [intOf]; omega
    · have he : k = da.length := by omega
      subst he
      have row := Row.of_owns HM.out.own HO.out.1.symm
      have HT := hide (fun (W : World) (h : Below wr.heap.size wr W) => trim_any _ os W (row.below h) (by rw [HO.out.1]; omega))
      have r0 : wr.cell? ⟨w.heap.size + 1 + 1, 0, none⟩ = some (.bool false) := HM.out.r0
      have r1 : wr.cell? ⟨w.heap.size + 1 + 1, 1, none⟩ = some (.slice none 0 0) := HM.out.r1
      have f0 : wr.frozen? ⟨w.heap.size + 1 + 1, 0, none⟩ = false := HM.out.f0
      have f1 : wr.frozen? ⟨w.heap.size + 1 + 1, 1, none⟩ = false := HM.out.f1
      have HV : Hid (val os = val da * val db) := by
        have := HO.out.2.2.2
        rw [List.take_of_length_le (Nat.le_refl _)] at this
        exact this
      clear row
      go_wp2_with fail
      go_region_with (go_at_call 56; refine (HT.out _ (by first | exact Below.refl _ _ | exact (Below.refl _ _).drew)).mono ?_; rintro e w1 ⟨rfl, v, rfl, ht⟩; have hs := sum_mk ht HO.out.2.1 HV.out (Nat.le_of_eq HO.out.1); clear ht; obtain ⟨p1, l1, c3, rfl⟩ := sum_slice hs; have HS := hide hs; clear hs)
      all_goals
        go_wp2_with fail
        refine bodyPost_ret (v := .agg #[.bool (!(s == t)), .slice p1 l1 c3]) (by simp [results, Try.results49, go_sem, World.cell?_setCell_other, r0, r1]) rfl ⟨_, rfl, ?_, ?_⟩
        · repeat (first | exact HM.out.bel | refine Below.drew ?_ | refine Below.setCell ?_ (by simp <;> omega) _)
        · exact result_set HS.out r0 r1 _ _
end Go.Proofs.Ytpoodmfhcoaleaa
