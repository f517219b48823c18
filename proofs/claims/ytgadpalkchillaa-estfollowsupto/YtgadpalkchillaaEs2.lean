/- Package est: going on without a measure; counting silence; whether a filter is good; its beginning. -/
import Derived.Test.YtgadpalkchillaaEs1
namespace Go.Proofs.Ytgadpalkchillaa
open Go.RowKit Go.Great

theorem fc4 {w : World} {B : Nat} {t : Fi} (h : Blk w B (fC t) 72) : w.cell? ⟨B, 4, none⟩ = some (.int .i64 t.pl) ∧ w.cell? ⟨B, 5, none⟩ = some (.int .i64 t.ph) ∧ w.cell? ⟨B, 6, none⟩ = some (.int .i64 t.vl) ∧ w.cell? ⟨B, 7, none⟩ = some (.int .i64 t.vh) := ⟨h.cell 4 rfl, h.cell 5 rfl, h.cell 6 rfl, h.cell 7 rfl⟩
set_option maxHeartbeats 1000000 in
theorem move_any (w : World) (B : Nat) (t : Fi) (acc d : Int) (hB : Blk w B (fC t) 72) (ht : FOk t) (ha : I64 acc) (hd : I64 d) : Calls Try.prog 26 #[.pointer (some ⟨B, 0, none⟩), .int .i64 acc, .int .i64 d] w fun e w' => e = .returned (.tuple #[]) ∧ Blk w' B (fC (fmov acc d t)) 72 ∧ w.grownBy w' (some B) := by
  have i1 := hide ht.vl
  have i2 := hide ht.vh
  have i3 := hide ht.pl
  have i4 := hide ht.ph
  have ia := hide ha
  have idd := hide hd
  have HB := hide hB
  have hlB := hB.lt
  clear ht ha hd hB
  obtain ⟨vl, hvl⟩ : ∃ x, Hid (sat (sat (t.vl + acc) - d) = x) := ⟨_, hide rfl⟩
  obtain ⟨vh, hvh⟩ : ∃ x, Hid (sat (sat (t.vh + acc) + d) = x) := ⟨_, hide rfl⟩
  obtain ⟨pl, hpl⟩ : ∃ x, Hid (sat (t.pl + vl) = x) := ⟨_, hide rfl⟩
  obtain ⟨ph, hph⟩ : ∃ x, Hid (sat (t.ph + vh) = x) := ⟨_, hide rfl⟩
  have ivl := hide (sat_ok (sat (t.vl + acc) - d))
  have ivh := hide (sat_ok (sat (t.vh + acc) + d))
  rw [hvl.out] at ivl
  rw [hvh.out] at ivh
  have HE : Hid (fmov acc d t = { t with vl := vl, vh := vh, pl := pl, ph := ph }) := hide (by unfold fmov; rw [hvl.out, hvh.out, hpl.out, hph.out])
  go_enter Try.func26, Try.ntmps26
  go_wp2_with fail
  go_quiet (fail)
  have G0 := hide (grown_drewNN (grown_below (Below.refl w.heap.size w) (some B)) nq)
  have HB0 := hide (blk_drewN HB.out nq)
  clear HB
  generalize w.drewN nq = w0 at *
  obtain ⟨p0, p1, p2, p3⟩ := fc4 HB0.out
  have f4 := HB0.out.frozen 6
  go_upto_region 2 with (first
    | (go_at_call 43; refine (add_any _ _ _ i1.out ia.out).mono ?_; rintro e w' ⟨rfl, hw⟩; obtain rfl := hw.symm)
    | (go_at_call 44; refine (sub_any _ _ _ (sat_ok _) idd.out).mono ?_; rintro e w' ⟨rfl, hw⟩; obtain rfl := hw.symm))
  rw [hvl.out]
  have G1 := hide (grown_more G0.out (grown_set w0 B 6 (.int .i64 vl)))
  have HB1 : Hid (Blk (w0.setCell ⟨B, 6, none⟩ (.int .i64 vl)) B (fC { t with vl := vl }) 72) := hide (HB0.out.set 6 (.int .i64 vl))
  clear G0 HB0 p0 p1 p2 p3 f4
  generalize w0.setCell ⟨B, 6, none⟩ (.int .i64 vl) = w1 at *
  obtain ⟨p0, p1, p2, p3⟩ := fc4 HB1.out
  have f4 := HB1.out.frozen 7
  go_upto_region 3 with (first
    | (go_at_call_of 43 (Value.int IntKind.i64 t.vh); refine (add_any _ _ _ i2.out ia.out).mono ?_; rintro e w' ⟨rfl, hw⟩; obtain rfl := hw.symm)
    | (go_at_call_of 43 (Value.int IntKind.i64 (sat (t.vh + acc))); refine (add_any _ _ _ (sat_ok _) idd.out).mono ?_; rintro e w' ⟨rfl, hw⟩; obtain rfl := hw.symm))
  rw [hvh.out]
  have G2 := hide (grown_more G1.out (grown_set w1 B 7 (.int .i64 vh)))
  have HB2 : Hid (Blk (w1.setCell ⟨B, 7, none⟩ (.int .i64 vh)) B (fC { t with vl := vl, vh := vh }) 72) := hide (HB1.out.set 7 (.int .i64 vh))
  clear G1 HB1 p0 p1 p2 p3 f4
  generalize w1.setCell ⟨B, 7, none⟩ (.int .i64 vh) = w2 at *
  obtain ⟨p0, p1, p2, p3⟩ := fc4 HB2.out
  have f4 := HB2.out.frozen 4
  go_wp2_with fail
  refine reg_last 12 rfl rfl _ rfl (by kernel_rfl) (by kernel_rfl) (by kernel_rfl) ?_
  simp only [List.take_succ_cons, List.take_zero]
  repeat (quiet_step (first
    | (go_at_call 43; exact Calls.quiet_of_same (add_any _ _ _ i3.out ivl.out))))
  refine wpQuiet_nil ?_
  intro nq
  go_simp
  rw [hpl.out]
  have G3 := hide (grown_more (grown_drewNN G2.out nq) (grown_set (w2.drewN nq) B 4 (.int .i64 pl)))
  have HB3 : Hid (Blk ((w2.drewN nq).setCell ⟨B, 4, none⟩ (.int .i64 pl)) B (fC { t with vl := vl, vh := vh, pl := pl }) 72) := hide ((blk_drewN HB2.out nq).set 4 (.int .i64 pl))
  clear G2 HB2 p0 p1 p2 p3 f4
  generalize (w2.drewN nq).setCell ⟨B, 4, none⟩ (.int .i64 pl) = w3 at *
  obtain ⟨p0, p1, p2, p3⟩ := fc4 HB3.out
  have f4 := HB3.out.frozen 5
  go_wp2_with fail
  refine reg_last 12 rfl rfl _ rfl (by kernel_rfl) (by kernel_rfl) (by kernel_rfl) ?_
  simp only [List.take_succ_cons, List.take_zero]
  repeat (quiet_step (first
    | (go_at_call 43; exact Calls.quiet_of_same (add_any _ _ _ i4.out ivh.out))))
  refine wpQuiet_nil ?_
  intro nq
  go_simp
  rw [hph.out]
  go_wp2_with fail
  go_end0
  refine ⟨rfl, ?_, grown_more (grown_drewNN G3.out nq) (grown_set _ B 5 (.int .i64 ph))⟩
  rw [HE.out]
  exact (blk_drewN HB3.out nq).set 5 (.int .i64 ph)
end Go.Proofs.Ytgadpalkchillaa
