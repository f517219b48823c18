/- Package power: Step, Tier. -/
import Derived.Test.YtnofpcoohbmnpaaPw1
namespace Go.Proofs.Ytnofpcoohbmnpaa
open Go.RowKit Go.Great

def StepEnd (w : World) (B : Nat) (t : Ba) (e : Ending) (w' : World) : Prop := e = .returned (.tuple #[]) ∧ Bat w' B t ∧ w.grownBy w' (some B)
set_option maxHeartbeats 2000000 in
theorem step_any (w : World) (B : Nat) (t : Ba) (o : Bool) (x : Int) (hB : Bat w B t) (ht : BOk t) (hx : I64 x) : Calls Try.prog 13 #[bP B, rdV o x] w (StepEnd w B (stpS t o x)) := by
  have hl := ht.snd.len
  have hd := drn_in ht.snd
  have HE := hide (fun W (hW : Bat W B (tick t)) => hear_any W B (tick t) x hW (tick_ok ht) hx)
  have SB := hide (fun w => sub_any t.lo (drn t.l) w ht.lo (by unfold I64; omega))
  have hlt := hB.lt
  have HR := hide (Blk.new w #[.bool o, .int .i64 x] 42)
  have HB := hide (hB.alloc (.cells #[.bool o, .int .i64 x] 42))
  have G := hide (grown_alloc w (.cells #[.bool o, .int .i64 x] 42) (some B))
  have HO : Hid (stpS t o x = if o = true then hearS (tick t) x else tick t) := hide rfl
  clear hB ht hx
  obtain ⟨k, hk⟩ : ∃ k, Hid (t.kn = k) := ⟨_, hide rfl⟩
  cases k
  · have ET : Hid (tick t = t) := hide (by unfold tick; rw [hk.out]; rfl)
    rw [ET.out] at HO HE
    rw [HO.out]
    cases o
    · go_enter Try.func13, Try.ntmps13
      go_upto_region 1 with fail
      generalize w.alloc (.cells #[.bool false, .int .i64 x] 42) = W at *
      have c27 := HB.out.ckn hl
      rw [hk.out] at c27
      have r0 : W.cell? ⟨w.heap.size, 0, none⟩ = some (.bool false) := HR.out.cell 0 rfl
      go_wp2_with fail
      go_end0
      exact ⟨rfl, HB.out, G.out⟩
    · go_enter Try.func13, Try.ntmps13
      go_upto_region 1 with fail
      generalize w.alloc (.cells #[.bool true, .int .i64 x] 42) = W at *
      have c27 := HB.out.ckn hl
      rw [hk.out] at c27
      have r0 : W.cell? ⟨w.heap.size, 0, none⟩ = some (.bool true) := HR.out.cell 0 rfl
      have r1 : W.cell? ⟨w.heap.size, 1, none⟩ = some (.int .i64 x) := HR.out.cell 1 rfl
      go_wp2_with fail
      refine (HE.out _ HB.out).mono ?_
      rintro e w1 ⟨rfl, hB1, hG1⟩
      go_wp2_with fail
      go_end0
      exact ⟨rfl, hB1, grown_more G.out hG1⟩
  · have ET : Hid (tick t = { t with lo := sat (t.lo - drn t.l) }) := hide (by unfold tick; rw [hk.out]; rfl)
    rw [HO.out]
    generalize tick t = t' at *
    generalize sat (t.lo - drn t.l) = z at *
    cases o
    · go_enter Try.func13, Try.ntmps13
      go_upto_region 1 with fail
      generalize w.alloc (.cells #[.bool false, .int .i64 x] 42) = W at *
      have c27 := HB.out.ckn hl
      rw [hk.out] at c27
      have c25 := HB.out.clo hl
      have c24 := HB.out.drain hl
      have f25 := HB.out.frozen 25
      go_upto_region 3 with fail
      refine reg_last 14 rfl rfl _ rfl (by kernel_rfl) (by kernel_rfl) (by kernel_rfl) ?_
      simp only [List.take_succ_cons, List.take_zero]
      repeat (quiet_step (first
        | (go_at_call 23; exact Calls.quiet_of_same (SB.out _))))
      refine wpQuiet_nil ?_
      intro nq
      go_simp
      have HB2 := hide ((blk_drewN HB.out nq).set 25 (.int .i64 z))
      rw [bC_lo hl, ← ET.out] at HB2
      have HR2 := hide ((blk_drewN HR.out nq).setOther (show w.heap.size ≠ B by omega) 25 (.int .i64 z))
      have G2 := hide (grown_more (grown_drewNN G.out nq) (grown_set _ B 25 (.int .i64 z)))
      generalize (W.drewN nq).setCell ⟨B, 25, none⟩ (.int .i64 z) = W2 at *
      have r0 : W2.cell? ⟨w.heap.size, 0, none⟩ = some (.bool false) := HR2.out.cell 0 rfl
      go_wp2_with fail
      go_end0
      exact ⟨rfl, HB2.out, G2.out⟩
    · go_enter Try.func13, Try.ntmps13
      go_upto_region 1 with fail
      generalize w.alloc (.cells #[.bool true, .int .i64 x] 42) = W at *
      have c27 := HB.out.ckn hl
      rw [hk.out] at c27
      have c25 := HB.out.clo hl
      have c24 := HB.out.drain hl
      have f25 := HB.out.frozen 25
      go_upto_region 3 with fail
      refine reg_last 14 rfl rfl _ rfl (by kernel_rfl) (by kernel_rfl) (by kernel_rfl) ?_
      simp only [List.take_succ_cons, List.take_zero]
      repeat (quiet_step (first
        | (go_at_call 23; exact Calls.quiet_of_same (SB.out _))))
      refine wpQuiet_nil ?_
      intro nq
      go_simp
      have HB2 := hide ((blk_drewN HB.out nq).set 25 (.int .i64 z))
      rw [bC_lo hl, ← ET.out] at HB2
      have HR2 := hide ((blk_drewN HR.out nq).setOther (show w.heap.size ≠ B by omega) 25 (.int .i64 z))
      have G2 := hide (grown_more (grown_drewNN G.out nq) (grown_set _ B 25 (.int .i64 z)))
      generalize (W.drewN nq).setCell ⟨B, 25, none⟩ (.int .i64 z) = W2 at *
      have r0 : W2.cell? ⟨w.heap.size, 0, none⟩ = some (.bool true) := HR2.out.cell 0 rfl
      have r1 : W2.cell? ⟨w.heap.size, 1, none⟩ = some (.int .i64 x) := HR2.out.cell 1 rfl
      go_wp2_with fail
      refine (HE.out _ HB2.out).mono ?_
      rintro e w1 ⟨rfl, hB1, hG1⟩
      go_wp2_with fail
      go_end0
      exact ⟨rfl, hB1, grown_more G2.out hG1⟩
end Go.Proofs.Ytnofpcoohbmnpaa
