/- Qu, Qp3, Qp4, Qpj. -/
import Derived.Test.YtapfaaaepnplcaaGreatDoorG23
import Derived.Test.YtapfaaaepnplcaaGreatDoorG17
set_option maxRecDepth 100000
set_option maxHeartbeats 4000000
namespace Go.Proofs.YtapfaaaepnplcaaGreatDoor
open Go.RowKit Go.Great
theorem blk_ne {w : World} {g k : Nat} {cs ds : Array Value} {t u : TypeId} (h1 : Blk w g cs t) (h2 : Blk w k ds u) (hne : t ≠ u) : g ≠ k := fun e => by
  subst e
  have := h1.symm.trans h2
  injection this with this
  injection this with _ this _
  exact hne this
theorem Vals.grown {w w' : World} {g B : Nat} {l : List Int} (h : Vals w g l) (hne : g ≠ B) (hg : w.grownBy w' (some B)) : Vals w' g l := by
  obtain ⟨cs, fr, h1, h2⟩ := h
  exact ⟨cs, fr, (hg.block g (Array.getElem?_eq_some_iff.1 h1).1 (fun e => hne (by injection e))).trans h1, h2⟩
theorem Vals.ne {w : World} {g B : Nat} {l : List Int} {cs : Array Value} {t : TypeId} (h : Vals w g l) (hB : Blk w B cs t) (ht : t ≠ 3) : g ≠ B := by
  obtain ⟨cs', fr, h1, h2⟩ := h
  intro e
  subst e
  have := h1.symm.trans hB
  injection this with this
  injection this with _ this _
  exact ht this.symm
/-- the pilot's own block changes, and nothing else that is there -/
theorem Bt.upd {w0 : World} {b0 : Nat} {w w' : World} {a : Ad} (h : Bt w0 b0 w a) (hg : w.grownBy w' (some a.B)) (le si : Int) (out : Value) (sq : Int) (hP : BF w' a.B 174 (pilF { a with le := le, si := si, out := out, sq := sq }) 90) : Bt w0 b0 w' { a with le := le, si := si, out := out, sq := sq } := by
  have kp : ∀ {g : Nat} {cs : Array Value} {t : TypeId}, Blk w g cs t → t ≠ 90 → Blk w' g cs t := fun {g cs t} q ht => q.grown hg (fun e => blk_ne q h.P ht (by injection e with e; exact e.symm))
  exact {
    P := hP
    V := fun i hi => (h.V i hi).imp fun _ q => kp q (by decide)
    F := fun i hi => kp (h.F i hi) (by decide)
    Cm := kp h.Cm (by decide)
    Ba := kp h.Ba (by decide)
    Rd := kp h.Rd (by decide)
    Dg := kp h.Dg (by decide)
    D1 := kp h.D1 (by decide)
    D2 := kp h.D2 (by decide)
    Mc := kp h.Mc (by decide)
    Rn := h.Rn.imp fun _ q => q.imp fun _ q => kp q (by decide)
    St := kp h.St (by decide)
    De := kp h.De (by decide)
    Bk := kp h.Bk (by decide)
    Vg := h.Vg.grown (h.Vg.ne h.P (by decide)) hg
    Pl := h.Pl.imp fun _ q => q.imp fun _ q => kp q (by decide)
    Jb := kp h.Jb (by decide)
    ext := grown_more h.ext hg
    lo := h.lo }
/-- a change of one cell -/
theorem Bt.put {w0 : World} {b0 : Nat} {w : World} {a : Ad} (h : Bt w0 b0 w a) (k : Nat) (v : Value) (le si : Int) (out : Value) (sq : Int) (ha : cN 174 (updV (pilF a) k v) = cN 174 (pilF { a with le := le, si := si, out := out, sq := sq })) : Bt w0 b0 (w.setCell ⟨a.B, k, none⟩ v) { a with le := le, si := si, out := out, sq := sq } :=
  h.upd (grown_set _ _ _ _) le si out sq (by
    have := BF.set h.P k v
    unfold BF at this ⊢
    rwa [ha] at this)
/-- a new backup -/
theorem Bt.back {w0 : World} {b0 : Nat} {w : World} {a : Ad} (h : Bt w0 b0 w a) (g : Nat) (hg : Blk w g #[.func (.func 95) #[] #[], .int .i64 0] 218) : Bt w0 b0 (w.setCell ⟨a.B, 129, none⟩ (pt g)) { a with bk := g } := by
  have hp : cN 174 (updV (pilF a) 129 (pt g)) = cN 174 (pilF { a with bk := g }) := by kernel_rfl
  have X := BF.set h.P 129 (pt g)
  have Y : BF (w.setCell ⟨a.B, 129, none⟩ (pt g)) a.B 174 (pilF { a with bk := g }) 90 := by
    unfold BF at X ⊢
    rwa [hp] at X
  have gs := grown_set w a.B 129 (pt g)
  have kp : ∀ {g' : Nat} {cs : Array Value} {t : TypeId}, Blk w g' cs t → t ≠ 90 → Blk (w.setCell ⟨a.B, 129, none⟩ (pt g)) g' cs t := fun {g' cs t} q ht => q.grown gs (fun e => blk_ne q h.P ht (by injection e with e; exact e.symm))
  exact {
    P := Y
    V := fun i hi => (h.V i hi).imp fun _ q => kp q (by decide)
    F := fun i hi => kp (h.F i hi) (by decide)
    Cm := kp h.Cm (by decide)
    Ba := kp h.Ba (by decide)
    Rd := kp h.Rd (by decide)
    Dg := kp h.Dg (by decide)
    D1 := kp h.D1 (by decide)
    D2 := kp h.D2 (by decide)
    Mc := kp h.Mc (by decide)
    Rn := h.Rn.imp fun _ q => q.imp fun _ q => kp q (by decide)
    St := kp h.St (by decide)
    De := kp h.De (by decide)
    Bk := kp hg (by decide)
    Vg := h.Vg.grown (h.Vg.ne h.P (by decide)) gs
    Pl := h.Pl.imp fun _ q => q.imp fun _ q => kp q (by decide)
    Jb := kp h.Jb (by decide)
    ext := grown_more h.ext gs
    lo := h.lo }
end Go.Proofs.YtapfaaaepnplcaaGreatDoor
set_option maxRecDepth 100000
set_option maxHeartbeats 4000000
namespace Go.Proofs.YtapfaaaepnplcaaGreatDoor
open Go.RowKit Go.Great
theorem in_same (a : Ad) (j : Nat) (v : Value) (h : (List.replicate 12 noS)[j]? = some v) : pilF a (162 + j) = v :=
  pil_mid (forL a ++ senL a ++ lnkL a ++ fliL a ++ [pt a.Pl, .slice (some ⟨a.Jg, 0, none⟩) 7 a.jc]) (List.replicate 12 noS) [] (by rw [List.append_nil]; rfl) 162 rfl j v h
theorem sense_no {w0 : World} {b0 : Nat} {w : World} {a : Ad} (h : Bt w0 b0 w a) : Calls Tryz.prog 56 #[.pointer (some ⟨a.B, 0, none⟩)] w fun e w' => e = .returned (.tuple #[]) ∧ Below w.heap.size w w' := by
  have HH := hide h
  have c0 := h.at 162 noS (by omega) rfl
  have c1 := h.at 163 noS (by omega) rfl
  have c2 := h.at 164 noS (by omega) rfl
  have c3 := h.at 165 noS (by omega) rfl
  have c4 := h.at 166 noS (by omega) rfl
  have c5 := h.at 167 noS (by omega) rfl
  have c6 := h.at 168 noS (by omega) rfl
  have c7 := h.at 169 noS (by omega) rfl
  have c8 := h.at 170 noS (by omega) rfl
  have c9 := h.at 171 noS (by omega) rfl
  have c10 := h.at 172 noS (by omega) rfl
  have c11 := h.at 173 noS (by omega) rfl
  clear h
  go_enter Tryz.func56, Tryz.ntmps56
  go_wp2_with fail
  go_region_with (go_at_call 108; refine (readUnits_no HH.out.drew).mono ?_; rintro e w1 ⟨rfl, hb⟩)
  have h1 := HH.out.drew.after hb
  have HB1 := hide (below_next (Below.refl w.heap.size w).drew (Nat.le_refl _) hb)
  have c0 := h1.at 171 noS (by omega) rfl
  have H1 := hide h1
  clear h1 hb HH c1 c2 c3 c4 c5 c6 c7 c8 c9 c10 c11
  go_wp2_with fail
  go_region_with (go_at_call 109; refine (readRemote_no H1.out.drew).mono ?_; rintro e w2 ⟨rfl, hb⟩)
  have h2 := H1.out.drew.after hb
  have HB2 := hide (below_two HB1.out (below_next (Below.refl w1.heap.size w1).drew (Nat.le_refl _) hb))
  have c0 := h2.at 172 noS (by omega) rfl
  have H2 := hide h2
  clear h2 hb H1 HB1
  go_wp2_with fail
  go_region_with (go_at_call 111; refine (readMotors_no H2.out.drew).mono ?_; rintro e w3 ⟨rfl, hb⟩)
  have HB3 := hide (below_two HB2.out (below_next (Below.refl w2.heap.size w2).drew (Nat.le_refl _) hb))
  clear hb H2 HB2 c0
  go_wp2_with fail
  go_end0
  exact ⟨rfl, HB3.out⟩
end Go.Proofs.YtapfaaaepnplcaaGreatDoor
set_option maxRecDepth 100000
set_option maxHeartbeats 4000000
namespace Go.Proofs.YtapfaaaepnplcaaGreatDoor
open Go.RowKit Go.Great
theorem receive_no {w0 : World} {b0 : Nat} {w : World} {a : Ad} (h : Bt w0 b0 w a) : Calls Tryz.prog 112 #[.pointer (some ⟨a.B, 120, none⟩), noS] w fun e w' => e = .returned (.slice none 0 0) ∧ Below w.heap.size w w' := by
  have HH := hide h
  have c := h.at 122 (.int .i64 65535) (by omega) rfl
  have d := h.at 120 (pt a.Rd) (by omega) rfl
  have f := h.fz 122
  have q := h.eq 122 (.int .i64 65535) (by omega) rfl
  clear h
  go_enter Tryz.func112, Tryz.ntmps112
  go_wp2_with fail
  refine (older_max _).mono ?_
  rintro e w2 ⟨rfl, hw⟩
  obtain rfl := hw.symm
  go_wp2_with fail
  refine (feedE _ _ HH.out.Rd).mono ?_
  rintro e w2 ⟨rfl, hw⟩
  obtain rfl := hw.symm
  clear c d f q HH
  go_wp2_with fail
  go_loopw [5, 25] (fun sv v wx => sv = .slice none 0 0 ∧ v = .int .i64 0 ∧ wx = w) (fun _ _ _ => 0)
  case atStart => exact ⟨rfl, rfl, rfl⟩
  case round =>
    obtain ⟨rfl, rfl, hw⟩ := hrel
    subst hw
    go_wp2_with fail
    go_ret
    exact ⟨rfl, Below.refl _ _⟩
theorem send_no (w : World) (g : Nat) : Calls Tryz.prog 115 #[.pointer (some ⟨g, 120, none⟩), .slice none 0 0] w fun e w' => e = .returned (.tuple #[]) ∧ w' = w := by
  go_enter Tryz.func115, Tryz.ntmps115
  go_wp2_with fail
  go_loopw [12] (fun v wx => v = .int .i64 0 ∧ wx = w) (fun _ _ => 0)
  case atStart => exact ⟨rfl, rfl⟩
  case round =>
    obtain ⟨rfl, hw⟩ := hrel
    subst hw
    go_wp2_with fail
    go_end0
    exact ⟨rfl, rfl⟩
theorem nowE (w : World) (g : Nat) (t : Int) (q : Value) (h : Blk w g #[.int .i64 t, q] 124) : Calls Tryz.prog 117 #[pt g] w fun e w' => e = .returned (.int .i64 t) ∧ w' = w := by
  have c := h.cell 0 rfl
  clear h
  go_enter Tryz.func117, Tryz.ntmps117
  go_wp2_with fail
  go_ret
  exact ⟨rfl, rfl⟩
theorem hear_no {w0 : World} {b0 : Nat} {w : World} {a : Ad} (h : Bt w0 b0 w a) : Calls Tryz.prog 57 #[pt a.B] w fun e w' => e = .returned (.tuple #[]) ∧ Below w.heap.size w w' := by
  have HH := hide h
  have c := h.at 173 noS (by omega) rfl
  clear h
  go_enter Tryz.func57, Tryz.ntmps57
  go_wp2_with fail
  go_region_with (go_at_call 112; refine (receive_no HH.out.drew).mono ?_; rintro e w1 ⟨rfl, hb⟩)
  have H1 := hide (HH.out.drew.after hb)
  have HB1 := hide (below_next (Below.refl w.heap.size w).drew (Nat.le_refl _) hb)
  clear hb HH c
  go_wp2_with fail
  go_simp
  go_loopw [16] (fun v wx => v = .int .i64 0 ∧ wx = w1) (fun _ _ => 0)
  case atStart => exact ⟨rfl, rfl⟩
  case round =>
    obtain ⟨rfl, hw⟩ := hrel
    obtain rfl := hw.symm
    have c := H1.out.at 121 (.slice (some ⟨a.Dg, 0, none⟩) 2 a.dc) (by omega) rfl
    go_wp2_with fail
    clear c
    go_loopw [32] (fun v wx => ∃ j : Nat, v = .int .i64 (j : Int) ∧ j ≤ 2 ∧ Hid (Below w1.heap.size w1 wx)) (fun v _ => 2 - (intOf v).toNat)
    case atStart => exact ⟨0, rfl, by omega, hide (Below.refl _ _)⟩
    case round =>
      obtain ⟨j, rfl, hj, HG⟩ := hrel
      by_cases h2 : j = 2
      · subst h2
        go_wp2_with fail
        go_end0
        exact ⟨rfl, below_two HB1.out HG.out⟩
      · have h1 := H1.out.after HG.out
        obtain ⟨tk, qv, hP⟩ := h1.Pl
        obtain rfl | rfl : j = 0 ∨ j = 1 := by omega
        · have d0 : wr.cell? ⟨a.Dg, 0, none⟩ = some (pt a.D1) := h1.Dg.cell 0 rfl
          have d1 : wr.cell? ⟨a.Dg, 1, none⟩ = some (.int .i64 1) := h1.Dg.cell 1 rfl
          have d2 : wr.cell? ⟨a.Dg, 2, none⟩ = some (.func (.func 54) #[pt a.B] #[]) := h1.Dg.cell 2 rfl
          have HD := hide h1.D1
          have HQ := hide h1
          have HP := hide hP
          have hst := fun w' => run_store Tryz.prog w' ⟨wr.heap.size, 2, none⟩ (.func (.func 54) #[pt a.B] #[]) .plain rfl
          clear h1 hP
          go_upto_region 9 with fail
          clear hst
          have hb0 := below_alloc wr (.cells #[pt a.D1, .int .i64 1, .func (.func 54) #[pt a.B] #[]] 153)
          have HN := hide (Blk.new wr #[pt a.D1, .int .i64 1, .func (.func 54) #[pt a.B] #[]] 153)
          have HB2 := hide (below_two HG.out hb0)
          have HQ2 := hide (HQ.out.after hb0)
          have HP2 := hide (HP.out.after hb0)
          have e0 : (wr.alloc (.cells #[pt a.D1, .int .i64 1, .func (.func 54) #[pt a.B] #[]] 153)).cell? ⟨wr.heap.size, 0, none⟩ = some (pt a.D1) := HN.out.cell 0 rfl
          clear d0 d1 d2 HD HQ HP HN
          generalize wr.alloc (.cells #[pt a.D1, .int .i64 1, .func (.func 54) #[pt a.B] #[]] 153) = W at *
          have c := HQ2.out.at 160 (pt a.Pl) (by omega) rfl
          go_region_with (first | (go_at_call 117; refine (nowE _ _ _ _ (HP2.out.after (Below.refl _ _).drew)).mono ?_; rintro e w' ⟨rfl, hw⟩; obtain rfl := hw.symm) | (go_at_call 116; refine (tickDE _ _ _ _ _ (HQ2.out.drew).D1).mono ?_; rintro e w2 ⟨rfl, hb⟩) | (go_at_call 115; refine (send_no _ _).mono ?_; rintro e w3 ⟨rfl, hw⟩; obtain rfl := hw.symm))
          all_goals
            have hx := hide (below_two HB2.out (below_next (Below.refl W.heap.size W).drew (Nat.le_refl _) hb))
            clear c e0 HB2 HQ2 HP2 hb
            go_wp2_with fail
            go_roundw
            case rel => exact ⟨1, by go_num, by omega, hx⟩
            case measure => simp [intOf]
        · have d0 : wr.cell? ⟨a.Dg, 3, none⟩ = some (pt a.D2) := h1.Dg.cell 3 rfl
          have d1 : wr.cell? ⟨a.Dg, 4, none⟩ = some (.int .i64 2) := h1.Dg.cell 4 rfl
          have d2 : wr.cell? ⟨a.Dg, 5, none⟩ = some (.func (.func 55) #[pt a.B] #[]) := h1.Dg.cell 5 rfl
          have HD := hide h1.D2
          have HQ := hide h1
          have HP := hide hP
          have hst := fun w' => run_store Tryz.prog w' ⟨wr.heap.size, 2, none⟩ (.func (.func 55) #[pt a.B] #[]) .plain rfl
          clear h1 hP
          go_upto_region 9 with fail
          clear hst
          have hb0 := below_alloc wr (.cells #[pt a.D2, .int .i64 2, .func (.func 55) #[pt a.B] #[]] 153)
          have HN := hide (Blk.new wr #[pt a.D2, .int .i64 2, .func (.func 55) #[pt a.B] #[]] 153)
          have HB2 := hide (below_two HG.out hb0)
          have HQ2 := hide (HQ.out.after hb0)
          have HP2 := hide (HP.out.after hb0)
          have e0 : (wr.alloc (.cells #[pt a.D2, .int .i64 2, .func (.func 55) #[pt a.B] #[]] 153)).cell? ⟨wr.heap.size, 0, none⟩ = some (pt a.D2) := HN.out.cell 0 rfl
          clear d0 d1 d2 HD HQ HP HN
          generalize wr.alloc (.cells #[pt a.D2, .int .i64 2, .func (.func 55) #[pt a.B] #[]] 153) = W at *
          have c := HQ2.out.at 160 (pt a.Pl) (by omega) rfl
          go_region_with (first | (go_at_call 117; refine (nowE _ _ _ _ (HP2.out.after (Below.refl _ _).drew)).mono ?_; rintro e w' ⟨rfl, hw⟩; obtain rfl := hw.symm) | (go_at_call 116; refine (tickDE _ _ _ _ _ (HQ2.out.drew).D2).mono ?_; rintro e w2 ⟨rfl, hb⟩) | (go_at_call 115; refine (send_no _ _).mono ?_; rintro e w3 ⟨rfl, hw⟩; obtain rfl := hw.symm))
          all_goals
            have hx := hide (below_two HB2.out (below_next (Below.refl W.heap.size W).drew (Nat.le_refl _) hb))
            clear c e0 HB2 HQ2 HP2 hb
            go_wp2_with fail
            go_roundw
            case rel => exact ⟨2, by go_num, by omega, hx⟩
            case measure => simp [intOf]
end Go.Proofs.YtapfaaaepnplcaaGreatDoor
set_option maxRecDepth 100000
set_option maxHeartbeats 8000000
namespace Go.Proofs.YtapfaaaepnplcaaGreatDoor
open Go.RowKit Go.Great
theorem newDesk_any (w : World) (a b : Int) (h : 0 ≤ a ∧ a ≤ 255 ∧ 1 ≤ b ∧ b ≤ 65535) (F : FuncId) (B : Nat) : Calls Tryz.prog 53 #[.int .i64 a, .int .i64 b, .func (.func F) #[pt B] #[]] w fun e w' => ∃ D, e = .returned (.agg #[pt D, .int .i64 a, .func (.func F) #[pt B] #[]]) ∧ DskE w' D a b ∧ Below w.heap.size w w' ∧ w.heap.size ≤ D := by
  go_enter Tryz.func53, Tryz.ntmps53
  go_wp2_with fail
  refine (newDE _ a b h).mono ?_
  rintro e w1 ⟨D, rfl, hD, hb, hs⟩
  have HZ := hide ((Blk.new w #[.pointer none, .int .i64 0, .nilFunc] 153).after hb)
  have HB := hide (below_two (below_alloc w (.cells #[.pointer none, .int .i64 0, .nilFunc] 153)) hb)
  have HD := hide hD
  have hD1 := HD.out.lt
  rw [size_alloc] at hs
  clear hb hD
  have c0 := HZ.out.cell 0 (v := .pointer none) rfl
  have c1 := HZ.out.cell 1 (v := .int .i64 0) rfl
  have c2 := HZ.out.cell 2 (v := .nilFunc) rfl
  have f0 := HZ.out.frozen 0
  have f1 := HZ.out.frozen 1
  have f2 := HZ.out.frozen 2
  have hst := fun w' => run_store Tryz.prog w' ⟨w.heap.size, 2, none⟩ (.func (.func F) #[pt B] #[]) .plain rfl
  go_wp2_with fail
  have z1 : Blk (w1.setCell ⟨w.heap.size, 0, none⟩ (pt D)) w.heap.size #[pt D, .int .i64 0, .nilFunc] 153 := HZ.out.set 0 _
  have z2 : Blk ((w1.setCell ⟨w.heap.size, 0, none⟩ (pt D)).setCell ⟨w.heap.size, 1, none⟩ (.int .i64 a)) w.heap.size #[pt D, .int .i64 a, .nilFunc] 153 := z1.set 1 _
  have z3 : Blk (((w1.setCell ⟨w.heap.size, 0, none⟩ (pt D)).setCell ⟨w.heap.size, 1, none⟩ (.int .i64 a)).setCell ⟨w.heap.size, 2, none⟩ (.func (.func F) #[pt B] #[])) w.heap.size #[pt D, .int .i64 a, .func (.func F) #[pt B] #[]] 153 := z2.set 2 _
  have b3 := below_set (below_set (below_set HB.out w.heap.size 0 (pt D) (Nat.le_refl _) HB.out.size) w.heap.size 1 (.int .i64 a) (Nat.le_refl _) (by simp only [setCell_size]; exact HB.out.size)) w.heap.size 2 (.func (.func F) #[pt B] #[]) (Nat.le_refl _) (by simp only [setCell_size]; exact HB.out.size)
  refine bodyPost_ret (res_back Tryz.results53 Tryz.underlying153 (by kernel_rfl) _ _ w.heap.size rfl z3) rfl ?_
  exact ⟨D, rfl, Blk.setOther (Blk.setOther (Blk.setOther HD.out (by omega) _ _) (by omega) _ _) (by omega) _ _, b3, by omega⟩
theorem makeJobs_any (w : World) (B : Nat) : Calls Tryz.prog 21 #[pt B] w fun e w' => e = .returned (.slice (some ⟨w.heap.size, 0, none⟩) 7 7) ∧ Blk w' w.heap.size #[.int .i64 1, .int .i64 0, .int .i64 0, .func (.func 56) #[pt B] #[], .int .i64 1, .int .i64 0, .int .i64 1, .func (.func 57) #[pt B] #[], .int .i64 1, .int .i64 0, .int .i64 2, .func (.func 58) #[pt B] #[], .int .i64 4, .int .i64 0, .int .i64 3, .func (.func 59) #[pt B] #[], .int .i64 1, .int .i64 0, .int .i64 4, .func (.func 60) #[pt B] #[], .int .i64 40, .int .i64 0, .int .i64 5, .func (.func 61) #[pt B] #[], .int .i64 80, .int .i64 20, .int .i64 6, .func (.func 62) #[pt B] #[]] 94 ∧ Below w.heap.size w w' := by
  go_enter Tryz.func21, Tryz.ntmps21
  go_wp2_with fail
  go_ret
  exact ⟨rfl, Blk.new _ _ _, below_alloc _ _⟩
theorem makeDesks_any (w : World) (B : Nat) : Calls Tryz.prog 20 #[pt B] w fun e w' => ∃ g D E, e = .returned (.slice (some ⟨g, 0, none⟩) 2 2) ∧ Blk w' g #[pt D, .int .i64 1, .func (.func 54) #[pt B] #[], pt E, .int .i64 2, .func (.func 55) #[pt B] #[]] 153 ∧ DskE w' D 1 64 ∧ DskE w' E 2 73 ∧ Below w.heap.size w w' := by
  go_enter Tryz.func20, Tryz.ntmps20
  go_wp2_with fail
  refine (newDesk_any _ 1 64 (by omega) _ _).mono ?_
  rintro e w1 ⟨D, rfl, hD, hb, hs⟩
  have HD := hide hD
  have HB := hide hb
  clear hD hb hs
  go_wp2_with fail
  refine (newDesk_any _ 2 73 (by omega) _ _).mono ?_
  rintro e w2 ⟨E, rfl, hE, hb, hs⟩
  have HD2 := hide (Blk.after HD.out hb)
  have HE := hide hE
  have HB2 := hide (below_two HB.out hb)
  clear hE hb hs HD HB
  go_wp2_with fail
  go_ret
  exact ⟨_, D, E, rfl, Blk.new _ _ _, Blk.after HD2.out (below_alloc _ _), Blk.after HE.out (below_alloc _ _), below_two HB2.out (below_alloc _ _)⟩
end Go.Proofs.YtapfaaaepnplcaaGreatDoor
