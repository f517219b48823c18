/- The document's battery: Step. -/
import Derived.Test.YtnofpcoohbmnpaaPwS
namespace Go.Proofs.Ytnofpcoohbmnpaa
open Go.RowKit Go.Great

/-- what is left is in order -/
def BLe (t : Ba) : Prop := t.lo ≤ t.hi
theorem sat_mono {x y : Int} (h : x ≤ y) : sat x ≤ sat y := by
  unfold sat
  repeat' split
  all_goals omega
theorem span_le {l : List Int} (hs : Sound l) (x : Int) : sLo l x ≤ sHi l x := sat_mono (by have := off_in hs; omega)
theorem tick_le {t : Ba} (ht : BOk t) (h : BLe t) : BLe (tick t) := by
  unfold tick
  split
  · have h1 : sat (t.lo - drn t.l) ≤ t.lo := by
      have := ht.lo
      have := drn_in ht.snd
      unfold I64 at *
      unfold sat
      repeat' split
      all_goals omega
    show sat (t.lo - drn t.l) ≤ t.hi
    unfold BLe at h
    omega
  · exact h
theorem hear_le {t : Ba} (hs : Sound t.l) (x : Int) : BLe (hearS t x) := by
  unfold hearS
  split
  · rename_i h
    show cLo t x ≤ cHi t x
    have := h.2
    omega
  · exact span_le hs x
theorem stp_le {t : Ba} (ht : BOk t) (h : BLe t) (o : Bool) (x : Int) : BLe (stpS t o x) := by
  unfold stpS
  split
  · exact hear_le (tick_ok ht).snd x
  · exact tick_le ht h
/-- the document's cut is the program's -/
theorem hear_ref {t : Ba} (hs : Sound t.l) (h : BLe t) (x : Int) : hearS t x = if t.kn = true ∧ sLo t.l x ≤ t.hi ∧ t.lo ≤ sHi t.l x then ⟨t.l, if sLo t.l x < t.lo then t.lo else sLo t.l x, if t.hi < sHi t.l x then t.hi else sHi t.l x, true⟩ else ⟨t.l, sLo t.l x, sHi t.l x, true⟩ := by
  have h1 := span_le hs x
  unfold BLe at h
  unfold hearS cLo cHi
  generalize sLo t.l x = a at *
  generalize sHi t.l x = b at *
  have e1 : (if t.lo < a then a else t.lo) = (if a < t.lo then t.lo else a) := by split <;> split <;> omega
  have e2 : (if b < t.hi then b else t.hi) = (if t.hi < b then t.hi else b) := by split <;> split <;> omega
  have e3 : (¬ (if t.hi < b then t.hi else b) < (if a < t.lo then t.lo else a)) ↔ (a ≤ t.hi ∧ t.lo ≤ b) := by split <;> split <;> omega
  rw [e1, e2]
  exact ite_congr (propext (and_congr_right fun _ => e3)) (fun _ => rfl) (fun _ => rfl)
theorem rb_back {fn : Func} {p : Tmp} (h : fn.results = #[.cell p 33]) (tmps : Array Value) (w : World) (g : Nat) (c0 c1 c2 c3 c4 : Value) (hp : tmps.getD p undef = .pointer (some ⟨g, 0, none⟩)) (hg : Blk w g #[c0, c1, c2, c3, c4] 33) : (results fn tmps).run Try.prog w = .ok (.agg #[c0, c1, c2, c3, c4]) w :=
  res_back h Try.underlying33 (by kernel_rfl) tmps w g hp hg
/-- the three boxes of a step -/
structure RB (w : World) (u : Value) (d lo hi : Int) (k o : Bool) (x : Int) (wx : World) : Prop where
  bat : Blk wx w.heap.size #[u, .int .i64 d, .bool k, .int .i64 lo, .int .i64 hi] 33
  rd : Blk wx (w.heap.size + 1) #[.bool o, .int .i64 x] 42
  res : Blk wx (w.heap.size + 1 + 1) #[.slice none 0 0, .int .i64 0, .bool false, .int .i64 0, .int .i64 0] 33
  bel : Below w.heap.size w wx
theorem RB.after {w : World} {u : Value} {d lo hi : Int} {k o : Bool} {x : Int} {wx wy : World} (h : RB w u d lo hi k o x wx) (hb : Below wx.heap.size wx wy) : RB w u d lo hi k o x wy :=
  ⟨h.bat.after hb, h.rd.after hb, h.res.after hb, below_next h.bel (Nat.le_refl _) hb⟩
theorem RB.setOther {w : World} {u : Value} {d lo hi : Int} {k o : Bool} {x : Int} {wx : World} (h : RB w u d lo hi k o x wx) {B : Nat} (hB : w.heap.size + 1 + 1 < B) (i : Nat) (y : Value) : RB w u d lo hi k o x (wx.setCell ⟨B, i, none⟩ y) :=
  ⟨h.bat.setOther (by omega) _ _, h.rd.setOther (by omega) _ _, h.res.setOther (by omega) _ _, below_set h.bel _ _ _ (by omega) (by have := h.res.lt; omega)⟩
theorem RB.drew {w : World} {u : Value} {d lo hi : Int} {k o : Bool} {x : Int} {wx : World} (h : RB w u d lo hi k o x wx) : RB w u d lo hi k o x wx.drew :=
  ⟨blk_drew h.bat, blk_drew h.rd, blk_drew h.res, h.bel.drew⟩
theorem RB.put {w : World} {u : Value} {d lo hi : Int} {k o : Bool} {x : Int} {wx : World} (h : RB w u d lo hi k o x wx) (i : Nat) (y : Value) {lo' hi' : Int} {k' : Bool} (e : (#[u, .int .i64 d, .bool k, .int .i64 lo, .int .i64 hi] : Array Value).setIfInBounds i y = #[u, .int .i64 d, .bool k', .int .i64 lo', .int .i64 hi']) : RB w u d lo' hi' k' o x (wx.setCell ⟨w.heap.size, i, none⟩ y) :=
  ⟨by have := h.bat.set i y; rw [e] at this; exact this, h.rd.setOther (by omega) _ _, h.res.setOther (by omega) _ _, below_set h.bel _ _ _ (Nat.le_refl _) (by have := h.res.lt; omega)⟩
theorem RB.cells {w : World} {u : Value} {d lo hi : Int} {k o : Bool} {x : Int} {wx : World} (h : RB w u d lo hi k o x wx) : wx.cell? ⟨w.heap.size, 0, none⟩ = some u ∧ wx.cell? ⟨w.heap.size, 1, none⟩ = some (.int .i64 d) ∧ wx.cell? ⟨w.heap.size, 2, none⟩ = some (.bool k) ∧ wx.cell? ⟨w.heap.size, 3, none⟩ = some (.int .i64 lo) ∧ wx.cell? ⟨w.heap.size, 4, none⟩ = some (.int .i64 hi) ∧ wx.cell? ⟨w.heap.size + 1, 0, none⟩ = some (.bool o) ∧ wx.cell? ⟨w.heap.size + 1, 1, none⟩ = some (.int .i64 x) :=
  ⟨h.bat.cell 0 rfl, h.bat.cell 1 rfl, h.bat.cell 2 rfl, h.bat.cell 3 rfl, h.bat.cell 4 rfl, h.rd.cell 0 rfl, h.rd.cell 1 rfl⟩
theorem RB.rcells {w : World} {u : Value} {d lo hi : Int} {k o : Bool} {x : Int} {wx : World} (h : RB w u d lo hi k o x wx) : wx.cell? ⟨w.heap.size + 1 + 1, 0, none⟩ = some (.slice none 0 0) ∧ wx.cell? ⟨w.heap.size + 1 + 1, 1, none⟩ = some (.int .i64 0) ∧ wx.cell? ⟨w.heap.size + 1 + 1, 2, none⟩ = some (.bool false) ∧ wx.cell? ⟨w.heap.size + 1 + 1, 3, none⟩ = some (.int .i64 0) ∧ wx.cell? ⟨w.heap.size + 1 + 1, 4, none⟩ = some (.int .i64 0) :=
  ⟨h.res.cell 0 rfl, h.res.cell 1 rfl, h.res.cell 2 rfl, h.res.cell 3 rfl, h.res.cell 4 rfl⟩
set_option maxHeartbeats 4000000 in
set_option maxRecDepth 100000 in
theorem rstepP (w : World) (u : Value) (t : Ba) (o : Bool) (x : Int) (hv : Ints w u t.l) (ht : BOk t) (hle : BLe t) (hx : I64 x) : Calls Try.prog 14 #[.agg (rbC u t), rdV o x] w fun e w' => e = .returned (.agg (rbC u (stpS t o x))) ∧ Below w.heap.size w w' := by
  have hd := drn_in ht.snd
  have ho := off_in ht.snd
  obtain ⟨g, og, cap, rfl, hg, hcc⟩ := hv.open24 ht.snd.len
  have HC := hide (hcc 18 (by omega))
  have C0 : Hid (∀ w, Calls Try.prog 25 #[.int .i64 t.lo, .int .i64 (drn t.l)] w fun e w' => e = .returned (.int .i64 (sat (t.lo - drn t.l))) ∧ Below w.heap.size w w') := hide (fun w => ref_sub_any t.lo (drn t.l) w ht.lo (by unfold I64; omega))
  have C1 : Hid (∀ w, Calls Try.prog 25 #[.int .i64 x, .int .i64 (t.l.getD 18 0)] w fun e w' => e = .returned (.int .i64 (sLo t.l x)) ∧ Below w.heap.size w w') := hide (fun w => ref_sub_any x (t.l.getD 18 0) w hx (by unfold I64; omega))
  have C2 : Hid (∀ w, Calls Try.prog 26 #[.int .i64 x, .int .i64 (t.l.getD 18 0)] w fun e w' => e = .returned (.int .i64 (sHi t.l x)) ∧ Below w.heap.size w w') := hide (fun w => ref_add_any x (t.l.getD 18 0) w hx (by unfold I64; omega))
  have HF := hide (hear_ref (t := tick t) (tick_ok ht).snd (tick_le ht hle) x)
  have HT : Hid (stpS t o x = if o = true then hearS (tick t) x else tick t) := hide rfl
  rw [tick_l] at HF
  have HK : Hid (tick t = if t.kn = true then { t with lo := sat (t.lo - drn t.l) } else t) := hide rfl
  obtain ⟨t', ht'⟩ : ∃ y, Hid (tick t = y) := ⟨_, hide rfl⟩
  have TL : Hid (t'.l = t.l) := hide (by rw [← ht'.out]; exact tick_l t)
  have TH : Hid (t'.hi = t.hi ∧ t'.kn = t.kn) := hide (by rw [← ht'.out, HK.out]; split <;> exact ⟨rfl, rfl⟩)
  rw [ht'.out] at HF HT HK
  generalize sLo t.l x = a at *
  generalize sHi t.l x = b at *
  generalize t.l.getD 18 0 = off at *
  generalize sat (t.lo - drn t.l) = z at *
  obtain ⟨W0, hW0, b0, K0, M0, R0, hz0⟩ := three_boxes w #[.slice (some ⟨g, og, none⟩) 24 cap, .int .i64 (drn t.l), .bool t.kn, .int .i64 t.lo, .int .i64 t.hi] #[.bool o, .int .i64 x] #[.slice none 0 0, .int .i64 0, .bool false, .int .i64 0, .int .i64 0] 33 42 33
  have HS : Hid (RB w (.slice (some ⟨g, og, none⟩) 24 cap) (drn t.l) t.lo t.hi t.kn o x W0) := hide ⟨K0, M0, R0, b0⟩
  obtain ⟨d, hdd⟩ : ∃ y, Hid (drn t.l = y) := ⟨_, hide rfl⟩
  clear K0 M0 R0 b0 hcc hv ht hle hx hd ho ht' hz0
  unfold rbC
  rw [hdd.out] at C0 HS hW0 ⊢
  obtain ⟨k, hk⟩ : ∃ k, Hid (t.kn = k) := ⟨_, hide rfl⟩
  rw [hk.out] at HS hW0 HK TH ⊢
  obtain ⟨v0, v1, v2, v3, v4, v5, v6⟩ := HS.out.cells
  go_enter Try.func14, Try.ntmps14
  go_upto_if 8 with fail
  clear hW0
  go_cut [] (fun wx => RB w (.slice (some ⟨g, og, none⟩) 24 cap) d t'.lo t.hi k o x wx)
  case first =>
    cases k
    · go_wp2_with fail
      go_meet
      rw [show t'.lo = t.lo by rw [HK.out]; rfl]
      exact HS.out
    · go_upto_region 2 with fail
      go_wp2_with (go_at_call 25; refine (C0.out _).mono ?_; rintro e w1 ⟨rfl, hb1⟩; replace HS := hide (HS.out.after hb1); obtain ⟨k0, k1, k2, k3, k4, k5, k6⟩ := HS.out.cells; have kf := HS.out.bat.frozen 3)
      go_meet
      rw [show t'.lo = z by rw [HK.out]; rfl]
      exact HS.out.put 3 (.int .i64 z) rfl
  case rest =>
    have HS2 := hide hcut
    clear hcut HS v0 v1 v2 v3 v4 v5 v6 C0
    obtain ⟨v0, v1, v2, v3, v4, v5, v6⟩ := HS2.out.cells
    obtain ⟨r0, r1, r2, r3, r4⟩ := HS2.out.rcells
    have f0 := HS2.out.res.frozen 0
    have f1 := HS2.out.res.frozen 1
    have f2 := HS2.out.res.frozen 2
    have f3 := HS2.out.res.frozen 3
    have f4 := HS2.out.res.frozen 4
    have EE : Hid (∀ s : Ba, s.l = t.l → stpS t o x = s → Ending.returned (.agg #[.slice (some ⟨g, og, none⟩) 24 cap, .int .i64 d, .bool s.kn, .int .i64 s.lo, .int .i64 s.hi]) = .returned (.agg #[.slice (some ⟨g, og, none⟩) 24 cap, .int .i64 (drn (stpS t o x).l), .bool (stpS t o x).kn, .int .i64 (stpS t o x).lo, .int .i64 (stpS t o x).hi])) := hide (fun s hl e => by rw [e, hl, hdd.out])
    cases o
    · have P5 := put5 HS2.out.res HS2.out.bel (by omega) (.slice (some ⟨g, og, none⟩) 24 cap) (.int .i64 d) (.bool k) (.int .i64 t'.lo) (.int .i64 t.hi)
      have ES := EE.out t' TL.out HT.out
      rw [TH.out.1, TH.out.2] at ES
      have HES := hide ES
      have HP5 := hide P5
      clear P5 ES EE
      go_wp2_with fail
      exact bodyPost_ret (rb_back (p := 4) (by kernel_rfl) _ _ (w.heap.size + 1 + 1) _ _ _ _ _ rfl HP5.out.1) rfl ⟨HES.out, HP5.out.2⟩
    · rw [if_pos rfl] at HT
      have c18 : wc.cell? ⟨g, og + 18, none⟩ = some (.int .i64 off) := (HS2.out.bel.cell (p := ⟨g, og + 18, none⟩) hg).trans HC.out
      go_upto_region 6 with fail
      clear v0 v1 v2 v3 v4 v5 v6 r0 r1 r2 r3 r4 f0 f1 f2 f3 f4 c18
      go_cut [6] (fun vv wx => ∃ q, vv = .pointer (some ⟨q, 0, none⟩) ∧ w.heap.size + 1 + 1 < q ∧ Blk wx q #[.int .i64 a, .int .i64 b] 31 ∧ RB w (.slice (some ⟨g, og, none⟩) 24 cap) d t'.lo t.hi k true x wx)
      case first =>
        refine reg_last_held (fun wx => wx.cell? ⟨w.heap.size + 1, 1, none⟩ = some (.int .i64 x)) 10 rfl rfl _ rfl (by kernel_rfl) (by kernel_rfl) (HS2.out.rd.cell 1 rfl) (fun hHeld => ?_)
        simp only [List.take_succ_cons, List.take_zero]
        replace HS2 := hide (HS2.out.drew)
        generalize wc.drew = Wd at *
        refine take_at (i := 0) (v := .pointer (some ⟨w.heap.size + 1, 1, none⟩)) (d := some 25) rfl rfl (by kernel_rfl) (by kernel_rfl) (by kernel_rfl) (fun _ _ _ h => h) (Or.inl ⟨by rfl, fun wS hSw => by go_simp; all_goals (rw [IntKind.wrap_i64]; omega)⟩) (by assumption) ?_
        simp only [Act.put, List.setIfInBounds_toArray, List.set_cons_zero, List.set_cons_succ]
        refine take_at (i := 1) (v := .int .i64 x) (d := some 26) rfl rfl (by kernel_rfl) (by kernel_rfl) (by kernel_rfl) (fun _ _ _ h => h) (Or.inl ⟨by rfl, fun wS hSw => by go_simp; all_goals (rw [IntKind.wrap_i64]; omega)⟩) (by assumption) ?_
        simp only [Act.put, List.setIfInBounds_toArray, List.set_cons_zero, List.set_cons_succ]
        refine take_at (i := 2) (v := .int .i64 off) (d := some 27) rfl rfl (by kernel_rfl) (by kernel_rfl) (by kernel_rfl) (fun _ _ _ h => h) (Or.inl ⟨by rfl, fun wS hSw => by go_simp; all_goals (rw [IntKind.wrap_i64]; omega)⟩) (by assumption) ?_
        simp only [Act.put, List.setIfInBounds_toArray, List.set_cons_zero, List.set_cons_succ]
        refine take_at (i := 4) (v := .pointer (some ⟨w.heap.size + 1, 1, none⟩)) (d := some 29) rfl rfl (by kernel_rfl) (by kernel_rfl) (by kernel_rfl) (fun _ _ _ h => h) (Or.inl ⟨by rfl, fun wS hSw => by go_simp; all_goals (rw [IntKind.wrap_i64]; omega)⟩) (by assumption) ?_
        simp only [Act.put, List.setIfInBounds_toArray, List.set_cons_zero, List.set_cons_succ]
        refine take_at (i := 5) (v := .int .i64 x) (d := some 30) rfl rfl (by kernel_rfl) (by kernel_rfl) (by kernel_rfl) (fun _ _ _ h => h) (Or.inl ⟨by rfl, fun wS hSw => by go_simp; all_goals (rw [IntKind.wrap_i64]; omega)⟩) (by assumption) ?_
        simp only [Act.put, List.setIfInBounds_toArray, List.set_cons_zero, List.set_cons_succ]
        refine take_at (i := 6) (v := .int .i64 off) (d := some 31) rfl rfl (by kernel_rfl) (by kernel_rfl) (by kernel_rfl) (fun _ _ _ h => h) (Or.inl ⟨by rfl, fun wS hSw => by go_simp; all_goals (rw [IntKind.wrap_i64]; omega)⟩) (by assumption) ?_
        simp only [Act.put, List.setIfInBounds_toArray, List.set_cons_zero, List.set_cons_succ]
        clear hHeld
        refine wpAnyH_ready (rs := [3, 9]) (by kernel_rfl) (by simp) ?_
        refine AllReadyH.cons rfl (fun K hK => ?_) (AllReadyH.cons rfl (fun K hK => ?_) AllReadyH.nil)
        · go_simp
          refine (C1.out _).mono ?_
          rintro e wt1 ⟨rfl, hb⟩
          replace HS2 := hide (HS2.out.after hb)
          clear hb
          refine hK.out _ _ (HS2.out.rd.cell 1 rfl) (fun hHeld => ?_)
          clear hK K
          clear hHeld
          refine wpAnyH_ready (rs := [7, 9]) (by kernel_rfl) (by simp) ?_
          refine AllReadyH.cons rfl (fun K hK => ?_) (AllReadyH.cons rfl (fun K hK => ?_) AllReadyH.nil)
          · go_simp
            refine (C2.out _).mono ?_
            rintro e wt2 ⟨rfl, hb⟩
            replace HS2 := hide (HS2.out.after hb)
            clear hb
            refine hK.out _ _ (HS2.out.rd.cell 1 rfl) (fun hHeld => ?_)
            clear hK K
            refine take_at (i := 8) (v := .agg #[.int .i64 a, .int .i64 b]) (d := some 33) rfl rfl (by kernel_rfl) (by kernel_rfl) (by kernel_rfl) (fun _ _ _ h => h) (Or.inl ⟨by rfl, fun wS hSw => by go_simp; all_goals (rw [IntKind.wrap_i64]; omega)⟩) (by assumption) ?_
            simp only [Act.put, List.setIfInBounds_toArray, List.set_cons_zero, List.set_cons_succ]
            clear hHeld
            refine wpAnyH_ready (rs := [9]) (by kernel_rfl) (by simp) ?_
            refine AllReadyH.cons rfl (fun K hK => ?_) AllReadyH.nil
            go_simp
            have HZ := hide (Blk.new wt2 #[.int .i64 0, .int .i64 0] 31)
            have hzb := HS2.out.res.lt
            replace HS2 := hide (HS2.out.after (below_alloc wt2 (.cells #[.int .i64 0, .int .i64 0] 31)))
            generalize wt2.heap.size = bz at *
            generalize wt2.alloc (.cells #[.int .i64 0, .int .i64 0] 31) = wt3 at *
            refine hK.out _ _ (HS2.out.rd.cell 1 rfl) (fun hHeld => ?_)
            clear hK K
            clear hHeld
            refine wpAnyH_done (by kernel_rfl) (then_last ?_) _
            have z0 : wt3.cell? ⟨bz, 0, none⟩ = some (.int .i64 0) := HZ.out.cell 0 rfl
            have z1 : wt3.cell? ⟨bz, 1, none⟩ = some (.int .i64 0) := HZ.out.cell 1 rfl
            have f0 := HZ.out.frozen 0
            have f1 := HZ.out.frozen 1
            go_simp
            (try go_wp2_with fail)
            go_meet
            exact ⟨bz, rfl, hzb, HZ.out.set2 _ _, (HS2.out.setOther (by omega) _ _).setOther (by omega) _ _⟩
          · go_simp
            have HZ := hide (Blk.new wt1 #[.int .i64 0, .int .i64 0] 31)
            have hzb := HS2.out.res.lt
            replace HS2 := hide (HS2.out.after (below_alloc wt1 (.cells #[.int .i64 0, .int .i64 0] 31)))
            generalize wt1.heap.size = bz at *
            generalize wt1.alloc (.cells #[.int .i64 0, .int .i64 0] 31) = wt4 at *
            refine hK.out _ _ (HS2.out.rd.cell 1 rfl) (fun hHeld => ?_)
            clear hK K
            clear hHeld
            refine wpAnyH_ready (rs := [7]) (by kernel_rfl) (by simp) ?_
            refine AllReadyH.cons rfl (fun K hK => ?_) AllReadyH.nil
            go_simp
            refine (C2.out _).mono ?_
            rintro e wt5 ⟨rfl, hb⟩
            replace HS2 := hide (HS2.out.after hb)
            replace HZ := hide (HZ.out.after hb)
            clear hb
            refine hK.out _ _ (HS2.out.rd.cell 1 rfl) (fun hHeld => ?_)
            clear hK K
            refine take_at (i := 8) (v := .agg #[.int .i64 a, .int .i64 b]) (d := some 33) rfl rfl (by kernel_rfl) (by kernel_rfl) (by kernel_rfl) (fun _ _ _ h => h) (Or.inl ⟨by rfl, fun wS hSw => by go_simp; all_goals (rw [IntKind.wrap_i64]; omega)⟩) (by assumption) ?_
            simp only [Act.put, List.setIfInBounds_toArray, List.set_cons_zero, List.set_cons_succ]
            clear hHeld
            refine wpAnyH_done (by kernel_rfl) (then_last ?_) _
            have z0 : wt5.cell? ⟨bz, 0, none⟩ = some (.int .i64 0) := HZ.out.cell 0 rfl
            have z1 : wt5.cell? ⟨bz, 1, none⟩ = some (.int .i64 0) := HZ.out.cell 1 rfl
            have f0 := HZ.out.frozen 0
            have f1 := HZ.out.frozen 1
            go_simp
            (try go_wp2_with fail)
            go_meet
            exact ⟨bz, rfl, hzb, HZ.out.set2 _ _, (HS2.out.setOther (by omega) _ _).setOther (by omega) _ _⟩
        · go_simp
          have HZ := hide (Blk.new Wd #[.int .i64 0, .int .i64 0] 31)
          have hzb := HS2.out.res.lt
          replace HS2 := hide (HS2.out.after (below_alloc Wd (.cells #[.int .i64 0, .int .i64 0] 31)))
          generalize Wd.heap.size = bz at *
          generalize Wd.alloc (.cells #[.int .i64 0, .int .i64 0] 31) = wt6 at *
          refine hK.out _ _ (HS2.out.rd.cell 1 rfl) (fun hHeld => ?_)
          clear hK K
          clear hHeld
          refine wpAnyH_ready (rs := [3]) (by kernel_rfl) (by simp) ?_
          refine AllReadyH.cons rfl (fun K hK => ?_) AllReadyH.nil
          go_simp
          refine (C1.out _).mono ?_
          rintro e wt7 ⟨rfl, hb⟩
          replace HS2 := hide (HS2.out.after hb)
          replace HZ := hide (HZ.out.after hb)
          clear hb
          refine hK.out _ _ (HS2.out.rd.cell 1 rfl) (fun hHeld => ?_)
          clear hK K
          clear hHeld
          refine wpAnyH_ready (rs := [7]) (by kernel_rfl) (by simp) ?_
          refine AllReadyH.cons rfl (fun K hK => ?_) AllReadyH.nil
          go_simp
          refine (C2.out _).mono ?_
          rintro e wt8 ⟨rfl, hb⟩
          replace HS2 := hide (HS2.out.after hb)
          replace HZ := hide (HZ.out.after hb)
          clear hb
          refine hK.out _ _ (HS2.out.rd.cell 1 rfl) (fun hHeld => ?_)
          clear hK K
          refine take_at (i := 8) (v := .agg #[.int .i64 a, .int .i64 b]) (d := some 33) rfl rfl (by kernel_rfl) (by kernel_rfl) (by kernel_rfl) (fun _ _ _ h => h) (Or.inl ⟨by rfl, fun wS hSw => by go_simp; all_goals (rw [IntKind.wrap_i64]; omega)⟩) (by assumption) ?_
          simp only [Act.put, List.setIfInBounds_toArray, List.set_cons_zero, List.set_cons_succ]
          clear hHeld
          refine wpAnyH_done (by kernel_rfl) (then_last ?_) _
          have z0 : wt8.cell? ⟨bz, 0, none⟩ = some (.int .i64 0) := HZ.out.cell 0 rfl
          have z1 : wt8.cell? ⟨bz, 1, none⟩ = some (.int .i64 0) := HZ.out.cell 1 rfl
          have f0 := HZ.out.frozen 0
          have f1 := HZ.out.frozen 1
          go_simp
          (try go_wp2_with fail)
          go_meet
          exact ⟨bz, rfl, hzb, HZ.out.set2 _ _, (HS2.out.setOther (by omega) _ _).setOther (by omega) _ _⟩
      case rest =>
        obtain ⟨q, rfl, hq, hQ, hS⟩ := hcut
        clear HS2
        have HS := hide hS
        have HQ := hide hQ
        clear hS hQ C1 C2
        rw [HF.out, TH.out.1, TH.out.2] at HT
        clear HF TH HC
        obtain ⟨v0, v1, v2, v3, v4, v5, v6⟩ := HS.out.cells
        have s0 : wc.cell? ⟨q, 0, none⟩ = some (.int .i64 a) := HQ.out.cell 0 rfl
        have s1 : wc.cell? ⟨q, 1, none⟩ = some (.int .i64 b) := HQ.out.cell 1 rfl
        have g2 := HS.out.bat.frozen 2
        have g3 := HS.out.bat.frozen 3
        have g4 := HS.out.bat.frozen 4
        have n0 : ¬ q = w.heap.size := by omega
        have n1 : ¬ w.heap.size = q := by omega
        rcases (show k = false ∨ (k = true ∧ ¬ a ≤ t.hi) ∨ (k = true ∧ a ≤ t.hi ∧ ¬ t'.lo ≤ b) ∨ (k = true ∧ a ≤ t.hi ∧ t'.lo ≤ b) by cases k <;> simp; omega) with rfl | ⟨rfl, h1⟩ | ⟨rfl, h1, h2⟩ | ⟨rfl, h1, h2⟩
        · have ES : Hid (stpS t true x = ⟨t.l, a, b, true⟩) := hide (by rw [HT.out]; simp)
          clear HT
          go_upto_region 11 with fail
          have HS3 := hide (((HS.out.put 3 (.int .i64 a) rfl).put 4 (.int .i64 b) rfl).put 2 (.bool true) rfl)
          clear HS v0 v1 v2 v3 v4 v5 v6 g2 g3 g4 s0 s1
          generalize ((wc.setCell ⟨w.heap.size, 3, none⟩ (.int .i64 a)).setCell ⟨w.heap.size, 4, none⟩ (.int .i64 b)).setCell ⟨w.heap.size, 2, none⟩ (.bool true) = W3 at *
          obtain ⟨v0, v1, v2, v3, v4, v5, v6⟩ := HS3.out.cells
          obtain ⟨r0, r1, r2, r3, r4⟩ := HS3.out.rcells
          have f0 := HS3.out.res.frozen 0
          have f1 := HS3.out.res.frozen 1
          have f2 := HS3.out.res.frozen 2
          have f3 := HS3.out.res.frozen 3
          have f4 := HS3.out.res.frozen 4
          have HP5 := hide (put5 HS3.out.res HS3.out.bel (by omega) (.slice (some ⟨g, og, none⟩) 24 cap) (.int .i64 d) (.bool true) (.int .i64 a) (.int .i64 b))
          have HES := hide (EE.out ⟨t.l, a, b, true⟩ rfl ES.out)
          clear EE ES
          go_wp2_with fail
          exact bodyPost_ret (rb_back (p := 4) (by kernel_rfl) _ _ (w.heap.size + 1 + 1) _ _ _ _ _ rfl HP5.out.1) rfl ⟨HES.out, HP5.out.2⟩
        · have ES : Hid (stpS t true x = ⟨t.l, a, b, true⟩) := hide (by rw [HT.out, if_neg (fun q => h1 q.2.1)])
          clear HT
          go_upto_region 11 with fail
          have HS3 := hide (((HS.out.put 3 (.int .i64 a) rfl).put 4 (.int .i64 b) rfl).put 2 (.bool true) rfl)
          clear HS v0 v1 v2 v3 v4 v5 v6 g2 g3 g4 s0 s1
          generalize ((wc.setCell ⟨w.heap.size, 3, none⟩ (.int .i64 a)).setCell ⟨w.heap.size, 4, none⟩ (.int .i64 b)).setCell ⟨w.heap.size, 2, none⟩ (.bool true) = W3 at *
          obtain ⟨v0, v1, v2, v3, v4, v5, v6⟩ := HS3.out.cells
          obtain ⟨r0, r1, r2, r3, r4⟩ := HS3.out.rcells
          have f0 := HS3.out.res.frozen 0
          have f1 := HS3.out.res.frozen 1
          have f2 := HS3.out.res.frozen 2
          have f3 := HS3.out.res.frozen 3
          have f4 := HS3.out.res.frozen 4
          have HP5 := hide (put5 HS3.out.res HS3.out.bel (by omega) (.slice (some ⟨g, og, none⟩) 24 cap) (.int .i64 d) (.bool true) (.int .i64 a) (.int .i64 b))
          have HES := hide (EE.out ⟨t.l, a, b, true⟩ rfl ES.out)
          clear EE ES
          go_wp2_with fail
          exact bodyPost_ret (rb_back (p := 4) (by kernel_rfl) _ _ (w.heap.size + 1 + 1) _ _ _ _ _ rfl HP5.out.1) rfl ⟨HES.out, HP5.out.2⟩
        · have ES : Hid (stpS t true x = ⟨t.l, a, b, true⟩) := hide (by rw [HT.out, if_neg (fun q => h2 q.2.2)])
          clear HT
          go_upto_region 11 with fail
          have HS3 := hide (((HS.out.put 3 (.int .i64 a) rfl).put 4 (.int .i64 b) rfl).put 2 (.bool true) rfl)
          clear HS v0 v1 v2 v3 v4 v5 v6 g2 g3 g4 s0 s1
          generalize ((wc.setCell ⟨w.heap.size, 3, none⟩ (.int .i64 a)).setCell ⟨w.heap.size, 4, none⟩ (.int .i64 b)).setCell ⟨w.heap.size, 2, none⟩ (.bool true) = W3 at *
          obtain ⟨v0, v1, v2, v3, v4, v5, v6⟩ := HS3.out.cells
          obtain ⟨r0, r1, r2, r3, r4⟩ := HS3.out.rcells
          have f0 := HS3.out.res.frozen 0
          have f1 := HS3.out.res.frozen 1
          have f2 := HS3.out.res.frozen 2
          have f3 := HS3.out.res.frozen 3
          have f4 := HS3.out.res.frozen 4
          have HP5 := hide (put5 HS3.out.res HS3.out.bel (by omega) (.slice (some ⟨g, og, none⟩) 24 cap) (.int .i64 d) (.bool true) (.int .i64 a) (.int .i64 b))
          have HES := hide (EE.out ⟨t.l, a, b, true⟩ rfl ES.out)
          clear EE ES
          go_wp2_with fail
          exact bodyPost_ret (rb_back (p := 4) (by kernel_rfl) _ _ (w.heap.size + 1 + 1) _ _ _ _ _ rfl HP5.out.1) rfl ⟨HES.out, HP5.out.2⟩
        · rw [if_pos ⟨rfl, h1, h2⟩] at HT
          obtain ⟨L, hL⟩ : ∃ y, Hid ((if a < t'.lo then t'.lo else a) = y) := ⟨_, hide rfl⟩
          obtain ⟨H, hH⟩ : ∃ y, Hid ((if t.hi < b then t.hi else b) = y) := ⟨_, hide rfl⟩
          rw [hL.out, hH.out] at HT
          have ES := hide HT.out
          clear HT
          have e0 := HQ.out.frozen 0
          have e1 := HQ.out.frozen 1
          go_upto_region 9 with fail
          rw [hL.out, hH.out]
          replace HS := hide ((HS.out.setOther hq 0 (.int .i64 L)).setOther hq 1 (.int .i64 H))
          replace HQ := hide (HQ.out.set2 (.int .i64 L) (.int .i64 H))
          clear v0 v1 v2 v3 v4 v5 v6 g2 g3 g4 s0 s1 e0 e1
          generalize (wc.setCell ⟨q, 0, none⟩ (.int .i64 L)).setCell ⟨q, 1, none⟩ (.int .i64 H) = W2 at *
          obtain ⟨v0, v1, v2, v3, v4, v5, v6⟩ := HS.out.cells
          have s0 : W2.cell? ⟨q, 0, none⟩ = some (.int .i64 L) := HQ.out.cell 0 rfl
          have s1 : W2.cell? ⟨q, 1, none⟩ = some (.int .i64 H) := HQ.out.cell 1 rfl
          have g2 := HS.out.bat.frozen 2
          have g3 := HS.out.bat.frozen 3
          have g4 := HS.out.bat.frozen 4
          go_upto_region 11 with fail
          have HS3 := hide (((HS.out.put 3 (.int .i64 L) rfl).put 4 (.int .i64 H) rfl).put 2 (.bool true) rfl)
          clear HS v0 v1 v2 v3 v4 v5 v6 g2 g3 g4 s0 s1
          generalize ((W2.setCell ⟨w.heap.size, 3, none⟩ (.int .i64 L)).setCell ⟨w.heap.size, 4, none⟩ (.int .i64 H)).setCell ⟨w.heap.size, 2, none⟩ (.bool true) = W3 at *
          obtain ⟨v0, v1, v2, v3, v4, v5, v6⟩ := HS3.out.cells
          obtain ⟨r0, r1, r2, r3, r4⟩ := HS3.out.rcells
          have f0 := HS3.out.res.frozen 0
          have f1 := HS3.out.res.frozen 1
          have f2 := HS3.out.res.frozen 2
          have f3 := HS3.out.res.frozen 3
          have f4 := HS3.out.res.frozen 4
          have HP5 := hide (put5 HS3.out.res HS3.out.bel (by omega) (.slice (some ⟨g, og, none⟩) 24 cap) (.int .i64 d) (.bool true) (.int .i64 L) (.int .i64 H))
          have HES := hide (EE.out ⟨t.l, L, H, true⟩ rfl ES.out)
          clear EE ES
          go_wp2_with fail
          exact bodyPost_ret (rb_back (p := 4) (by kernel_rfl) _ _ (w.heap.size + 1 + 1) _ _ _ _ _ rfl HP5.out.1) rfl ⟨HES.out, HP5.out.2⟩
end Go.Proofs.Ytnofpcoohbmnpaa
