/- Package store: move. -/
import Derived.Test.YtcjahdgppnmdkaaSo8
import Derived.Test.YtcjahdgppnmdkaaSo7s
set_option maxRecDepth 100000
namespace Go.Proofs.Ytcjahdgppnmdkaa
open Go.RowKit Go.Great

theorem Kept.drew1 {R : Nat} {w w1 : World} (h : Kept R w.drew w1) : Kept R w w1 := Kept.trans (Kept.drew (Kept.refl R w)) h
theorem Kep2.over {R S N : Nat} {w wc w4 : World} (h : Kep2 R S w wc) (g : Kep2 R N wc w4) (hN : w.heap.size ≤ N) : Kep2 R S w w4 :=
  ⟨g.os.trans h.os, g.tape.trans h.tape, g.output.trans h.output, Nat.le_trans h.size g.size, fun k hk h1 h2 => (g.block k (Nat.lt_of_lt_of_le hk h.size) h1 (by omega)).trans (h.block k hk h1 h2)⟩
/-- what a step leaves of a flash and its store -/
def StEnd (x : St × Option Sv) (s : Sv) (S R : Nat) (w : World) (e : Ending) (w' : World) : Prop :=
  ∃ (ok : Bool) (τ : St) (s' : Sv), e = .returned (.int .i64 (if ok then 0 else 60)) ∧ x = (τ, if ok then some s' else none) ∧ Fl w' R τ ∧ (if ok then So w' S (fp R) s'.ac s'.tu s'.en s'.k else So w' S (fp R) s.ac s.tu s.en s.k) ∧ Kep2 R S w w'
structure NextMid (w : World) (R : Nat) (ac tu : Nat) (v : Value) (wx : World) (B N : Nat) : Prop where
  v : v = fp B
  b : wx.heap[B]? = some (.cells #[fp N] 24 (0, 0))
  n : So wx N (fp R) ((1 - ac : Nat) : Int) ((folN tu : Nat) : Int) 1 kz
  g : w.heap.size ≤ N
  l : Below w.heap.size w wx
theorem so_new (w : World) (p : Value) (ac tu : Int) : So (w.alloc (.cells #[p, .int .i64 ac, .int .i64 tu, .int .i64 1, .bool false, .int .i64 0, .int .i64 0, .bool false, .int .i64 0, .int .i64 0, .bool false, .int .i64 0, .int .i64 0] 108)) w.heap.size p ac tu 1 kz := ⟨heap_alloc_new _ _⟩
theorem box_pre {w wx w2 : World} {o : Obj} (b2 : Below wx.heap.size wx w2) (hx : wx.heap = (w.alloc o).heap) : w2.heap[w.heap.size]? = some o := by
  have h1 : wx.heap[w.heap.size]? = some o := by rw [hx]; exact heap_alloc_new _ _
  rw [b2.block _ (lt_of_block h1), h1]
theorem sz1 (w : World) (o : Obj) : (w.alloc o).heap.size = w.heap.size + 1 := Array.size_push _
theorem next_a {w w2 : World} {R ac tu sp fo : Nat} (h1 : 1 - ac = sp) (h2 : folN tu = fo) (KB : Below w.heap.size w w2) : NextMid w R ac tu (fp (w2.heap.size + 1)) ((w2.alloc (.cells #[fp R, .int .i64 (sp : Int), .int .i64 (fo : Int), .int .i64 1, .bool false, .int .i64 0, .int .i64 0, .bool false, .int .i64 0, .int .i64 0, .bool false, .int .i64 0, .int .i64 0] 108)).alloc (.cells #[fp w2.heap.size] 24)) (w2.heap.size + 1) w2.heap.size := by
  subst h1 h2
  refine ⟨rfl, ?_, (so_new w2 _ _ _).below (below_alloc _ _), KB.size, (KB.alloc KB.size _).alloc (Nat.le_trans KB.size (below_alloc _ _).size) _⟩
  rw [← sz1 w2 (.cells #[fp R, .int .i64 ((1 - ac : Nat) : Int), .int .i64 ((folN tu : Nat) : Int), .int .i64 1, .bool false, .int .i64 0, .int .i64 0, .bool false, .int .i64 0, .int .i64 0, .bool false, .int .i64 0, .int .i64 0] 108)]
  exact heap_alloc_new _ _
theorem next_b {w w2 : World} {R ac tu sp fo : Nat} (h1 : 1 - ac = sp) (h2 : folN tu = fo) (KB : Below w.heap.size w w2) : NextMid w R ac tu (fp w2.heap.size) ((w2.alloc (.cells #[fp (w2.heap.size + 1)] 24)).alloc (.cells #[fp R, .int .i64 (sp : Int), .int .i64 (fo : Int), .int .i64 1, .bool false, .int .i64 0, .int .i64 0, .bool false, .int .i64 0, .int .i64 0, .bool false, .int .i64 0, .int .i64 0] 108)) w2.heap.size (w2.heap.size + 1) := by
  subst h1 h2
  refine ⟨rfl, ?_, ?_, Nat.le_trans KB.size (Nat.le_succ _), (KB.alloc KB.size _).alloc (Nat.le_trans KB.size (below_alloc _ _).size) _⟩
  · rw [(below_alloc _ _).block _ (by rw [sz1]; omega)]
    exact heap_alloc_new _ _
  · have := so_new (w2.alloc (.cells #[fp (w2.heap.size + 1)] 24)) (fp R) ((1 - ac : Nat) : Int) ((folN tu : Nat) : Int)
    rw [sz1] at this
    exact this
theorem next_c {w w2 : World} {R ac tu sp fo : Nat} (h1 : 1 - ac = sp) (h2 : folN tu = fo) (KB : Below w.heap.size w w2) (z2 : w2.heap[w.heap.size]? = some (.cells #[.pointer none] 24 (0, 0))) : NextMid w R ac tu (fp w.heap.size) ((w2.setCell ⟨w.heap.size, 0, none⟩ (fp w2.heap.size)).alloc (.cells #[fp R, .int .i64 (sp : Int), .int .i64 (fo : Int), .int .i64 1, .bool false, .int .i64 0, .int .i64 0, .bool false, .int .i64 0, .int .i64 0, .bool false, .int .i64 0, .int .i64 0] 108)) w.heap.size w2.heap.size := by
  subst h1 h2
  have hz : (w2.setCell ⟨w.heap.size, 0, none⟩ (fp w2.heap.size)).heap.size = w2.heap.size := by simp [World.setCell]
  have hb : Below w.heap.size w (w2.setCell ⟨w.heap.size, 0, none⟩ (fp w2.heap.size)) := KB.setCell (p := ⟨w.heap.size, 0, none⟩) (Nat.le_refl _) _
  refine ⟨rfl, ?_, ?_, KB.size, hb.alloc hb.size _⟩
  · rw [(below_alloc _ _).block _ (by rw [hz]; exact lt_of_block z2)]
    have h1 : w2.heap[w.heap.size]? = some (.cells [Value.pointer none].toArray 24 (0, 0)) := z2
    rw [set_list h1]
    rfl
  · have := so_new (w2.setCell ⟨w.heap.size, 0, none⟩ (fp w2.heap.size)) (fp R) ((1 - ac : Nat) : Int) ((folN tu : Nat) : Int)
    rw [hz] at this
    exact this
theorem eachS_on (ac : Nat) (k : Kp) (id : Int) (v : List UInt8) : ∀ (n i : Nat) (m : Mv), On m.σ → (eachS ac k id v i n m).2 = true → On (eachS ac k id v i n m).1.σ := by
  intro n
  induction n with
  | zero => intro i m h _; exact h
  | succ n ih =>
    intro i m h h2
    rw [eachS] at h2 ⊢
    by_cases hc : (step1 ac k id v i m).2 = true
    · rw [if_pos hc] at h2 ⊢
      refine ih _ _ ?_ h2
      unfold step1 at hc ⊢
      split
      · exact h
      · rename_i t heq
        rw [heq] at hc
        exact (addS_ok h hc).1
    · rw [if_neg hc] at h2; cases h2
theorem So.all {w : World} {S : Nat} {q : Value} {a t e : Int} {k' : Kp} (h : So w S q a t e k') (p : Value) (ac tu en : Int) (k : Kp) : So (((((((((((((w.setCell ⟨S, 0, none⟩ p).setCell ⟨S, 1, none⟩ (.int .i64 ac)).setCell ⟨S, 2, none⟩ (.int .i64 tu)).setCell ⟨S, 3, none⟩ (.int .i64 en)).setCell ⟨S, 4, none⟩ (.bool (k 0).th)).setCell ⟨S, 5, none⟩ (.int .i64 (k 0).lo)).setCell ⟨S, 6, none⟩ (.int .i64 (k 0).n)).setCell ⟨S, 7, none⟩ (.bool (k 1).th)).setCell ⟨S, 8, none⟩ (.int .i64 (k 1).lo)).setCell ⟨S, 9, none⟩ (.int .i64 (k 1).n)).setCell ⟨S, 10, none⟩ (.bool (k 2).th)).setCell ⟨S, 11, none⟩ (.int .i64 (k 2).lo)).setCell ⟨S, 12, none⟩ (.int .i64 (k 2).n)) S p ac tu en k := by
  refine ⟨?_⟩
  rw [set_list (set_list (set_list (set_list (set_list (set_list (set_list (set_list (set_list (set_list (set_list (set_list (set_list h.blk _) _) _) _) _) _) _) _) _) _) _) _) _]
  rfl
theorem Kept.all13 {w0 w : World} {S : Nat} (h : Kept S w0 w) (x0 x1 x2 x3 x4 x5 x6 x7 x8 x9 x10 x11 x12 : Value) : Kept S w0 (((((((((((((w.setCell ⟨S, 0, none⟩ x0).setCell ⟨S, 1, none⟩ x1).setCell ⟨S, 2, none⟩ x2).setCell ⟨S, 3, none⟩ x3).setCell ⟨S, 4, none⟩ x4).setCell ⟨S, 5, none⟩ x5).setCell ⟨S, 6, none⟩ x6).setCell ⟨S, 7, none⟩ x7).setCell ⟨S, 8, none⟩ x8).setCell ⟨S, 9, none⟩ x9).setCell ⟨S, 10, none⟩ x10).setCell ⟨S, 11, none⟩ x11).setCell ⟨S, 12, none⟩ x12) := (((((((((((((h.set _ _).set _ _).set _ _).set _ _).set _ _).set _ _).set _ _).set _ _).set _ _).set _ _).set _ _).set _ _).set _ _)
set_option maxHeartbeats 4000000 in
set_option maxRecDepth 100000 in
theorem move_any (w : World) (S R : Nat) (σ : St) (hon : On σ) (ac tu en : Nat) (k : Kp) (hF : Fl w R σ) (h : So w S (fp R) ac tu en k) (hac : ac < 2) (htu : tu < 3) (hk : KOk k 4096) (id : Int) (tv : ByteArray) (htv : tv.size ≤ 2000) (hfit : 1 + restM k id tv.size 0 3 ≤ 4096) :
    Calls Try.prog 76 #[fp S, .int .i64 id, .string tv] w fun e w' => StEnd (moveS σ ⟨ac, tu, en, k⟩ id tv.data.toList) ⟨ac, tu, en, k⟩ S R w e w' := by
  have O := fun wx => other_any wx ac hac
  have F := fun wx => fol_any wx tu htu
  obtain ⟨sp, hsp⟩ : ∃ sp, Hid (1 - ac = sp) := ⟨_, hide rfl⟩
  obtain ⟨fo, hfo⟩ : ∃ fo, Hid (folN tu = fo) := ⟨_, hide rfl⟩
  simp only [hsp.out] at O
  simp only [hfo.out] at F
  have c0 := h.c0
  have c1 := h.c1
  have c2 := h.c2
  have hls := h.lt
  have hnS : w.heap.size ≠ S := by omega
  have HS := hide h
  have HF := hide hF
  clear h hF
  go_enter Try.func76, Try.ntmps76
  go_wp2_with fail
  go_cut [7] (fun v wx => ∃ B N, NextMid w R ac tu v wx B N)
  case first =>
    go_region_held3 (fun wx => wx.cell? ⟨S, 0, none⟩ = some (fp R) ∧ wx.cell? ⟨S, 1, none⟩ = some (.int .i64 (ac : Int)) ∧ wx.cell? ⟨S, 2, none⟩ = some (.int .i64 (tu : Int))) (go_keep) (first
      | (go_at_call 83; refine (O _).mono ?_; rintro e wa ⟨rfl, hw⟩; obtain rfl := hw.symm; clear hw)
      | (go_at_call 98; refine (F _).mono ?_; rintro e w2 ⟨rfl, b2⟩; have KB : Hid (Below w.heap.size w w2) := (by first | exact below_next (below_drew1 (Below.refl _ _)) (Nat.le_refl _) b2 | exact below_next (below_drew1 (below_alloc _ _)) (Nat.le_refl _) b2 | exact below_next (below_next (below_drew1 (Below.refl _ _)) (Nat.le_refl _) (below_alloc _ _)) (Nat.le_refl _) b2); have i0 := (HS.out.below KB.out).c0; have i1 := (HS.out.below KB.out).c1; have i2 := (HS.out.below KB.out).c2; have hS2 := (HS.out.below KB.out).lt; have hn2 : w2.heap.size ≠ S := Nat.ne_of_gt hS2; (first | (have z2 : Hid (w2.heap[w.heap.size]? = some (.cells #[.pointer none] 24 (0, 0))) := hide (box_pre b2 rfl); have y0 := cell_of_one z2.out; have y1 := free_of_one z2.out; have ltB := lt_of_block z2.out; have neB : w2.heap.size ≠ w.heap.size := Nat.ne_of_gt ltB) | skip); clear b2))
    all_goals go_wp2_with fail
    all_goals go_meet
    all_goals first
      | exact ⟨_, _, next_a hsp.out hfo.out KB.out⟩
      | exact ⟨_, _, next_b hsp.out hfo.out KB.out⟩
      | exact ⟨_, _, next_c hsp.out hfo.out KB.out z2.out⟩
  case rest =>
    obtain ⟨B, N, hM⟩ := hcut
    rename World => wa
    have hNS : N ≠ S := by have := hM.g; omega
    obtain rfl := hM.v
    have hF1 := HF.out.below hM.l
    have hS1 := HS.out.below hM.l
    have cb := cell_of_one hM.b
    have n1 := hM.n.c1
    have s0 := hS1.c0
    have hBR : B ≠ R := by
      intro e
      subst e
      have := hM.b.symm.trans hF1.blk
      simp [flRow, bytesV] at this
    have hNR : N ≠ R := Ne.symm (hF1.ne hM.n)
    have hSR : S ≠ R := Ne.symm (hF1.ne hS1)
    have ER := erase_in wa.drew R σ hF1.drew hon.jk hon.off (1 - ac) (by omega)
    rw [hsp.out] at ER n1
    have hEl := @eraseS_on σ sp hon
    obtain ⟨⟨σ1, ok1⟩, hx1⟩ : ∃ x, eraseS σ sp = x := ⟨_, rfl⟩
    rw [hx1] at ER hEl
    simp only at ER hEl
    obtain ⟨r1, hr1⟩ : ∃ r : Int, Hid ((if ok1 then 0 else 60) = r) := ⟨_, hide rfl⟩
    rw [show (if ok1 = true then (0 : Int) else 60) = r1 from hr1.out] at ER
    have HM := hide hM
    have HF1 := hide hF1
    have HS1 := hide hS1
    clear hM hF1 hS1 c0 c1 c2
    go_wp2_with fail
    go_cut [8] (fun v wx => v = .int .i64 r1 ∧ Fl wx R σ1 ∧ Kept R wa wx)
    case first =>
      go_region_with (go_at_call 82; refine ER.mono ?_; rintro e w3 ⟨rfl, f3, k3⟩)
      all_goals go_wp2_with fail
      all_goals go_meet
      all_goals exact ⟨rfl, f3, Kept.drew1 k3⟩
    case rest =>
      obtain ⟨rfl, f3, k3⟩ := hcut
      have hrest : Kep2 R S w wc := ((below_kept HM.out.l R).l2 S).trans (k3.l2 S)
      have hSc := HS1.out.kept k3 hSR
      have HMV : Hid (moveS σ ⟨ac, tu, en, k⟩ id tv.data.toList = if ok1 then (if (eachS ac k id tv.data.toList 0 3 ⟨σ1, 1, kz⟩).2 then (if (progS (eachS ac k id tv.data.toList 0 3 ⟨σ1, 1, kz⟩).1.σ (sp * 4096) [codeN fo]).2 then ((progS (eachS ac k id tv.data.toList 0 3 ⟨σ1, 1, kz⟩).1.σ (sp * 4096) [codeN fo]).1, some ⟨sp, fo, (eachS ac k id tv.data.toList 0 3 ⟨σ1, 1, kz⟩).1.en, (eachS ac k id tv.data.toList 0 3 ⟨σ1, 1, kz⟩).1.k⟩) else ((progS (eachS ac k id tv.data.toList 0 3 ⟨σ1, 1, kz⟩).1.σ (sp * 4096) [codeN fo]).1, none)) else ((eachS ac k id tv.data.toList 0 3 ⟨σ1, 1, kz⟩).1.σ, none)) else (σ1, none)) := by
        show _ = _
        unfold moveS
        simp only [hsp.out, hfo.out, hx1]
      have HK := hide hk
      have HFIT := hide hfit
      have HTV := hide htv
      have HSC := hide hSc
      have HREST := hide hrest
      clear hk hfit htv hx1 hSc hrest ER cb n1 s0 O F
      cases ok1
      · obtain rfl := hr1.out
        have e1 := HMV.out
        simp only [Bool.false_eq_true, if_false] at e1
        have X1 := hide e1
        clear e1 HMV hEl
        go_wp2_with fail
        go_ret
        exact (show StEnd _ _ _ _ _ _ _ from ⟨false, σ1, ⟨0, 0, 0, kz⟩, rfl, X1.out, f3, HSC.out, HREST.out⟩)
      · obtain rfl := hr1.out
        have hon1 := hEl rfl
        have E0 : EachMid wc B N S R ac tu fo en k ⟨σ1, 1, kz⟩ wc := ⟨hon1, f3, by rw [← hfo.out]; exact HM.out.n.kept k3 hNR, HSC.out, k3.other HM.out.b hBR, Kep2.refl R N wc⟩
        have EA := each_any wc B N S R ac hac tu fo en k HK.out ⟨σ1, 1, kz⟩ E0 hNS id tv HTV.out HFIT.out
        have hMon := eachS_on ac k id tv.data.toList 3 0 ⟨σ1, 1, kz⟩ hon1
        have e1 := HMV.out
        simp only [if_true] at e1
        obtain ⟨⟨M, ok2⟩, hx2⟩ : ∃ x, eachS ac k id tv.data.toList 0 3 ⟨σ1, 1, kz⟩ = x := ⟨_, rfl⟩
        rw [hx2] at EA hMon e1
        simp only at EA hMon e1
        obtain ⟨r2, hr2⟩ : ∃ r : Int, Hid ((if ok2 then 0 else 60) = r) := ⟨_, hide rfl⟩
        rw [show (if ok2 = true then (0 : Int) else 60) = r2 from hr2.out] at EA
        have X1 := hide e1
        have HE0 := hide E0
        have cb := cell_of_one E0.b
        have hmf : ∀ (fn : Fn) (first cap : Array Value) (w : World), (Instr.makeFunc fn first cap).run Try.prog w = .ok (.func fn first cap) w := fun _ _ _ _ => rfl
        clear e1 HMV hEl E0 hx2
        go_wp2_with fail
        refine EA.mono ?_
        rintro e w4 ⟨rfl, f4, n4, k4⟩
        have hS4 := HE0.out.s.kep2 k4 hSR (Ne.symm hNS)
        have hb4 := k4.other HE0.out.b hBR (box_ne HE0.out.n HE0.out.b)
        have cb4 := cell_of_one hb4
        have HR4 := hide (HREST.out.over k4 HM.out.g)
        clear EA cb
        cases ok2
        · obtain rfl := hr2.out
          have e1 := X1.out
          simp only [Bool.false_eq_true, if_false] at e1
          have X2 := hide e1
          clear e1 X1
          go_wp2_with fail
          go_ret
          exact (show StEnd _ _ _ _ _ _ _ from ⟨false, M.σ, ⟨0, 0, 0, kz⟩, rfl, X2.out, f4, hS4, HR4.out⟩)
        · obtain rfl := hr2.out
          have hMo := hMon rfl
          have SG := sign_any w4 N R M.σ hMo sp fo M.en M.k f4 (by rw [← hsp.out]; exact n4) (by have := hsp.out; omega) (by rw [← hfo.out]; unfold folN; omega)
          have e1 := X1.out
          simp only [if_true] at e1
          obtain ⟨⟨τ, ok3⟩, hx3⟩ : ∃ x, progS M.σ (sp * 4096) [codeN fo] = x := ⟨_, rfl⟩
          rw [hx3] at SG e1
          simp only at SG e1
          obtain ⟨r3, hr3⟩ : ∃ r : Int, Hid ((if ok3 then 0 else 60) = r) := ⟨_, hide rfl⟩
          rw [show (if ok3 = true then (0 : Int) else 60) = r3 from hr3.out] at SG
          have X2 := hide e1
          have HS4 := hide hS4
          clear e1 X1 hx3 hS4 hmf hMon
          go_wp2_with fail
          refine SG.mono ?_
          rintro e w5 ⟨rfl, f5, k5⟩
          have hS5 := HS4.out.kept k5 hSR
          have hN5 := n4.kept k5 hNR
          rw [hsp.out] at hN5
          have cb5 := cell_of_one (k5.other hb4 hBR)
          have HR5 := hide (HR4.out.trans (k5.l2 S))
          clear SG cb4 hb4
          cases ok3
          · obtain rfl := hr3.out
            have e1 := X2.out
            simp only [Bool.false_eq_true, if_false] at e1
            have X3 := hide e1
            clear e1 X2
            go_wp2_with fail
            go_ret
            exact (show StEnd _ _ _ _ _ _ _ from ⟨false, τ, ⟨0, 0, 0, kz⟩, rfl, X3.out, f5, hS5, HR5.out⟩)
          · obtain rfl := hr3.out
            have e1 := X2.out
            simp only [if_true] at e1
            have X3 := hide e1
            have HS5 := hide hS5
            have m0 := hN5.c0
            have q0 := hS5.c0
            have z0 := hS5.frozen 0
            have m1 := hN5.c1
            have q1 := hS5.c1
            have z1 := hS5.frozen 1
            have m2 := hN5.c2
            have q2 := hS5.c2
            have z2 := hS5.frozen 2
            have m3 := hN5.c3
            have q3 := hS5.c3
            have z3 := hS5.frozen 3
            have m4 := hN5.c4
            have q4 := hS5.c4
            have z4 := hS5.frozen 4
            have m5 := hN5.c5
            have q5 := hS5.c5
            have z5 := hS5.frozen 5
            have m6 := hN5.c6
            have q6 := hS5.c6
            have z6 := hS5.frozen 6
            have m7 := hN5.c7
            have q7 := hS5.c7
            have z7 := hS5.frozen 7
            have m8 := hN5.c8
            have q8 := hS5.c8
            have z8 := hS5.frozen 8
            have m9 := hN5.c9
            have q9 := hS5.c9
            have z9 := hS5.frozen 9
            have m10 := hN5.c10
            have q10 := hS5.c10
            have z10 := hS5.frozen 10
            have m11 := hN5.c11
            have q11 := hS5.c11
            have z11 := hS5.frozen 11
            have m12 := hN5.c12
            have q12 := hS5.c12
            have z12 := hS5.frozen 12
            clear e1 X2 hN5 hS5
            go_wp2_with fail
            go_ret
            exact (show StEnd _ _ _ _ _ _ _ from ⟨true, τ, ⟨sp, fo, M.en, M.k⟩, rfl, X3.out, f5.kept (Kept.all13 (Kept.refl S w5) _ _ _ _ _ _ _ _ _ _ _ _ _) (Ne.symm hSR), HS5.out.all _ _ _ _ M.k, HR5.out.trans ((Kept.all13 (Kept.refl S w5) _ _ _ _ _ _ _ _ _ _ _ _ _).r2 R)⟩)
end Go.Proofs.Ytcjahdgppnmdkaa
