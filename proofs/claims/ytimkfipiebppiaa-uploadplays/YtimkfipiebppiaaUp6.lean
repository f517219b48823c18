/- Package upload: On. -/
import Derived.Test.YtimkfipiebppiaaUp5
namespace Go.Proofs.Ytimkfipiebppiaa
open Go.RowKit Go.Great Go.Maps

/-- what the map says of a Kind -/
def Deed (D : Nat) (k : Int) (f : Value) (b : Bool) : Prop := (b = false ∧ f = .nilFunc ∧ k ≠ 7 ∧ k ≠ 9 ∧ k ≠ 11) ∨ (b = true ∧ ((k = 7 ∧ f = .func (.func 60) #[dP D] #[]) ∨ (k = 9 ∧ f = .func (.func 61) #[dP D] #[]) ∨ (k = 11 ∧ f = .func (.func 62) #[dP D] #[])))
theorem on_ready {wh ms : Int} {l : Ls} {k : Int} {fs : List Int} {now : Int} (h : rdB l = true) : onS wh ms l k fs now = (l, none) := by unfold onS; rw [if_pos (.inl h)]
theorem on_bad {wh ms : Int} {l : Ls} {k : Int} {fs : List Int} {now : Int} (h : ¬ (encM 0 k fs).2 = 0) : onS wh ms l k fs now = (l, none) := by
  unfold onS; rw [if_pos (.inr (.inl (by unfold okM; simpa using h)))]
theorem on_what {wh ms : Int} {l : Ls} {k : Int} {fs : List Int} {now : Int} (h : ¬ fs.getD 0 0 = wh) : onS wh ms l k fs now = (l, none) := by unfold onS; rw [if_pos (.inr (.inr h))]
theorem on_other {wh ms : Int} {l : Ls} {k : Int} {fs : List Int} {now : Int} (h : k ≠ 7 ∧ k ≠ 9 ∧ k ≠ 11) : onS wh ms l k fs now = (l, none) := by
  unfold onS
  split
  · rfl
  · rw [if_neg h.1, if_neg h.2.1, if_neg h.2.2]
theorem on_good {wh ms : Int} {l : Ls} {k : Int} {fs : List Int} {now : Int} (h1 : rdB l = false) (h2 : (encM 0 k fs).2 = 0) (h3 : fs.getD 0 0 = wh) : onS wh ms l k fs now = if k = 7 then beginS wh ms (fs.getD 1 0) now else if k = 9 then takeS wh l fs now else if k = 11 then cancelS wh l else (l, none) := by
  unfold onS
  rw [if_neg]
  rintro (h | h | h)
  · rw [h1] at h; cases h
  · unfold okM at h; rw [h2] at h; cases h
  · exact h h3
theorem on_nil (m : Value) (k now : Int) (u : Value) (hm : m = .agg #[.int .u8 k, u]) (w : World) : Calls Try.prog 18 #[.pointer none, m, .int .i64 now] w fun e w' => e = .returned (.slice none 0 0) ∧ Below w.heap.size w w' := by
  subst hm
  have Hb := hide (below_alloc w (.cells #[.int .u8 k, u] 38))
  go_enter Try.func18, Try.ntmps18
  go_wp2_with fail
  go_ret
  exact ⟨rfl, Hb.out⟩
set_option maxHeartbeats 4000000 in
set_option maxRecDepth 100000 in
theorem on_any (w : World) (D : Nat) (wh ms : Int) (l : Ls) (ks : List Nat) (h : Dsk w D wh ms l ks) (hl : LOk ms l) (hms : ms ≤ 65535) (k : Int) (hk : 0 ≤ k ∧ k ≤ 255) (fs : List Int) (u : Value) (hu : Ints w u fs) (hcap : ∀ a n c, u = .slice a n c → n ≤ c) (hlen : fs.length ≤ 9223372036854775807) (now : Int) : Calls Try.prog 18 #[dP D, .agg #[.int .u8 k, u], .int .i64 now] w (DEnd w D wh ms ks (onS wh ms l k fs now)) := by
  obtain ⟨a, cap, rfl, hu2⟩ := id hu
  have hcap := hcap _ _ _ rfl
  obtain ⟨R, hR⟩ : ∃ R, Hid (onS wh ms l k fs now = R) := ⟨_, hide rfl⟩
  rw [hR.out]
  have HU := hide hu
  have HU2 := hide hu2
  have HD := hide h
  obtain ⟨n, hn⟩ : ∃ n, Hid (fs.length = n) := ⟨_, hide rfl⟩
  rw [hn.out] at HU hcap hlen ⊢
  clear hu hu2
  have BX := hide (Blk.new w #[.int .u8 k, .slice a n cap] 38)
  have Hb0 := hide (below_alloc w (.cells #[.int .u8 k, .slice a n cap] 38))
  obtain ⟨p, hB, hC, h3⟩ := h
  obtain ⟨q, rfl⟩ := chn_ptr hC
  have HB := hide hB
  clear hB hC h3
  have LR := hide (listready_any l.cn l.hd l.he l.ag (.pointer q))
  have HT : Hid ((decide (0 < l.cn) && (l.hd == l.cn)) = rdB l) := hide rfl
  rw [HT.out] at LR
  clear HT
  have W1c : ∀ i v, (deC wh ms l (.pointer q))[i]? = some v → (w.alloc (.cells #[.int .u8 k, .slice a n cap] 38)).cell? ⟨D, i, none⟩ = some v := fun i v hv => (HB.out.alloc _).cell i hv
  have c2 := W1c 2 _ rfl
  have c3 := W1c 3 _ rfl
  have c4 := W1c 4 _ rfl
  have c5 := W1c 5 _ rfl
  have c6 := W1c 6 _ rfl
  clear W1c
  have HRR : Hid (rdB l = true → R = (l, none)) := hide (fun h => by rw [← hR.out]; exact on_ready h)
  have HRB : Hid (¬ (encM 0 k fs).2 = 0 → R = (l, none)) := hide (fun h => by rw [← hR.out]; exact on_bad h)
  have HRW : Hid (¬ fs.getD 0 0 = wh → R = (l, none)) := hide (fun h => by rw [← hR.out]; exact on_what h)
  have HRO : Hid (k ≠ 7 ∧ k ≠ 9 ∧ k ≠ 11 → R = (l, none)) := hide (fun h => by rw [← hR.out]; exact on_other h)
  have HRG : Hid (rdB l = false → (encM 0 k fs).2 = 0 → fs.getD 0 0 = wh → R = if k = 7 then beginS wh ms (fs.getD 1 0) now else if k = 9 then takeS wh l fs now else if k = 11 then cancelS wh l else (l, none)) := hide (fun h1 h2 h3 => by rw [← hR.out]; exact on_good h1 h2 h3)
  clear hR
  generalize hy : rdB l = y at *
  have HY := hide hy
  clear hy
  go_enter Try.func18, Try.ntmps18
  cases y
  · go_upto_region 3 with (go_at_call 42; refine (LR.out _).mono ?_; rintro e w1 ⟨rfl, hb1⟩; have Hb1 := hide (below_next Hb0.out (Nat.le_refl _) hb1); have BX1 := hide (BX.out.after hb1); clear hb1)
    clear c2 c3 c4 c5 c6 LR HRR BX Hb0
    have HS : Hid (∀ W, Below w1.heap.size w1 W → W.cell? ⟨w.heap.size, 0, none⟩ = some (.int .u8 k)) := hide (fun W hb => (BX1.out.after hb).cell 0 rfl)
    go_cut [7, 8] (fun v7 v8 wx => ∃ b, v8 = .bool b ∧ Deed D k v7 b ∧ Below w1.heap.size w1 wx)
    case first =>
      refine wp_region_held_drew (S := fun wx => wx.cell? ⟨w.heap.size, 0, none⟩ = some (.int .u8 k)) (by kernel_rfl) (HS.out w1 (Below.refl _ _)) (fun hHeld => ?_)
      refine take_at (i := 0) (v := dP D) (d := some 21) rfl rfl (by kernel_rfl) (by kernel_rfl) (by kernel_rfl) (fun _ _ _ h => h) (Or.inl ⟨by rfl, fun wS hSw => by go_simp; all_goals (rw [IntKind.wrap_i64]; omega)⟩) (by assumption) ?_
      simp only [Act.put, List.setIfInBounds_toArray, List.set_cons_zero, List.set_cons_succ]
      refine take_at (i := 2) (v := .pointer (some ⟨w.heap.size, 0, none⟩)) (d := some 23) rfl rfl (by kernel_rfl) (by kernel_rfl) (by kernel_rfl) (fun _ _ _ h => h) (Or.inl ⟨by rfl, fun wS hSw => by go_simp; all_goals (rw [IntKind.wrap_i64]; omega)⟩) (by assumption) ?_
      simp only [Act.put, List.setIfInBounds_toArray, List.set_cons_zero, List.set_cons_succ]
      refine take_at (i := 3) (v := .int .u8 k) (d := some 24) rfl rfl (by kernel_rfl) (by kernel_rfl) (by kernel_rfl) (fun _ _ _ h => h) (Or.inl ⟨by rfl, fun wS hSw => by go_simp; all_goals (rw [IntKind.wrap_i64]; omega)⟩) (by assumption) ?_
      simp only [Act.put, List.setIfInBounds_toArray, List.set_cons_zero, List.set_cons_succ]
      clear hHeld
      refine wpAnyH_ready (rs := [1]) (by kernel_rfl) (by simp) ?_
      refine AllReadyH.cons rfl (fun K hK => ?_) AllReadyH.nil
      go_simp
      refine (deeds_any w1.drew D).mono ?_
      rintro e w3 ⟨rfl, hw3⟩
      have hm3 : w3.heap[w1.heap.size]? = some (.map (mp3 D) 3) := by rw [hw3]; exact heap_alloc_new _ _
      have hb3 : Below w1.heap.size w1 w3 := by rw [hw3]; exact below_undrew (below_alloc w1.drew _)
      obtain ⟨f, b, LK, hcs⟩ := map_look w3 w1.heap.size D k hk hm3
      have HB3 := hide hb3
      have HCS : Hid (Deed D k f b) := hide hcs
      clear hw3 hm3 hb3 hcs
      refine hK.out _ _ (HS.out _ HB3.out) (fun hHeld => ?_)
      clear hK K hHeld
      refine wpAnyH_ready (rs := [4]) (by kernel_rfl) (by simp) ?_
      refine AllReadyH.cons rfl (fun K hK => ?_) AllReadyH.nil
      go_simp
      refine hK.out _ _ (HS.out _ HB3.out) (fun hHeld => ?_)
      clear hK K
      refine take_at (i := 5) (v := .tuple #[f, .bool b]) (d := some 20) rfl rfl (by kernel_rfl) (by kernel_rfl) (by kernel_rfl) (fun _ _ _ h => h) (Or.inl ⟨by rfl, fun wS hSw => by go_simp; all_goals (rw [IntKind.wrap_i64]; omega)⟩) (by assumption) ?_
      simp only [Act.put, List.setIfInBounds_toArray, List.set_cons_zero, List.set_cons_succ]
      refine take_at (i := 6) (v := f) (d := some 26) rfl rfl (by kernel_rfl) (by kernel_rfl) (by kernel_rfl) (fun _ _ _ h => h) (Or.inl ⟨by rfl, fun wS hSw => by go_simp; all_goals (rw [IntKind.wrap_i64]; omega)⟩) (by assumption) ?_
      simp only [Act.put, List.setIfInBounds_toArray, List.set_cons_zero, List.set_cons_succ]
      refine take_at (i := 7) (v := .bool b) (d := some 27) rfl rfl (by kernel_rfl) (by kernel_rfl) (by kernel_rfl) (fun _ _ _ h => h) (Or.inl ⟨by rfl, fun wS hSw => by go_simp; all_goals (rw [IntKind.wrap_i64]; omega)⟩) (by assumption) ?_
      simp only [Act.put, List.setIfInBounds_toArray, List.set_cons_zero, List.set_cons_succ]
      refine take_at (i := 8) (v := f) (d := some 7) rfl rfl (by kernel_rfl) (by kernel_rfl) (by kernel_rfl) (fun _ _ _ h => h) (Or.inl ⟨by rfl, fun wS hSw => by go_simp; all_goals (rw [IntKind.wrap_i64]; omega)⟩) (by assumption) ?_
      simp only [Act.put, List.setIfInBounds_toArray, List.set_cons_zero, List.set_cons_succ]
      refine take_at (i := 9) (v := .bool b) (d := some 8) rfl rfl (by kernel_rfl) (by kernel_rfl) (by kernel_rfl) (fun _ _ _ h => h) (Or.inl ⟨by rfl, fun wS hSw => by go_simp; all_goals (rw [IntKind.wrap_i64]; omega)⟩) (by assumption) ?_
      simp only [Act.put, List.setIfInBounds_toArray, List.set_cons_zero, List.set_cons_succ]
      clear hHeld
      refine wpAnyH_done (by kernel_rfl) ?_ _
      go_simp
      (try go_wp2_with fail)
      go_meet
      exact ⟨b, rfl, HCS.out, HB3.out⟩
    case rest =>
      obtain ⟨b, rfl, hdd, hbc⟩ := hcut
      have HDD := hide hdd
      have Hbc := hide (below_next Hb1.out (Nat.le_refl _) hbc)
      have BXc := hide (BX1.out.after hbc)
      have HUc := hide (HU.out.below Hbc.out)
      have EN := hide (mencode_any 0 k hk.1 hk.2 fs (.slice a n cap) wc HUc.out (by rw [hn.out]; exact hlen))
      have m0 := BXc.out.cell 0 rfl
      have m1 := BXc.out.cell 1 rfl
      clear hbc hdd HS BX1 Hb1
      have HPOS : Hid ((encM 0 k fs).2 = 0 → (wsK k).length ≠ 0 ∧ n = (wsK k).length) := hide (fun h => by rw [← hn.out]; exact okM_len (by unfold okM; rw [h]; rfl))
      generalize encM 0 k fs = E at *
      obtain ⟨⟨x0, x1, x2⟩, en⟩ := E
      simp only at EN HRB HRG HPOS
      go_upto_region 5 with (go_at_call 14; refine EN.out.mono ?_; rintro e w2 ⟨rfl, hb2⟩; have Hb2 := hide (below_next Hbc.out (Nat.le_refl _) hb2); have BX2 := hide (BXc.out.after hb2); clear hb2)
      have Hb3 := hide (below_next Hb2.out (Nat.le_refl _) (below_alloc w2 (.cells #[.int .i64 x0, .int .i64 x1, .string x2] 45)))
      have BX3 := hide (BX2.out.alloc (.cells #[.int .i64 x0, .int .i64 x1, .string x2] 45))
      clear m0 m1 EN Hb2 BX2 BXc HUc Hbc
      generalize w2.alloc (.cells #[.int .i64 x0, .int .i64 x1, .string x2] 45) = W3 at *
      have DN : Hid (∀ W, Below w.heap.size w W → DEnd w D wh ms ks (l, none) (.returned (.slice none 0 0)) W) := hide (fun W hb => dEnd_none HD.out hb)
      rcases HDD.out with ⟨rfl, rfl, h7⟩ | ⟨rfl, hdd⟩
      · have eR : R = (l, none) := HRO.out h7
        subst eR
        clear h7
        go_quiet (fail)
        go_wp2_with fail
        go_ret
        exact DN.out _ (below_drewN Hb3.out nq)
      · by_cases he : en = 0
        · subst he
          obtain ⟨hp0, hp1⟩ := HPOS.out rfl
          obtain ⟨g, o, rfl, hg, hcc⟩ := HU2.out (by rw [hn.out]; omega)
          have hc0 := hcc 0 (by rw [hn.out]; omega)
          rw [Nat.add_zero] at hc0
          have k0 : W3.cell? ⟨g, o, none⟩ = some (.int .i64 (fs.getD 0 0)) := (Hb3.out.cell (p := ⟨g, o, none⟩) hg).trans hc0
          have k1 : W3.cell? ⟨w.heap.size, 1, none⟩ = some (.slice (some ⟨g, o, none⟩) n cap) := BX3.out.cell 1 rfl
          have k2 : W3.cell? ⟨D, 0, none⟩ = some (.int .i64 wh) := (HB.out.after Hb3.out).cell 0 rfl
          have hn0 : 0 < n := by omega
          clear hcc hc0
          by_cases hw : fs.getD 0 0 = wh
          · have q1 : (wh != wh) = false := by simp
            rw [hw] at k0
            have HG := hide (HRG.out (by trivial) (by trivial) hw)
            clear hw
            go_quiet (fail)
            have Hb4 := hide (below_drewN Hb3.out nq)
            have k4 : (W3.drewN nq).cell? ⟨w.heap.size, 1, none⟩ = some (.slice (some ⟨g, o, none⟩) n cap) := (blk_drewN BX3.out nq).cell 1 rfl
            have HD4 := hide (HD.out.after Hb4.out)
            have HU4 := hide (HU.out.below Hb4.out)
            clear k0 k1 k2 Hb3 BX3 HB HD
            generalize W3.drewN nq = W4 at *
            rcases hdd with ⟨h7, rfl⟩ | ⟨h7, rfl⟩ | ⟨h7, rfl⟩
            · have eR : R = beginS wh ms (fs.getD 1 0) now := by rw [HG.out, if_pos h7]
              have h2 : n = 2 := by rw [hp1, h7]; rfl
              subst eR h2
              have BG := hide (begin_any W4 D wh ms l ks HD4.out fs _ HU4.out hn.out now)
              clear h7 hp0 hp1 HDD
              go_wp2_with fail
              refine BG.out.mono ?_
              intro e w5 hq
              obtain ⟨v, rfl, hq⟩ := hq.value
              have HQ := hide (hq.before Hb4.out)
              clear hq
              go_wp2_with fail
              go_ret
              exact HQ.out
            · have eR : R = takeS wh l fs now := by rw [HG.out, if_neg (by omega), if_pos h7]
              have h2 : n = 7 := by rw [hp1, h7]; rfl
              subst eR h2
              have BG := hide (take_any W4 D wh ms l ks HD4.out hl hms fs g o cap HU4.out hn.out hcap now)
              clear h7 hp0 hp1 HDD
              go_wp2_with fail
              refine BG.out.mono ?_
              intro e w5 hq
              obtain ⟨v, rfl, hq⟩ := hq.value
              have HQ := hide (hq.before Hb4.out)
              clear hq
              go_wp2_with fail
              go_ret
              exact HQ.out
            · have eR : R = cancelS wh l := by rw [HG.out, if_neg (by omega), if_neg (by omega), if_pos h7]
              subst eR
              have BG := hide (cancel_any W4 D wh ms l ks HD4.out (.slice (some ⟨g, o, none⟩) n cap) now)
              clear h7 hp0 hp1 HDD
              go_wp2_with fail
              refine BG.out.mono ?_
              intro e w5 hq
              obtain ⟨v, rfl, hq⟩ := hq.value
              have HQ := hide (hq.before Hb4.out)
              clear hq
              go_wp2_with fail
              go_ret
              exact HQ.out
          · have eR : R = (l, none) := HRW.out hw
            subst eR
            have q1 : (fs.getD 0 0 != wh) = true := by simpa using hw
            generalize fs.getD 0 0 = x at *
            clear hw
            go_quiet (fail)
            go_wp2_with fail
            go_ret
            exact DN.out _ (below_drewN Hb3.out nq)
        · have eR : R = (l, none) := HRB.out he
          subst eR
          have q1 : (en != 0) = true := by simpa using he
          clear he
          go_quiet (fail)
          go_wp2_with fail
          go_ret
          exact DN.out _ (below_drewN Hb3.out nq)
  · have eR : R = (l, none) := HRR.out (by trivial)
    subst eR
    go_wp2_with fail
    refine (LR.out _).mono ?_
    rintro e w1 ⟨rfl, hb1⟩
    have Hb1 := hide (below_next Hb0.out (Nat.le_refl _) hb1)
    clear hb1
    go_wp2_with fail
    go_ret
    exact dEnd_none HD.out Hb1.out
end Go.Proofs.Ytimkfipiebppiaa
