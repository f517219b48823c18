/- Package upload: take. -/
import Derived.Test.YtimkfipiebppiaaUp3
namespace Go.Proofs.Ytimkfipiebppiaa
open Go.RowKit Go.Great

theorem drewN_size (w : World) (n : Nat) : (w.drewN n).heap.size = w.heap.size := by
  induction n with
  | zero => rfl
  | succ n ih => exact ih
set_option maxRecDepth 100000 in
theorem islice_lo (a : Option Addr) (n cap l : Nat) (hl : l ≤ n) (wx : World) : (Instr.slice 36 (.slice a n cap) (some (.int .i64 l)) none none).run Try.prog wx = .ok (sliced a l n cap 1) wx := by
  have ht : Try.prog.underlying 36 = some (.slice (Try.prog.elem 36)) := by kernel_rfl
  have hs : (sizeOf (Try.prog.elem 36)).run Try.prog wx = .ok 1 wx := Try.sizeOf3 wx
  rw [run_slice_l wx 36 a n cap ht .i64 l (by omega) (by omega), hs]
  simp [Result.andThen]
theorem itail (g o n cap k : Nat) (hk : k ≤ n) (hc : k < cap) (wx : World) : (Instr.slice 36 (.slice (some ⟨g, o, none⟩) n cap) (some (.int .i64 k)) none none).run Try.prog wx = .ok (.slice (some ⟨g, o + k, none⟩) (n - k) (cap - k)) wx := by
  rw [islice_lo _ n cap k hk wx]
  unfold sliced
  rw [if_neg (by omega)]
  simp [add_plain']
theorem itail_ints {w : World} {g o n cap k : Nat} {fs : List Int} (hf : fs.length = n) (h : Ints w (.slice (some ⟨g, o, none⟩) n cap) fs) (hk : k ≤ n) : Ints w (.slice (some ⟨g, o + k, none⟩) (n - k) (cap - k)) (fs.drop k) := by
  obtain ⟨a, c, e, hc⟩ := h
  injection e with e1 e2 e3
  refine ⟨_, _, by rw [List.length_drop, hf], fun h0 => ⟨g, o + k, rfl, ?_⟩⟩
  rw [List.length_drop] at h0
  obtain ⟨g', o', e4, hg, hcc⟩ := hc (by omega)
  rw [e4] at e1
  injection e1 with e1
  injection e1 with e5 e6
  subst e5 e6
  refine ⟨hg, fun i hi => ?_⟩
  rw [List.length_drop] at hi
  rw [Nat.add_assoc, hcc (k + i) (by omega)]
  simp [List.getD]
theorem with_hd (l : Ls) (r : List Int) (now : Int) : (l.with r now).hd = l.hd + 1 := by
  unfold Ls.with Ls.hd
  simp
theorem chn_ptr {w : World} {ks : List Nat} {p : Value} : ∀ {R : List (List Int)}, Chn w ks p R → ∃ q, p = .pointer q
  | [], h => ⟨none, h⟩
  | _ :: _, ⟨e, _, _, h, _⟩ => ⟨some ⟨e, 0, none⟩, h⟩
/-- the row of a new entry -/
theorem rowK_of {w : World} {base : Nat} {u : Value} {r : List Int} (h : IRow w base u r) (h0 : 0 < r.length) : ∃ g, base ≤ g ∧ g < w.heap.size ∧ ∀ ks, g ∈ ks → RowK w u r ks := by
  have h1 := h
  rcases h.2 with ⟨_, h2⟩ | ⟨g, cap, cur, rfl, hb, hh, _⟩
  · rw [h2] at h0; cases h0
  · refine ⟨g, hb, lt_of_block hh, fun ks hk => ⟨g, cap, rfl, hk, ⟨cur, hh⟩, fun i hi => ?_⟩⟩
    rw [World.ownsRow.cellAt h1 i (by omega)]
    simp [hi]
/-- a desk behind a row that came -/
theorem dsk_with {w W W' : World} {D : Nat} {wh ms : Int} {l : Ls} {ks : List Nat} {p : Value} {r : List Int} {now : Int} {E : Nat} {u : Value} (h3 : ∀ k ∈ ks, k < w.heap.size ∧ k ≠ D) (hC : Chn w ks p l.rw.reverse) (hb : Below w.heap.size w W) (hE : Blk W E #[u, p] 98) (hu : IRow W w.heap.size u r) (h0 : 0 < r.length) (hEw : w.heap.size ≤ E) (hD : D < w.heap.size) (hg : W.grownBy W' (some D)) (hB : Blk W' D (deC wh ms (l.with r now) (.pointer (some ⟨E, 0, none⟩))) 68) : ∃ ks', Dsk W' D wh ms (l.with r now) ks' ∧ ∀ k ∈ ks', k ∈ ks ∨ w.heap.size ≤ k := by
  obtain ⟨g, hg1, hg2, hg3⟩ := rowK_of hu h0
  have hk1 : ∀ k ∈ ks, W'.heap[k]? = w.heap[k]? := fun k hk => (hg.block k (Nat.lt_of_lt_of_le (h3 k hk).1 hb.size) (fun e => (h3 k hk).2 (by injection e))).trans (hb.block k (h3 k hk).1)
  have hk2 : ∀ k, w.heap.size ≤ k → k < W.heap.size → W'.heap[k]? = W.heap[k]? := fun k h1 h2 => hg.block k h2 (fun e => by injection e with e; omega)
  refine ⟨E :: g :: ks, ⟨_, hB, ?_, ?_⟩, ?_⟩
  · show Chn W' _ _ (l.rw ++ [r]).reverse
    rw [List.reverse_append]
    refine ⟨E, u, p, rfl, (hk2 E hEw hE.lt).trans hE, by simp, ?_, ?_⟩
    · refine (hg3 [g] (by simp)).keep ?_ ?_
      · intro k hk
        rw [List.mem_singleton.1 hk]
        exact hk2 g hg1 hg2
      · intro k hk
        rw [List.mem_singleton.1 hk]
        simp
    · exact hC.keep (Nat.le_trans hb.size hg.size) hk1 (fun k hk => by simp [hk])
  · intro k hk
    have hs := hg.size
    have hs2 := hb.size
    rcases List.mem_cons.1 hk with rfl | hk
    · have := hE.lt; exact ⟨by omega, by omega⟩
    · rcases List.mem_cons.1 hk with rfl | hk
      · exact ⟨by omega, by omega⟩
      · have := h3 k hk; exact ⟨by omega, this.2⟩
  · intro k hk
    rcases List.mem_cons.1 hk with rfl | hk
    · exact .inr hEw
    · rcases List.mem_cons.1 hk with rfl | hk
      · exact .inr hg1
      · exact .inl hk
set_option maxHeartbeats 2000000 in
set_option maxRecDepth 100000 in
theorem take_any (w : World) (D : Nat) (wh ms : Int) (l : Ls) (ks : List Nat) (h : Dsk w D wh ms l ks) (hl : LOk ms l) (hms : ms ≤ 65535) (fs : List Int) (g o cap : Nat) (hu : Ints w (.slice (some ⟨g, o, none⟩) 7 cap) fs) (hf : fs.length = 7) (hcap : 7 ≤ cap) (now : Int) : Calls Try.prog 61 #[dP D, .slice (some ⟨g, o, none⟩) 7 cap, .int .i64 now] w (DEnd w D wh ms ks (takeS wh l fs now)) := by
  have HD := hide h
  have HU := hide (itail_ints hf hu (k := 2) (by omega))
  have HF5 : Hid ((fs.drop 2).length = 5) := hide (by rw [List.length_drop, hf])
  have hh : 0 ≤ l.hd ∧ l.hd ≤ 65535 := ⟨hd_nat l, by have := hl.h; have := hl.m; omega⟩
  have TL := itail g o 7 cap 2 (by omega) (by omega)
  simp only [Int.cast_ofNat_Int, Nat.reduceSub] at TL HU
  obtain ⟨a, c, e, hc⟩ := hu
  injection e with e1 e2 e3
  obtain ⟨g', o', e4, _, hcc⟩ := hc (by omega)
  rw [e4] at e1
  injection e1 with e1
  injection e1 with e5 e6
  subst e5 e6
  have d1 := hcc 1 (by omega)
  clear hc hcc e2 e3 e4 hf a c
  obtain ⟨R, hR⟩ : ∃ R, Hid (takeS wh l fs now = R) := ⟨_, hide rfl⟩
  rw [hR.out]
  have HE : Hid (R = if tkB l = false then (l, none) else if fs.getD 1 0 = l.hd then (if rdB (l.with (fs.drop 2) now) = true then (l.with (fs.drop 2) now, none) else askS wh (l.with (fs.drop 2) now)) else if fs.getD 1 0 = l.hd - 1 then askS wh l else (l, none)) := hide hR.out.symm
  clear hR
  generalize fs.getD 1 0 = i at *
  obtain ⟨p, hB, hC, h3⟩ := h
  obtain ⟨q, rfl⟩ := chn_ptr hC
  have HC := hide hC
  have H3 := hide h3
  have HB := hide hB
  have c2 : w.cell? ⟨D, 2, none⟩ = some (.int .i64 l.cn) := hB.cell 2 rfl
  have c3 : w.cell? ⟨D, 3, none⟩ = some (.int .i64 l.hd) := hB.cell 3 rfl
  have c4 : w.cell? ⟨D, 4, none⟩ = some (.pointer q) := hB.cell 4 rfl
  have c5 : w.cell? ⟨D, 5, none⟩ = some (.int .i64 l.he) := hB.cell 5 rfl
  have c6 : w.cell? ⟨D, 6, none⟩ = some (.int .i64 l.ag) := hB.cell 6 rfl
  clear hB hC h3
  have TK := hide (taken_any l.cn l.hd l.he l.ag (.pointer q))
  have HT : Hid (decide (l.hd < l.cn) = tkB l) := hide rfl
  have HTR : Hid (tkB l = true → (decide (0 < l.cn) && (l.hd == l.cn)) = false) := hide (fun h => by
    have := of_decide_eq_true h
    simp; omega)
  rw [HT.out] at TK
  clear HT
  generalize hy : tkB l = y at *
  have HY := hide hy
  clear hy
  go_enter Try.func61, Try.ntmps61
  go_upto_region 1 with fail
  go_quiet (fail)
  have HD1 : Hid (Dsk (w.drewN nq) D wh ms l ks) := hide (HD.out.after (below_drewN (Below.refl _ _) nq))
  have HB1 : Hid (Blk (w.drewN nq) D (deC wh ms l (.pointer q)) 68) := hide (blk_drewN HB.out nq)
  have HU1 : Hid (Ints (w.drewN nq) (.slice (some ⟨g, o + 2, none⟩) 5 (cap - 2)) (fs.drop 2)) := hide (HU.out.drewN nq)
  have HC1 : Hid (Chn (w.drewN nq) ks (.pointer q) l.rw.reverse) := hide (HC.out.keep (below_drewN (Below.refl w.heap.size w) nq).size (fun k hk => (below_drewN (Below.refl w.heap.size w) nq).block k (H3.out k hk).1) (fun _ h => h))
  have Hb1 : Hid (Below w.heap.size w (w.drewN nq)) := hide (below_drewN (Below.refl _ _) nq)
  have hz : (w.drewN nq).heap.size = w.heap.size := drewN_size w nq
  rw [← hz] at Hb1 H3
  have Hq : Hid (∀ r e w', DEnd (w.drewN nq) D wh ms ks r e w' → DEnd w D wh ms ks r e w') := hide (fun r e w' h => h.before (by rw [← hz]; exact Hb1.out))
  clear HD HB HU HC hz c2 c3 c4 c5 c6 d1 Hb1
  generalize w.drewN nq = w at *
  have c2 : w.cell? ⟨D, 2, none⟩ = some (.int .i64 l.cn) := HB1.out.cell 2 rfl
  have c3 : w.cell? ⟨D, 3, none⟩ = some (.int .i64 l.hd) := HB1.out.cell 3 rfl
  have c4 : w.cell? ⟨D, 4, none⟩ = some (.pointer q) := HB1.out.cell 4 rfl
  have c5 : w.cell? ⟨D, 5, none⟩ = some (.int .i64 l.he) := HB1.out.cell 5 rfl
  have c6 : w.cell? ⟨D, 6, none⟩ = some (.int .i64 l.ag) := HB1.out.cell 6 rfl
  have DN : Hid (∀ W, Below w.heap.size w W → DEnd w D wh ms ks (l, none) (.returned (.slice none 0 0)) W) := hide (fun W hb => dEnd_none HD1.out hb)
  cases y
  · have eR : R = (l, none) := by rw [HE.out, if_pos rfl]
    subst eR
    clear HE
    go_wp2_with fail
    refine (TK.out w).mono ?_
    rintro e w1 ⟨rfl, hb⟩
    have HN := hide (DN.out _ hb)
    clear hb
    go_wp2_with fail
    go_ret
    exact Hq.out _ _ _ HN.out
  · by_cases h1 : i = l.hd
    · subst h1
      have HE2 : Hid (R = if rdB (l.with (fs.drop 2) now) = true then (l.with (fs.drop 2) now, none) else askS wh (l.with (fs.drop 2) now)) := hide (by rw [HE.out, if_neg (by simp), if_pos rfl])
      clear HE
      have q1 : (l.hd != l.hd) = false := by simp
      have q2 : (l.hd == l.hd) = true := by simp
      go_upto_region 5 with (go_at_call 38; refine (TK.out w).mono ?_; rintro e w1 ⟨rfl, hb⟩; have Hb := hide hb; clear hb)
      clear c2 c3 c4 c5 c6 TK HTR q1 q2
      have SH : Hid (∀ W, Below w.heap.size w W → W.cell? ⟨D, 2, none⟩ = some (.int .i64 l.cn) ∧ W.cell? ⟨D, 3, none⟩ = some (.int .i64 l.hd) ∧ W.cell? ⟨D, 4, none⟩ = some (.pointer q) ∧ W.cell? ⟨D, 5, none⟩ = some (.int .i64 l.he) ∧ W.cell? ⟨D, 6, none⟩ = some (.int .i64 l.ag)) := hide (fun W hb => ⟨(HB1.out.after hb).cell 2 rfl, (HB1.out.after hb).cell 3 rfl, (HB1.out.after hb).cell 4 rfl, (HB1.out.after hb).cell 5 rfl, (HB1.out.after hb).cell 6 rfl⟩)
      have WI := hide (fun W (hb : Below w.heap.size w W) => with_any l.cn l.hd l.he l.ag now (by omega) q (fs.drop 2) (.slice (some ⟨g, o + 2, none⟩) 5 (cap - 2)) W (HU1.out.below hb) (by rw [HF5.out]; omega) (by rw [HF5.out]; omega))
      refine reg_last_held (fun wx => wx.cell? ⟨D, 2, none⟩ = some (.int .i64 l.cn) ∧ wx.cell? ⟨D, 3, none⟩ = some (.int .i64 l.hd) ∧ wx.cell? ⟨D, 4, none⟩ = some (.pointer q) ∧ wx.cell? ⟨D, 5, none⟩ = some (.int .i64 l.he) ∧ wx.cell? ⟨D, 6, none⟩ = some (.int .i64 l.ag)) 11 rfl rfl _ rfl (by kernel_rfl) (by kernel_rfl) (SH.out w1 Hb.out) (fun hHeld => ?_)
      simp only [List.take_succ_cons, List.take_zero]
      refine take_at (i := 0) (v := .pointer (some ⟨D, 0, none⟩)) (d := some 37) rfl rfl (by kernel_rfl) (by kernel_rfl) (by kernel_rfl) (fun _ _ _ h => h) (Or.inl ⟨by rfl, fun wS ⟨hS0, hS1, hS2, hS3, hS4⟩ => by go_simp; all_goals (rw [IntKind.wrap_i64]; omega)⟩) (by assumption) ?_
      simp only [Act.put, List.setIfInBounds_toArray, List.set_cons_zero, List.set_cons_succ]
      refine take_at (i := 1) (v := .pointer (some ⟨D, 0, none⟩)) (d := some 38) rfl rfl (by kernel_rfl) (by kernel_rfl) (by kernel_rfl) (fun _ _ _ h => h) (Or.inl ⟨by rfl, fun wS ⟨hS0, hS1, hS2, hS3, hS4⟩ => by go_simp; all_goals (rw [IntKind.wrap_i64]; omega)⟩) (by assumption) ?_
      simp only [Act.put, List.setIfInBounds_toArray, List.set_cons_zero, List.set_cons_succ]
      refine take_at (i := 2) (v := .pointer (some ⟨D, 0, none⟩)) (d := some 39) rfl rfl (by kernel_rfl) (by kernel_rfl) (by kernel_rfl) (fun _ _ _ h => h) (Or.inl ⟨by rfl, fun wS ⟨hS0, hS1, hS2, hS3, hS4⟩ => by go_simp; all_goals (rw [IntKind.wrap_i64]; omega)⟩) (by assumption) ?_
      simp only [Act.put, List.setIfInBounds_toArray, List.set_cons_zero, List.set_cons_succ]
      refine take_at (i := 3) (v := .pointer (some ⟨D, 2, none⟩)) (d := some 40) rfl rfl (by kernel_rfl) (by kernel_rfl) (by kernel_rfl) (fun _ _ _ h => h) (Or.inl ⟨by rfl, fun wS ⟨hS0, hS1, hS2, hS3, hS4⟩ => by go_simp; all_goals (rw [IntKind.wrap_i64]; omega)⟩) (by assumption) ?_
      simp only [Act.put, List.setIfInBounds_toArray, List.set_cons_zero, List.set_cons_succ]
      refine take_at (i := 4) (v := .agg #[.int .i64 l.cn, .int .i64 l.hd, .pointer q, .int .i64 l.he, .int .i64 l.ag]) (d := some 41) rfl rfl (by kernel_rfl) (by kernel_rfl) (by kernel_rfl) (fun _ _ _ h => h) (Or.inl ⟨by rfl, fun wS ⟨hS0, hS1, hS2, hS3, hS4⟩ => by go_simp; all_goals (rw [IntKind.wrap_i64]; omega)⟩) (by assumption) ?_
      simp only [Act.put, List.setIfInBounds_toArray, List.set_cons_zero, List.set_cons_succ]
      refine take_at (i := 5) (v := .slice (some ⟨g, o, none⟩) 7 cap) (d := some 42) rfl rfl (by kernel_rfl) (by kernel_rfl) (by kernel_rfl) (fun _ _ _ h => h) (Or.inl ⟨by rfl, fun wS ⟨hS0, hS1, hS2, hS3, hS4⟩ => by go_simp; all_goals (rw [IntKind.wrap_i64]; omega)⟩) (by assumption) ?_
      simp only [Act.put, List.setIfInBounds_toArray, List.set_cons_zero, List.set_cons_succ]
      refine take_at (i := 6) (v := .slice (some ⟨g, o + 2, none⟩) 5 (cap - 2)) (d := some 43) rfl rfl (by kernel_rfl) (by kernel_rfl) (by kernel_rfl) (fun _ _ _ h => h) (Or.inl ⟨by rfl, fun wS ⟨hS0, hS1, hS2, hS3, hS4⟩ => by go_simp; all_goals (rw [IntKind.wrap_i64]; omega)⟩) (by assumption) ?_
      simp only [Act.put, List.setIfInBounds_toArray, List.set_cons_zero, List.set_cons_succ]
      refine take_at (i := 7) (v := .int .i64 now) (d := some 44) rfl rfl (by kernel_rfl) (by kernel_rfl) (by kernel_rfl) (fun _ _ _ h => h) (Or.inl ⟨by rfl, fun wS ⟨hS0, hS1, hS2, hS3, hS4⟩ => by go_simp; all_goals (rw [IntKind.wrap_i64]; omega)⟩) (by assumption) ?_
      simp only [Act.put, List.setIfInBounds_toArray, List.set_cons_zero, List.set_cons_succ]
      clear hHeld
      refine wpAnyH_ready (rs := [8]) (by kernel_rfl) (by simp) ?_
      refine AllReadyH.cons rfl (fun K hK => ?_) AllReadyH.nil
      go_simp
      refine (WI.out w1.drew Hb.out.drew).mono ?_
      rintro e w3 ⟨E, u', rfl, hE, hI, hEs, hb3⟩
      have Hb3 := hide (below_next Hb.out (Nat.le_refl _) (below_undrew hb3))
      have HE3 := hide hE
      have HI3 : Hid (IRow w3 w.heap.size u' (fs.drop 2)) := hide (hI.low (by have := Hb.out.size; exact this))
      have HEs : Hid (w.heap.size ≤ E) := hide (Nat.le_trans Hb.out.size hEs)
      clear hE hI hEs hb3 WI
      refine hK.out _ _ (SH.out _ Hb3.out) (fun hHeld => ?_)
      clear hK K
      refine take_at (i := 9) (v := .pointer (some ⟨D, 0, none⟩)) (d := some 46) rfl rfl (by kernel_rfl) (by kernel_rfl) (by kernel_rfl) (fun _ _ _ h => h) (Or.inl ⟨by rfl, fun wS ⟨hS0, hS1, hS2, hS3, hS4⟩ => by go_simp; all_goals (rw [IntKind.wrap_i64]; omega)⟩) (by assumption) ?_
      simp only [Act.put, List.setIfInBounds_toArray, List.set_cons_zero, List.set_cons_succ]
      refine take_at (i := 10) (v := .pointer (some ⟨D, 2, none⟩)) (d := some 47) rfl rfl (by kernel_rfl) (by kernel_rfl) (by kernel_rfl) (fun _ _ _ h => h) (Or.inl ⟨by rfl, fun wS ⟨hS0, hS1, hS2, hS3, hS4⟩ => by go_simp; all_goals (rw [IntKind.wrap_i64]; omega)⟩) (by assumption) ?_
      simp only [Act.put, List.setIfInBounds_toArray, List.set_cons_zero, List.set_cons_succ]
      clear hHeld
      refine wpAnyH_done (by kernel_rfl) (then_last ?_) _
      have HB3 := hide (HB1.out.after Hb3.out)
      obtain ⟨s2, s3, s4, s5, s6⟩ := SH.out w3 Hb3.out
      have f2 := HB3.out.frozen 2
      have f3 := HB3.out.frozen 3
      have f4 := HB3.out.frozen 4
      have f5 := HB3.out.frozen 5
      have f6 := HB3.out.frozen 6
      have HS := hide (set5 HB3.out (.int .i64 l.cn) (.int .i64 (l.hd + 1)) (.pointer (some ⟨E, 0, none⟩)) (.int .i64 now) (.int .i64 0))
      have HG := hide (grown5 w3 D (.int .i64 l.cn) (.int .i64 (l.hd + 1)) (.pointer (some ⟨E, 0, none⟩)) (.int .i64 now) (.int .i64 0))
      go_simp
      clear s2 s3 s4 s5 s6 f2 f3 f4 f5 f6 HB3 SH
      generalize ((((w3.setCell ⟨D, 2, none⟩ (.int .i64 l.cn)).setCell ⟨D, 3, none⟩ (.int .i64 (l.hd + 1))).setCell ⟨D, 4, none⟩ (.pointer (some ⟨E, 0, none⟩))).setCell ⟨D, 5, none⟩ (.int .i64 now)).setCell ⟨D, 6, none⟩ (.int .i64 0) = W5 at *
      have hD5 : ∃ ks', Dsk W5 D wh ms (l.with (fs.drop 2) now) ks' ∧ ∀ k ∈ ks', k ∈ ks ∨ w.heap.size ≤ k := dsk_with H3.out HC1.out Hb3.out HE3.out HI3.out (by rw [HF5.out]; omega) HEs.out HB1.out.lt HG.out (by unfold deC; rw [with_hd]; exact HS.out)
      obtain ⟨ks', hD5, hks5⟩ := hD5
      have HD5 := hide hD5
      have HK5 := hide hks5
      have HG5 : Hid (w.grownBy W5 (some D)) := hide (grown_then (grown_below Hb3.out (some D)) HG.out (fun k e => .inl (by injection e with e; exact e.symm)))
      have LR : Hid (∀ W, Calls Try.prog 42 #[.agg #[.int .i64 l.cn, .int .i64 (l.hd + 1), .pointer (some ⟨E, 0, none⟩), .int .i64 now, .int .i64 0]] W fun e w' => e = .returned (.bool (rdB (l.with (fs.drop 2) now))) ∧ Below W.heap.size W w') := hide (fun W => by
        have h := listready_any l.cn (l.hd + 1) now 0 (.pointer (some ⟨E, 0, none⟩)) W
        rw [← with_hd l (fs.drop 2) now] at h
        rw [with_hd] at h
        have e : (decide (0 < l.cn) && (l.hd + 1 == l.cn)) = rdB (l.with (fs.drop 2) now) := by unfold rdB; rw [with_hd]; rfl
        rw [← e]
        exact h)
      have t2 : W5.cell? ⟨D, 2, none⟩ = some (.int .i64 l.cn) := HS.out.cell 2 rfl
      have t3 : W5.cell? ⟨D, 3, none⟩ = some (.int .i64 (l.hd + 1)) := HS.out.cell 3 rfl
      have t4 : W5.cell? ⟨D, 4, none⟩ = some (.pointer (some ⟨E, 0, none⟩)) := HS.out.cell 4 rfl
      have t5 : W5.cell? ⟨D, 5, none⟩ = some (.int .i64 now) := HS.out.cell 5 rfl
      have t6 : W5.cell? ⟨D, 6, none⟩ = some (.int .i64 0) := HS.out.cell 6 rfl
      clear HS HG hD5 hks5 HE3 HI3 HEs Hb3 HB1 HC1 HD1 HU1 H3 Hb DN
      generalize l.with (fs.drop 2) now = l2 at *
      generalize hy2 : rdB l2 = y2 at *
      have HY2 := hide hy2
      clear hy2
      cases y2
      · have eR : R = askS wh l2 := by rw [HE2.out, if_neg (by simp)]
        subst eR
        clear HE2
        go_wp2_with fail
        refine (LR.out _).mono ?_
        rintro e w6 ⟨rfl, hb6⟩
        have HD6 := hide (HD5.out.after hb6)
        have HG6 := hide (grown_after HG5.out hb6)
        have AS := hide (ask_any w6 D wh ms l2 ks' HD6.out)
        clear hb6 t2 t3 t4 t5 t6 LR
        go_wp2_with fail
        refine AS.out.mono ?_
        rintro e w7 ⟨v, rfl, ha, hb7⟩
        have HA := hide ha
        have Hb7 := hide hb7
        clear ha hb7
        go_wp2_with fail
        go_ret
        exact Hq.out _ _ _ (dEnd_say HD6.out HK5.out HG6.out HA.out Hb7.out)
      · have eR : R = (l2, none) := by rw [HE2.out, if_pos rfl]
        subst eR
        clear HE2
        go_wp2_with fail
        refine (LR.out _).mono ?_
        rintro e w6 ⟨rfl, hb6⟩
        have HD6 := hide (HD5.out.after hb6)
        have HG6 := hide (grown_after HG5.out hb6)
        clear hb6 t2 t3 t4 t5 t6 LR
        go_wp2_with fail
        go_ret
        exact Hq.out _ _ _ (dEnd_say (v := .slice none 0 0) (a := none) HD6.out HK5.out HG6.out rfl (Below.refl _ _))
    · have q1 : (i != l.hd) = true := by simp [h1]
      have q2 : (i == l.hd) = false := by simp [h1]
      by_cases h2 : i = l.hd - 1
      · have eR : R = askS wh l := by rw [HE.out, if_neg (by simp), if_neg h1, if_pos h2]
        subst eR
        clear HE
        have q3 : (i != l.hd - 1) = false := by simp [h2]
        have LR := hide (listready_any l.cn l.hd l.he l.ag (.pointer q))
        rw [HTR.out (by trivial)] at LR
        clear h2 h1
        go_upto_region 6 with (go_at_call 38; refine (TK.out w).mono ?_; rintro e w1 ⟨rfl, hb⟩; have Hb := hide hb; clear hb)
        have HB2 := hide (HB1.out.after Hb.out)
        clear c2 c3 c4 c5 c6
        have c2 : w1.cell? ⟨D, 2, none⟩ = some (.int .i64 l.cn) := HB2.out.cell 2 rfl
        have c3 : w1.cell? ⟨D, 3, none⟩ = some (.int .i64 l.hd) := HB2.out.cell 3 rfl
        have c4 : w1.cell? ⟨D, 4, none⟩ = some (.pointer q) := HB2.out.cell 4 rfl
        have c5 : w1.cell? ⟨D, 5, none⟩ = some (.int .i64 l.he) := HB2.out.cell 5 rfl
        have c6 : w1.cell? ⟨D, 6, none⟩ = some (.int .i64 l.ag) := HB2.out.cell 6 rfl
        go_wp2_with fail
        refine (LR.out _).mono ?_
        rintro e w2 ⟨rfl, hb2⟩
        have Hb2 := hide (below_next Hb.out (Nat.le_refl _) hb2)
        have HD2 := hide (HD1.out.after Hb2.out)
        have AS := hide (ask_any w2 D wh ms l ks HD2.out)
        clear hb2 c2 c3 c4 c5 c6
        go_wp2_with fail
        refine AS.out.mono ?_
        rintro e w3 ⟨v, rfl, ha, hb3⟩
        have HA := hide ha
        have Hb3 := hide hb3
        clear ha hb3
        go_wp2_with fail
        go_ret
        exact Hq.out _ _ _ (dEnd_say HD2.out (fun k hk => .inl hk) (grown_below Hb2.out _) HA.out Hb3.out)
      · have eR : R = (l, none) := by rw [HE.out, if_neg (by simp), if_neg h1, if_neg h2]
        subst eR
        clear HE
        have q3 : (i != l.hd - 1) = true := by simp [h2]
        clear h1 h2
        go_wp2_with fail
        refine (TK.out w).mono ?_
        rintro e w1 ⟨rfl, hb⟩
        have HN := hide (DN.out _ hb)
        clear hb
        go_wp2_with fail
        go_ret
        exact Hq.out _ _ _ HN.out
end Go.Proofs.Ytimkfipiebppiaa
