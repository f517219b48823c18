/- Package mission: Step. -/
import Derived.Test.YtnekjfidobglmaaMi6
namespace Go.Proofs.Ytnekjfidobglmaa
open Go.RowKit Go.Great Go.Maps

/-- what is always so of a run -/
structure ROk (r : Rn) : Prop where
  c : chk r.L = 0
  p : r.p ≤ r.L.length
  l : 0 ≤ r.l ∧ r.l ≤ 1000000
  j : ∀ i, 0 ≤ r.J i ∧ r.J i ≤ 255
theorem rn0_ok {s : Int} {L : List It} (h : chk L = 0) : ROk (rn0 s L) := ⟨h, Nat.zero_le _, by simp [rn0], fun i => by simp [rn0]⟩
theorem ROk.item {r : Rn} (h : ROk r) {x : It} (hx : r.L[r.p]? = some x) : okK x.k.toNat x.a x.b x.c = true ∧ ((x.k.toNat : Int) = 4 → 0 ≤ x.a ∧ x.a < r.L.length) := by
  have := one_ok ((chk_ok h.c).2 x (List.mem_of_getElem? hx))
  exact ⟨this.1, fun e => this.2 (by omega)⟩
theorem okK_loiter {a b c : Int} (h : okK 3 a b c = true) : 0 ≤ a ∧ a ≤ 1000000 := by
  unfold okK at h
  simp at h
  exact wi_true h.1.1
theorem okK_jump {a b c : Int} (h : okK 4 a b c = true) : 0 ≤ b ∧ b ≤ 255 := by
  unfold okK at h
  simp at h
  exact wi_true h.1
theorem upJ_in {J : Nat → Int} (h : ∀ i, 0 ≤ J i ∧ J i ≤ 255) {v : Int} (hv : 0 ≤ v ∧ v ≤ 255) (i : Nat) : ∀ k, 0 ≤ upJ J i v k ∧ upJ J i v k ≤ 255 := by
  intro k
  unfold upJ
  split
  · exact hv
  · exact h k
theorem ROk.step {r : Rn} (h : ROk r) (arr : Bool) : ROk (stp r arr) := by
  unfold stp
  cases hx : r.L[r.p]? with
  | none => exact h
  | some x =>
    have hlt := (List.getElem?_eq_some_iff.1 hx).1
    obtain ⟨h1, h2⟩ := h.item hx
    have hl := h.l
    simp only
    split
    · split
      · exact ⟨h.c, by simp only; omega, h.l, h.j⟩
      · exact h
    · split
      · next e3 =>
        rw [e3] at h1
        have := okK_loiter h1
        split
        · exact ⟨h.c, by simp only; omega, by simp only; omega, h.j⟩
        · exact ⟨h.c, by simp only; omega, by simp only; omega, h.j⟩
      · split
        · next e4 =>
          have h2 := h2 e4
          rw [e4] at h1
          have hb := okK_jump h1
          have hj := h.j r.p
          split
          · exact ⟨h.c, by simp only; omega, h.l, upJ_in h.j (by omega) _⟩
          · exact ⟨h.c, by simp only; omega, h.l, upJ_in h.j (by omega) _⟩
        · split
          · exact ⟨h.c, by simp only; omega, h.l, h.j⟩
          · exact h
set_option maxHeartbeats 2000000 in
theorem step_no (v : Value) (arr : Bool) (w : World) (IT : Calls Try.prog 40 #[v] w fun e w' => e = .returned (.tuple #[iV 0 0 0 0, .bool false]) ∧ Below w.heap.size w w') : Calls Try.prog 28 #[v, .bool arr] w fun e w' => e = .returned (.tuple #[]) ∧ Below w.heap.size w w' := by
  have HI := hide IT
  clear IT
  go_enter Try.func28, Try.ntmps28
  go_wp2_with fail
  refine HI.out.mono ?_
  rintro e w1 ⟨rfl, hb1⟩
  have Hb := hide (below_next hb1 (Nat.le_refl _) (below_alloc w1 (.cells (iC 0 0 0 0) 48)))
  clear hb1 HI
  go_upto_region 1 with fail
  generalize w1.alloc (.cells (iC 0 0 0 0) 48) = W at *
  go_wp2_with fail
  refine bodyPost_ret (results_none rfl _ _ _) rfl ?_
  exact ⟨rfl, Hb.out⟩
theorem stepNil (arr : Bool) (w : World) : Calls Try.prog 28 #[.pointer none, .bool arr] w fun e w' => e = .returned (.tuple #[]) ∧ Below w.heap.size w w' := step_no _ arr w (item_nil w)
def SEnd (w : World) (R n : Nat) (r' : Rn) (e : Ending) (w' : World) : Prop := e = .returned (.tuple #[]) ∧ RunB w' R n r' ∧ w.grownBy w' (some R)
theorem send_of {w w' : World} {R n : Nat} {r r' : Rn} {iv : Value} {m : Nat} (hG : w.grownBy w' (some R)) (hB : Blk w' R (rC iv r'.p r'.s r'.l m) 70) (hM : MapJ w' m n r'.J) {W : World} (hI : MRow W 0 iv r.L) {cs : Array Value} (hBW : Blk W R cs 70) (hGW : W.grownBy w' (some R)) (hL : r'.L = r.L) : SEnd w R n r' (.returned (.tuple #[])) w' := by
  refine ⟨rfl, ⟨iv, m, hB, ?_, hM⟩, hG⟩
  rw [hL]
  exact hI.grown hGW (hI.noblk hBW (by decide))
set_option maxHeartbeats 8000000 in
theorem step_is (w : World) (R n : Nat) (r : Rn) (arr : Bool) (h : RunB w R n r) (ok : ROk r) (hn : n < maxLen) (x : It) (hx : r.L[r.p]? = some x) : Calls Try.prog 28 #[rP R, .bool arr] w (SEnd w R (n + 1) (stp r arr)) := by
  have IT := hide (item_any w R n r h x hx)
  have hok := ok.item hx
  have hp64 := (chk_ok ok.c).1
  have hpl := ok.p
  have hl := ok.l
  have hj := ok.j
  obtain ⟨iv, m, hB, hI, hM⟩ := h
  have ST : Hid (stp r arr = (if (x.k.toNat : Int) = 1 ∨ (x.k.toNat : Int) = 2 then (if arr = true then { r with p := r.p + 1 } else r)
    else if (x.k.toNat : Int) = 3 then (if x.a ≤ r.l + 1 then { r with l := 0, p := r.p + 1 } else { r with l := r.l + 1 })
    else if (x.k.toNat : Int) = 4 then (if r.J r.p < x.b then { r with J := upJ r.J r.p (r.J r.p + 1), p := x.a.toNat } else { r with J := upJ r.J r.p 0, p := r.p + 1 })
    else if (x.k.toNat : Int) = 5 then { r with s := x.a, p := r.p + 1 }
    else r)) := hide (by unfold stp; rw [hx])
  obtain ⟨L, p, s, l, J⟩ := r
  obtain ⟨k, a, b, c⟩ := x
  simp only at *
  generalize stp _ arr = r' at *
  generalize (k.toNat : Int) = K at *
  have HB := hide hB
  have HI := hide hI
  have HM := hide hM
  clear hB hI hM hx ok
  go_enter Try.func28, Try.ntmps28
  go_wp2_with fail
  refine IT.out.mono ?_
  rintro e w1 ⟨rfl, hb1⟩
  have hb := below_next hb1 (Nat.le_refl _) (below_alloc w1 (.cells (iC K a b c) 48))
  have HX := hide (Blk.new w1 (iC K a b c) 48)
  have hz := hb1.size
  have hlt := HB.out.lt
  have HG := hide (grown_below hb (some R))
  replace HB := hide (HB.out.after hb)
  replace HI := hide (HI.out.below hb)
  replace HM := hide (HM.out.below hb)
  clear hb hb1 IT
  go_upto_region 2 with fail
  generalize w1.alloc (.cells (iC K a b c) 48) = W at *
  have hq : w1.heap.size ≠ R := by omega
  generalize w1.heap.size = q at *
  obtain ⟨c0, c1, c2, c3⟩ := it_cells HX.out
  obtain ⟨d0, d1, d2, d3, d4⟩ := run_cells HB.out
  have f1 := HB.out.frozen 1
  have f2 := HB.out.frozen 2
  have S1 : Hid (Blk (W.setCell ⟨R, 1, none⟩ (.int .i64 (p + 1))) R (rC iv (p + 1) s l m) 70) := hide (HB.out.set 1 (.int .i64 (p + 1)))
  have G1 := hide (grown_set W R 1 (.int .i64 (p + 1)))
  have M1 := hide (HM.out.kept G1.out (by intro e; injection e with e; exact HM.out.noblk HB.out e))
  by_cases k12 : K = 1 ∨ K = 2
  · cases arr
    · have HE : Hid (r' = ⟨L, p, s, l, J⟩) := hide (by rw [ST.out, if_pos k12]; rfl)
      clear ST
      rcases k12 with rfl | rfl
      · go_wp2_with fail
        go_end0
        rw [HE.out]
        exact ⟨rfl, ⟨iv, m, HB.out, HI.out, HM.out.mono (Nat.le_succ _)⟩, HG.out⟩
      · go_wp2_with fail
        go_end0
        rw [HE.out]
        exact ⟨rfl, ⟨iv, m, HB.out, HI.out, HM.out.mono (Nat.le_succ _)⟩, HG.out⟩
    · have HE : Hid (r' = ⟨L, p + 1, s, l, J⟩) := hide (by rw [ST.out, if_pos k12]; rfl)
      clear ST
      rcases k12 with rfl | rfl
      · go_wp2_with fail
        go_end0
        rw [HE.out]
        exact send_of (r := ⟨L, p, s, l, J⟩) (grown_more HG.out G1.out) S1.out (M1.out.mono (Nat.le_succ _)) HI.out HB.out G1.out rfl
      · go_wp2_with fail
        go_end0
        rw [HE.out]
        exact send_of (r := ⟨L, p, s, l, J⟩) (grown_more HG.out G1.out) S1.out (M1.out.mono (Nat.le_succ _)) HI.out HB.out G1.out rfl
  · by_cases k3 : K = 3
    · subst k3
      have LO := hide (loiter_any W R iv p s l m HB.out a hl (by omega))
      have HE : Hid (r' = (if a ≤ l + 1 then ⟨L, p + 1, s, 0, J⟩ else ⟨L, p, s, l + 1, J⟩)) := hide (by rw [ST.out]; rfl)
      clear ST
      go_wp2_with (go_at_call 41; refine LO.out.mono ?_; rintro e w2 ⟨rfl, hg2, hB2⟩; have HG2 := hide hg2; have HB2 := hide hB2; clear hg2 hB2 LO)
      go_end0
      have M2 := HM.out.kept HG2.out (by intro e; injection e with e; exact HM.out.noblk HB.out e)
      rw [HE.out]
      by_cases ha : a ≤ l + 1
      · rw [if_pos ha]
        have := HB2.out
        rw [if_pos ha] at this
        exact send_of (r := ⟨L, p, s, l, J⟩) (grown_more HG.out HG2.out) this (M2.mono (Nat.le_succ _)) HI.out HB.out HG2.out rfl
      · rw [if_neg ha]
        have := HB2.out
        rw [if_neg ha] at this
        exact send_of (r := ⟨L, p, s, l, J⟩) (grown_more HG.out HG2.out) this (M2.mono (Nat.le_succ _)) HI.out HB.out HG2.out rfl
    · by_cases k4 : K = 4
      · subst k4
        have hto := hok.2 rfl
        have JU := hide (jump_any W R iv p s l m n J HB.out HM.out hn a b (by omega) (hj p))
        have HE : Hid (r' = (if J p < b then ⟨L, a.toNat, s, l, upJ J p (J p + 1)⟩ else ⟨L, p + 1, s, l, upJ J p 0⟩)) := hide (by rw [ST.out]; rfl)
        clear ST
        go_wp2_with (go_at_call 42; refine JU.out.mono ?_; rintro e w2 ⟨rfl, hg2, m2, hB2, hM2⟩; have HG2 := hide hg2; have HB2 := hide hB2; have HM2 := hide hM2; clear hg2 hB2 hM2 JU)
        go_end0
        rw [HE.out]
        have h1 := HB2.out
        have h2 := HM2.out
        by_cases ha : J p < b
        · rw [if_pos ha] at h1 h2 ⊢
          refine send_of (r := ⟨L, p, s, l, J⟩) (grown_more HG.out HG2.out) ?_ h2 HI.out HB.out HG2.out rfl
          simp only
          rw [show ((a.toNat : Nat) : Int) = a by omega]
          exact h1
        · rw [if_neg ha] at h1 h2 ⊢
          exact send_of (r := ⟨L, p, s, l, J⟩) (grown_more HG.out HG2.out) h1 h2 HI.out HB.out HG2.out rfl
      · by_cases k5 : K = 5
        · subst k5
          have HE : Hid (r' = ⟨L, p + 1, a, l, J⟩) := hide (by rw [ST.out]; rfl)
          have S2 : Hid (Blk ((W.setCell ⟨R, 2, none⟩ (.int .i64 a)).setCell ⟨R, 1, none⟩ (.int .i64 (p + 1))) R (rC iv (p + 1) a l m) 70) := hide ((HB.out.set 2 (.int .i64 a)).set 1 (.int .i64 (p + 1)))
          have G2 := hide (grown_more (grown_set W R 2 (.int .i64 a)) (grown_set _ R 1 (.int .i64 (p + 1))))
          have M2 := hide (HM.out.kept G2.out (by intro e; injection e with e; exact HM.out.noblk HB.out e))
          clear ST S1 G1 M1
          go_wp2_with fail
          go_end0
          rw [HE.out]
          exact send_of (r := ⟨L, p, s, l, J⟩) (grown_more HG.out G2.out) S2.out (M2.out.mono (Nat.le_succ _)) HI.out HB.out G2.out rfl
        · have HE : Hid (r' = ⟨L, p, s, l, J⟩) := hide (by rw [ST.out, if_neg k12, if_neg k3, if_neg k4, if_neg k5])
          have k1 : ¬ K = 1 := fun e => k12 (.inl e)
          have k2 : ¬ K = 2 := fun e => k12 (.inr e)
          clear ST S1 G1 M1 k12
          go_wp2_with fail
          go_end0
          rw [HE.out]
          exact ⟨rfl, ⟨iv, m, HB.out, HI.out, HM.out.mono (Nat.le_succ _)⟩, HG.out⟩
theorem step_any (w : World) (R n : Nat) (r : Rn) (arr : Bool) (h : RunB w R n r) (ok : ROk r) (hn : n < maxLen) : Calls Try.prog 28 #[rP R, .bool arr] w (SEnd w R (n + 1) (stp r arr)) := by
  by_cases hlt : r.p < r.L.length
  · exact step_is w R n r arr h ok hn _ (List.getElem?_eq_getElem hlt)
  · have hp := ok.p
    have e : stp r arr = r := by unfold stp; rw [List.getElem?_eq_none (by omega)]
    rw [e]
    exact (step_no (rP R) arr w (item_end w R n r h (by omega))).mono fun e w' ⟨he, hb⟩ => ⟨he, (h.grown hb).mono (Nat.le_succ _), grown_below hb _⟩
end Go.Proofs.Ytnekjfidobglmaa
