/- The statements of layer 21: row, and what is said by an Item of it. -/
import Derived.Test.YtbkmalepfmggbaaUlO
import Derived.Laws.MakeOwn
namespace Go.Proofs.Ytbkmalepfmggbaa
open Go.RowKit Go.Great

/-- a row's numbers behind k rounds -/
def rwA (l : List Int) (k i : Nat) : Int := if i < k ∧ i < l.length then (l.getD i 0).tmod 1000000 else 0
abbrev rwC (l : List Int) (k : Nat) : Array Value := #[.int .i64 (rwA l k 0), .int .i64 (rwA l k 1), .int .i64 (rwA l k 2), .int .i64 (rwA l k 3), .int .i64 (rwA l k 4)]
/-- the first number, cut to its width -/
def rw0 (l : List Int) : Int := if (rwA l 5 0).tmod 100 < 0 then -((rwA l 5 0).tmod 100) else (rwA l 5 0).tmod 100
/-- a row -/
def rwL (l : List Int) : List Int := [rw0 l, rwA l 5 1, rwA l 5 2, rwA l 5 3, rwA l 5 4]
theorem tmod_in (x m : Int) (h : 0 < m) : -m < x.tmod m ∧ x.tmod m < m := ⟨Int.lt_tmod_of_pos x h, Int.tmod_lt_of_pos x h⟩
theorem rwA_in (l : List Int) (k i : Nat) : -1000000 < rwA l k i ∧ rwA l k i < 1000000 := by
  unfold rwA
  split
  · exact tmod_in _ _ (by omega)
  · omega
theorem rw0_in (l : List Int) : 0 ≤ rw0 l ∧ rw0 l < 100 := by
  unfold rw0
  have := tmod_in (rwA l 5 0) 100 (by omega)
  split <;> omega
theorem rwA_step (l : List Int) (k : Nat) (h : k < l.length) : rwA l (k + 1) k = (l.getD k 0).tmod 1000000 := by
  unfold rwA; rw [if_pos ⟨by omega, h⟩]
theorem rwA_other (l : List Int) (k i : Nat) (h : i ≠ k) : rwA l (k + 1) i = rwA l k i := by
  unfold rwA
  by_cases h1 : i < k ∧ i < l.length
  · rw [if_pos h1, if_pos ⟨by omega, h1.2⟩]
  · rw [if_neg h1, if_neg (by omega)]
theorem rwA_end (l : List Int) (k i : Nat) (h : k ≤ 5) (hk : ¬ (k < 5 ∧ k < l.length)) : rwA l k i = rwA l 5 i ∨ 5 ≤ i := by
  by_cases h5 : 5 ≤ i
  · exact .inr h5
  · left
    unfold rwA
    by_cases h1 : i < k ∧ i < l.length
    · rw [if_pos h1, if_pos ⟨by omega, h1.2⟩]
    · rw [if_neg h1, if_neg (by omega)]
theorem set_row {W : World} {G : Nat} {a b c d e : Value} {t : TypeId} (h : Blk W G #[a, b, c, d, e] t) (k : Nat) (u : Value) : Blk (W.setCell ⟨G, k, none⟩ u) G (#[a, b, c, d, e].setIfInBounds k u) t := h.set k u
theorem rwC_step (l : List Int) (k : Nat) (h5 : k < 5) (h : k < l.length) : (rwC l k).setIfInBounds k (.int .i64 ((l.getD k 0).tmod 1000000)) = rwC l (k + 1) := by
  rw [← rwA_step l k h]
  have hk : k = 0 ∨ k = 1 ∨ k = 2 ∨ k = 3 ∨ k = 4 := by omega
  unfold rwC
  rcases hk with rfl | rfl | rfl | rfl | rfl
  · rw [rwA_other l 0 1 (by omega), rwA_other l 0 2 (by omega), rwA_other l 0 3 (by omega), rwA_other l 0 4 (by omega)]; rfl
  · rw [rwA_other l 1 0 (by omega), rwA_other l 1 2 (by omega), rwA_other l 1 3 (by omega), rwA_other l 1 4 (by omega)]; rfl
  · rw [rwA_other l 2 0 (by omega), rwA_other l 2 1 (by omega), rwA_other l 2 3 (by omega), rwA_other l 2 4 (by omega)]; rfl
  · rw [rwA_other l 3 0 (by omega), rwA_other l 3 1 (by omega), rwA_other l 3 2 (by omega), rwA_other l 3 4 (by omega)]; rfl
  · rw [rwA_other l 4 0 (by omega), rwA_other l 4 1 (by omega), rwA_other l 4 2 (by omega), rwA_other l 4 3 (by omega)]; rfl
theorem rwC_end (l : List Int) (k : Nat) (h : k ≤ 5) (hk : ¬ (k < 5 ∧ k < l.length)) : rwC l k = rwC l 5 := by
  have e : ∀ i, i < 5 → rwA l k i = rwA l 5 i := fun i hi => (rwA_end l k i h hk).resolve_right (by omega)
  unfold rwC
  rw [e 0 (by omega), e 1 (by omega), e 2 (by omega), e 3 (by omega), e 4 (by omega)]
theorem rwC_at (l : List Int) (k i : Nat) (hi : i < 5) : (rwC l k)[i]? = some (.int .i64 (rwA l k i)) := by
  have hk : i = 0 ∨ i = 1 ∨ i = 2 ∨ i = 3 ∨ i = 4 := by omega
  rcases hk with rfl | rfl | rfl | rfl | rfl <;> rfl
theorem make5 (w : World) : (Instr.makeSlice 36 (.int .i64 5) (.int .i64 5)).run Try.prog w = .ok (.slice (some ⟨w.heap.size, 0, none⟩) 5 5) (w.alloc (.cells #[.int .i64 0, .int .i64 0, .int .i64 0, .int .i64 0, .int .i64 0] 3)) := by kernel_rfl
set_option maxHeartbeats 2000000 in
set_option maxRecDepth 100000 in
theorem row_any (l : List Int) (v : Value) (w : World) (hv : Ints w v l) (hl : l.length ≤ 4611686018427387904) : Calls Try.prog 24 #[v] w fun e w' => ∃ G, e = .returned (.slice (some ⟨G, 0, none⟩) 5 5) ∧ Blk w' G #[.int .i64 (rw0 l), .int .i64 (rwA l 5 1), .int .i64 (rwA l 5 2), .int .i64 (rwA l 5 3), .int .i64 (rwA l 5 4)] 3 ∧ w.heap.size ≤ G ∧ Below w.heap.size w w' := by
  have HV := hide hv
  obtain ⟨va, vc, rfl, _⟩ := hv
  obtain ⟨n, hn⟩ : ∃ n, Hid (l.length = n) := ⟨_, hide rfl⟩
  rw [hn.out] at hl ⊢
  have e0 : rwC l 0 = #[.int .i64 0, .int .i64 0, .int .i64 0, .int .i64 0, .int .i64 0] := by
    have : ∀ i, rwA l 0 i = 0 := fun i => by unfold rwA; rw [if_neg (by omega)]
    unfold rwC; rw [this, this, this, this, this]
  have H0 : Hid (Blk (w.alloc (.cells #[.int .i64 0, .int .i64 0, .int .i64 0, .int .i64 0, .int .i64 0] 3)) w.heap.size (rwC l 0) 3) := hide (by rw [e0]; exact Blk.new w _ _)
  have Hb0 := hide (below_alloc w (.cells #[.int .i64 0, .int .i64 0, .int .i64 0, .int .i64 0, .int .i64 0] 3))
  clear e0
  go_enter Try.func24, Try.ntmps24
  have MK := make5 w
  go_wp2_with fail
  clear MK
  go_loopw [4] (fun vi wx => ∃ k : Nat, vi = .int .i64 (k : Int) ∧ k ≤ 5 ∧ Hid (Blk wx w.heap.size (rwC l k) 3) ∧ Hid (Below w.heap.size w wx)) (fun vi _ => 5 - (intOf vi).toNat)
  case atStart => exact ⟨0, rfl, by omega, H0, Hb0⟩
  case round =>
    clear H0 Hb0
    obtain ⟨k, rfl, hk, HB, Hb⟩ := hrel
    obtain ⟨q, hq⟩ : ∃ q, Hid ((decide (k < 5) && decide (k < n)) = q) := ⟨_, hide rfl⟩
    go_upto_region 3 with fail
    go_cut [13] (fun x wx => x = .bool q ∧ wx = wr)
    case first =>
      by_cases h5 : k < 5
      · by_cases hkn : k < n
        · have e : q = true := by rw [← hq.out]; simp [h5, hkn]
          subst e
          clear hq
          go_wp2_with fail
          go_meet
          exact ⟨rfl, rfl⟩
        · have e : q = false := by rw [← hq.out]; simp [hkn]
          subst e
          clear hq
          go_wp2_with fail
          go_meet
          exact ⟨rfl, rfl⟩
      · have e : q = false := by rw [← hq.out]; simp [h5]
        subst e
        clear hq
        go_wp2_with fail
        go_meet
        exact ⟨rfl, rfl⟩
    case rest =>
      obtain ⟨rfl, hw⟩ := hcut
      subst hw
      cases q
      · have hn1 : ¬ (k < 5 ∧ k < l.length) := by rw [hn.out]; intro h; have := hq.out; simp [h] at this
        have HE := hide (rwC_end l k hk hn1)
        rw [HE.out] at HB
        clear HE hn1 hq
        have hr0 : rw0 l = if (rwA l 5 0).tmod 100 < 0 then -((rwA l 5 0).tmod 100) else (rwA l 5 0).tmod 100 := rfl
        have HR0 := hide hr0
        clear hr0
        have hx1 := tmod_in (rwA l 5 0) 100 (by omega)
        have c0 : wc.cell? ⟨w.heap.size, 0, none⟩ = some (.int .i64 (rwA l 5 0)) := HB.out.cell 0 rfl
        have f0 := HB.out.frozen 0
        unfold rwC at HB
        generalize rwA l 5 0 = x0 at *
        have HB2 := hide (HB.out.set 0 (.int .i64 (x0.tmod 100)))
        have Hb2 := hide (below_set Hb.out w.heap.size 0 (.int .i64 (x0.tmod 100)) (Nat.le_refl _) Hb.out.size)
        go_upto_region 7 with fail
        clear c0 f0 HB Hb
        generalize wc.setCell ⟨w.heap.size, 0, none⟩ (.int .i64 (x0.tmod 100)) = W2 at *
        generalize x0.tmod 100 = y at *
        have HB3 : Hid (Blk W2 w.heap.size #[.int .i64 y, .int .i64 (rwA l 5 1), .int .i64 (rwA l 5 2), .int .i64 (rwA l 5 3), .int .i64 (rwA l 5 4)] 3) := hide HB2.out
        have c0 : W2.cell? ⟨w.heap.size, 0, none⟩ = some (.int .i64 y) := HB3.out.cell 0 rfl
        have f0 := HB3.out.frozen 0
        clear HB2
        by_cases hy : y < 0
        · have HB4 : Hid (Blk (W2.setCell ⟨w.heap.size, 0, none⟩ (.int .i64 (-y))) w.heap.size #[.int .i64 (rw0 l), .int .i64 (rwA l 5 1), .int .i64 (rwA l 5 2), .int .i64 (rwA l 5 3), .int .i64 (rwA l 5 4)] 3) := hide (by rw [HR0.out, if_pos hy]; exact HB3.out.set 0 (.int .i64 (-y)))
          have Hb4 := hide (below_set Hb2.out w.heap.size 0 (.int .i64 (-y)) (Nat.le_refl _) Hb2.out.size)
          clear HR0 HB3 Hb2
          go_wp2_with fail
          go_ret
          exact ⟨w.heap.size, rfl, HB4.out, Nat.le_refl _, Hb4.out⟩
        · have HB4 : Hid (Blk W2 w.heap.size #[.int .i64 (rw0 l), .int .i64 (rwA l 5 1), .int .i64 (rwA l 5 2), .int .i64 (rwA l 5 3), .int .i64 (rwA l 5 4)] 3) := hide (by rw [HR0.out, if_neg hy]; exact HB3.out)
          clear HR0 HB3
          go_wp2_with fail
          go_ret
          exact ⟨w.heap.size, rfl, HB4.out, Nat.le_refl _, Hb2.out⟩
      · have hn1 : k < 5 ∧ k < n := by have := hq.out; simpa using this
        obtain ⟨a2, cap2, e1, hc⟩ := HV.out
        rw [hn.out] at e1 hc
        injection e1 with e1 _ e3
        subst e1 e3
        obtain ⟨g0, o, rfl, hg, hc⟩ := hc (by omega)
        have hci := hc k (by omega)
        have hSt : Hid ((rwC l k).setIfInBounds k (.int .i64 ((l.getD k 0).tmod 1000000)) = rwC l (k + 1)) := hide (rwC_step l k hn1.1 (by rw [hn.out]; exact hn1.2))
        have k0 : wc.cell? ⟨g0, o + k, none⟩ = some (.int .i64 (l.getD k 0)) := (Hb.out.cell (p := ⟨g0, o + k, none⟩) hg).trans hci
        generalize l.getD k 0 = x at *
        have k1 : wc.cell? ⟨w.heap.size, k, none⟩ = some (.int .i64 (rwA l k k)) := HB.out.cell k (rwC_at l k k hn1.1)
        have f1 := HB.out.frozen k
        have HB2 := hide (HB.out.set k (.int .i64 (x.tmod 1000000)))
        rw [hSt.out] at HB2
        have Hb2 := hide (below_set Hb.out w.heap.size k (.int .i64 (x.tmod 1000000)) (Nat.le_refl _) Hb.out.size)
        clear hci hc hSt hq HV
        go_wp2_with fail
        go_roundw
        case rel => exact ⟨k + 1, by go_num, by omega, HB2, Hb2⟩
        case measure => simp [intOf]; omega
theorem fit1 {n : Int} (h : 0 ≤ n ∧ n ≤ 255) : fitB 1 n = true := (fitB_iff 1 n).2 (by have : leW 1 = 0 ∧ grW 1 = 255 := (by decide); omega)
theorem fit2 {n : Int} (h : 0 ≤ n ∧ n ≤ 65535) : fitB 2 n = true := (fitB_iff 2 n).2 (by have : leW 2 = 0 ∧ grW 2 = 65535 := (by decide); omega)
theorem fit4 {n : Int} (h : -1000000 < n ∧ n < 1000000) : fitB (-4) n = true := (fitB_iff (-4) n).2 (by have : leW (-4) = -2147483648 ∧ grW (-4) = 2147483647 := (by decide); omega)
theorem okM_of {k : Int} {fs : List Int} (h1 : (wsK k).length ≠ 0) (h2 : fs.length = (wsK k).length) (h3 : fitsK (wsK k) fs (wsK k).length = true) : okM k fs = true := by
  unfold okM
  rw [encM_ok 0 k fs h1 h2 (by omega) h3]
  rfl
theorem okM_item (i : Int) (l : List Int) (hi : 0 ≤ i ∧ i ≤ 65535) : okM 9 (2 :: i :: rwL l) = true := by
  refine okM_of (by decide) rfl ?_
  show fitsK [1, 2, 1, -4, -4, -4, -4] [2, i, rw0 l, rwA l 5 1, rwA l 5 2, rwA l 5 3, rwA l 5 4] 7 = true
  have h0 := rw0_in l
  simp only [fitsK, List.getD, List.getElem?_cons_zero, List.getElem?_cons_succ, Option.getD_some, Bool.and_eq_true]
  refine ⟨⟨⟨⟨⟨⟨⟨trivial, fit1 (by omega)⟩, fit2 hi⟩, fit1 (by omega)⟩, fit4 (rwA_in l 5 1)⟩, fit4 (rwA_in l 5 2)⟩, fit4 (rwA_in l 5 3)⟩, fit4 (rwA_in l 5 4)⟩
theorem okM_count (n : Int) (h : 0 ≤ n ∧ n ≤ 65535) : okM 7 [2, n] = true := by
  refine okM_of (by decide) rfl ?_
  show fitsK [1, 2] [2, n] 2 = true
  simp only [fitsK, List.getD, List.getElem?_cons_zero, List.getElem?_cons_succ, Option.getD_some, Bool.and_eq_true]
  exact ⟨⟨trivial, fit1 (by omega)⟩, fit2 h⟩
end Go.Proofs.Ytbkmalepfmggbaa
