/- slices.Sort of at most twelve ints: the library's own text, walked at this dump. -/
import Derived.Test.YtmglcmhofcejiaaVoM
import Derived.Test.YtmglcmhofcejiaaBk0
import Derived.Test.YtmglcmhofcejiaaLead
import Derived.CellFam
import Derived.BigRegion
namespace Go.Proofs.Ytmglcmhofcejiaa
open Go.RowKit Go.Great

theorem nan_any (x : Int) (w : World) : Calls Try.prog 56 #[.int .i64 x] w fun e w' => e = .returned (.bool false) ∧ w' = w := by
  go_enter Try.func56, Try.ntmps56
  go_wp2
  go_ret
  exact ⟨rfl, rfl⟩
theorem less_fn (x y : Int) (w : World) : Calls Try.prog 46 #[.int .i64 x, .int .i64 y] w fun e w' => e = .returned (.bool (decide (x < y))) ∧ w' = w := by
  go_enter Try.func46, Try.ntmps46
  go_wp2_with (go_at_call 56; refine (nan_any _ _).mono ?_; rintro e w' ⟨rfl, rfl⟩)
  go_ret
  exact ⟨rfl, rfl⟩
/-- a row of n numbers f in block g, of cap places -/
structure NRow (w : World) (g cap n : Nat) (f : Nat → Int) : Prop where
  blk : ∃ cur, Blk w g cur 3 ∧ cur.size = cap ∧ ∀ t, t < n → cur[t]? = some (.int .i64 (f t))
  le : n ≤ cap
theorem NRow.lt {w : World} {g cap n : Nat} {f : Nat → Int} (h : NRow w g cap n f) : g < w.heap.size := by obtain ⟨cur, hb, _⟩ := h.blk; exact hb.lt
theorem NRow.cell {w : World} {g cap n : Nat} {f : Nat → Int} (h : NRow w g cap n f) (t : Nat) (ht : t < n) : w.cell? ⟨g, t, none⟩ = some (.int .i64 (f t)) := by
  obtain ⟨cur, hb, _, hc⟩ := h.blk; exact hb.cell t (hc t ht)
theorem NRow.frozen {w : World} {g cap n : Nat} {f : Nat → Int} (h : NRow w g cap n f) (t : Nat) : w.frozen? ⟨g, t, none⟩ = false := by
  obtain ⟨cur, hb, _⟩ := h.blk; exact hb.frozen t
theorem NRow.drewN {w : World} {g cap n : Nat} {f : Nat → Int} (h : NRow w g cap n f) (k : Nat) : NRow (w.drewN k) g cap n f := by
  refine ⟨?_, h.le⟩
  obtain ⟨cur, hb, r⟩ := h.blk
  refine ⟨cur, ?_, r⟩
  have : (w.drewN k).heap = w.heap := by
    clear h hb r
    induction k with
    | zero => rfl
    | succ k ih => exact ih
  unfold Blk; rw [this]; exact hb
theorem NRow.swap {w : World} {g cap n : Nat} {f : Nat → Int} (h : NRow w g cap n f) (j : Nat) (hj : 0 < j) (hn : j < n) : NRow ((w.setCell ⟨g, j, none⟩ (.int .i64 (f (j - 1)))).setCell ⟨g, j - 1, none⟩ (.int .i64 (f j))) g cap n (swp f j) := by
  refine ⟨?_, h.le⟩
  have hle := h.le
  obtain ⟨cur, hb, hs, hc⟩ := h.blk
  refine ⟨_, (hb.set j _).set (j - 1) _, by simp [hs], fun t ht => ?_⟩
  have := hc t ht
  simp only [Array.getElem?_setIfInBounds, Array.size_setIfInBounds, swp]
  by_cases e1 : t = j
  · subst e1; simp [show t - 1 ≠ t by omega, show t < cur.size by omega]
  · by_cases e2 : t = j - 1
    · subst e2; simp [e1, show j - 1 < cur.size by omega]
    · simp [e1, e2, Ne.symm e1, Ne.symm e2, this]
theorem grown_drewN {w w1 : World} {row : Option Nat} (h : w.grownBy w1 row) (k : Nat) : w.grownBy (w1.drewN k) row := by
  induction k with
  | zero => exact h
  | succ k ih => exact ⟨ih.os, ih.tape, ih.output, ih.size, ih.block⟩
set_option maxHeartbeats 1000000 in
theorem isort_any (w : World) (g cap n : Nat) (f : Nat → Int) (hR : NRow w g cap n f) (hn : n ≤ 12) : Calls Try.prog 40 #[.slice (some ⟨g, 0, none⟩) n cap, .int .i64 0, .int .i64 n] w fun e w' => e = .returned (.tuple #[]) ∧ NRow w' g cap n (outr (n - 1) 1 f) ∧ w.grownBy w' (some g) := by
  have HR := hide hR
  clear hR
  go_enter Try.func40, Try.ntmps40
  go_wp2
  go_loopw [6] (fun vi wr => ∃ (i : Nat) (fk : Nat → Int), vi = .int .i64 i ∧ 0 < i ∧ i ≤ n + 1 ∧ NRow wr g cap n fk ∧ w.grownBy wr (some g) ∧ outr (n - i) i fk = outr (n - 1) 1 f) (fun vi _ => n + 1 - (intOf vi).toNat)
  case atStart => exact ⟨1, f, by go_num, by omega, by omega, HR.out, grown_below (Below.refl _ _) _, rfl⟩
  case round =>
    obtain ⟨i, fk, rfl, hi0, hin, hK, hG, hO⟩ := hrel
    have HK := hide hK
    have HG := hide hG
    have HO := hide hO
    clear hK hG hO
    by_cases hlt : i < n
    · go_wp2
      go_loopw [7] (fun vj wr2 => ∃ (j : Nat) (fj : Nat → Int), vj = .int .i64 j ∧ j ≤ i ∧ NRow wr2 g cap n fj ∧ w.grownBy wr2 (some g) ∧ inn j fj = inn i fk) (fun vj _ => (intOf vj).toNat)
      case atStart => exact ⟨i, fk, rfl, Nat.le_refl _, HK.out, HG.out, rfl⟩
      case round =>
        obtain ⟨j, fj, rfl, hji, hJ, hG2, hI⟩ := hrel
        have hcw : ∀ t, t < n → wr.cell? ⟨g, t, none⟩ = some (.int .i64 (fj t)) := hJ.cell
        have hfw : ∀ t, wr.frozen? ⟨g, t, none⟩ = false := hJ.frozen
        have HJ := hide hJ
        have HG2 := hide hG2
        have HI := hide hI
        clear hJ hG2 hI HK HG
        have OUT : Hid ((j = 0 ∨ ¬ fj j < fj (j - 1)) → ∀ q, ∃ (i' : Nat) (fk' : Nat → Int), Value.int .i64 ((i : Int) + 1) = .int .i64 (i' : Nat) ∧ 0 < i' ∧ i' ≤ n + 1 ∧ NRow (wr.drewN q) g cap n fk' ∧ w.grownBy (wr.drewN q) (some g) ∧ outr (n - i') i' fk' = outr (n - 1) 1 f) :=
          hide fun hs q => ⟨i + 1, fj, by go_num, by omega, by omega, HJ.out.drewN q, grown_drewN HG2.out q, by rw [← HO.out, outr_go _ hlt, ← HI.out, inn_stop hs]⟩
        go_wp2
        by_cases hja : 0 < j
        · have c1 := hcw j (by omega)
          have c2 := hcw (j - 1) (by omega)
          have f1 := hfw j
          have f2 := hfw (j - 1)
          clear hcw hfw
          obtain ⟨k, hk⟩ : ∃ k : Nat, j - 1 = k := ⟨_, rfl⟩
          obtain ⟨x, hx⟩ : ∃ x, Hid (fj j = x) := ⟨_, hide rfl⟩
          obtain ⟨y, hy⟩ : ∃ y, Hid (fj k = y) := ⟨_, hide rfl⟩
          rw [hx.out] at c1
          rw [hk, hy.out] at c2
          rw [hk] at f2
          go_quiet (first | (go_at_call 46; refine Calls.quiet_of_same (less_fn _ _ _)))
          go_wp2
          · go_region
            all_goals go_wp2
            go_roundw
            case rel =>
              have hxy : x < y := by assumption
              have hsw := (HJ.out.drewN (nq + 1)).swap j hja (by omega)
              rw [hk, hx.out, hy.out] at hsw
              refine ⟨k, swp fj j, by congr 1; omega, by omega, hsw, ?_, ?_⟩
              · exact grown_then (grown_then (grown_drewN HG2.out _) (grown_set _ _ _ _) (fun q e => .inl (by injection e with e; exact e.symm))) (grown_set _ _ _ _) (fun q e => .inl (by injection e with e; exact e.symm))
              · rw [← HI.out, inn_go hja (by rw [hk, hx.out, hy.out]; exact hxy), hk]
            case measure => simp [intOf]; omega
          · go_roundw
            case rel =>
              have hxy : y ≤ x := by assumption
              exact OUT.out (Or.inr (by rw [hk, hx.out, hy.out]; omega)) nq
            case measure => simp [intOf]; omega
        · go_quiet (first | (go_at_call 46; refine Calls.quiet_of_same (less_fn _ _ _)))
          go_wp2
          go_roundw
          case rel => exact OUT.out (Or.inl (by omega)) nq
          case measure => simp [intOf]; omega
    · go_wp2
      go_end0
      exact ⟨rfl, by rw [← HO.out, outr_stop _ (by omega)]; exact HK.out, HG.out⟩
theorem isort_none (w : World) (a : Option Addr) (cap : Nat) : Calls Try.prog 40 #[.slice a 0 cap, .int .i64 0, .int .i64 0] w fun e w' => e = .returned (.tuple #[]) ∧ w' = w := by
  go_enter Try.func40, Try.ntmps40
  go_wp2
  go_loop [6] (fun vi => vi = .int .i64 1) (fun _ => 0)
  case atStart => rfl
  case round =>
    subst hrel
    go_wp2
    go_end0
    exact ⟨rfl, rfl⟩
theorem len_any (x : Int) (h0 : 0 ≤ x) (h1 : x ≤ 18446744073709551615) (w : World) : Calls Try.prog 34 #[.int .u64 x] w fun e w' => ∃ l : Nat, e = .returned (.int .i64 l) ∧ w' = w := by
  go_enter Try.func34, Try.ntmps34
  go_wp2_with (go_at_call 50; refine (len64_any x h0 h1 _).mono ?_; rintro e w' ⟨l, rfl, _, rfl⟩)
  go_ret
  exact ⟨l, rfl, rfl⟩
set_option maxHeartbeats 1000000 in
set_option maxRecDepth 100000 in
theorem pdq_any (w : World) (g cap n l : Nat) (f : Nat → Int) (hR : NRow w g cap n f) (hn : n ≤ 12) : Calls Try.prog 33 #[.slice (some ⟨g, 0, none⟩) n cap, .int .i64 0, .int .i64 n, .int .i64 l] w fun e w' => e = .returned (.tuple #[]) ∧ NRow w' g cap n (outr (n - 1) 1 f) ∧ w.grownBy w' (some g) := by
  have HR := hide hR
  clear hR
  go_enter Try.func33, Try.ntmps33
  go_wp2_with fail
  go_loopw [1, 2] (fun va vb wr => va = .int .i64 0 ∧ vb = .int .i64 n ∧ wr = w) (fun _ _ _ => 0)
  case atStart => exact ⟨rfl, rfl, rfl⟩
  case round =>
    obtain ⟨rfl, rfl, rfl⟩ := hrel
    go_wp2_with (go_at_call 40; refine (isort_any _ g cap n f HR.out hn).mono ?_; rintro e w' ⟨rfl, h1, h2⟩)
    exact bodyPost_ret (results_none rfl _ _ _) rfl ⟨rfl, h1, h2⟩
set_option maxHeartbeats 1000000 in
set_option maxRecDepth 100000 in
theorem pdq_none (w : World) (a : Option Addr) (cap l : Nat) : Calls Try.prog 33 #[.slice a 0 cap, .int .i64 0, .int .i64 0, .int .i64 l] w fun e w' => e = .returned (.tuple #[]) ∧ w' = w := by
  go_enter Try.func33, Try.ntmps33
  go_wp2_with fail
  go_loopw [1, 2] (fun va vb wr => va = .int .i64 0 ∧ vb = .int .i64 0 ∧ wr = w) (fun _ _ _ => 0)
  case atStart => exact ⟨rfl, rfl, rfl⟩
  case round =>
    obtain ⟨rfl, rfl, rfl⟩ := hrel
    go_wp2_with (go_at_call 40; refine (isort_none _ a cap).mono ?_; rintro e w' ⟨rfl, rfl⟩)
    exact bodyPost_ret (results_none rfl _ _ _) rfl ⟨rfl, rfl⟩
theorem sort_any (w : World) (g cap n : Nat) (f : Nat → Int) (hR : NRow w g cap n f) (hn : n ≤ 12) : Calls Try.prog 26 #[.slice (some ⟨g, 0, none⟩) n cap] w fun e w' => e = .returned (.tuple #[]) ∧ NRow w' g cap n (outr (n - 1) 1 f) ∧ w.grownBy w' (some g) := by
  have HR := hide hR
  clear hR
  go_enter Try.func26, Try.ntmps26
  go_wp2_with (first | (go_at_call 34; refine (len_any _ (by omega) (by omega) _).mono ?_; rintro e w' ⟨l, rfl, rfl⟩) | (go_at_call 33; refine (pdq_any _ g cap n l f HR.out hn).mono ?_; rintro e w' ⟨rfl, h1, h2⟩))
  go_end0
  exact ⟨rfl, h1, h2⟩
theorem sort_none (w : World) (a : Option Addr) (cap : Nat) : Calls Try.prog 26 #[.slice a 0 cap] w fun e w' => e = .returned (.tuple #[]) ∧ w' = w := by
  go_enter Try.func26, Try.ntmps26
  go_wp2_with (first | (go_at_call 34; refine (len_any _ (by omega) (by omega) _).mono ?_; rintro e w' ⟨l, rfl, rfl⟩) | (go_at_call 33; refine (pdq_none _ a cap l).mono ?_; rintro e w' ⟨rfl, rfl⟩))
  go_end0
  exact ⟨rfl, rfl⟩
end Go.Proofs.Ytmglcmhofcejiaa
