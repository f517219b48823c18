/- The document's Side; whether a polygon that was lent is as it was. -/
import Derived.Test.YtblbpcjeaomlmaaGrF
import Derived.Test.YtblbpcjeaomlmaaLwSt
namespace Go.Proofs.Ytblbpcjeaomlmaa
open Go.RowKit Go.Great

set_option maxHeartbeats 4000000 in
theorem rside_any (l : List Pt) (v : Value) (p0 p1 : Int) (w : World) (hv : Pts w v l) (hl : l.length ≤ 4611686018427387904) : Calls Try.prog 28 #[v, .agg #[.int .i64 p0, .int .i64 p1]] w fun e w' => e = .returned (.tuple #[.int .i64 (sdI l (p0, p1)), .int .i64 (sdE l (p0, p1))]) ∧ Below w.heap.size w w' := by
  have SI := fun w' hb => rsimple_any l v w' (hv.below hb) hl
  have FI := rfits_any (p0, p1)
  have HIN : Hid (simE l = 0 → fitB (p0, p1) = true → ∀ w', Below w.heap.size w w' → Calls Try.prog 50 #[v, .agg #[.int .i64 p0, .int .i64 p1]] w' fun e w'' => e = .returned (.int .i64 (sidI l l.length (p0, p1))) ∧ Below w'.heap.size w' w'') := by
    intro h1 h2 w' hb
    obtain ⟨h3, _, hall⟩ := sim_len h1
    obtain ⟨a, cap, rfl, hc⟩ := hv.below hb
    obtain ⟨g, o, rfl, hg, hcc⟩ := hc (by omega)
    exact inside_any g o l.length cap l (p0, p1) (fits_of hall) (fit_of h2) w' (poly_of (by omega) hl hg hcc)
  obtain ⟨a, cap, rfl, hc⟩ := hv
  clear hc
  unfold sdI sdE
  simp only [pV] at FI
  generalize sidI l l.length (p0, p1) = SD at *
  generalize l.length = m at *
  generalize simE l = E at *
  generalize fitB (p0, p1) = r at *
  go_enter Try.func28, Try.ntmps28
  go_wp2_with fail
  have B0 : Blk (w.alloc (.cells #[.int .i64 p0, .int .i64 p1] 23)) w.heap.size #[.int .i64 p0, .int .i64 p1] 23 := Blk.new _ _ _
  refine (SI _ (below_alloc _ _)).mono ?_
  rintro e w1 ⟨rfl, hb1⟩
  replace B0 := B0.after hb1
  have hB := below_over hb1
  have c0 := B0.cell 0 rfl
  have c1 := B0.cell 1 rfl
  clear hb1 SI
  by_cases hE : E = 0
  · subst hE
    go_wp2_with fail
    refine (FI _).mono ?_
    rintro e w2 ⟨rfl, hb2⟩
    replace B0 := B0.after hb2
    replace hB := below_next hB (Nat.le_refl _) hb2
    clear c0 c1 hb2
    have c0 := B0.cell 0 rfl
    have c1 := B0.cell 1 rfl
    cases r
    · go_wp2_with fail
      go_ret2
      exact ⟨by simp, hB⟩
    · have IN := HIN.out (by trivial) (by trivial) _ hB
      go_wp2_with fail
      refine IN.mono ?_
      rintro e w3 ⟨rfl, hb3⟩
      go_wp2_with fail
      go_ret2
      exact ⟨by simp, below_next hB (Nat.le_refl _) hb3⟩
  · go_wp2_with fail
    go_ret2
    exact ⟨by simp, hB⟩
theorem point_neq (a b a' b' : Int) (wx : World) : (binOp .neq 23 (.agg #[.int .i64 a, .int .i64 b]) (.agg #[.int .i64 a', .int .i64 b'])).run Try.prog wx = .ok (.bool (!(decide (a = a') && decide (b = b')))) wx := by
  by_cases h1 : a = a'
  · by_cases h2 : b = b' <;> simp [go_sem, h1, h2]
  · simp [go_sem, h1]
set_option maxHeartbeats 4000000 in
theorem kept_any (l : List Pt) (v : Value) (g cap : Nat) (w : World) (hv : Pts w v l) (ho : Pts w (.slice (some ⟨g, 0, none⟩) (l.length + 1) cap) (l ++ [mark])) (hcap : l.length + 1 ≤ cap) (hl : l.length ≤ 4611686018427387904) : Calls Try.prog 26 #[.slice (some ⟨g, 0, none⟩) l.length cap, v] w fun e w' => e = .returned (.bool true) ∧ ∃ n, w' = w.drewN n := by
  obtain ⟨a, c, rfl, hc⟩ := hv
  obtain ⟨a2, c2, e2, hc2⟩ := ho
  have hlen : (l ++ [mark]).length = l.length + 1 := by simp
  obtain ⟨g2, o2, e3, hg2, hcc2⟩ := hc2 (by omega)
  subst e3
  injection e2 with e4 _ e5
  injection e4 with e6
  injection e6 with e7 e8 _
  subst e7 e8
  have HC := hide hc
  have HO : Hid (∀ i, i < l.length → w.cell? ⟨g, i * 2, none⟩ = some (.int .i64 (ptx l i)) ∧ w.cell? ⟨g, i * 2 + 1, none⟩ = some (.int .i64 (pty l i))) := fun i hi => by
    have := hcc2 i (by omega)
    have e : (l ++ [mark]).getD i (0, 0) = l.getD i (0, 0) := by rw [List.getD, List.getD, List.getElem?_append_left hi]
    rw [e, Nat.zero_add] at this
    exact this
  have HMk : Hid (w.cell? ⟨g, l.length * 2, none⟩ = some (.int .i64 (-77)) ∧ w.cell? ⟨g, l.length * 2 + 1, none⟩ = some (.int .i64 (-77))) := by
    have := hcc2 l.length (by omega)
    have e : (l ++ [mark]).getD l.length (0, 0) = mark := by rw [List.getD, List.getElem?_append_right (Nat.le_refl _)]; simp
    rw [e, Nat.zero_add] at this
    exact this
  clear hc hc2 hcc2 e5 hlen
  obtain ⟨m, hm⟩ : ∃ m, l.length = m := ⟨_, rfl⟩
  have HM := hide hm
  rw [hm] at HC HO HMk hcap hl ⊢
  clear hm
  go_enter Try.func26, Try.ntmps26
  go_wp2_with fail
  go_loopw [5] (fun i wx => ∃ k q : Nat, k ≤ m ∧ i = .int .i64 k ∧ wx = w.drewN q) (fun i _ => m - (intOf i).toNat)
  case atStart => exact ⟨0, 0, by omega, rfl, rfl⟩
  case round =>
    obtain ⟨k, q, hk, rfl, rfl⟩ := hrel
    by_cases hlt : k < m
    · obtain ⟨ga, oa, rfl, hga, hca⟩ := HC.out (by omega)
      obtain ⟨b0, b1⟩ := HO.out k hlt
      have a0 : w.cell? ⟨ga, oa + k * 2, none⟩ = some (.int .i64 (ptx l k)) := (hca k hlt).1
      have a1 : w.cell? ⟨ga, oa + k * 2 + 1, none⟩ = some (.int .i64 (pty l k)) := (hca k hlt).2
      have heq := fun wx => point_neq (ptx l k) (pty l k) (ptx l k) (pty l k) wx
      simp only [decide_true, Bool.and_self, Bool.not_true] at heq
      generalize ptx l k = x at *
      generalize pty l k = y at *
      have hkc : k < cap := by omega
      clear hca HC HO HMk
      go_wp2_with fail
      go_quiet (fail)
      go_wp2_with fail
      go_roundw
      case rel => exact ⟨k + 1, q + nq, by omega, by go_num, rfl⟩
      case measure => simp [intOf]; omega
    · obtain ⟨b0, b1⟩ := HMk.out
      have heq := fun wx => point_eql (-77) (-77) (-77) (-77) wx
      simp only [decide_true, Bool.and_self] at heq
      have hkc : m + 1 ≤ cap := hcap
      go_wp2_with fail
      go_ret
      exact ⟨rfl, q, rfl⟩
end Go.Proofs.Ytblbpcjeaomlmaa
