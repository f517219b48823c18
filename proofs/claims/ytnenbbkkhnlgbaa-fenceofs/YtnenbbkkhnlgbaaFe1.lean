/- Package fence: the small functions, and whether a rectangle is inside. -/
import Derived.Test.YtnenbbkkhnlgbaaFeM
import Derived.Test.YtnenbbkkhnlgbaaGrF
import Derived.Test.YtnenbbkkhnlgbaaGrG
namespace Go.Proofs.Ytnenbbkkhnlgbaa
open Go.RowKit Go.Great

theorem ints_all {l : List Int} {f : Int → Bool} : (∀ j, j < l.length → f (l.getD j 0) = true) → l.all f = true := by
  intro h
  rw [List.all_eq_true]
  intro x hx
  obtain ⟨j, hj, rfl⟩ := List.getElem_of_mem hx
  have := h j hj
  rwa [List.getD, List.getElem?_eq_getElem hj] at this
theorem ints_not {l : List Int} {f : Int → Bool} {j : Nat} (hj : j < l.length) (h : f (l.getD j 0) = false) : l.all f = false := by
  cases e : l.all f with
  | false => rfl
  | true =>
    have := List.all_eq_true.1 e (l.getD j 0) (by rw [List.getD, List.getElem?_eq_getElem hj]; exact List.getElem_mem hj)
    rw [this] at h; cases h
set_option maxHeartbeats 2000000 in
theorem fmay_any (l : List Int) (v : Value) (w : World) (hv : Ints w v l) (hl : l.length ≤ 4611686018427387904) : Calls Try.prog 47 #[v] w fun e w' => e = .returned (.bool (l.all mayB)) ∧ w' = w := by
  obtain ⟨a, cap, rfl, hc⟩ := hv
  obtain ⟨n, hn⟩ : ∃ n, l.length = n := ⟨_, rfl⟩
  have HA := hide hc
  have HN := hide hn
  rw [hn] at hl ⊢
  clear hc hn
  go_enter Try.func47, Try.ntmps47
  go_wp2_with fail
  go_loop [7] (fun i => ∃ k : Nat, k ≤ n ∧ i = .int .i64 k ∧ Hid (∀ j, j < k → mayB (l.getD j 0) = true)) (fun i => n - (intOf i).toNat)
  case atStart => exact ⟨0, by omega, rfl, hide (by intro j h; omega)⟩
  case round =>
    obtain ⟨k, hk, rfl, hf⟩ := hrel
    by_cases hlt : k < n
    · obtain ⟨g, o, rfl, hg, hcc⟩ := HA.out (by rw [HN.out]; omega)
      have c0 := hcc k (by rw [HN.out]; exact hlt)
      obtain ⟨x, hx⟩ : ∃ x, l.getD k 0 = x := ⟨_, rfl⟩
      rw [hx] at c0
      have HX := hide hx
      clear hcc HA hx
      by_cases h1 : x < -536870912
      · go_wp2
        all_goals (go_ret; exact ⟨ret_bool (ints_not (by rw [HN.out]; exact hlt) (by rw [HX.out]; simp [mayB]; omega)).symm, rfl⟩)
      · by_cases h2 : 536870912 < x
        · go_wp2
          all_goals (go_ret; exact ⟨ret_bool (ints_not (by rw [HN.out]; exact hlt) (by rw [HX.out]; simp [mayB]; omega)).symm, rfl⟩)
        · go_wp2
          all_goals go_round
          case rel =>
            exact ⟨k + 1, by omega, by go_num, hide (fun j hj => by
              by_cases e : j = k
              · rw [e, HX.out]; simp [mayB]; omega
              · exact hf.out j (by omega))⟩
          case measure => simp [intOf]; omega
    · go_wp2_with fail
      go_ret
      obtain rfl : k = n := by omega
      exact ⟨ret_bool (ints_all (fun j hj => hf.out j (by rw [← HN.out]; exact hj))).symm, rfl⟩
theorem back_any (x : Pt) (w : World) : Calls Try.prog 51 #[pV x] w fun e w' => e = .returned (.bool (decide (x.2 < x.1))) ∧ Below w.heap.size w w' := by
  obtain ⟨x1, x2⟩ := x
  simp only [pV]
  go_enter Try.func51, Try.ntmps51
  go_wp2_with fail
  go_ret
  exact ⟨by first | rfl | exact ret_bool (by simp), below_alloc _ _⟩
set_option maxHeartbeats 2000000 in
theorem ask_any (a b x y : Pt) (X Y : Nat) (w : World) (hX : Blk w X #[.int .i64 x.1, .int .i64 x.2] 32) (hY : Blk w Y #[.int .i64 y.1, .int .i64 y.2] 32) : Calls Try.prog 79 #[pV a, pV b, .pointer (some ⟨X, 0, none⟩), .pointer (some ⟨Y, 0, none⟩)] w fun e w' => e = .returned (.bool (askB a b x y)) ∧ Below w.heap.size w w' := by
  have TT := touches_any a b x y
  unfold askB
  generalize toI a b x y = t at TT ⊢
  generalize toE a b x y = e at TT ⊢
  obtain ⟨a1, a2⟩ := a
  obtain ⟨b1, b2'⟩ := b
  obtain ⟨x1, x2⟩ := x
  obtain ⟨y1, y2⟩ := y
  simp only [pV] at *
  have lX := hX.lt
  have lY := hY.lt
  go_enter Try.func79, Try.ntmps79
  have hB := b2 w (.cells #[.int .i64 a1, .int .i64 a2] 39) (.cells #[.int .i64 b1, .int .i64 b2'] 39)
  have k0 := (hX.below hB lX).cell 0 rfl
  have k1 := (hX.below hB lX).cell 1 rfl
  have k2 := (hY.below hB lY).cell 0 rfl
  have k3 := (hY.below hB lY).cell 1 rfl
  have HX := hide hX
  have HY := hide hY
  clear hX hY
  cases t
  all_goals
    go_wp2_with (go_at_call 80; refine (TT _).mono ?_; rintro e1 w1 ⟨rfl, hb⟩)
    go_ret
    exact ⟨ret_bool (by rw [Bool.eq_iff_iff]; simp), below_next hB (Nat.le_refl _) hb⟩
end Go.Proofs.Ytnenbbkkhnlgbaa
