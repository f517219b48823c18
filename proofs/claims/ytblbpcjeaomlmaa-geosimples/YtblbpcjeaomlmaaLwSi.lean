/- GeoSimples. -/
import Derived.Test.YtblbpcjeaomlmaaGrH
namespace Go.Proofs.Ytblbpcjeaomlmaa
open Go.RowKit Go.Great

set_option maxHeartbeats 4000000 in
theorem simples_walk (l : List Pt) (v : Value) (w : World) (hv : PtsIn w v l) : Calls Try.prog 5 #[v] w fun e w' => e = .returned (.bool true) ∧ Below w.heap.size w w' := by
  have AW := awake_any
  have LE := lent_any l v w hv
  have hl : l.length ≤ 4611686018427387904 := by have := hv.2.2; omega
  have SP := fun (W : World) (g n cap : Nat) (h : Pts W (.slice (some ⟨g, 0, none⟩) n cap) (l ++ [mark])) => simple_any l _ W h.own hl
  have AP := fun (W : World) (g n cap : Nat) (h : Pts W (.slice (some ⟨g, 0, none⟩) n cap) (l ++ [mark])) => callsIn_wide.1 (area_any l _ W h.own hl)
  have RS := fun W' (hb : Below w.heap.size w W') => rsimple_any l v W' (hv.1.below hb) hl
  have RA := fun W' (hb : Below w.heap.size w W') => rarea_any l v W' (hv.1.below hb) hl
  have KE := fun W' (hb : Below w.heap.size w W') g cap h1 h2 => kept_any l v g cap W' (hv.1.below hb) h1 h2 hl
  obtain ⟨a, cap, rfl, hc⟩ := hv.1
  clear hv hc
  generalize araI l = S at *
  generalize simE l = E at *
  obtain ⟨m, hm⟩ : ∃ m, l.length = m := ⟨_, rfl⟩
  rw [hm] at LE SP AP RS RA KE ⊢
  clear hm hl
  go_enter Try.func5, Try.ntmps5
  go_wp2_with fail
  refine LE.mono ?_
  rintro e w1 ⟨g1, c1, rfl, hP, hcap, hB⟩
  clear LE
  go_wp2_with fail
  refine (SP _ _ _ _ hP).mono ?_
  rintro e w2 ⟨rfl, hb2⟩
  replace hP := hP.below hb2
  replace hB := below_next hB (Nat.le_refl _) hb2
  clear hb2 SP
  go_wp2_with fail
  refine (AP _ _ _ _ hP).mono ?_
  rintro e w3 ⟨rfl, hb3⟩
  replace hP := hP.below hb3
  replace hB := below_next hB (Nat.le_refl _) hb3
  clear hb3 AP
  go_wp2_with fail
  refine (RA _ hB).mono ?_
  rintro e w4 ⟨rfl, hb4⟩
  replace hP := hP.below hb4
  replace hB := below_next hB (Nat.le_refl _) hb4
  clear hb4 RA
  go_wp2_with fail
  refine (AW _).mono ?_
  rintro e w5 ⟨rfl, hb5⟩
  replace hP := hP.below hb5
  replace hB := below_next hB (Nat.le_refl _) hb5
  clear hb5
  go_wp2_with fail
  refine (RS _ hB).mono ?_
  rintro e w6 ⟨rfl, hb6⟩
  replace hP := hP.below hb6
  replace hB := below_next hB (Nat.le_refl _) hb6
  clear hb6 RS
  go_wp2_with fail
  refine (KE _ hB _ _ hP hcap).mono ?_
  rintro e w7 ⟨rfl, n, rfl⟩
  go_wp2_with fail
  go_ret
  exact ⟨by first | rfl | exact ret_bool (by simp), below_drewN hB _⟩
theorem GeoSimples_walk (v : Value) (w : World) (h : ∃ l, PtsIn w v l) : Calls Try.prog 5 #[v] w fun e w' => e = .returned (.bool true) ∧ Below w.heap.size w w' := by
  obtain ⟨l, hl⟩ := h
  exact simples_walk l v w hl
end Go.Proofs.Ytblbpcjeaomlmaa
