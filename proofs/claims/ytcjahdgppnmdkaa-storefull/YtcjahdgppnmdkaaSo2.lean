/- Package store: its codes, the active sector. -/
import Derived.Test.YtcjahdgppnmdkaaSo1
set_option maxRecDepth 100000
namespace Go.Proofs.Ytcjahdgppnmdkaa
open Go.RowKit Go.Great

theorem nat_u8 (b : UInt8) (n : Nat) (hn : n < 256) : ((b.toNat : Int) == (n : Int)) = decide (b = UInt8.ofNat n) := by
  by_cases h : b = UInt8.ofNat n
  · subst h
    rw [decide_eq_true rfl, UInt8.toNat_ofNat']
    simp
    omega
  · rw [decide_eq_false h]
    simp only [beq_eq_false_iff_ne, ne_eq]
    intro e
    apply h
    apply UInt8.toNat_inj.1
    rw [UInt8.toNat_ofNat']
    omega
def codesO : Obj := .cells #[.int .u8 15, .int .u8 51, .int .u8 85] 5
theorem index_any (w : World) (A : Nat) (b : UInt8) (h : w.heap[A]? = some codesO) : Calls Try.prog 102 #[.slice (some ⟨A, 0, none⟩) 3 3, .int .u8 (b.toNat : Int)] w fun e w' => e = .returned (.int .i64 (turnI b)) ∧ w' = w := by
  have c0 : w.cell? ⟨A, 0, none⟩ = some (.int .u8 15) := by simp [World.cell?, h, codesO]
  have c1 : w.cell? ⟨A, 1, none⟩ = some (.int .u8 51) := by simp [World.cell?, h, codesO]
  have c2 : w.cell? ⟨A, 2, none⟩ = some (.int .u8 85) := by simp [World.cell?, h, codesO]
  have e0 : ((b.toNat : Int) == 15) = decide (b = 15) := nat_u8 b 15 (by omega)
  have e1 : ((b.toNat : Int) == 51) = decide (b = 51) := nat_u8 b 51 (by omega)
  have e2 : ((b.toNat : Int) == 85) = decide (b = 85) := nat_u8 b 85 (by omega)
  obtain ⟨t, ht⟩ : ∃ t, Hid (turnI b = t) := ⟨_, hide rfl⟩
  rw [ht.out]
  go_enter Try.func102, Try.ntmps102
  go_wp2_with fail
  refine wp_loop_rounds 4 ?_
  by_cases h0 : b = 15
  · rw [decide_eq_true h0] at e0
    have : t = 0 := by rw [← ht.out]; simp [turnI, h0]
    subst this
    clear e1 e2
    rw [rounds_succ]; go_wp2_with fail
    go_ret
    exact ⟨rfl, rfl⟩
  · rw [decide_eq_false h0] at e0
    by_cases h1 : b = 51
    · rw [decide_eq_true h1] at e1
      have : t = 1 := by rw [← ht.out]; simp [turnI, h1]
      subst this
      clear e2
      rw [rounds_succ]; go_wp2_with fail
      rw [rounds_succ]; go_wp2_with fail
      go_ret
      exact ⟨rfl, rfl⟩
    · rw [decide_eq_false h1] at e1
      by_cases h2 : b = 85
      · rw [decide_eq_true h2] at e2
        have : t = 2 := by rw [← ht.out]; simp [turnI, h2]
        subst this
        rw [rounds_succ]; go_wp2_with fail
        rw [rounds_succ]; go_wp2_with fail
        rw [rounds_succ]; go_wp2_with fail
        go_ret
        exact ⟨rfl, rfl⟩
      · rw [decide_eq_false h2] at e2
        have : t = -1 := by rw [← ht.out]; simp [turnI, h0, h1, h2]
        subst this
        rw [rounds_succ]; go_wp2_with fail
        rw [rounds_succ]; go_wp2_with fail
        rw [rounds_succ]; go_wp2_with fail
        rw [rounds_succ]; go_wp2_with fail
        go_ret
        exact ⟨rfl, rfl⟩
theorem turn_any (w : World) (b : UInt8) : Calls Try.prog 80 #[.int .u8 (b.toNat : Int)] w fun e w' => e = .returned (.int .i64 (turnI b)) ∧ Below w.heap.size w w' := by
  have I := index_any (w.alloc codesO) w.heap.size b (by rw [heap_alloc_new])
  go_enter Try.func80, Try.ntmps80
  go_wp2_with fail
  refine (codes_any w).mono ?_
  rintro e w1 ⟨rfl, rfl⟩
  go_wp2_with fail
  refine I.mono ?_
  rintro e w1 ⟨rfl, rfl⟩
  go_wp2_with fail
  go_ret
  exact ⟨rfl, below_alloc _ _⟩
theorem fol_any (w : World) (t : Nat) (ht : t < 3) : Calls Try.prog 98 #[.int .i64 (t : Int)] w fun e w' => e = .returned (.int .i64 ((folN t : Nat) : Int)) ∧ Below w.heap.size w w' := by
  go_enter Try.func98, Try.ntmps98
  go_wp2_with fail
  refine (codes_any w).mono ?_
  rintro e w1 ⟨rfl, rfl⟩
  obtain rfl | rfl | rfl : t = 0 ∨ t = 1 ∨ t = 2 := by omega
  all_goals
    go_wp2_with fail
    go_ret
    exact ⟨rfl, below_alloc _ _⟩
theorem turnI_cases (b : UInt8) : turnI b = -1 ∨ turnI b = 0 ∨ turnI b = 1 ∨ turnI b = 2 := by
  unfold turnI; split
  · simp
  · split
    · simp
    · split <;> simp
def actR : Array Value := #[.int .i64 (-1), .int .i64 1, .int .i64 1, .int .i64 1, .int .i64 0, .int .i64 0, .int .i64 1, .int .i64 0, .int .i64 0, .int .i64 0, .int .i64 0, .int .i64 1, .int .i64 0, .int .i64 1, .int .i64 0, .int .i64 0]
def actT : Obj := .cells actR 159
theorem tab_cell {w : World} {A i : Nat} {v : Value} (h : w.heap[A]? = some actT) (hi : actR[i]? = some v) : w.cell? ⟨A, i, none⟩ = some v := by
  simp [World.cell?, h, actT, hi]
set_option maxHeartbeats 4000000 in
theorem act_any (w : World) (a b : UInt8) : Calls Try.prog 78 #[.int .u8 (a.toNat : Int), .int .u8 (b.toNat : Int)] w fun e w' => e = .returned (.int .i64 (actI a b)) ∧ Below w.heap.size w w' := by
  have A := fun wx => turn_any wx a
  have B := fun wx => turn_any wx b
  obtain ⟨s, hs⟩ : ∃ s, turnI a = s := ⟨_, rfl⟩
  obtain ⟨t, ht⟩ : ∃ t, turnI b = t := ⟨_, rfl⟩
  obtain ⟨i, hi, hi4⟩ : ∃ i : Nat, 1 + s = (i : Int) ∧ i < 4 := ⟨(1 + s).toNat, by have := turnI_cases a; omega, by have := turnI_cases a; omega⟩
  obtain ⟨j, hj, hj4⟩ : ∃ j : Nat, 1 + t = (j : Int) ∧ j < 4 := ⟨(1 + t).toNat, by have := turnI_cases b; omega, by have := turnI_cases b; omega⟩
  obtain ⟨v, hv⟩ : ∃ v, Hid (actI a b = v) := ⟨_, hide rfl⟩
  have hT : Hid (actR[i * 4 + j]? = some (.int .i64 v)) := by
    show _ = _
    rw [← hv.out]
    unfold actI
    rw [hs, ht, hi, hj]
    obtain rfl | rfl | rfl | rfl : i = 0 ∨ i = 1 ∨ i = 2 ∨ i = 3 := by omega
    all_goals
      obtain rfl | rfl | rfl | rfl : j = 0 ∨ j = 1 ∨ j = 2 ∨ j = 3 := by omega
      all_goals rfl
  rw [hs] at A
  rw [ht] at B
  rw [hv.out]
  clear hs ht hv
  obtain ⟨o, ho⟩ : ∃ o, Hid (actT = o) := ⟨_, hide rfl⟩
  have HA : (w.alloc o).drew.heap[w.heap.size]? = some actT := by
    show (w.alloc o).heap[w.heap.size]? = some actT
    rw [heap_alloc_new, ho.out]
  have HL := lt_of_block HA
  have HB : Below w.heap.size w (w.alloc o).drew := Kept.toBelow (Below.refl _ _) ((Kept.refl w.heap.size w).alloc o).drew (Nat.le_refl _) (Nat.le_refl _)
  obtain ⟨W0, hW0⟩ : ∃ W0, Hid (w.alloc o = W0) := ⟨_, hide rfl⟩
  obtain ⟨X, hX⟩ : ∃ X, Hid (w.heap.size = X) := ⟨_, hide rfl⟩
  rw [hX.out] at HA HL HB ⊢
  rw [hW0.out] at HA HL HB
  have hi4' : (i : Int) < 4 := by omega
  have hj4' : (j : Int) < 4 := by omega
  have h1s : IntKind.i64.wrap (i : Int) = (i : Int) := by rw [IntKind.wrap_i64]; omega
  have h1t : IntKind.i64.wrap (j : Int) = (j : Int) := by rw [IntKind.wrap_i64]; omega
  go_enter Try.func78, Try.ntmps78
  go_wp2_with fail
  rw [show w.alloc _ = W0 from by rw [← hW0.out, ← ho.out]; rfl, hX.out]
  go_region_with (go_at_call 80; first | (refine (A _).mono ?_; rintro e w1 ⟨rfl, b1⟩; have H1 := (b1.block X HL).trans HA; have L1 := lt_of_block H1; have N1 := below_next HB (Nat.le_of_eq hX.out.symm) b1) | (refine (B _).mono ?_; rintro e w2 ⟨rfl, b2⟩; have H2 := (b2.block X L1).trans H1; have c := tab_cell H2 hT.out; have N2 := below_next N1 (Nat.le_of_eq hX.out.symm) b2))
  all_goals
    go_wp2_with fail
    go_ret
    exact ⟨by rfl, N2⟩
end Go.Proofs.Ytcjahdgppnmdkaa
