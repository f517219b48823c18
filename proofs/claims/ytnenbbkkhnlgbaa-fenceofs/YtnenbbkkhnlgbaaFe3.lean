/- Package fence: Check, Holds, isLane, checkWay, Lane, Rally. -/
import Derived.Test.YtnenbbkkhnlgbaaFe2
import Derived.Test.YtnenbbkkhnlgbaaFeN
namespace Go.Proofs.Ytnenbbkkhnlgbaa
open Go.RowKit Go.Great

/-- a fence, as the model has it -/
def fV (p : Value) (fl ce : Int) (r : Value) : Value := .agg #[p, .int .i64 fl, .int .i64 ce, r]
def fC (p : Value) (fl ce : Int) (r : Value) : Array Value := #[p, .int .i64 fl, .int .i64 ce, r]
theorem mays2 (a b : Int) : [a, b].all mayB = (mayB a && mayB b) := by simp
theorem ints2 (w : World) (a b : Int) : Ints (w.alloc (.cells #[.int .i64 a, .int .i64 b] 3)) (.slice (some ⟨w.heap.size, 0, none⟩) 2 2) [a, b] :=
  ints_row (heap_alloc_at w _ _ rfl) 2 2 rfl
set_option maxHeartbeats 4000000 in
theorem check_any (P R : List Pt) (fl ce : Int) (p r : Value) (w : World) (hp : Pts w p P) (hr : Pts w r R) (hP : P.length ≤ 4611686018427387904) (hR : R.length ≤ 4611686018427387904) : Calls Try.prog 18 #[fV p fl ce r] w fun e w' => e = .returned (.int .i64 (chk P fl ce R)) ∧ Below w.heap.size w w' := by
  have SI := fun W (hb : Below w.heap.size w W) => simple_any P p W (hp.below hb) hP
  have SD := fun q W (hb : Below w.heap.size w W) => callsIn_wide.1 (side_any P p q W (hp.below hb) hP)
  have MB := fun (W : World) => fmay_any [fl, ce] _ _ (ints2 W fl ce) (by simp)
  rw [mays2] at MB
  have HSD : Hid (simE P = 0 → ∀ q, sdE P q = (if fitB q then 0 else 5) ∧ sdI P q = if fitB q then sidI P P.length q else 0) := by
    intro h q
    unfold sdE sdI
    rw [if_pos h, if_pos h]
    exact ⟨rfl, rfl⟩
  have HC : Hid (chk P fl ce R = if simE P = 0 then (if (mayB fl && mayB ce) = true then (if 0 < fl ∨ ce ≤ 0 then 100 else if 8 < R.length then 4 else ralE P R) else 5) else simE P) := rfl
  generalize chk P fl ce R = c at HC ⊢
  have HR := hide hr
  obtain ⟨ap, cp, rfl, _⟩ := hp
  obtain ⟨ar, cr, rfl, hcr⟩ := hr
  obtain ⟨n, hn⟩ : ∃ n, R.length = n := ⟨_, rfl⟩
  obtain ⟨n', hn'⟩ : ∃ n, P.length = n := ⟨_, rfl⟩
  have HN := hide hn
  have HCR := hide hcr
  rw [hn] at hR HC ⊢
  rw [hn'] at SI SD ⊢
  clear hn hn' hcr HR hP
  obtain ⟨s, hs⟩ : ∃ s, simE P = s := ⟨_, rfl⟩
  rw [hs] at SI HC HSD
  clear hs
  obtain ⟨mm, hmm⟩ : ∃ b, (mayB fl && mayB ce) = b := ⟨_, rfl⟩
  rw [hmm] at MB HC
  clear hmm
  have HC1 : Hid (s ≠ 0 → c = s) := fun h => by rw [HC.out, if_neg h]
  have HC2 : Hid (s = 0 → mm = false → c = 5) := fun h e => by subst h e; exact HC.out
  have HC3 : Hid (s = 0 → mm = true → 0 < fl ∨ ce ≤ 0 → c = 100) := fun h e k => by subst h e; rw [HC.out, if_pos rfl, if_pos rfl, if_pos k]
  have HC4 : Hid (s = 0 → mm = true → ¬ (0 < fl ∨ ce ≤ 0) → 8 < n → c = 4) := fun h e k q => by subst h e; rw [HC.out, if_pos rfl, if_pos rfl, if_neg k, if_pos q]
  have HC5 : Hid (s = 0 → mm = true → ¬ (0 < fl ∨ ce ≤ 0) → ¬ 8 < n → c = ralE P R) := fun h e k q => by subst h e; rw [HC.out, if_pos rfl, if_pos rfl, if_neg k, if_neg q]
  clear HC
  simp only [fV]
  have B0 := Blk.new w (fC (.slice ap n' cp) fl ce (.slice ar n cr)) 24
  obtain ⟨W0, hW0⟩ : ∃ W0, w.alloc (.cells (fC (.slice ap n' cp) fl ce (.slice ar n cr)) 24) = W0 := ⟨_, rfl⟩
  have hB0 : Below w.heap.size w W0 := hW0 ▸ below_alloc _ _
  have hz0 : W0.heap.size = w.heap.size + 1 := by rw [← hW0, size_alloc]
  rw [hW0] at B0
  unfold fC at hW0 B0
  have k0 := B0.cell 0 rfl
  go_enter Try.func18, Try.ntmps18
  go_wp2_with fail
  try rw [hW0]
  clear hW0
  refine (SI _ hB0).mono ?_
  rintro e w1 ⟨rfl, hb1⟩
  replace B0 := B0.after hb1
  replace hB0 := below_next hB0 (Nat.le_refl _) hb1
  clear hb1 SI hz0 k0
  have k1 := B0.cell 1 rfl
  have k2 := B0.cell 2 rfl
  by_cases hs : s = 0
  · subst hs
    go_wp2_with fail
    refine (MB _).mono ?_
    rintro e w2 ⟨rfl, hw2⟩
    have hb2 : Below w1.heap.size w1 w2 := hw2 ▸ below_alloc _ _
    replace B0 := B0.after hb2
    replace hB0 := below_next hB0 (Nat.le_refl _) hb2
    clear hb2 hw2 k1 k2 MB
    have k1 := B0.cell 1 rfl
    have k2 := B0.cell 2 rfl
    have k3 := B0.cell 3 rfl
    cases mm
    · go_wp2_with fail
      go_ret
      exact ⟨ret_int (HC2.out (by trivial) (by trivial)).symm, hB0⟩
    · by_cases hf : 0 < fl
      · go_wp2_with fail
        all_goals go_ret
        all_goals exact ⟨ret_int (HC3.out (by trivial) (by trivial) (Or.inl hf)).symm, hB0⟩
      · by_cases hc : ce ≤ 0
        · go_wp2_with fail
          all_goals go_ret
          all_goals exact ⟨ret_int (HC3.out (by trivial) (by trivial) (Or.inr hc)).symm, hB0⟩
        · by_cases h8 : 8 < n
          · go_wp2_with fail
            all_goals go_ret
            all_goals exact ⟨ret_int (HC4.out (by trivial) (by trivial) (by omega) h8).symm, hB0⟩
          · have HCE : Hid (c = ralE P R) := HC5.out (by trivial) (by trivial) (by omega) h8
            have HSD2 := hide (HSD.out (by trivial))
            have h8' : n ≤ 8 := by omega
            clear HC1 HC2 HC3 HC4 HC5 HSD
            go_wp2_with fail
            go_loopw [39] (fun i wx => ∃ k : Nat, k ≤ n ∧ i = .int .i64 k ∧ Hid (ralE P R = ralE P (R.drop k)) ∧ Hid (Below w.heap.size w wx) ∧ Hid (Blk wx w.heap.size #[.slice ap n' cp, .int .i64 fl, .int .i64 ce, .slice ar n cr] 24)) (fun i _ => n - (intOf i).toNat)
            case atStart => exact ⟨0, Nat.zero_le _, rfl, hide rfl, hide hB0, hide B0⟩
            case round =>
              obtain ⟨k, hk, rfl, hf', hbx, hBx⟩ := hrel
              clear B0 hB0 k1 k2 k3
              by_cases hlt : k < n
              · obtain ⟨g, o, rfl, hg, hcc⟩ := HCR.out (by rw [HN.out]; omega)
                obtain ⟨c0, c1⟩ := hcc k (by rw [HN.out]; exact hlt)
                have q0 := (hbx.out.cell (p := ⟨g, o + k * 2, none⟩) hg).trans c0
                have q1 := (hbx.out.cell (p := ⟨g, o + k * 2 + 1, none⟩) hg).trans c1
                have SQ := fun W hb => SD (R.getD k (0, 0)) W hb
                obtain ⟨e1, e2⟩ := HSD2.out (R.getD k (0, 0))
                have HE := hide (ralE_at P (R := R) (k := k) (by rw [HN.out]; exact hlt))
                simp only [pV] at SQ
                rw [e1, e2] at SQ
                clear e1 e2 c0 c1 hcc
                generalize (R.getD k (0, 0)).1 = x at *
                generalize (R.getD k (0, 0)).2 = y at *
                generalize fitB (R.getD k (0, 0)) = ft at *
                generalize sidI P P.length (R.getD k (0, 0)) = sd at *
                have hsx := hbx.out.size
                have lB := hBx.out.lt
                obtain ⟨W1, hW1⟩ : ∃ W1, wr.alloc (.cells #[.int .i64 x, .int .i64 y] 39) = W1 := ⟨_, rfl⟩
                have hb1 : Below wr.heap.size wr W1 := hW1 ▸ below_alloc _ _
                have j0 := (hBx.out.after hb1).cell 0 rfl
                have B1 : Blk W1 wr.heap.size #[.int .i64 x, .int .i64 y] 39 := hW1 ▸ Blk.new _ _ _
                have m0 := B1.cell 0 rfl
                have m1 := B1.cell 1 rfl
                have hbn := below_next hbx.out (Nat.le_refl _) hb1
                go_wp2_with fail
                try rw [hW1]
                clear hW1 q0 q1
                go_wp2_with fail
                refine (SQ _ hbn).mono ?_
                rintro e w5 ⟨rfl, hb5⟩
                clear j0 m0 m1 SD SQ B1
                have hb6 := below_next hbn (Nat.le_refl _) hb5
                have hb7 := below_next hb1 (Nat.le_refl _) hb5
                cases ft
                · go_wp2_with fail
                  go_ret
                  exact ⟨ret_int (by rw [HCE.out, hf'.out, HE.out]; rfl), hb6⟩
                · by_cases h1 : sd = 1
                  · subst h1
                    go_wp2_with fail
                    go_roundw
                    case rel => exact ⟨k + 1, by omega, by go_num, hide (by rw [hf'.out, HE.out]; rfl), hide hb6, hide (hBx.out.after hb7)⟩
                    case measure => simp [intOf]; omega
                  · go_wp2_with fail
                    all_goals go_ret
                    all_goals exact ⟨ret_int (by rw [HCE.out, hf'.out, HE.out, if_pos (by trivial), if_neg h1]), hb6⟩
              · go_wp2_with fail
                go_ret
                exact ⟨ret_int (by rw [HCE.out, hf'.out, ralE_end P (by rw [HN.out]; omega)]), hbx.out⟩
  · go_wp2_with fail
    all_goals go_ret
    all_goals exact ⟨ret_int (HC1.out hs).symm, hB0⟩
end Go.Proofs.Ytnenbbkkhnlgbaa
