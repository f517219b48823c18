/- Package fence: hasSide, isInside, isLane. -/
import Derived.Test.YtnenbbkkhnlgbaaFe1
namespace Go.Proofs.Ytnenbbkkhnlgbaa
open Go.RowKit Go.Great

theorem has_not {P : List Pt} {x y : Pt} (h : ∀ j, j < P.length → askB (pt P j) (pt P (nxt P.length j)) x y = false) : hasB P x y = false := by
  unfold hasB
  rw [List.any_eq_false]
  intro k hk
  rw [h k (List.mem_range.1 hk)]
  simp
theorem has_yes {P : List Pt} {x y : Pt} {j : Nat} (hj : j < P.length) (h : askB (pt P j) (pt P (nxt P.length j)) x y = true) : hasB P x y = true := by
  unfold hasB
  rw [List.any_eq_true]
  exact ⟨j, List.mem_range.2 hj, h⟩
set_option maxHeartbeats 4000000 in
theorem hasSide_any (P : List Pt) (v : Value) (x y : Pt) (X Y : Nat) (w : World) (hv : Pts w v P) (h0 : 1 ≤ P.length) (hl : P.length ≤ 64) (hX : Blk w X #[.int .i64 x.1, .int .i64 x.2] 32) (hY : Blk w Y #[.int .i64 y.1, .int .i64 y.2] 32) : Calls Try.prog 81 #[v, .func (.func 79) #[] #[.pointer (some ⟨X, 0, none⟩), .pointer (some ⟨Y, 0, none⟩)]] w fun e w' => e = .returned (.bool (hasB P x y)) ∧ Below w.heap.size w w' := by
  obtain ⟨a, cap, rfl, hc⟩ := hv
  obtain ⟨g, o, rfl, hg, hcc⟩ := hc h0
  clear hc
  have AK := fun (a b : Pt) (W : World) (hb : Below w.heap.size w W) => ask_any a b x y X Y W (hX.after hb) (hY.after hb)
  obtain ⟨m, hm⟩ : ∃ m, P.length = m := ⟨_, rfl⟩
  have HM := hide hm
  have HR : Hid (∀ r, ((∀ j, j < m → askB (pt P j) (pt P (nxt m j)) x y = false) → r = false) → ((∃ j, j < m ∧ askB (pt P j) (pt P (nxt m j)) x y = true) → r = true) → r = hasB P x y) := by
    intro r h1 h2
    by_cases hq : ∃ j, j < m ∧ askB (pt P j) (pt P (nxt m j)) x y = true
    · rw [h2 hq]
      obtain ⟨j, hj, hh⟩ := hq
      subst hm
      exact (has_yes hj hh).symm
    · have hn : ∀ j, j < m → askB (pt P j) (pt P (nxt m j)) x y = false := fun j hj => by
        cases e : askB (pt P j) (pt P (nxt m j)) x y with
        | false => rfl
        | true => exact absurd ⟨j, hj, e⟩ hq
      rw [h1 hn]
      subst hm
      exact (has_not hn).symm
  generalize hasB P x y = r at HR ⊢
  rw [hm] at hcc hl h0 ⊢
  have HCC : Hid (∀ i, i < m → w.cell? ⟨g, o + i * 2, none⟩ = some (.int .i64 (ptx P i)) ∧ w.cell? ⟨g, o + i * 2 + 1, none⟩ = some (.int .i64 (pty P i))) := fun i hi => hcc i hi
  clear hm hcc hX hY
  go_enter Try.func81, Try.ntmps81
  go_wp2_with fail
  go_loopw [9] (fun i wx => ∃ k : Nat, k ≤ m ∧ i = .int .i64 k ∧ Hid (∀ j, j < k → askB (pt P j) (pt P (nxt m j)) x y = false) ∧ Hid (Below w.heap.size w wx)) (fun i _ => m - (intOf i).toNat)
  case atStart => exact ⟨0, Nat.zero_le _, rfl, hide (fun j h => by omega), hide (Below.refl _ _)⟩
  case round =>
    obtain ⟨k, hk, rfl, hf, hbx⟩ := hrel
    by_cases hlt : k < m
    · have hrem : ((k : Int) + 1) % (m : Int) = ((nxt m k : Nat) : Int) := rfl
      have hnl : ((nxt m k : Nat) : Int) < m := by have := nxt_lt (k := k) h0; omega
      have gb := hbx.out.size
      have q0 := (hbx.out.cell (p := ⟨g, o + k * 2, none⟩) hg).trans (HCC.out k hlt).1
      have q1 := (hbx.out.cell (p := ⟨g, o + k * 2 + 1, none⟩) hg).trans (HCC.out k hlt).2
      obtain ⟨W1, hW1⟩ : ∃ W1, wr.alloc (.cells #[.int .i64 (ptx P k), .int .i64 (pty P k)] 39) = W1 := ⟨_, rfl⟩
      have B0 : Blk W1 wr.heap.size #[.int .i64 (ptx P k), .int .i64 (pty P k)] 39 := hW1 ▸ Blk.new _ _ _
      have hbW : Below wr.heap.size wr W1 := hW1 ▸ below_alloc _ _
      have HB1 := hide (below_next hbx.out (Nat.le_refl _) hbW)
      have gc := HB1.out.size
      have MT := fun x : BelowW W1 => AK (pt P k) (pt P (nxt m k)) x.q (below_next HB1.out (Nat.le_refl _) x.h)
      obtain ⟨t, ht⟩ : ∃ t, askB (pt P k) (pt P (nxt m k)) x y = t := ⟨_, rfl⟩
      rw [ht] at MT
      have HE1 := hide ht
      clear ht
      simp only [pV, pt] at MT
      have d0 := fun x : BelowW W1 => x.cell ((HB1.out.cell (p := ⟨g, o + nxt m k * 2, none⟩) hg).trans (HCC.out _ (nxt_lt h0)).1) (by omega)
      have d1 := fun x : BelowW W1 => x.cell ((HB1.out.cell (p := ⟨g, o + nxt m k * 2 + 1, none⟩) hg).trans (HCC.out _ (nxt_lt h0)).2) (by omega)
      have k0 := B0.at 0 rfl
      have k1 := B0.at 1 rfl
      have hne : Nonempty (BelowW W1) := ⟨⟨W1, Below.refl _ _⟩⟩
      generalize ptx P k = xa at *
      generalize pty P k = ya at *
      generalize ptx P (nxt m k) = xb at *
      generalize pty P (nxt m k) = yb at *
      generalize hnk : nxt m k = kn at *
      have HNK := hide hnk
      clear hnk AK
      go_wp2_with fail
      try rw [hW1]
      clear hW1 B0 hbW
      refine wp_region_calm (by kernel_rfl) (by kernel_rfl) ?_
      repeat (go_big_quiet_step (first | (go_at_call 79; exact calm_of (MT _))))
      refine wpQuiet_nil ?_
      rintro w5 ⟨⟨q3, hq⟩, e3⟩
      have e4 : w5 = q3 := e3
      clear e3
      subst e4
      clear d0 d1 k0 k1 hne q0 q1 MT
      have hb5 := below_next HB1.out (Nat.le_refl _) hq
      cases t
      · go_wp2_with fail
        go_roundw
        case rel =>
          refine ⟨k + 1, by omega, by go_num, hide (fun j hj => ?_), hide hb5⟩
          by_cases ej : j = k
          · subst ej
            rw [HNK.out]
            exact HE1.out
          · exact hf.out j (by omega)
        case measure => simp [intOf]; omega
      · go_wp2_with fail
        go_ret
        refine ⟨ret_bool (HR.out true (fun h => ?_) (fun _ => rfl)), hb5⟩
        have := h k hlt
        rw [HNK.out, HE1.out] at this
        exact this
    · go_wp2_with fail
      go_ret
      refine ⟨ret_bool (HR.out false (fun _ => rfl) (fun ⟨j, hj, h⟩ => ?_)), hbx.out⟩
      rw [hf.out j (by omega)] at h
      exact h
set_option maxHeartbeats 4000000 in
theorem inside_fn (P : List Pt) (v : Value) (x y : Pt) (w : World) (hv : Pts w v P) (hs : simE P = 0) (hx : x.1 ≤ x.2) (hy : y.1 ≤ y.2) : Calls Try.prog 52 #[v, pV x, pV y] w fun e w' => e = .returned (.bool (wiB P x y)) ∧ Below w.heap.size w w' := by
  rw [inside_eq hs hx hy]
  obtain ⟨l3, l64, _⟩ := sim_len hs
  have HS := fun X Y W (hb : Below w.heap.size w W) => hasSide_any P v x y X Y W (hv.below hb) (by omega) l64
  have SD := fun W (hb : Below w.heap.size w W) => callsIn_wide.1 (side_any P v (x.1, y.1) W (hv.below hb) (by omega))
  generalize hasB P x y = h at HS ⊢
  generalize sdI P (x.1, y.1) = s at SD ⊢
  generalize sdE P (x.1, y.1) = s' at SD ⊢
  obtain ⟨a, cap, rfl, _⟩ := hv
  obtain ⟨x1, x2⟩ := x
  obtain ⟨y1, y2⟩ := y
  simp only [pV] at *
  clear hs hx hy l3 l64
  have hmf : ∀ (fn : Fn) (first cap : Array Value) (w : World), (Instr.makeFunc fn first cap).run Try.prog w = .ok (.func fn first cap) w := fun _ _ _ _ => rfl
  go_enter Try.func52, Try.ntmps52
  go_wp2_with fail
  obtain ⟨W0, hW0, hB, B0, B1, hz⟩ := two_boxes w #[.int .i64 x1, .int .i64 x2] #[.int .i64 y1, .int .i64 y2] 32 32
  try rw [hW0]
  refine (HS _ _ _ hB B0 B1).mono ?_
  rintro e w1 ⟨rfl, hb1⟩
  have hB1 := below_next hB (Nat.le_refl _) hb1
  have k0 := (B0.after hb1).cell 0 rfl
  have k1 := (B1.after hb1).cell 0 rfl
  clear B0 B1 hW0
  cases h
  · go_wp2_with (go_at_call 39; refine (SD _ hB1).mono ?_; rintro e w2 ⟨rfl, hb2⟩)
    go_ret
    exact ⟨by first | rfl | exact ret_bool (by simp), below_next hB1 (Nat.le_refl _) hb2⟩
  · go_wp2_with fail
    go_ret
    exact ⟨by first | rfl | exact ret_bool (by simp), hB1⟩
end Go.Proofs.Ytnenbbkkhnlgbaa
