/- The document's fence: its bytes. -/
import Derived.Test.YtnenbbkkhnlgbaaFf3
import Derived.Test.YtnenbbkkhnlgbaaFeQ
namespace Go.Proofs.Ytnenbbkkhnlgbaa
open Go.RowKit Go.Great

theorem text4 (w : World) (a b c d : UInt8) {x y z u : Int} (hx : x = (a.toNat : Int)) (hy : y = (b.toNat : Int)) (hz : z = (c.toNat : Int)) (hu : u = (d.toNat : Int)) : (convert 80 9 (.slice (some ⟨w.heap.size, 0, none⟩) 4 4)).run Try.prog (w.alloc (.cells #[.int .u8 x, .int .u8 y, .int .u8 z, .int .u8 u] 5)) = .ok (.string (bs [a, b, c, d])) (w.alloc (.cells #[.int .u8 x, .int .u8 y, .int .u8 z, .int .u8 u] 5)) := by
  subst hx hy hz hu
  refine run_convert_bytes_back _ 80 9 5 ⟨w.heap.size, 0, none⟩ 4 [a, b, c, d] (by kernel_rfl) (by kernel_rfl) (by kernel_rfl) ?_
  intro j hj
  rw [show (Addr.add ⟨w.heap.size, 0, none⟩ j) = ⟨w.heap.size, j, none⟩ by simp [Addr.add]; exact fun h => h.symm, World.cell?_alloc_new]
  have : j = 0 ∨ j = 1 ∨ j = 2 ∨ j = 3 := by simp at hj; omega
  rcases this with rfl | rfl | rfl | rfl <;> rfl
theorem text1 (w : World) (a : UInt8) {x : Int} (hx : x = (a.toNat : Int)) : (convert 80 9 (.slice (some ⟨w.heap.size, 0, none⟩) 1 1)).run Try.prog (w.alloc (.cells #[.int .u8 x] 5)) = .ok (.string (bs [a])) (w.alloc (.cells #[.int .u8 x] 5)) := by
  subst hx
  refine run_convert_bytes_back _ 80 9 5 ⟨w.heap.size, 0, none⟩ 1 [a] (by kernel_rfl) (by kernel_rfl) (by kernel_rfl) ?_
  intro j hj
  rw [show (Addr.add ⟨w.heap.size, 0, none⟩ j) = ⟨w.heap.size, j, none⟩ by simp [Addr.add]; exact fun h => h.symm, World.cell?_alloc_new]
  have : j = 0 := by simp at hj; omega
  subst this
  rfl
theorem bs_app (l m : List UInt8) : bs l ++ bs m = bs (l ++ m) := bs_ext (by simp [bs])
set_option maxRecDepth 100000 in
set_option maxHeartbeats 2000000 in
theorem rfour_any (n : Int) (h1 : -2147483648 ≤ n) (h2 : n < 2147483648) (w : World) : Calls Try.prog 61 #[.int .i64 n] w fun e w' => e = .returned (.string (bs (n4 n))) ∧ Below w.heap.size w w' := by
  rw [n4_eq]
  by_cases h0 : n < 0
  · have hT := text4 w (u8 n) (u8 (n / 256)) (u8 (n / 65536)) (u8 (n / 16777216)) (x := (n + 4294967296) % 256) (y := (n + 4294967296) / 256 % 256) (z := (n + 4294967296) / 65536 % 256) (u := (n + 4294967296) / 16777216) (by rw [u8_back]; omega) (by rw [u8_back]; omega) (by rw [u8_back]; omega) (by rw [u8_back]; omega)
    generalize bs [u8 n, u8 (n / 256), u8 (n / 65536), u8 (n / 16777216)] = t at *
    go_enter Try.func61, Try.ntmps61
    go_wp2_with fail
    go_ret
    exact ⟨rfl, below_alloc _ _⟩
  · have hT := text4 w (u8 n) (u8 (n / 256)) (u8 (n / 65536)) (u8 (n / 16777216)) (x := n % 256) (y := n / 256 % 256) (z := n / 65536 % 256) (u := n / 16777216) (by rw [u8_back]) (by rw [u8_back]) (by rw [u8_back]) (by rw [u8_back]; omega)
    generalize bs [u8 n, u8 (n / 256), u8 (n / 65536), u8 (n / 16777216)] = t at *
    go_enter Try.func61, Try.ntmps61
    go_wp2_with fail
    go_ret
    exact ⟨rfl, below_alloc _ _⟩
set_option maxRecDepth 100000 in
set_option maxHeartbeats 2000000 in
theorem rpoints_any (P : List Pt) (v : Value) (w : World) (hv : Pts w v P) (hf : ∀ k, k < P.length → In32 (P.getD k (0, 0)).1 ∧ In32 (P.getD k (0, 0)).2) (hl : P.length ≤ 255) : Calls Try.prog 60 #[v] w fun e w' => e = .returned (.string (bs (ptsB P))) ∧ Below w.heap.size w w' := by
  have HPB : Hid (ptsB P = u8 (P.length : Int) :: ptB (P.take P.length)) := hide (by rw [List.take_length]; rfl)
  have HTK : Hid (∀ k, k < P.length → P.take (k + 1) = P.take k ++ [P.getD k (0, 0)]) := fun k hk => take_pt hk
  have HF := hide hf
  have HLEN : Hid (∀ k, k ≤ P.length → (ptB (P.take k)).length = 8 * k) := fun k hk => by rw [ptB_len, List.length_take]; omega
  obtain ⟨a, cap, rfl, hc⟩ := hv
  have HC := hide hc
  obtain ⟨m, hm⟩ : ∃ m, P.length = m := ⟨_, rfl⟩
  rw [hm] at HPB HTK HF HC HLEN hl ⊢
  rw [HPB.out]
  clear hm hc hf
  have hT := text1 w (u8 (m : Int)) (x := (m : Int)) (by rw [u8_back]; omega)
  have HB0 : Hid (bs (u8 (m : Int) :: ptB (P.take 0)) = bs [u8 (m : Int)]) := rfl
  obtain ⟨t0, ht0⟩ : ∃ t, bs [u8 (m : Int)] = t := ⟨_, rfl⟩
  rw [ht0] at hT HB0
  clear ht0
  go_enter Try.func60, Try.ntmps60
  go_wp2_with fail
  have hB0 := below_alloc w (.cells #[.int .u8 (m : Int)] 5)
  obtain ⟨W1, hW1⟩ : ∃ W1, w.alloc (.cells #[.int .u8 (m : Int)] 5) = W1 := ⟨_, rfl⟩
  rw [hW1] at hB0 hT ⊢
  clear hW1
  go_loopw [3, 4] (fun s i wx => ∃ k : Nat, k ≤ m ∧ i = .int .i64 k ∧ (∃ t, s = .string t ∧ Hid (t = bs (u8 (m : Int) :: ptB (P.take k)))) ∧ Hid (Below w.heap.size w wx)) (fun _ i _ => m - (intOf i).toNat)
  case atStart => exact ⟨0, Nat.zero_le _, rfl, ⟨_, rfl, hide HB0.out.symm⟩, hide hB0⟩
  case round =>
    obtain ⟨k, hk, rfl, ⟨t, rfl, ht⟩, hB⟩ := hrel
    clear hT HB0 hB0
    by_cases hlt : k < m
    · obtain ⟨g, o, rfl, hg, hcc⟩ := HC.out (by omega)
      have gb := hB.out.size
      have gw : g < wr.heap.size := by omega
      have p0 := fun z : BelowW wr => z.cell ((hB.out.cell (p := ⟨g, o + k * 2, none⟩) hg).trans (hcc k hlt).1) gw
      have p1 := fun z : BelowW wr => z.cell ((hB.out.cell (p := ⟨g, o + k * 2 + 1, none⟩) hg).trans (hcc k hlt).2) gw
      obtain ⟨f1, f2⟩ := HF.out k hlt
      have M1 := fun z : BelowW wr => rfour_any (P.getD k (0, 0)).1 f1.1 f1.2 z.q
      have M2 := fun z : BelowW wr => rfour_any (P.getD k (0, 0)).2 f2.1 f2.2 z.q
      have HS : Hid (bs (u8 (m : Int) :: ptB (P.take (k + 1))) = t ++ bs (n4 (P.getD k (0, 0)).1) ++ bs (n4 (P.getD k (0, 0)).2)) := hide (by
        rw [ht.out, bs_app, bs_app, HTK.out k hlt, ptB_snoc]
        simp)
      have hsz : t.size ≤ 2041 := by
        rw [ht.out, bs_size, List.length_cons, HLEN.out k hk]; omega
      have hs1 : (bs (n4 (P.getD k (0, 0)).1)).size = 4 := by rw [bs_size, n4_len]
      have hs2 : (bs (n4 (P.getD k (0, 0)).2)).size = 4 := by rw [bs_size, n4_len]
      generalize bs (n4 (P.getD k (0, 0)).1) = u1 at *
      generalize bs (n4 (P.getD k (0, 0)).2) = u2 at *
      generalize (P.getD k (0, 0)).1 = x at *
      generalize (P.getD k (0, 0)).2 = y at *
      have hne : Nonempty (BelowW wr) := ⟨⟨wr, Below.refl _ _⟩⟩
      clear hcc f1 f2
      go_wp2_with fail
      refine wp_region_calm (by kernel_rfl) (by kernel_rfl) ?_
      repeat (go_big_quiet_step (first | (go_at_call_of 61 (Value.int IntKind.i64 x); exact calm_of (M1 _)) | (go_at_call_of 61 (Value.int IntKind.i64 y); exact calm_of (M2 _))))
      refine wpQuiet_nil ?_
      rintro w6 ⟨⟨q3, hq⟩, e3⟩
      have e4 : w6 = q3 := e3
      clear e3
      subst e4
      clear p0 p1 hne M1 M2
      go_wp2_with fail
      go_roundw
      case rel => exact ⟨k + 1, by omega, by go_num, ⟨_, rfl, hide HS.out.symm⟩, hide (below_next hB.out (Nat.le_refl _) hq)⟩
      case measure => simp [intOf]; omega
    · have HE : Hid (t = bs (u8 (m : Int) :: ptB (P.take m))) := hide (by rw [ht.out, show k = m by omega])
      go_wp2_with fail
      go_ret
      exact ⟨by rw [← HE.out]; rfl, hB.out⟩
set_option maxRecDepth 100000 in
set_option maxHeartbeats 4000000 in
theorem rencode_any (P R : List Pt) (fl ce : Int) (p r : Value) (w : World) (hp : Pts w p P) (hr : Pts w r R) (hP : P.length ≤ 4611686018427387904) (hR : R.length ≤ 4611686018427387904) : Calls Try.prog 28 #[fV p fl ce r] w fun e w' => e = .returned (.tuple #[.string (bs (encI P fl ce R)), .int .i64 (chk P fl ce R)]) ∧ Below w.heap.size w w' := by
  have CH := fun W (hb : Below w.heap.size w W) => rcheck_any P R fl ce p r W (hp.below hb) (hr.below hb) hP hR
  have A1 : Hid (chk P fl ce R = 0 → ∀ W, Below w.heap.size w W → Calls Try.prog 60 #[p] W fun e w' => e = .returned (.string (bs (ptsB P))) ∧ Below W.heap.size W w') := fun hs W hb => rpoints_any P p W (hp.below hb) (fun k hk => fit_32 (sim_at (chk_ok hs).1 hk)) (by have := (sim_len (chk_ok hs).1).2.1; omega)
  have A2 : Hid (chk P fl ce R = 0 → ∀ W, Below w.heap.size w W → Calls Try.prog 60 #[r] W fun e w' => e = .returned (.string (bs (ptsB R))) ∧ Below W.heap.size W w') := fun hs W hb => rpoints_any R r W (hr.below hb) (fun k hk => fit_32 (at_all (chk_fit hs) hk)) (by have := (chk_ok hs).2.2.2.2.2.1; omega)
  have F1 : Hid (chk P fl ce R = 0 → ∀ W, Calls Try.prog 61 #[.int .i64 fl] W fun e w' => e = .returned (.string (bs (n4 fl))) ∧ Below W.heap.size W w') := fun hs W => rfour_any fl (by have := (mayB_iff _).1 (chk_ok hs).2.1; omega) (by have := (mayB_iff _).1 (chk_ok hs).2.1; omega) W
  have F2 : Hid (chk P fl ce R = 0 → ∀ W, Calls Try.prog 61 #[.int .i64 ce] W fun e w' => e = .returned (.string (bs (n4 ce))) ∧ Below W.heap.size W w') := fun hs W => rfour_any ce (by have := (mayB_iff _).1 (chk_ok hs).2.2.1; omega) (by have := (mayB_iff _).1 (chk_ok hs).2.2.1; omega) W
  have HI : Hid (bs (encI P fl ce R) = if chk P fl ce R = 0 then bs (ptsB P) ++ bs (n4 fl) ++ bs (n4 ce) ++ bs (ptsB R) else bs []) := hide (by
    unfold encI
    split
    · unfold encF
      rw [bs_app, bs_app, bs_app]
      simp
    · rfl)
  have HZ : Hid (chk P fl ce R = 0 → (bs (ptsB P)).size ≤ 2041 ∧ (bs (ptsB R)).size ≤ 2041) := fun hs => by
    rw [bs_size, bs_size, ptsB_len, ptsB_len]
    have := (sim_len (chk_ok hs).1).2.1
    have := (chk_ok hs).2.2.2.2.2.1
    omega
  have z1 : (bs (n4 fl)).size = 4 := by rw [bs_size, n4_len]
  have z2 : (bs (n4 ce)).size = 4 := by rw [bs_size, n4_len]
  generalize bs (encI P fl ce R) = I at HI ⊢
  generalize bs (ptsB P) = u1 at *
  generalize bs (n4 fl) = u2 at *
  generalize bs (n4 ce) = u3 at *
  generalize bs (ptsB R) = u4 at *
  obtain ⟨c, hc⟩ : ∃ c, chk P fl ce R = c := ⟨_, rfl⟩
  rw [hc] at CH A1 A2 F1 F2 HI HZ ⊢
  clear hc
  obtain ⟨ap, cp, rfl, hcl⟩ := hp
  obtain ⟨ar, cr, rfl, hcl'⟩ := hr
  generalize P.length = n1 at *
  generalize R.length = n2 at *
  clear hcl hcl' hP hR
  simp only [fV] at *
  go_enter Try.func28, Try.ntmps28
  go_wp2_with fail
  have B0 := Blk.new w #[.slice ap n1 cp, .int .i64 fl, .int .i64 ce, .slice ar n2 cr] 24
  have hB := below_alloc w (.cells #[.slice ap n1 cp, .int .i64 fl, .int .i64 ce, .slice ar n2 cr] 24)
  refine (CH _ hB).mono ?_
  rintro e w1 ⟨rfl, hb1⟩
  replace B0 := B0.after hb1
  replace hB := below_next hB (Nat.le_refl _) hb1
  clear hb1 CH
  by_cases hs : c = 0
  · subst hs
    have A1' := A1.out (by trivial)
    have A2' := A2.out (by trivial)
    have F1' := F1.out (by trivial)
    have F2' := F2.out (by trivial)
    obtain ⟨z3, z4⟩ := HZ.out (by trivial)
    have HI2 : Hid (I = u1 ++ u2 ++ u3 ++ u4) := hide (by rw [HI.out, if_pos (by trivial)])
    clear A1 A2 F1 F2 HZ HI
    have j0 := B0.cell 0 rfl
    go_wp2_with fail
    refine (A1' _ hB).mono ?_
    rintro e w2 ⟨rfl, hb2⟩
    replace B0 := B0.after hb2
    replace hB := below_next hB (Nat.le_refl _) hb2
    clear hb2 A1' j0
    have j1 := B0.at 1 rfl
    have j2 := B0.at 2 rfl
    have j3 := B0.at 3 rfl
    have M1 := fun z : BelowW w2 => F1' z.q
    have M2 := fun z : BelowW w2 => F2' z.q
    have M3 := fun z : BelowW w2 => A2' z.q (below_next hB (Nat.le_refl _) z.h)
    have hne : Nonempty (BelowW w2) := ⟨⟨w2, Below.refl _ _⟩⟩
    clear F1' F2' A2'
    go_wp2_with fail
    refine wp_region_calm (by kernel_rfl) (by kernel_rfl) ?_
    repeat (go_big_quiet_step (first | (go_at_call_of 61 (Value.int IntKind.i64 fl); exact calm_of (M1 _)) | (go_at_call_of 61 (Value.int IntKind.i64 ce); exact calm_of (M2 _)) | (go_at_call 60; exact calm_of (M3 _))))
    refine wpQuiet_nil ?_
    rintro w6 ⟨⟨q3, hq⟩, e3⟩
    have e4 : w6 = q3 := e3
    clear e3
    subst e4
    go_wp2_with fail
    go_ret2
    exact ⟨by rw [HI2.out]; rfl, below_next hB (Nat.le_refl _) hq⟩
  · have HI2 : Hid (I = bs []) := hide (by rw [HI.out, if_neg hs])
    clear A1 A2 F1 F2 HZ HI
    go_wp2_with fail
    all_goals go_ret2
    all_goals exact ⟨by rw [HI2.out]; rfl, hB⟩
end Go.Proofs.Ytnenbbkkhnlgbaa
