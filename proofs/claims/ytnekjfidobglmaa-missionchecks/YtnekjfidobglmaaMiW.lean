/- The document's Word and Encode; items that were lent. Written by mk_miw.py. -/
import Derived.Test.YtnekjfidobglmaaMiR
import Derived.Test.YtnekjfidobglmaaMiS
namespace Go.Proofs.Ytnekjfidobglmaa
open Go.RowKit Go.Great Go.Maps

theorem brow_four (w : World) (x : Int) : BRow (w.alloc (.cells #[.int .u8 (x / 16777216 % 256), .int .u8 (x / 65536 % 256), .int .u8 (x / 256 % 256), .int .u8 (x % 256)] 5)) w.heap.size (.slice (some ⟨w.heap.size, 0, none⟩) 4 4) (encB x) :=
  ⟨rfl, .inr ⟨w.heap.size, 4, _, rfl, Nat.le_refl _, heap_alloc_new _ _, Nat.le_refl _, by unfold maxLen; omega, rfl, by rw [encB_cells]; rfl⟩⟩
set_option maxHeartbeats 1000000 in
theorem word_any (x : Int) (w : World) : Calls Try.prog 33 #[.int .i64 x] w fun e w' => e = .returned (.string (bs (encB x))) ∧ Below w.heap.size w w' := by
  have hT := (brow_four w x).text
  have Hb := hide (below_alloc w (.cells #[.int .u8 (x / 16777216 % 256), .int .u8 (x / 65536 % 256), .int .u8 (x / 256 % 256), .int .u8 (x % 256)] 5))
  go_enter Try.func33, Try.ntmps33
  go_wp2_with fail
  go_ret
  exact ⟨rfl, Hb.out⟩
theorem bs_app (l m : List UInt8) : bs l ++ bs m = bs (l ++ m) := bs_ext (by simp [bs])
theorem conv1 {w : World} {g : Nat} {k : UInt8} (h : Blk w g #[.int .u8 (k.toNat : Int)] 5) : (convert 61 9 (.slice (some ⟨g, 0, none⟩) 1 1)).run Try.prog w = .ok (.string (bs [k])) w := by
  refine run_convert_bytes_back _ 61 9 5 ⟨g, 0, none⟩ 1 [k] (by kernel_rfl) (by kernel_rfl) (by kernel_rfl) ?_
  intro j hj
  have : j = 0 := by simp at hj; omega
  subst this
  have := h.cell 0 rfl
  simpa [Addr.add] using this
set_option maxRecDepth 100000 in
set_option maxHeartbeats 16000000 in
theorem rencode_any (L : List It) (v : Value) (w : World) (hR : Rws w v 4 itC L) : Calls Try.prog 13 #[v] w fun e w' => e = .returned (.tuple #[.string (bs (encA L)), .int .i64 (chk L)]) ∧ Below w.heap.size w w' := by
  have CH := hide (rcheck_any L v w hR)
  have HR := hide hR
  have WD := hide word_any
  obtain ⟨mN, na, np, rfl, _⟩ := hR
  by_cases hc : chk L = 0
  · have h64 := (chk_ok hc).1
    have HE : Hid (encA L = encL L) := hide (by unfold encA; rw [if_pos hc])
    rw [hc] at CH ⊢
    rw [HE.out]
    clear HE hc
    obtain ⟨n, eN⟩ : ∃ n, Hid (L.length = n) := ⟨_, hide rfl⟩
    have HL : Hid (encL L = UInt8.ofNat n :: encR (L.take n)) := hide (by rw [← eN.out, List.take_length]; rfl)
    rw [eN.out] at h64 mN CH ⊢
    have hmod : (n : Int) % 256 = n := by omega
    have HN : Hid (((UInt8.ofNat n).toNat : Int) = n) := hide (by rw [UInt8.toNat_ofNat']; omega)
    go_enter Try.func13, Try.ntmps13
    go_wp2_with fail
    refine CH.out.mono ?_
    rintro e w1 ⟨rfl, hb1⟩
    have hT : (convert 61 9 (.slice (some ⟨w1.heap.size, 0, none⟩) 1 1)).run Try.prog (w1.alloc (.cells #[.int .u8 (n : Int)] 5)) = .ok (.string (bs [UInt8.ofNat n])) (w1.alloc (.cells #[.int .u8 (n : Int)] 5)) := by
      have := conv1 (k := UInt8.ofNat n) (Blk.new w1 #[.int .u8 (n : Int)] 5 |> fun h => by rw [HN.out]; exact h)
      exact this
    have HB1 := hide (below_next hb1 (Nat.le_refl _) (below_alloc w1 (.cells #[.int .u8 (n : Int)] 5)))
    clear hb1 CH
    go_upto_region 6 with fail
    clear hT
    generalize w1.alloc (.cells #[.int .u8 (n : Int)] 5) = W1 at *
    go_loopw [5, 6] (fun v i wx => ∃ k : Nat, k ≤ n ∧ i = .int .i64 k ∧ v = .string (bs (UInt8.ofNat n :: encR (L.take k))) ∧ Hid (Below w.heap.size w wx)) (fun _ i _ => n - (intOf i).toNat)
    case atStart => exact ⟨0, Nat.zero_le _, rfl, rfl, HB1⟩
    case round =>
      clear HB1
      obtain ⟨k, hk, rfl, rfl, Hb⟩ := hrel
      by_cases hlt : k < n
      · obtain ⟨g, og, cap, x, e1, hg, hxl, cell⟩ := HR.out.get k (by rw [eN.out]; omega)
        injection e1 with e1 e2 e3
        subst e1 e3
        have HS : Hid (UInt8.ofNat n :: encR (L.take (k + 1)) = (UInt8.ofNat n :: encR (L.take k)) ++ [x.k] ++ encB x.a ++ encB x.b ++ encB x.c) := hide (by rw [encR_cons hxl]; simp [encIt])
        have p0 : wr.cell? ⟨g, og + k * 4, none⟩ = some (.int .u8 x.k.toNat) := cell wr Hb.out 0 _ rfl
        have p1 : wr.cell? ⟨g, og + k * 4 + 1, none⟩ = some (.int .i64 x.a) := cell wr Hb.out 1 _ rfl
        have p2 : wr.cell? ⟨g, og + k * 4 + 2, none⟩ = some (.int .i64 x.b) := cell wr Hb.out 2 _ rfl
        have p3 : wr.cell? ⟨g, og + k * 4 + 3, none⟩ = some (.int .i64 x.c) := cell wr Hb.out 3 _ rfl
        clear cell e2 hxl
        have z0 : (bs (UInt8.ofNat n :: encR (L.take k))).size ≤ 1000 := by rw [bs_size, List.length_cons, encR_len, List.length_take]; omega
        generalize UInt8.ofNat n :: encR (L.take k) = q at HS z0 ⊢
        obtain ⟨kk, a, b, c⟩ := x
        simp only at *
        have z1 : (bs [kk]).size = 1 := rfl
        have z2 : (bs (encB a)).size = 4 := rfl
        have z3 : (bs (encB b)).size = 4 := rfl
        have z4 : (bs (encB c)).size = 4 := rfl
        have HX := hide (Blk.new wr (iC kk.toNat a b c) 48)
        replace Hb := hide (below_next Hb.out (Nat.le_refl _) (below_alloc wr (.cells (iC kk.toNat a b c) 48)))
        go_upto_region 9 with fail
        generalize wr.alloc (.cells (iC kk.toNat a b c) 48) = W2 at *
        generalize wr.heap.size = gx at *
        clear p0 p1 p2 p3 hmod
        refine reg_last_held (fun wx => wx.cell? ⟨gx, 0, none⟩ = some (.int .u8 (kk.toNat : Int)) ∧ wx.cell? ⟨gx, 1, none⟩ = some (.int .i64 a) ∧ wx.cell? ⟨gx, 2, none⟩ = some (.int .i64 b) ∧ wx.cell? ⟨gx, 3, none⟩ = some (.int .i64 c)) 18 rfl rfl _ rfl (by kernel_rfl) (by kernel_rfl) (it_cells HX.out) (fun hHeld => ?_)
        simp only [List.take_succ_cons, List.take_zero]
        replace HX := hide (blk_drew HX.out)
        replace Hb := hide (Below.drew Hb.out)
        generalize W2.drew = Wd at *
        refine take_at (i := 0) (v := .string (bs q)) (d := some 28) rfl rfl (by kernel_rfl) (by kernel_rfl) (by kernel_rfl) (fun _ _ _ h => h) (Or.inl ⟨by rfl, fun wS ⟨hS0, hS1, hS2, hS3⟩ => by go_simp; all_goals omega⟩) (by assumption) ?_
        simp only [Act.put, List.setIfInBounds_toArray, List.set_cons_zero, List.set_cons_succ]
        refine take_at (i := 1) (v := .pointer (some ⟨gx, 0, none⟩)) (d := some 29) rfl rfl (by kernel_rfl) (by kernel_rfl) (by kernel_rfl) (fun _ _ _ h => h) (Or.inl ⟨by rfl, fun wS ⟨hS0, hS1, hS2, hS3⟩ => by go_simp; all_goals omega⟩) (by assumption) ?_
        simp only [Act.put, List.setIfInBounds_toArray, List.set_cons_zero, List.set_cons_succ]
        refine take_at (i := 2) (v := .int .u8 (kk.toNat : Int)) (d := some 30) rfl rfl (by kernel_rfl) (by kernel_rfl) (by kernel_rfl) (fun _ _ _ h => h) (Or.inl ⟨by rfl, fun wS ⟨hS0, hS1, hS2, hS3⟩ => by go_simp; all_goals omega⟩) (by assumption) ?_
        simp only [Act.put, List.setIfInBounds_toArray, List.set_cons_zero, List.set_cons_succ]
        refine take_at (i := 6) (v := .pointer (some ⟨gx, 1, none⟩)) (d := some 34) rfl rfl (by kernel_rfl) (by kernel_rfl) (by kernel_rfl) (fun _ _ _ h => h) (Or.inl ⟨by rfl, fun wS ⟨hS0, hS1, hS2, hS3⟩ => by go_simp; all_goals omega⟩) (by assumption) ?_
        simp only [Act.put, List.setIfInBounds_toArray, List.set_cons_zero, List.set_cons_succ]
        refine take_at (i := 7) (v := .int .i64 a) (d := some 35) rfl rfl (by kernel_rfl) (by kernel_rfl) (by kernel_rfl) (fun _ _ _ h => h) (Or.inl ⟨by rfl, fun wS ⟨hS0, hS1, hS2, hS3⟩ => by go_simp; all_goals omega⟩) (by assumption) ?_
        simp only [Act.put, List.setIfInBounds_toArray, List.set_cons_zero, List.set_cons_succ]
        refine take_at (i := 10) (v := .pointer (some ⟨gx, 2, none⟩)) (d := some 38) rfl rfl (by kernel_rfl) (by kernel_rfl) (by kernel_rfl) (fun _ _ _ h => h) (Or.inl ⟨by rfl, fun wS ⟨hS0, hS1, hS2, hS3⟩ => by go_simp; all_goals omega⟩) (by assumption) ?_
        simp only [Act.put, List.setIfInBounds_toArray, List.set_cons_zero, List.set_cons_succ]
        refine take_at (i := 11) (v := .int .i64 b) (d := some 39) rfl rfl (by kernel_rfl) (by kernel_rfl) (by kernel_rfl) (fun _ _ _ h => h) (Or.inl ⟨by rfl, fun wS ⟨hS0, hS1, hS2, hS3⟩ => by go_simp; all_goals omega⟩) (by assumption) ?_
        simp only [Act.put, List.setIfInBounds_toArray, List.set_cons_zero, List.set_cons_succ]
        refine take_at (i := 14) (v := .pointer (some ⟨gx, 3, none⟩)) (d := some 42) rfl rfl (by kernel_rfl) (by kernel_rfl) (by kernel_rfl) (fun _ _ _ h => h) (Or.inl ⟨by rfl, fun wS ⟨hS0, hS1, hS2, hS3⟩ => by go_simp; all_goals omega⟩) (by assumption) ?_
        simp only [Act.put, List.setIfInBounds_toArray, List.set_cons_zero, List.set_cons_succ]
        refine take_at (i := 15) (v := .int .i64 c) (d := some 43) rfl rfl (by kernel_rfl) (by kernel_rfl) (by kernel_rfl) (fun _ _ _ h => h) (Or.inl ⟨by rfl, fun wS ⟨hS0, hS1, hS2, hS3⟩ => by go_simp; all_goals omega⟩) (by assumption) ?_
        simp only [Act.put, List.setIfInBounds_toArray, List.set_cons_zero, List.set_cons_succ]
        clear hHeld
        refine wpAnyH_ready (rs := [3, 8]) (by kernel_rfl) (by simp) ?_
        refine AllReadyH.cons rfl (fun K hK => ?_) (AllReadyH.cons rfl (fun K hK => ?_) AllReadyH.nil)
        · go_simp
          have HZ := hide (Blk.new Wd #[.int .u8 (kk.toNat : Int)] 5)
          replace HX := hide (HX.out.alloc (.cells #[.int .u8 (kk.toNat : Int)] 5))
          replace Hb := hide (below_next Hb.out (Nat.le_refl _) (below_alloc Wd (.cells #[.int .u8 (kk.toNat : Int)] 5)))
          generalize Wd.heap.size = bz at *
          generalize Wd.alloc (.cells #[.int .u8 (kk.toNat : Int)] 5) = wt1 at *
          refine hK.out _ _ (it_cells HX.out) (fun hHeld => ?_)
          clear hK K
          refine held_more (S' := fun wx => (wx.cell? ⟨gx, 0, none⟩ = some (.int .u8 (kk.toNat : Int)) ∧ wx.cell? ⟨gx, 1, none⟩ = some (.int .i64 a) ∧ wx.cell? ⟨gx, 2, none⟩ = some (.int .i64 b) ∧ wx.cell? ⟨gx, 3, none⟩ = some (.int .i64 c)) ∧ (convert 61 9 (.slice (some ⟨bz, 0, none⟩) 1 1)).run Try.prog wx = .ok (.string (bs [kk])) wx) (fun wx h => h.1) _ _ _ _ ?_
          replace hHeld : (fun wx => (wx.cell? ⟨gx, 0, none⟩ = some (.int .u8 (kk.toNat : Int)) ∧ wx.cell? ⟨gx, 1, none⟩ = some (.int .i64 a) ∧ wx.cell? ⟨gx, 2, none⟩ = some (.int .i64 b) ∧ wx.cell? ⟨gx, 3, none⟩ = some (.int .i64 c)) ∧ (convert 61 9 (.slice (some ⟨bz, 0, none⟩) 1 1)).run Try.prog wx = .ok (.string (bs [kk])) wx) wt1 := ⟨it_cells HX.out, conv1 HZ.out⟩
          refine take_at (i := 4) (v := .string (bs [kk])) (d := some 32) rfl rfl (by kernel_rfl) (by kernel_rfl) (by kernel_rfl) (fun _ _ _ h => h) (Or.inl ⟨by rfl, fun wS ⟨⟨hS0, hS1, hS2, hS3⟩, hS4⟩ => by go_simp; all_goals omega⟩) (by assumption) ?_
          simp only [Act.put, List.setIfInBounds_toArray, List.set_cons_zero, List.set_cons_succ]
          refine take_at (i := 5) (v := .string (bs q ++ bs [kk])) (d := some 33) rfl rfl (by kernel_rfl) (by kernel_rfl) (by kernel_rfl) (fun _ _ _ h => h) (Or.inl ⟨by rfl, fun wS ⟨⟨hS0, hS1, hS2, hS3⟩, hS4⟩ => by go_simp; all_goals omega⟩) (by assumption) ?_
          simp only [Act.put, List.setIfInBounds_toArray, List.set_cons_zero, List.set_cons_succ]
          clear hHeld
          refine wpAnyH_ready (rs := [8]) (by kernel_rfl) (by simp) ?_
          refine AllReadyH.cons rfl (fun K hK => ?_) AllReadyH.nil
          go_simp
          refine (WD.out _ _).mono ?_
          rintro e wt2 ⟨rfl, hb⟩
          replace HX := hide (HX.out.after hb)
          replace Hb := hide (below_next Hb.out (Nat.le_refl _) hb)
          replace HZ := hide (HZ.out.after hb)
          clear hb
          refine hK.out _ _ (⟨it_cells HX.out, conv1 HZ.out⟩) (fun hHeld => ?_)
          clear hK K
          refine take_at (i := 9) (v := .string (bs q ++ bs [kk] ++ bs (encB a))) (d := some 37) rfl rfl (by kernel_rfl) (by kernel_rfl) (by kernel_rfl) (fun _ _ _ h => h) (Or.inl ⟨by rfl, fun wS ⟨⟨hS0, hS1, hS2, hS3⟩, hS4⟩ => by go_simp; all_goals omega⟩) (by assumption) ?_
          simp only [Act.put, List.setIfInBounds_toArray, List.set_cons_zero, List.set_cons_succ]
          clear hHeld
          refine wpAnyH_ready (rs := [12]) (by kernel_rfl) (by simp) ?_
          refine AllReadyH.cons rfl (fun K hK => ?_) AllReadyH.nil
          go_simp
          refine (WD.out _ _).mono ?_
          rintro e wt3 ⟨rfl, hb⟩
          replace HX := hide (HX.out.after hb)
          replace Hb := hide (below_next Hb.out (Nat.le_refl _) hb)
          replace HZ := hide (HZ.out.after hb)
          clear hb
          refine hK.out _ _ (⟨it_cells HX.out, conv1 HZ.out⟩) (fun hHeld => ?_)
          clear hK K
          refine take_at (i := 13) (v := .string (bs q ++ bs [kk] ++ bs (encB a) ++ bs (encB b))) (d := some 41) rfl rfl (by kernel_rfl) (by kernel_rfl) (by kernel_rfl) (fun _ _ _ h => h) (Or.inl ⟨by rfl, fun wS ⟨⟨hS0, hS1, hS2, hS3⟩, hS4⟩ => by go_simp; all_goals omega⟩) (by assumption) ?_
          simp only [Act.put, List.setIfInBounds_toArray, List.set_cons_zero, List.set_cons_succ]
          clear hHeld
          refine wpAnyH_ready (rs := [16]) (by kernel_rfl) (by simp) ?_
          refine AllReadyH.cons rfl (fun K hK => ?_) AllReadyH.nil
          go_simp
          refine (WD.out _ _).mono ?_
          rintro e wt4 ⟨rfl, hb⟩
          replace HX := hide (HX.out.after hb)
          replace Hb := hide (below_next Hb.out (Nat.le_refl _) hb)
          replace HZ := hide (HZ.out.after hb)
          clear hb
          refine hK.out _ _ (⟨it_cells HX.out, conv1 HZ.out⟩) (fun hHeld => ?_)
          clear hK K
          refine take_at (i := 17) (v := .string (bs q ++ bs [kk] ++ bs (encB a) ++ bs (encB b) ++ bs (encB c))) (d := some 45) rfl rfl (by kernel_rfl) (by kernel_rfl) (by kernel_rfl) (fun _ _ _ h => h) (Or.inl ⟨by rfl, fun wS ⟨⟨hS0, hS1, hS2, hS3⟩, hS4⟩ => by go_simp; all_goals omega⟩) (by assumption) ?_
          simp only [Act.put, List.setIfInBounds_toArray, List.set_cons_zero, List.set_cons_succ]
          clear hHeld
          refine wpAnyH_done (by kernel_rfl) (then_last ?_) _
          go_simp
          clear HX HZ
          go_wp2_with fail
          go_roundw
          case rel => exact ⟨k + 1, by omega, by go_num, by rw [HS.out, bs_app, bs_app, bs_app, bs_app], Hb⟩
          case measure => simp [intOf]; omega
        · go_simp
          refine (WD.out _ _).mono ?_
          rintro e wt5 ⟨rfl, hb⟩
          replace HX := hide (HX.out.after hb)
          replace Hb := hide (below_next Hb.out (Nat.le_refl _) hb)
          clear hb
          refine hK.out _ _ (it_cells HX.out) (fun hHeld => ?_)
          clear hK K
          clear hHeld
          refine wpAnyH_ready (rs := [3, 12]) (by kernel_rfl) (by simp) ?_
          refine AllReadyH.cons rfl (fun K hK => ?_) (AllReadyH.cons rfl (fun K hK => ?_) AllReadyH.nil)
          · go_simp
            have HZ := hide (Blk.new wt5 #[.int .u8 (kk.toNat : Int)] 5)
            replace HX := hide (HX.out.alloc (.cells #[.int .u8 (kk.toNat : Int)] 5))
            replace Hb := hide (below_next Hb.out (Nat.le_refl _) (below_alloc wt5 (.cells #[.int .u8 (kk.toNat : Int)] 5)))
            generalize wt5.heap.size = bz at *
            generalize wt5.alloc (.cells #[.int .u8 (kk.toNat : Int)] 5) = wt6 at *
            refine hK.out _ _ (it_cells HX.out) (fun hHeld => ?_)
            clear hK K
            refine held_more (S' := fun wx => (wx.cell? ⟨gx, 0, none⟩ = some (.int .u8 (kk.toNat : Int)) ∧ wx.cell? ⟨gx, 1, none⟩ = some (.int .i64 a) ∧ wx.cell? ⟨gx, 2, none⟩ = some (.int .i64 b) ∧ wx.cell? ⟨gx, 3, none⟩ = some (.int .i64 c)) ∧ (convert 61 9 (.slice (some ⟨bz, 0, none⟩) 1 1)).run Try.prog wx = .ok (.string (bs [kk])) wx) (fun wx h => h.1) _ _ _ _ ?_
            replace hHeld : (fun wx => (wx.cell? ⟨gx, 0, none⟩ = some (.int .u8 (kk.toNat : Int)) ∧ wx.cell? ⟨gx, 1, none⟩ = some (.int .i64 a) ∧ wx.cell? ⟨gx, 2, none⟩ = some (.int .i64 b) ∧ wx.cell? ⟨gx, 3, none⟩ = some (.int .i64 c)) ∧ (convert 61 9 (.slice (some ⟨bz, 0, none⟩) 1 1)).run Try.prog wx = .ok (.string (bs [kk])) wx) wt6 := ⟨it_cells HX.out, conv1 HZ.out⟩
            refine take_at (i := 4) (v := .string (bs [kk])) (d := some 32) rfl rfl (by kernel_rfl) (by kernel_rfl) (by kernel_rfl) (fun _ _ _ h => h) (Or.inl ⟨by rfl, fun wS ⟨⟨hS0, hS1, hS2, hS3⟩, hS4⟩ => by go_simp; all_goals omega⟩) (by assumption) ?_
            simp only [Act.put, List.setIfInBounds_toArray, List.set_cons_zero, List.set_cons_succ]
            refine take_at (i := 5) (v := .string (bs q ++ bs [kk])) (d := some 33) rfl rfl (by kernel_rfl) (by kernel_rfl) (by kernel_rfl) (fun _ _ _ h => h) (Or.inl ⟨by rfl, fun wS ⟨⟨hS0, hS1, hS2, hS3⟩, hS4⟩ => by go_simp; all_goals omega⟩) (by assumption) ?_
            simp only [Act.put, List.setIfInBounds_toArray, List.set_cons_zero, List.set_cons_succ]
            refine take_at (i := 9) (v := .string (bs q ++ bs [kk] ++ bs (encB a))) (d := some 37) rfl rfl (by kernel_rfl) (by kernel_rfl) (by kernel_rfl) (fun _ _ _ h => h) (Or.inl ⟨by rfl, fun wS ⟨⟨hS0, hS1, hS2, hS3⟩, hS4⟩ => by go_simp; all_goals omega⟩) (by assumption) ?_
            simp only [Act.put, List.setIfInBounds_toArray, List.set_cons_zero, List.set_cons_succ]
            clear hHeld
            refine wpAnyH_ready (rs := [12]) (by kernel_rfl) (by simp) ?_
            refine AllReadyH.cons rfl (fun K hK => ?_) AllReadyH.nil
            go_simp
            refine (WD.out _ _).mono ?_
            rintro e wt7 ⟨rfl, hb⟩
            replace HX := hide (HX.out.after hb)
            replace Hb := hide (below_next Hb.out (Nat.le_refl _) hb)
            replace HZ := hide (HZ.out.after hb)
            clear hb
            refine hK.out _ _ (⟨it_cells HX.out, conv1 HZ.out⟩) (fun hHeld => ?_)
            clear hK K
            refine take_at (i := 13) (v := .string (bs q ++ bs [kk] ++ bs (encB a) ++ bs (encB b))) (d := some 41) rfl rfl (by kernel_rfl) (by kernel_rfl) (by kernel_rfl) (fun _ _ _ h => h) (Or.inl ⟨by rfl, fun wS ⟨⟨hS0, hS1, hS2, hS3⟩, hS4⟩ => by go_simp; all_goals omega⟩) (by assumption) ?_
            simp only [Act.put, List.setIfInBounds_toArray, List.set_cons_zero, List.set_cons_succ]
            clear hHeld
            refine wpAnyH_ready (rs := [16]) (by kernel_rfl) (by simp) ?_
            refine AllReadyH.cons rfl (fun K hK => ?_) AllReadyH.nil
            go_simp
            refine (WD.out _ _).mono ?_
            rintro e wt8 ⟨rfl, hb⟩
            replace HX := hide (HX.out.after hb)
            replace Hb := hide (below_next Hb.out (Nat.le_refl _) hb)
            replace HZ := hide (HZ.out.after hb)
            clear hb
            refine hK.out _ _ (⟨it_cells HX.out, conv1 HZ.out⟩) (fun hHeld => ?_)
            clear hK K
            refine take_at (i := 17) (v := .string (bs q ++ bs [kk] ++ bs (encB a) ++ bs (encB b) ++ bs (encB c))) (d := some 45) rfl rfl (by kernel_rfl) (by kernel_rfl) (by kernel_rfl) (fun _ _ _ h => h) (Or.inl ⟨by rfl, fun wS ⟨⟨hS0, hS1, hS2, hS3⟩, hS4⟩ => by go_simp; all_goals omega⟩) (by assumption) ?_
            simp only [Act.put, List.setIfInBounds_toArray, List.set_cons_zero, List.set_cons_succ]
            clear hHeld
            refine wpAnyH_done (by kernel_rfl) (then_last ?_) _
            go_simp
            clear HX HZ
            go_wp2_with fail
            go_roundw
            case rel => exact ⟨k + 1, by omega, by go_num, by rw [HS.out, bs_app, bs_app, bs_app, bs_app], Hb⟩
            case measure => simp [intOf]; omega
          · go_simp
            refine (WD.out _ _).mono ?_
            rintro e wt9 ⟨rfl, hb⟩
            replace HX := hide (HX.out.after hb)
            replace Hb := hide (below_next Hb.out (Nat.le_refl _) hb)
            clear hb
            refine hK.out _ _ (it_cells HX.out) (fun hHeld => ?_)
            clear hK K
            clear hHeld
            refine wpAnyH_ready (rs := [3, 16]) (by kernel_rfl) (by simp) ?_
            refine AllReadyH.cons rfl (fun K hK => ?_) (AllReadyH.cons rfl (fun K hK => ?_) AllReadyH.nil)
            · go_simp
              have HZ := hide (Blk.new wt9 #[.int .u8 (kk.toNat : Int)] 5)
              replace HX := hide (HX.out.alloc (.cells #[.int .u8 (kk.toNat : Int)] 5))
              replace Hb := hide (below_next Hb.out (Nat.le_refl _) (below_alloc wt9 (.cells #[.int .u8 (kk.toNat : Int)] 5)))
              generalize wt9.heap.size = bz at *
              generalize wt9.alloc (.cells #[.int .u8 (kk.toNat : Int)] 5) = wt10 at *
              refine hK.out _ _ (it_cells HX.out) (fun hHeld => ?_)
              clear hK K
              refine held_more (S' := fun wx => (wx.cell? ⟨gx, 0, none⟩ = some (.int .u8 (kk.toNat : Int)) ∧ wx.cell? ⟨gx, 1, none⟩ = some (.int .i64 a) ∧ wx.cell? ⟨gx, 2, none⟩ = some (.int .i64 b) ∧ wx.cell? ⟨gx, 3, none⟩ = some (.int .i64 c)) ∧ (convert 61 9 (.slice (some ⟨bz, 0, none⟩) 1 1)).run Try.prog wx = .ok (.string (bs [kk])) wx) (fun wx h => h.1) _ _ _ _ ?_
              replace hHeld : (fun wx => (wx.cell? ⟨gx, 0, none⟩ = some (.int .u8 (kk.toNat : Int)) ∧ wx.cell? ⟨gx, 1, none⟩ = some (.int .i64 a) ∧ wx.cell? ⟨gx, 2, none⟩ = some (.int .i64 b) ∧ wx.cell? ⟨gx, 3, none⟩ = some (.int .i64 c)) ∧ (convert 61 9 (.slice (some ⟨bz, 0, none⟩) 1 1)).run Try.prog wx = .ok (.string (bs [kk])) wx) wt10 := ⟨it_cells HX.out, conv1 HZ.out⟩
              refine take_at (i := 4) (v := .string (bs [kk])) (d := some 32) rfl rfl (by kernel_rfl) (by kernel_rfl) (by kernel_rfl) (fun _ _ _ h => h) (Or.inl ⟨by rfl, fun wS ⟨⟨hS0, hS1, hS2, hS3⟩, hS4⟩ => by go_simp; all_goals omega⟩) (by assumption) ?_
              simp only [Act.put, List.setIfInBounds_toArray, List.set_cons_zero, List.set_cons_succ]
              refine take_at (i := 5) (v := .string (bs q ++ bs [kk])) (d := some 33) rfl rfl (by kernel_rfl) (by kernel_rfl) (by kernel_rfl) (fun _ _ _ h => h) (Or.inl ⟨by rfl, fun wS ⟨⟨hS0, hS1, hS2, hS3⟩, hS4⟩ => by go_simp; all_goals omega⟩) (by assumption) ?_
              simp only [Act.put, List.setIfInBounds_toArray, List.set_cons_zero, List.set_cons_succ]
              refine take_at (i := 9) (v := .string (bs q ++ bs [kk] ++ bs (encB a))) (d := some 37) rfl rfl (by kernel_rfl) (by kernel_rfl) (by kernel_rfl) (fun _ _ _ h => h) (Or.inl ⟨by rfl, fun wS ⟨⟨hS0, hS1, hS2, hS3⟩, hS4⟩ => by go_simp; all_goals omega⟩) (by assumption) ?_
              simp only [Act.put, List.setIfInBounds_toArray, List.set_cons_zero, List.set_cons_succ]
              refine take_at (i := 13) (v := .string (bs q ++ bs [kk] ++ bs (encB a) ++ bs (encB b))) (d := some 41) rfl rfl (by kernel_rfl) (by kernel_rfl) (by kernel_rfl) (fun _ _ _ h => h) (Or.inl ⟨by rfl, fun wS ⟨⟨hS0, hS1, hS2, hS3⟩, hS4⟩ => by go_simp; all_goals omega⟩) (by assumption) ?_
              simp only [Act.put, List.setIfInBounds_toArray, List.set_cons_zero, List.set_cons_succ]
              clear hHeld
              refine wpAnyH_ready (rs := [16]) (by kernel_rfl) (by simp) ?_
              refine AllReadyH.cons rfl (fun K hK => ?_) AllReadyH.nil
              go_simp
              refine (WD.out _ _).mono ?_
              rintro e wt11 ⟨rfl, hb⟩
              replace HX := hide (HX.out.after hb)
              replace Hb := hide (below_next Hb.out (Nat.le_refl _) hb)
              replace HZ := hide (HZ.out.after hb)
              clear hb
              refine hK.out _ _ (⟨it_cells HX.out, conv1 HZ.out⟩) (fun hHeld => ?_)
              clear hK K
              refine take_at (i := 17) (v := .string (bs q ++ bs [kk] ++ bs (encB a) ++ bs (encB b) ++ bs (encB c))) (d := some 45) rfl rfl (by kernel_rfl) (by kernel_rfl) (by kernel_rfl) (fun _ _ _ h => h) (Or.inl ⟨by rfl, fun wS ⟨⟨hS0, hS1, hS2, hS3⟩, hS4⟩ => by go_simp; all_goals omega⟩) (by assumption) ?_
              simp only [Act.put, List.setIfInBounds_toArray, List.set_cons_zero, List.set_cons_succ]
              clear hHeld
              refine wpAnyH_done (by kernel_rfl) (then_last ?_) _
              go_simp
              clear HX HZ
              go_wp2_with fail
              go_roundw
              case rel => exact ⟨k + 1, by omega, by go_num, by rw [HS.out, bs_app, bs_app, bs_app, bs_app], Hb⟩
              case measure => simp [intOf]; omega
            · go_simp
              refine (WD.out _ _).mono ?_
              rintro e wt12 ⟨rfl, hb⟩
              replace HX := hide (HX.out.after hb)
              replace Hb := hide (below_next Hb.out (Nat.le_refl _) hb)
              clear hb
              refine hK.out _ _ (it_cells HX.out) (fun hHeld => ?_)
              clear hK K
              clear hHeld
              refine wpAnyH_ready (rs := [3]) (by kernel_rfl) (by simp) ?_
              refine AllReadyH.cons rfl (fun K hK => ?_) AllReadyH.nil
              go_simp
              have HZ := hide (Blk.new wt12 #[.int .u8 (kk.toNat : Int)] 5)
              replace HX := hide (HX.out.alloc (.cells #[.int .u8 (kk.toNat : Int)] 5))
              replace Hb := hide (below_next Hb.out (Nat.le_refl _) (below_alloc wt12 (.cells #[.int .u8 (kk.toNat : Int)] 5)))
              generalize wt12.heap.size = bz at *
              generalize wt12.alloc (.cells #[.int .u8 (kk.toNat : Int)] 5) = wt13 at *
              refine hK.out _ _ (it_cells HX.out) (fun hHeld => ?_)
              clear hK K
              refine held_more (S' := fun wx => (wx.cell? ⟨gx, 0, none⟩ = some (.int .u8 (kk.toNat : Int)) ∧ wx.cell? ⟨gx, 1, none⟩ = some (.int .i64 a) ∧ wx.cell? ⟨gx, 2, none⟩ = some (.int .i64 b) ∧ wx.cell? ⟨gx, 3, none⟩ = some (.int .i64 c)) ∧ (convert 61 9 (.slice (some ⟨bz, 0, none⟩) 1 1)).run Try.prog wx = .ok (.string (bs [kk])) wx) (fun wx h => h.1) _ _ _ _ ?_
              replace hHeld : (fun wx => (wx.cell? ⟨gx, 0, none⟩ = some (.int .u8 (kk.toNat : Int)) ∧ wx.cell? ⟨gx, 1, none⟩ = some (.int .i64 a) ∧ wx.cell? ⟨gx, 2, none⟩ = some (.int .i64 b) ∧ wx.cell? ⟨gx, 3, none⟩ = some (.int .i64 c)) ∧ (convert 61 9 (.slice (some ⟨bz, 0, none⟩) 1 1)).run Try.prog wx = .ok (.string (bs [kk])) wx) wt13 := ⟨it_cells HX.out, conv1 HZ.out⟩
              refine take_at (i := 4) (v := .string (bs [kk])) (d := some 32) rfl rfl (by kernel_rfl) (by kernel_rfl) (by kernel_rfl) (fun _ _ _ h => h) (Or.inl ⟨by rfl, fun wS ⟨⟨hS0, hS1, hS2, hS3⟩, hS4⟩ => by go_simp; all_goals omega⟩) (by assumption) ?_
              simp only [Act.put, List.setIfInBounds_toArray, List.set_cons_zero, List.set_cons_succ]
              refine take_at (i := 5) (v := .string (bs q ++ bs [kk])) (d := some 33) rfl rfl (by kernel_rfl) (by kernel_rfl) (by kernel_rfl) (fun _ _ _ h => h) (Or.inl ⟨by rfl, fun wS ⟨⟨hS0, hS1, hS2, hS3⟩, hS4⟩ => by go_simp; all_goals omega⟩) (by assumption) ?_
              simp only [Act.put, List.setIfInBounds_toArray, List.set_cons_zero, List.set_cons_succ]
              refine take_at (i := 9) (v := .string (bs q ++ bs [kk] ++ bs (encB a))) (d := some 37) rfl rfl (by kernel_rfl) (by kernel_rfl) (by kernel_rfl) (fun _ _ _ h => h) (Or.inl ⟨by rfl, fun wS ⟨⟨hS0, hS1, hS2, hS3⟩, hS4⟩ => by go_simp; all_goals omega⟩) (by assumption) ?_
              simp only [Act.put, List.setIfInBounds_toArray, List.set_cons_zero, List.set_cons_succ]
              refine take_at (i := 13) (v := .string (bs q ++ bs [kk] ++ bs (encB a) ++ bs (encB b))) (d := some 41) rfl rfl (by kernel_rfl) (by kernel_rfl) (by kernel_rfl) (fun _ _ _ h => h) (Or.inl ⟨by rfl, fun wS ⟨⟨hS0, hS1, hS2, hS3⟩, hS4⟩ => by go_simp; all_goals omega⟩) (by assumption) ?_
              simp only [Act.put, List.setIfInBounds_toArray, List.set_cons_zero, List.set_cons_succ]
              refine take_at (i := 17) (v := .string (bs q ++ bs [kk] ++ bs (encB a) ++ bs (encB b) ++ bs (encB c))) (d := some 45) rfl rfl (by kernel_rfl) (by kernel_rfl) (by kernel_rfl) (fun _ _ _ h => h) (Or.inl ⟨by rfl, fun wS ⟨⟨hS0, hS1, hS2, hS3⟩, hS4⟩ => by go_simp; all_goals omega⟩) (by assumption) ?_
              simp only [Act.put, List.setIfInBounds_toArray, List.set_cons_zero, List.set_cons_succ]
              clear hHeld
              refine wpAnyH_done (by kernel_rfl) (then_last ?_) _
              go_simp
              clear HX HZ
              go_wp2_with fail
              go_roundw
              case rel => exact ⟨k + 1, by omega, by go_num, by rw [HS.out, bs_app, bs_app, bs_app, bs_app], Hb⟩
              case measure => simp [intOf]; omega
      · obtain rfl : k = n := by omega
        rw [← HL.out]
        go_wp2_with fail
        go_ret2
        exact ⟨rfl, Hb.out⟩
  · have HE : Hid (encA L = []) := hide (by unfold encA; rw [if_neg hc])
    rw [HE.out]
    have hne : (chk L != 0) = true := by simp [hc]
    generalize chk L = c at *
    generalize L.length = n at *
    clear HE HR
    go_enter Try.func13, Try.ntmps13
    go_wp2_with fail
    refine CH.out.mono ?_
    rintro e w1 ⟨rfl, hb1⟩
    go_wp2_with fail
    go_ret2
    exact ⟨rfl, hb1⟩
end Go.Proofs.Ytnekjfidobglmaa
