/- Package sense: Write. -/
import Derived.Test.YtmlcknaahpfhbaaSe2
import Derived.Test.YtmlcknaahpfhbaaBk0
namespace Go.Proofs.Ytmlcknaahpfhbaa
open Go.RowKit Go.Great

/-- the bytes that Write answers -/
def wrB (s : Nat) (ns : List Int) : List UInt8 := if wrE s ns = 0 then frS s (payK (wsS s) ns (wsS s).length) else []
theorem wrE_kind {s : Nat} (ns : List Int) (h : (wsS s).length = 0) : wrE s ns = 6 ∧ wrB s ns = [] := by
  have e : wrE s ns = 6 := by unfold wrE; rw [if_pos h]
  exact ⟨e, by unfold wrB; rw [e]; rfl⟩
theorem wrE_count {s : Nat} {ns : List Int} (h : (wsS s).length ≠ 0) (h2 : ns.length ≠ (wsS s).length) : wrE s ns = 50 ∧ wrB s ns = [] := by
  have e : wrE s ns = 50 := by unfold wrE; rw [if_neg h, if_pos h2]
  exact ⟨e, by unfold wrB; rw [e]; rfl⟩
theorem wrE_range {s : Nat} {ns : List Int} (h : (wsS s).length ≠ 0) (h2 : ns.length = (wsS s).length) (h3 : fitsK (wsS s) ns (wsS s).length = false) : wrE s ns = 5 ∧ wrB s ns = [] := by
  have e : wrE s ns = 5 := by unfold wrE; rw [if_neg h, if_neg (by omega), if_neg (by rw [h3]; decide)]
  exact ⟨e, by unfold wrB; rw [e]; rfl⟩
theorem wrE_ok {s : Nat} {ns : List Int} (h : (wsS s).length ≠ 0) (h2 : ns.length = (wsS s).length) (h3 : fitsK (wsS s) ns (wsS s).length = true) : wrE s ns = 0 ∧ wrB s ns = frS s (payK (wsS s) ns (wsS s).length) := by
  have e : wrE s ns = 0 := by unfold wrE; rw [if_neg h, if_neg (by omega), if_pos h3]
  exact ⟨e, by unfold wrB; rw [if_pos e]⟩
theorem wsS_len (s : Nat) : (wsS s).length ≤ 5 := by
  rcases wsS_cases s with (h | h | h | h | h) | ⟨_, h⟩ <;> (first | (rw [h]; decide) | (subst h; decide))
theorem bs_app (a b : List UInt8) : bs a ++ bs b = bs (a ++ b) := bs_ext (by simp [bs])
theorem one_byte (s : Nat) (h : s < 256) : byK (s : Int) 1 = [UInt8.ofNat s] := by
  show [] ++ [_] = _
  rw [show (256 : Int) ^ 0 = 1 from rfl, show ((s : Int) / 1 % 256).toNat = s by omega]
  rfl
theorem conv_one (W : World) (g : Nat) (x : UInt8) (h : W.cell? ⟨g, 0, none⟩ = some (.int .u8 (x.toNat : Int))) : (convert 40 9 (.slice (some ⟨g, 0, none⟩) 1 1)).run Try.prog W = .ok (.string (bs [x])) W := by
  refine run_convert_bytes_back W 40 9 5 ⟨g, 0, none⟩ 1 [x] (by kernel_rfl) (by kernel_rfl) (by kernel_rfl) ?_
  intro j hj
  have hj0 : j = 0 := by simpa using hj
  subst hj0
  exact h
set_option maxRecDepth 100000 in
set_option maxHeartbeats 2000000 in
theorem write_any (s : Nat) (hs : s < 256) (ns : List Int) (u : Value) (w : World) (hu : Ints w u ns) (hns : ns.length ≤ 4611686018427387904) : Calls Try.prog 15 #[.int .u8 (s : Int), u] w fun e w' => e = .returned (.tuple #[.string (bs (wrB s ns)), .int .i64 (wrE s ns)]) ∧ Below w.heap.size w w' := by
  have HU := hide hu
  obtain ⟨au, cu, rfl, hcu⟩ := hu
  have HCU := hide hcu
  clear hcu
  have hWI := fun W => widths_any s hs W
  have hl5 := wsS_len s
  by_cases h1 : (wsS s).length = 0
  · obtain ⟨e1, e2⟩ := wrE_kind ns h1
    rw [e1, e2]
    have HL := hide h1
    clear h1 hl5 e1 e2
    generalize ns.length = m at *
    go_enter Try.func15, Try.ntmps15
    go_wp2_with fail
    refine (hWI _).mono ?_
    rintro e w1 ⟨v, rfl, hI, hB⟩
    obtain ⟨av, cv, rfl, _⟩ := hI
    rw [wpS_len, HL.out]
    have HB := hide hB
    clear hB hWI
    go_wp2_with fail
    go_ret2
    exact ⟨rfl, HB.out⟩
  · by_cases h2 : ns.length = (wsS s).length
    · have HW := hide (wsS_wid s)
      have HOK := fun a => hide (wrE_ok h1 h2 a)
      have HNO := fun a => hide (wrE_range h1 h2 a)
      generalize wrE s ns = E at HOK HNO ⊢
      generalize wrB s ns = B at HOK HNO ⊢
      unfold wpS at hWI
      have hfi := fun v w hv hu => fit_any (wsS s) ns HW.out (by omega) h2 v (.slice au ns.length cu) w hv hu
      have HSP := hide (one_byte s hs)
      generalize wsS s = ws at hWI hl5 h1 h2 HW HOK HNO hfi
      obtain ⟨m, hm⟩ : ∃ m, ws.length = m := ⟨_, rfl⟩
      rw [hm] at h1 h2 hl5 HOK HNO hfi
      have HM := hide hm
      have HN2 := hide h2
      rw [h2] at hfi HU HCU ⊢
      have hl0 : ((m : Int) == 0) = false := by rw [beq_eq_false_iff_ne]; omega
      clear h2 hm hns
      cases hft : fitsK ws ns m with
      | false =>
        obtain ⟨e1, e2⟩ := (HNO hft).out
        rw [e1, e2]
        rw [hft] at hfi
        clear e1 e2 HNO HOK hft
        go_enter Try.func15, Try.ntmps15
        go_wp2_with fail
        refine (hWI _).mono ?_
        rintro e w1 ⟨v, rfl, hI, hB⟩
        have HI := hide hI
        have HI2 := hide (HU.out.below hB)
        have HB := hide hB
        obtain ⟨av, cv, rfl, _⟩ := hI
        rw [List.length_map, HM.out] at HI ⊢
        clear hB hWI
        go_wp2_with fail
        refine (hfi _ _ HI.out HI2.out).mono ?_
        rintro e w2 ⟨rfl, q, rfl⟩
        go_wp2_with fail
        go_ret2
        exact ⟨rfl, below_drewN HB.out q⟩
      | true =>
        obtain ⟨e1, e2⟩ := (HOK hft).out
        rw [e1, e2]
        rw [hft] at hfi
        clear e1 e2 HNO HOK hft
        have hS1 := fun W => spell_any (s : Int) 1 (by decide) W
        rw [HSP.out] at hS1
        have HT := hide (tot_le4 ws HW.out)
        have hCK := fun W => check_any (UInt8.ofNat s :: payK ws ns m) (by rw [List.length_cons, payK_len]; have := HT.out m (by rw [HM.out]; omega); omega) W
        have HFR : Hid (frS s (payK ws ns m) = [165] ++ (UInt8.ofNat s :: payK ws ns m) ++ [loS (UInt8.ofNat s :: payK ws ns m), hiS (UInt8.ofNat s :: payK ws ns m)]) := hide (by simp [frS])
        generalize frS s (payK ws ns m) = FR at HFR ⊢
        go_enter Try.func15, Try.ntmps15
        go_wp2_with fail
        refine (hWI _).mono ?_
        rintro e w1 ⟨v, rfl, hI, hB⟩
        have HI := hide hI
        have HI2 := hide (HU.out.below hB)
        have HB := hide hB
        obtain ⟨av, cv, rfl, _⟩ := hI
        rw [List.length_map, HM.out] at HI ⊢
        clear hB hWI
        go_wp2_with fail
        refine (hfi _ _ HI.out HI2.out).mono ?_
        rintro e w2 ⟨rfl, q, hw2⟩
        have HI' := hide (show Ints w2 _ _ by rw [hw2]; exact HI.out.drewN q)
        have HI2' := hide (show Ints w2 _ _ by rw [hw2]; exact HI2.out.drewN q)
        have HB2 : Hid (Below w.heap.size w w2) := by show Below _ _ _; rw [hw2]; exact below_drewN HB.out q
        have hwk : IntKind.i64.wrap (s : Int) = s := by rw [IntKind.wrap_i64]; omega
        clear hw2 HI HI2 HB hfi
        go_wp2_with fail
        refine (hS1 _).mono ?_
        rintro e w3 ⟨rfl, hB3⟩
        have HI3 := hide (HI'.out.below hB3)
        have HI23 := hide (HI2'.out.below hB3)
        have HB3 := hide (below_next HB2.out (Nat.le_refl _) hB3)
        clear hB3 HI' HI2' HB2 hS1 hwk
        go_wp2_with fail
        go_loopw [7, 29] (fun t i wx => ∃ k : Nat, k ≤ m ∧ i = .int .i64 k ∧ (∃ tx, t = .string tx ∧ Hid (tx = bs (UInt8.ofNat s :: payK ws ns k))) ∧ Hid (Below w3.heap.size w3 wx)) (fun _ i _ => m - (intOf i).toNat)
        case atStart => exact ⟨0, Nat.zero_le _, rfl, ⟨_, rfl, hide rfl⟩, hide (Below.refl _ _)⟩
        case round =>
          obtain ⟨k, hk, rfl, ⟨tx, rfl, HTX⟩, HBX⟩ := hrel
          by_cases hlt : k < m
          · have hkw : k < ws.length := by rw [HM.out]; exact hlt
            have hkn : k < ns.length := by rw [HN2.out]; exact hlt
            have J1 := HI3.out.below HBX.out
            have J2 := HI23.out.below HBX.out
            obtain ⟨aq, cq, eq, hq⟩ := J1
            obtain ⟨ar, cr, er, hr⟩ := J2
            injection eq with eq _ _
            injection er with er _ _
            subst eq er
            obtain ⟨g, o, rfl, hg, hcc⟩ := hq (by rw [List.length_map]; omega)
            obtain ⟨g2, o2, rfl, hg2, hcd⟩ := hr (by omega)
            have p1 := hcc k (by rw [List.length_map]; exact hkw)
            rw [map8_at _ _ hkw] at p1
            have p2 := fun z : BelowW wr => z.cell (hcd k hkn) hg2
            have M1 := fun z : BelowW wr => wbytes_any (ws.getD k 0) (widD HW.out k hkw) _ rfl z.q
            have hz := (wid_sz (widD HW.out k hkw)).2
            have M2 := fun z : BelowW wr => spell_any (ns.getD k 0) (szW (ws.getD k 0)) hz z.q
            have HP : Hid (bs (UInt8.ofNat s :: payK ws ns (k + 1)) = tx ++ bs (byK (ns.getD k 0) (szW (ws.getD k 0)))) := hide (by rw [HTX.out, bs_app]; rfl)
            have hsz : tx.size ≤ 29 := by
              rw [HTX.out, bs_size, List.length_cons, payK_len]
              have := HT.out k (by omega)
              omega
            have hs2 : (bs (byK (ns.getD k 0) (szW (ws.getD k 0)))).size ≤ 4 := by rw [bs_size, byK_len]; exact hz
            generalize bs (byK (ns.getD k 0) (szW (ws.getD k 0))) = u1 at *
            generalize 8 * ws.getD k 0 = x at *
            generalize ns.getD k 0 = y at *
            generalize szW (ws.getD k 0) = z at *
            have hne : Nonempty (BelowW wr) := ⟨⟨wr, Below.refl _ _⟩⟩
            clear hcc hcd hq hr
            go_wp2_with fail
            refine wp_region_calm (by kernel_rfl) (by kernel_rfl) ?_
            repeat (go_big_quiet_step (first | (go_at_call 29; exact calm_same (M1 _)) | (go_at_call 28; exact calm_of (M2 _))))
            refine wpQuiet_nil ?_
            rintro w6 ⟨⟨q3, hq⟩, e3⟩
            have e4 : w6 = q3 := e3
            clear e3
            subst e4
            clear p1 p2 hne M1 M2
            go_wp2_with fail
            go_roundw
            case rel => exact ⟨k + 1, by omega, by go_num, ⟨_, rfl, hide HP.out.symm⟩, hide (below_next HBX.out (Nat.le_refl _) hq)⟩
            case measure => simp [intOf]; omega
          · have e : k = m := by omega
            have HE : Hid (tx = bs (UInt8.ofNat s :: payK ws ns m)) := hide (by rw [HTX.out, e])
            have hsz : tx.size ≤ 29 := by
              rw [HE.out, bs_size, List.length_cons, payK_len]
              have := HT.out m (by rw [HM.out]; omega)
              omega
            rw [← HE.out] at hCK
            have HC2 : Hid (bs FR = bs [165] ++ tx ++ bs [loS (UInt8.ofNat s :: payK ws ns m), hiS (UInt8.ofNat s :: payK ws ns m)]) := hide (by rw [HFR.out, HE.out, bs_app, bs_app])
            have hsc : (bs [loS (UInt8.ofNat s :: payK ws ns m), hiS (UInt8.ofNat s :: payK ws ns m)]).size = 2 := rfl
            have hs1 : (bs [165]).size = 1 := rfl
            have hcv := fun W g (h : W.cell? ⟨g, 0, none⟩ = some (.int .u8 165)) => conv_one W g 165 h
            have hn1 : ∀ W : World, (W.alloc (.cells #[.int .u8 165] 5)).cell? ⟨W.heap.size, 0, none⟩ = some (.int .u8 165) := fun W => by
              rw [World.cell?_alloc_new]; rfl
            generalize bs [loS (UInt8.ofNat s :: payK ws ns m), hiS (UInt8.ofNat s :: payK ws ns m)] = ck at *
            generalize bs [165] = mk at *
            have hcv1 : ∀ W : World, (convert 40 9 (.slice (some ⟨W.heap.size, 0, none⟩) 1 1)).run Try.prog (W.alloc (.cells #[.int .u8 165] 5)) = .ok (.string mk) (W.alloc (.cells #[.int .u8 165] 5)) := fun W => hcv _ _ (hn1 W)
            have hcv2 : ∀ W : World, (convert 40 9 (.slice (some ⟨W.heap.size, 0, none⟩) 1 1)).run Try.prog (W.alloc (.cells #[.int .u8 165] 5)).drew = .ok (.string mk) (W.alloc (.cells #[.int .u8 165] 5)).drew := fun W => hcv _ _ (hn1 W)
            have HCV := hide hcv
            have HN1 := hide hn1
            clear HE HTX HFR hcv hn1
            go_wp2_with fail
            go_region_with (first | (go_at_call 30; refine (hCK _).mono ?_; rintro e w4 ⟨rfl, hB4⟩; have HB4 := hide hB4; clear hB4; try have hcw := HCV.out w4 wr.heap.size ((HB4.out.cell (p := ⟨wr.heap.size, 0, none⟩) (by simp)).trans (HN1.out wr))))
            all_goals go_wp2_with fail
            all_goals go_ret2
            all_goals refine ⟨by rw [HC2.out]; rfl, ?_⟩
            all_goals first
              | exact below_next (below_next HB3.out (Nat.le_refl _) HBX.out) (Nat.le_refl _) (below_undrew (below_over HB4.out))
              | exact below_next (below_next HB3.out (Nat.le_refl _) HBX.out) (Nat.le_refl _) (below_next (below_undrew HB4.out) (Nat.le_refl _) (below_alloc _ _))
    · obtain ⟨e1, e2⟩ := wrE_count h1 h2
      have hne : ((ns.length : Int) != ((wsS s).length : Int)) = true := by simp; omega
      have hl0 : (((wsS s).length : Int) == 0) = false := by rw [beq_eq_false_iff_ne]; omega
      rw [e1, e2]
      clear h2 h1 e1 e2
      unfold wpS at hWI
      generalize wsS s = ws at hWI hl5 hne hl0
      generalize ns.length = q at *
      go_enter Try.func15, Try.ntmps15
      go_wp2_with fail
      refine (hWI _).mono ?_
      rintro e w1 ⟨v, rfl, hI, hB⟩
      obtain ⟨av, cv, rfl, _⟩ := hI
      rw [List.length_map]
      generalize ws.length = m at hne hl0 hl5
      have HB := hide hB
      clear hB hWI
      go_wp2_with fail
      go_ret2
      exact ⟨rfl, HB.out⟩
end Go.Proofs.Ytmlcknaahpfhbaa
