/- SenseOthers. -/
import Derived.Test.YtmlcknaahpfhbaaSeA
import Derived.Test.YtmlcknaahpfhbaaOp0
namespace Go.Proofs.Ytmlcknaahpfhbaa
open Go.RowKit Go.Great

theorem wrE_cases (s : Nat) (ns : List Int) : (wrE s ns ≠ 0 ∧ wrB s ns = []) ∨ (wrE s ns = 0 ∧ (wsS s).length ≠ 0 ∧ wrB s ns = frS s (payK (wsS s) ns (wsS s).length) ∧ ns.length = (wsS s).length ∧ fitsK (wsS s) ns (wsS s).length = true) := by
  by_cases h1 : (wsS s).length = 0
  · left; obtain ⟨a, b⟩ := wrE_kind ns h1; exact ⟨by rw [a]; decide, b⟩
  · by_cases h2 : ns.length = (wsS s).length
    · cases h3 : fitsK (wsS s) ns (wsS s).length with
      | false => left; obtain ⟨a, b⟩ := wrE_range h1 h2 h3; exact ⟨by rw [a]; decide, b⟩
      | true => right; obtain ⟨a, b⟩ := wrE_ok h1 h2 h3; exact ⟨a, h1, b, h2, rfl⟩
    · left; obtain ⟨a, b⟩ := wrE_count h1 h2; exact ⟨by rw [a]; decide, b⟩
theorem rdR_others {s t : Nat} (hs : s < 256) (ht : t < 256) (hne : s ≠ t) (b : List UInt8) (h : ∀ k, (frS s b).getD (k + 1) 0 ≠ 165) : (rdR t (frS s b)).is = false ∧ (rdR t (frS s b)).out = [] := by
  unfold rdR
  split
  · exact ⟨rfl, rfl⟩
  · rw [reS_others hs ht hne b h]; exact ⟨rfl, rfl⟩
/-- what Lent and Write do together -/
theorem lent_write (s : Nat) (hs : s < 256) (ns : List Int) (w w1 : World) (g : Nat) (hR : IRow w1 w.heap.size (.slice (some ⟨g, 0, none⟩) (ns.length + 4) (ns.length + 4)) (mk4 ns 4)) (hl : ns.length ≤ 4611686018427387904) : Calls Try.prog 15 #[.int .u8 (s : Int), .slice (some ⟨g, 0, none⟩) ns.length (ns.length + 4)] w1 fun e w' => e = .returned (.tuple #[.string (bs (wrB s ns)), .int .i64 (wrE s ns)]) ∧ Below w1.heap.size w1 w' :=
  write_any s hs ns _ w1 (lent_ints hR) hl
set_option maxRecDepth 100000 in
set_option maxHeartbeats 4000000 in
theorem SenseOthers_walk (s0 t0 : Int) (u : Value) (w : World) (hws : (Lit.int .u8 s0).wf = true) (hwt : (Lit.int .u8 t0).wf = true) (hi : ∃ ns, IntsIn w u ns) : Calls Try.prog 7 #[.int .u8 s0, .int .u8 t0, u] w fun e w' => e = .returned (.bool true) ∧ Below w.heap.size w w' := by
  obtain ⟨c, rfl⟩ := wf_u8 hws
  obtain ⟨c2, rfl⟩ := wf_u8 hwt
  have hs := c.toNat_lt
  have ht := c2.toNat_lt
  generalize c.toNat = s at *
  generalize c2.toNat = t at *
  clear hws hwt c c2
  obtain ⟨ns, hI, hnil, hlen⟩ := hi
  have LN := lentI_any ns u w hI hnil hlen
  have AW := fun W => awakeS_any W
  obtain ⟨au, cu, rfl, _⟩ := hI
  have LW := fun w1 g hR => lent_write s hs ns w w1 g hR (by omega)
  have HCS := hide (wrE_cases s ns)
  have HRO : Hid (s ≠ t → ∀ b, (∀ k, (frS s b).getD (k + 1) 0 ≠ 165) → (rdR t (frS s b)).is = false ∧ (rdR t (frS s b)).out = []) := hide (fun h b hh => rdR_others hs ht h b hh)
  generalize hE : wrE s ns = E at *
  generalize hB : wrB s ns = B at *
  clear hnil
  go_enter Try.func7, Try.ntmps7
  go_wp2_with fail
  refine LN.mono ?_
  rintro e w1 ⟨rfl, hR1, hb1⟩
  have HB1 := hide hb1
  have LWW := LW _ _ hR1
  generalize ns.length = n at *
  clear hb1 LN LW hR1
  go_wp2_with fail
  refine LWW.mono ?_
  rintro e w2 ⟨rfl, hb2⟩
  have HB2 := hide (below_next HB1.out (Nat.le_refl _) hb2)
  clear hb2 LWW HB1
  rcases HCS.out with ⟨h1, h2⟩ | ⟨h1, h2, h3, h4, h5⟩
  · have h1b : (E != 0) = true := by simpa using h1
    have h1c : (E == 0) = false := by simpa using h1
    subst h2
    have e0 : bs [] = ⟨#[]⟩ := rfl
    rw [e0]
    clear h1
    go_wp2_with fail
    refine (AW _).mono ?_
    rintro e w3 ⟨rfl, hb3⟩
    have HB3 := hide (below_next HB2.out (Nat.le_refl _) hb3)
    clear hb3 AW
    go_wp2_with fail
    go_ret
    exact ⟨rfl, HB3.out⟩
  · subst h1
    by_cases hst : s = t
    · have hq : ((s : Int) == (t : Int)) = true := by simp [hst]
      go_wp2_with fail
      refine (AW _).mono ?_
      rintro e w3 ⟨rfl, hb3⟩
      have HB3 := hide (below_next HB2.out (Nat.le_refl _) hb3)
      clear hb3 AW
      go_wp2_with fail
      go_ret
      exact ⟨rfl, HB3.out⟩
    · have hq : ((s : Int) == (t : Int)) = false := by rw [beq_eq_false_iff_ne]; omega
      have HRO2 := hide (HRO.out hst (payK (wsS s) ns (wsS s).length))
      rw [← h3] at HRO2
      have hBL : B.length ≤ 20 := by rw [h3, frS_len, payK_len]; have := toS_le s; unfold toS at this; omega
      have RD := fun W => read_any t ht B (by omega) W
      obtain ⟨wx, cap, hconv, hrow, hbx, hlt⟩ := bytes_new (bs B) w2
      rw [bs_list] at hrow
      rw [bs_size] at hconv
      have HRW := hide hrow
      have HBX := hide hbx
      have HLB := hide (rfl : B.length = B.length)
      generalize hm : B.length = m at *
      have HM := hide hm
      clear hrow hbx hst h3 h2 h4 h5 hm
      have HB3 := hide (below_next HB2.out (Nat.le_refl _) HBX.out)
      go_wp2_with fail
      go_loopw [10] (fun i wy => ∃ k : Nat, 1 ≤ k ∧ i = .int .i64 k ∧ wy = wx ∧ Hid (∀ j, 1 ≤ j → j < k → B.getD j 0 ≠ 165)) (fun i _ => m + 1 - (intOf i).toNat)
      case atStart => exact ⟨1, by omega, rfl, rfl, hide (fun j a b => by omega)⟩
      case round =>
        obtain ⟨k, hk1, rfl, hwx, HNo⟩ := hrel
        obtain rfl := hwx.symm
        by_cases hlt2 : k < m
        · have d0 := (HRW.out k (by rw [HM.out]; exact hlt2)).1
          rw [show B[k]'(by rw [HM.out]; exact hlt2) = B.getD k 0 by rw [List.getD, List.getElem?_eq_getElem (by rw [HM.out]; exact hlt2)]; rfl] at d0
          by_cases hb : B.getD k 0 = 165
          · have hx : (((B.getD k 0).toNat : Int) == 165) = true := by rw [hb]; rfl
            generalize B.getD k 0 = bk at *
            clear hb
            go_wp2_with fail
            refine (AW _).mono ?_
            rintro e w4 ⟨rfl, hb4⟩
            have HB4 := hide (below_next HB3.out (Nat.le_refl _) hb4)
            clear hb4 AW
            go_wp2_with fail
            go_ret
            exact ⟨rfl, HB4.out⟩
          · have hx : (((B.getD k 0).toNat : Int) == 165) = false := by
              rw [beq_eq_false_iff_ne]
              intro e
              apply hb
              apply UInt8.toNat_inj.1
              show _ = 165
              exact Int.ofNat.inj e
            have HN2 : Hid (∀ j, 1 ≤ j → j < k + 1 → B.getD j 0 ≠ 165) := hide (fun j a b => by
              by_cases e : j = k
              · rw [e]; exact hb
              · exact HNo.out j a (by omega))
            generalize B.getD k 0 = bk at *
            clear hb
            go_wp2_with fail
            go_roundw
            case rel => exact ⟨k + 1, by omega, by go_num, trivial, HN2⟩
            case measure => simp [intOf]; omega
        · obtain ⟨z1, z2⟩ := HRO2.out (fun j => by
            by_cases hj : j + 1 < k
            · exact HNo.out (j + 1) (by omega) hj
            · rw [List.getD, List.getElem?_eq_none (by rw [HM.out]; omega)]; decide)
          rw [z1, z2] at RD
          have hlt3 : ¬ (k : Int) < (m : Int) := by omega
          go_wp2_with fail
          refine (RD _).mono ?_
          rintro e w4 ⟨v4, rfl, hr4, hb4⟩
          have HB4 := hide (below_next HB3.out (Nat.le_refl _) hb4)
          obtain ⟨va, vc, hve⟩ := IRow.shape hr4
          subst hve
          clear hb4 hr4 RD
          go_wp2_with fail
          refine (AW _).mono ?_
          rintro e w5 ⟨rfl, hb5⟩
          have HB5 := hide (below_next HB4.out (Nat.le_refl _) hb5)
          clear hb5 AW
          go_wp2_with fail
          go_ret
          exact ⟨rfl, HB5.out⟩
end Go.Proofs.Ytmlcknaahpfhbaa
