/- SenseTurned. -/
import Derived.Test.YtmlcknaahpfhbaaSeO
namespace Go.Proofs.Ytmlcknaahpfhbaa
open Go.RowKit Go.Great

theorem rdR_turned (s : Nat) (hs : (wsS s).length ≠ 0) (b : List UInt8) (hb : b.length = toS s) (i : Nat) (h2 : 2 ≤ i) (hi : i < b.length + 4) (x : UInt8) (hx : x ≠ 0) : (rdR s ((frS s b).set i ((frS s b).getD i 0 ^^^ x))).is = false ∧ 1 ≤ (rdR s ((frS s b).set i ((frS s b).getD i 0 ^^^ x))).bad := by
  unfold rdR
  rw [if_neg hs, reS_turned s b hb i h2 hi x hx]
  refine ⟨rfl, ?_⟩
  obtain ⟨j, rfl⟩ : ∃ j, i = j + 1 := ⟨i - 1, by omega⟩
  show 1 ≤ 0 + marks ((frS s b).set (j + 1) _)
  rw [Nat.zero_add]
  exact marks_head _
set_option maxRecDepth 100000 in
set_option maxHeartbeats 4000000 in
theorem SenseTurned_walk (s0 : Int) (u : Value) (at0 by0 : Int) (w : World) (hws : (Lit.int .u8 s0).wf = true) (hi : ∃ ns, IntsIn w u ns) (hwb : (Lit.int .u8 by0).wf = true) : Calls Try.prog 8 #[.int .u8 s0, u, .agg #[.int .i64 at0, .int .u8 by0]] w fun e w' => e = .returned (.bool true) ∧ Below w.heap.size w w' := by
  obtain ⟨c, rfl⟩ := wf_u8 hws
  obtain ⟨x, rfl⟩ := wf_u8 hwb
  have hs := c.toNat_lt
  generalize c.toNat = s at *
  clear hws hwb c
  obtain ⟨ns, hI, hnil, hlen⟩ := hi
  have LN := fun W (hb : Below w.heap.size w W) => lentI_any ns u W (hI.below hb) hnil hlen
  have AW := fun W => awakeS_any W
  obtain ⟨au, cu, rfl, _⟩ := hI
  have LW := fun w0 w1 g hR => lent_write s hs ns w0 w1 g hR (by omega)
  have HCS := hide (wrE_cases s ns)
  generalize hE : wrE s ns = E at *
  generalize hB : wrB s ns = B at *
  clear hnil
  go_enter Try.func8, Try.ntmps8
  go_wp2_with fail
  have hA := below_alloc w (.cells #[.int .i64 at0, .int .u8 (x.toNat : Int)] 43)
  have hX : Blk (w.alloc (.cells #[.int .i64 at0, .int .u8 (x.toNat : Int)] 43)) w.heap.size #[.int .i64 at0, .int .u8 (x.toNat : Int)] 43 := Blk.new _ _ _
  generalize w.alloc (.cells #[.int .i64 at0, .int .u8 (x.toNat : Int)] 43) = w0 at *
  refine (LN w0 hA).mono ?_
  rintro e w1 ⟨rfl, hR1, hb1⟩
  replace hX := hX.after hb1
  have hB1 := below_next hA (Nat.le_refl _) hb1
  have LWW := LW _ _ _ hR1
  generalize ns.length = n at *
  clear hb1 LN LW hR1 hA
  go_wp2_with fail
  refine LWW.mono ?_
  rintro e w2 ⟨rfl, hb2⟩
  replace hX := hX.after hb2
  have HB2 := hide (below_next hB1 (Nat.le_refl _) hb2)
  clear hb2 LWW hB1
  have c0 := hX.cell 0 rfl
  have c1 := hX.cell 1 rfl
  have hwk : ∀ W, Below w2.heap.size w2 W → Calls Try.prog 12 #[] W fun e w' => e = .returned (.bool true) ∧ Below w.heap.size w w' := fun W hb => (AW W).mono fun e w' ⟨h1, h2⟩ => ⟨h1, below_next (below_next HB2.out (Nat.le_refl _) hb) (Nat.le_refl _) h2⟩
  have HAW := hide (hwk w2 (Below.refl _ _))
  rcases HCS.out with ⟨h1, h2⟩ | ⟨h1, h2, h3, h4, h5⟩
  · have h1b : (E != 0) = true := by simpa using h1
    clear h1 AW hwk
    go_wp2_with fail
    refine HAW.out.mono ?_
    rintro e w3 ⟨rfl, hb3⟩
    have HB3 := hide hb3
    clear hb3
    go_wp2_with fail
    go_ret
    exact ⟨rfl, HB3.out⟩
  · subst h1
    have hBL : B.length = toS s + 4 := by rw [h3, frS_len, payK_len]; rfl
    have hto := toS_le s
    have hsz : (bs B).size = toS s + 4 := by rw [bs_size, hBL]
    by_cases k1 : at0 < 2
    · clear AW hwk
      generalize bs B = bB at *
      go_wp2_with fail
      refine HAW.out.mono ?_
      rintro e w3 ⟨rfl, hb3⟩
      have HB3 := hide hb3
      clear hb3
      go_wp2_with fail
      go_ret
      exact ⟨rfl, HB3.out⟩
    · by_cases k2 : ((bs B).size : Int) ≤ at0
      · clear AW hwk
        generalize bs B = bB at *
        go_wp2_with fail
        refine HAW.out.mono ?_
        rintro e w3 ⟨rfl, hb3⟩
        have HB3 := hide hb3
        clear hb3
        go_wp2_with fail
        go_ret
        exact ⟨rfl, HB3.out⟩
      · by_cases k3 : x = 0
        · have hx0 : ((x.toNat : Int) == 0) = true := by rw [k3]; rfl
          clear AW hwk k3
          generalize bs B = bB at *
          go_wp2_with fail
          refine HAW.out.mono ?_
          rintro e w3 ⟨rfl, hb3⟩
          have HB3 := hide hb3
          clear hb3
          go_wp2_with fail
          go_ret
          exact ⟨rfl, HB3.out⟩
        · have hx0 : ((x.toNat : Int) == 0) = false := by
            rw [beq_eq_false_iff_ne]
            intro e
            exact k3 (UInt8.toNat_inj.1 (Int.ofNat.inj e))
          obtain ⟨i, rfl⟩ : ∃ i : Nat, at0 = (i : Int) := ⟨at0.toNat, by omega⟩
          have hiB : i < B.length := by rw [bs_size] at k2; omega
          have hi2 : 2 ≤ i := by omega
          have RT := rdR_turned s h2 (payK (wsS s) ns (wsS s).length) (payK_len _ _ _) i hi2 (by rw [hBL] at hiB; rw [payK_len]; exact hiB) x k3
          rw [← h3] at RT
          have RD := fun W => read_any s hs (B.set i (B.getD i 0 ^^^ x)) (by rw [List.length_set]; omega) W
          obtain ⟨wx, cap, hconv, hrow, hbx, hlt⟩ := bytes_new (bs B) w2
          rw [bs_list] at hrow
          have hX2 := hX.after hbx
          have HRT := hide RT.2
          rw [RT.1] at RD
          have q0 := hX2.cell 0 rfl
          have q1 := hX2.cell 1 rfl
          have r0 := (hrow i hiB).1
          have r1 := (hrow i hiB).2
          rw [show B[i] = B.getD i 0 by rw [List.getD, List.getElem?_eq_getElem hiB]; rfl] at r0
          have hxo := xor8 (B.getD i 0) x
          have hback := fun W hr => row_back W w2.heap.size cap (B.set i (B.getD i 0 ^^^ x)) hr (toS s + 4) (by rw [List.length_set, hBL])
          have hset := row_set wx w2.heap.size B hrow i (B.getD i 0 ^^^ x)
          rw [bs_size] at hconv
          have HSET := hide hset
          have hblt : w2.heap.size < wx.heap.size := hlt
          have HWX := hide (below_next HB2.out (Nat.le_refl _) hbx)
          generalize hZ : B.getD i 0 ^^^ x = z at *
          generalize B.getD i 0 = y at *
          generalize hbad : (rdR s (B.set i z)).bad = bad at *
          generalize (rdR s (B.set i z)).out = out at *
          have HBS : Hid (bs (B.set i z) = ⟨(B.set i z).toArray⟩) := rfl
          clear RT hrow hbx hset hX2 hX HAW hwk h2 h3 h4 h5 HCS hZ k3
          have hbk := hback (wx.setCell ⟨w2.heap.size, i, none⟩ (.int .u8 (z.toNat : Int))).drew HSET.out
          have HW3 : Hid (Below w.heap.size w (wx.setCell ⟨w2.heap.size, i, none⟩ (.int .u8 (z.toNat : Int))).drew) := hide (below_set HWX.out _ _ _ HB2.out.size HWX.out.size).drew
          rw [hBL] at hconv
          rw [show (⟨(B.set i z).toArray⟩ : ByteArray) = bs (B.set i z) from rfl] at hbk
          generalize bs (B.set i z) = tz at *
          clear hback HSET hiB
          go_wp2_with fail
          go_region
          go_wp2_with fail
          refine (RD _).mono ?_
          rintro e w5 ⟨v5, rfl, hr5, hb5⟩
          have HB5 := hide (below_next HW3.out (Nat.le_refl _) hb5)
          obtain ⟨va, vc, hve⟩ := IRow.shape hr5
          subst hve
          generalize out.length = ol at *
          have hb1 : 1 ≤ (bad : Int) := by have := HRT.out; omega
          clear hr5 hb5 RD
          go_wp2_with fail
          refine (AW _).mono ?_
          rintro e w6 ⟨rfl, hb6⟩
          have HB6 := hide (below_next HB5.out (Nat.le_refl _) hb6)
          clear hb6 AW
          go_wp2_with fail
          go_ret
          exact ⟨rfl, HB6.out⟩
end Go.Proofs.Ytmlcknaahpfhbaa
