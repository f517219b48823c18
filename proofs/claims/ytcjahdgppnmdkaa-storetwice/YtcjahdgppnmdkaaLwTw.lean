/- StoreTwice. -/
import Derived.Test.YtcjahdgppnmdkaaSoO
set_option maxRecDepth 100000
namespace Go.Proofs.Ytcjahdgppnmdkaa
open Go.RowKit Go.Great

theorem val_int {k : IntKind} {a b : Int} (h : a = b) : Value.int k a = .int k b := by rw [h]
/-- the world within StoreTwice -/
structure TwW (w : World) (R S T : Nat) (τ : St) (s : Sv) (wx : World) : Prop where
  bel : Below w.heap.size w wx
  fl : Fl wx R τ
  s1 : So wx S (fp R) s.ac s.tu s.en s.k
  s2 : So wx T (fp R) s.ac s.tu s.en s.k
theorem TwW.next {w : World} {R S T : Nat} {τ : St} {s : Sv} {wx wy : World} (h : TwW w R S T τ s wx) (hb : Below wx.heap.size wx wy) : TwW w R S T τ s wy :=
  ⟨below_next h.bel (Nat.le_refl _) hb, h.fl.below hb, h.s1.below hb, h.s2.below hb⟩
set_option maxRecDepth 100000 in
set_option maxHeartbeats 1000000 in
theorem twice_out (s : ByteArray) (hs : s.size ≠ 8192) (a : Option Addr) (n cap : Nat) (w : World) : Calls Try.prog 6 #[.string s, .slice a n cap] w fun e w' => e = .returned (.bool true) ∧ Below w.heap.size w w' := by
  have H1 := hide (fun W => of_out W s hs)
  have HA := hide awake7
  clear hs
  go_enter Try.func6, Try.ntmps6
  go_wp2_with fail
  refine (H1.out _).mono ?_
  rintro e w1 ⟨rfl, hw1⟩
  obtain rfl := hw1.symm
  clear hw1
  go_wp2_with fail
  refine (HA.out _).mono ?_
  rintro e w2 ⟨rfl, hB2⟩
  have HB2 := hide hB2
  clear hB2
  go_wp2_with fail
  go_ret
  exact ⟨rfl, HB2.out⟩
set_option maxRecDepth 100000 in
set_option maxHeartbeats 1000000 in
theorem twice_in (im : ByteArray) (hs : im.size = 8192) (v : Value) (cs : List Ct) (w : World) (hc : CutsIn w v cs) : Calls Try.prog 6 #[.string im, v] w fun e w' => e = .returned (.bool true) ∧ Below w.heap.size w w' := by
  have H1 := hide (fun W => of_in W im hs)
  have HRa := hide (fun W R σ hF hC => raised_any W R σ hF v cs hC (by have := hc.1; unfold maxLen at this; omega))
  have HCI := hide hc
  have HSt := hide (fun W R σ h => steps_any W R σ h)
  have HIm := hide (fun W R σ h => image_any W R σ h)
  have HBo := hide (fun W R σ h hj => boot_any W R σ h hj)
  have HGt := hide (fun W S R σ hon s ha hF h id => get_any W S R σ hon s ha hF h id)
  have HA := hide awake7
  obtain ⟨_, a, cap, rfl, _⟩ := hc
  obtain ⟨n, HN⟩ : ∃ n, Hid (cs.length = n) := ⟨_, rfl⟩
  rw [HN.out] at HRa HCI ⊢
  unfold fp at H1 HRa HSt HIm HBo HGt
  clear hs
  go_enter Try.func6, Try.ntmps6
  go_wp2_with fail
  refine (H1.out _).mono ?_
  rintro e w1 ⟨rfl, hF1, hB1⟩
  have HF1 := hide hF1
  have HB1 := hide hB1
  have HC1 := hide (HCI.out.cuts hB1 (Nat.le_refl w.heap.size))
  clear hF1 hB1 H1
  obtain ⟨R, HR⟩ : ∃ R, Hid (w.heap.size = R) := ⟨_, rfl⟩
  rw [HR.out] at HF1 HC1 ⊢
  go_wp2_with fail
  refine (HRa.out _ _ _ HF1.out HC1.out).mono ?_
  rintro e w2 ⟨S, τ, s, rfl, hF2, hS2, ⟨V, hL⟩, _, ⟨ho, har, hj⟩, hge, hSR, hK2, _⟩
  have HB2 : Hid (Below w.heap.size w w2) := Kept.toBelow HB1.out hK2 HB1.out.size (by have := HR.out; omega)
  have HF2 := hide hF2
  have HS2 := hide hS2
  have HL := hide hL
  have HON : Hid (On τ) := ⟨hF2.len, ho, hj⟩
  have HAg := hide (hL.again ho)
  have HJ := hide hj
  have HNE := hide hSR
  clear hF2 hS2 hL ho har hj hge hSR hK2 HRa HC1 HF1 HB1
  unfold fp
  go_wp2_with fail
  refine (HSt.out _ _ _ HF2.out).mono ?_
  rintro e w3 ⟨rfl, hw3⟩
  obtain rfl := hw3.symm
  clear hw3
  go_wp2_with fail
  refine (HIm.out _ _ _ HF2.out).mono ?_
  rintro e w3 ⟨rfl, hw3⟩
  obtain rfl := hw3.symm
  clear hw3
  have HBoo := hide (HBo.out _ _ _ HF2.out HJ.out)
  rw [HAg.out] at HBoo
  go_wp2_with fail
  refine HBoo.out.mono ?_
  rintro e w4 ⟨ok, τ', s', T, he, hX, hF4, hS4, hge, hK4⟩
  cases ok
  · exfalso
    simp at hX
  · simp only [if_true, Prod.mk.injEq, Option.some.injEq] at he hX hS4
    obtain ⟨rfl, rfl⟩ := hX
    subst he
    have hlt := HF2.out.lt
    have HW4 : Hid (TwW w R S T τ s w4) := ⟨Kept.toBelow HB2.out hK4 HB2.out.size (by have := HR.out; omega), hF4, HS2.out.kept hK4 HNE.out, hS4 trivial⟩
    have HSt4 := hide (fun W h => HSt.out W R τ h)
    have HIm4 := hide (fun W h => HIm.out W R τ h)
    obtain ⟨I, HI⟩ : ∃ I, Hid (bs τ.C = I) := ⟨_, rfl⟩
    obtain ⟨q, HQ⟩ : ∃ q, Hid (τ.st = q) := ⟨_, rfl⟩
    rw [HI.out] at HIm4 ⊢
    rw [HQ.out] at HSt4 ⊢
    have f1 : (q != q) = false := by simp
    have f2 : (I.toList == I.toList) = true := by simp
    have f3 : (I.toList != I.toList) = false := by simp
    clear hF4 hS4 hge hK4 hlt HBoo HBo HSt HIm HS2 HB2 HF2
    unfold fp
    go_wp2_with fail
    refine (HSt4.out _ HW4.out.fl).mono ?_
    rintro e w5 ⟨rfl, hw5⟩
    obtain rfl := hw5.symm
    clear hw5
    go_wp2_with fail
    refine (HIm4.out _ HW4.out.fl).mono ?_
    rintro e w5 ⟨rfl, hw5⟩
    obtain rfl := hw5.symm
    clear hw5
    go_wp2_with fail
    go_loopw [13] (fun i wx => ∃ k : Nat, k ≤ 5 ∧ i = .int .i64 ((k : Int) - 1) ∧ TwW w R S T τ s wx) (fun i _ => 4 - (intOf i) |>.toNat)
    case atStart => exact ⟨0, by omega, rfl, HW4.out⟩
    case round =>
      obtain ⟨k, hk, rfl, hW⟩ := hrel
      have HW := hide hW
      clear hW HW4
      by_cases hlt : k < 5
      · obtain ⟨id, HID⟩ : ∃ id, Hid ((k : Int) - 1 = id) := ⟨_, rfl⟩
        have hidb : -1 ≤ id ∧ id < 4 := by have := HID.out; omega
        rw [HID.out]
        have d0 : decide (id < 4) = true := decide_eq_true (by omega)
        have HG1 := hide (fun W hF h => HGt.out W S R τ HON.out s HL.out.ask hF h id)
        have HG2 := hide (fun W hF h => HGt.out W T R τ HON.out s HL.out.ask hF h id)
        obtain ⟨o, HO⟩ : ∃ o, Hid (getS τ.C s id = o) := ⟨_, rfl⟩
        rw [HO.out] at HG1 HG2
        cases o with
        | none =>
          unfold getV at HG1 HG2
          simp only at HG1 HG2
          go_wp2_with fail
          refine (HG1.out _ HW.out.fl HW.out.s1).mono ?_
          rintro e w6 ⟨rfl, hB6⟩
          have HW6 := hide (HW.out.next hB6)
          clear hB6
          go_wp2_with fail
          refine (HG2.out _ HW6.out.fl HW6.out.s2).mono ?_
          rintro e w7 ⟨rfl, hB7⟩
          have HW7 := hide (HW6.out.next hB7)
          clear hB7
          go_wp2_with fail
          go_roundw
          case rel => exact ⟨k + 1, by omega, val_int (by have := HID.out; omega), HW7.out⟩
          case measure => simp [intOf]; omega
        | some t =>
          unfold getV at HG1 HG2
          simp only at HG1 HG2
          generalize bs t = B at HG1 HG2
          have g2 : (B.toList == B.toList) = true := by simp
          have g3 : (B.toList != B.toList) = false := by simp
          go_wp2_with fail
          refine (HG1.out _ HW.out.fl HW.out.s1).mono ?_
          rintro e w6 ⟨rfl, hB6⟩
          have HW6 := hide (HW.out.next hB6)
          clear hB6
          go_wp2_with fail
          refine (HG2.out _ HW6.out.fl HW6.out.s2).mono ?_
          rintro e w7 ⟨rfl, hB7⟩
          have HW7 := hide (HW6.out.next hB7)
          clear hB7
          go_wp2_with fail
          go_roundw
          case rel => exact ⟨k + 1, by omega, val_int (by have := HID.out; omega), HW7.out⟩
          case measure => simp [intOf]; omega
      · obtain rfl : k = 5 := by omega
        have d0 : decide ((((5 : Nat) : Int) - 1) < 4) = false := by decide
        go_wp2_with fail
        refine (HA.out _).mono ?_
        rintro e w8 ⟨rfl, hB8⟩
        have HW8 := hide (HW.out.next hB8)
        clear hB8
        go_wp2_with fail
        go_ret
        exact ⟨rfl, HW8.out.bel⟩
theorem StoreTwice_walk (s : ByteArray) (v : Value) (w : World) (_h : s.size ≤ 140737488351232) (hc : ∃ cs, CutsIn w v cs) : Calls Try.prog 6 #[.string s, v] w fun e w' => e = .returned (.bool true) ∧ Below w.heap.size w w' := by
  obtain ⟨cs, hcs⟩ := hc
  by_cases hs : s.size = 8192
  · exact twice_in s hs v cs w hcs
  · obtain ⟨_, a, cap, rfl, _⟩ := hcs
    exact twice_out s hs a _ cap w
end Go.Proofs.Ytcjahdgppnmdkaa
